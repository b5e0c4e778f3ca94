/-
  No cell of these rows narrows 'for every input' (looked for: loops, veiled, ifaces, maps, wideKeys, modest, calm, conditions, laid).
  DERIVED. THE GIVEN ROWS OF THIS SEAT. 4 by the template 'for every input the law returns true; each argument reads behind the call as it read before'; 0 by the template 'total and deterministic' (their statements: YtinkeeifndmalaaTotals.lean).
  GIVEN WITH THE SEED: the statements are not yours to turn. If you find one false, say at which input.
  Laid BY PROGRAM, IN A SANDBOX (cutbox-rows.mjs): the forced cells as the released guide's own fill.sh prints them over the translation 6ffedd84057d708c… (all of the seat's roots in one cut). By AI agents, Wed Nov 11 2026. No macro, syntax, notation, axiom, sorry.
-/
import Derived.Test.YtinkeeifndmalaaChecked
import GoSem.Claim
import GoSem.ClaimJoined
import GoSem.ClaimMapViews
import Derived.JoinedTies
import Derived.KernelRfl
namespace Go.Proofs.Ytinkeeifndmalaa
/- THE CELL 'sum', in the pinned program and in every row, IS THE sha256 OF THE DUMP (.gsa) THAT YtinkeeifndmalaaProg.lean LOADS. Nothing in Lean hashes anything: it is a label: what it is worth is what the hold of that sum in a sandbox is worth. -/
noncomputable def Try.pinned : Pinned := { name := "ytinkeeifndmalaa", sum := "6ffedd84057d708c087ccbfa4c461094796280ea05e262771ea7dea507067418", checked := Try.checked }
namespace Rows
def none {H : Type} : Left H := { results := [], args := [] }

/-- 'cohortlaw13.SplitTells': WHATEVER THE INPUT: true; the input reads as it did. -/
def splitTellsSpec : ChangeSpec := { name := "splitTells", fn := fun _ => fun
  | [d1, d2, d3, d4, d5, d6] => { results := [.lit (.bool true)], args := [d1, d2, d3, d4, d5, d6] }
  | _ => none }
def splitTellsRow : OpenClaim := { program := "ytinkeeifndmalaa", sum := "6ffedd84057d708c087ccbfa4c461094796280ea05e262771ea7dea507067418", func := "cohort/cohortlaw13.SplitTells", spec := "splitTells", apart := false }
def SplitTellsSaid : Prop := splitTellsRow.holds Try.pinned (OpenSpec.ofChange splitTellsSpec)

/-- ITS FALSE NEIGHBOUR: 'it returns false'. Refute it at one input. -/
def splitTellsWrong : ChangeSpec := { name := "splitTells", fn := fun _ => fun
  | [d1, d2, d3, d4, d5, d6] => { results := [.lit (.bool false)], args := [d1, d2, d3, d4, d5, d6] }
  | _ => none }
def SplitTellsWrongFalsely : Prop := splitTellsRow.holds Try.pinned (OpenSpec.ofChange splitTellsWrong)

/-- 'cohortlaw13.SplitExcess': WHATEVER THE INPUT: true; the input reads as it did. -/
def splitExcessSpec : ChangeSpec := { name := "splitExcess", fn := fun _ => fun
  | [d1, d2, d3] => { results := [.lit (.bool true)], args := [d1, d2, d3] }
  | _ => none }
def splitExcessRow : OpenClaim := { program := "ytinkeeifndmalaa", sum := "6ffedd84057d708c087ccbfa4c461094796280ea05e262771ea7dea507067418", func := "cohort/cohortlaw13.SplitExcess", spec := "splitExcess", apart := false }
def SplitExcessSaid : Prop := splitExcessRow.holds Try.pinned (OpenSpec.ofChange splitExcessSpec)

/-- ITS FALSE NEIGHBOUR: 'it returns false'. Refute it at one input. -/
def splitExcessWrong : ChangeSpec := { name := "splitExcess", fn := fun _ => fun
  | [d1, d2, d3] => { results := [.lit (.bool false)], args := [d1, d2, d3] }
  | _ => none }
def SplitExcessWrongFalsely : Prop := splitExcessRow.holds Try.pinned (OpenSpec.ofChange splitExcessWrong)

/-- 'cohortlaw13.SplitWhole': WHATEVER THE INPUT: true; the input reads as it did. -/
def splitWholeSpec : ChangeSpec := { name := "splitWhole", fn := fun _ => fun
  | [d1, d2, d3] => { results := [.lit (.bool true)], args := [d1, d2, d3] }
  | _ => none }
def splitWholeRow : OpenClaim := { program := "ytinkeeifndmalaa", sum := "6ffedd84057d708c087ccbfa4c461094796280ea05e262771ea7dea507067418", func := "cohort/cohortlaw13.SplitWhole", spec := "splitWhole", apart := false }
def SplitWholeSaid : Prop := splitWholeRow.holds Try.pinned (OpenSpec.ofChange splitWholeSpec)

/-- ITS FALSE NEIGHBOUR: 'it returns false'. Refute it at one input. -/
def splitWholeWrong : ChangeSpec := { name := "splitWhole", fn := fun _ => fun
  | [d1, d2, d3] => { results := [.lit (.bool false)], args := [d1, d2, d3] }
  | _ => none }
def SplitWholeWrongFalsely : Prop := splitWholeRow.holds Try.pinned (OpenSpec.ofChange splitWholeWrong)

/-- 'cohortlaw13.SplitLaunches': WHATEVER THE INPUT: true; the input reads as it did. -/
def splitLaunchesSpec : ChangeSpec := { name := "splitLaunches", fn := fun _ => fun
  | [d1, d2, d3] => { results := [.lit (.bool true)], args := [d1, d2, d3] }
  | _ => none }
def splitLaunchesRow : OpenClaim := { program := "ytinkeeifndmalaa", sum := "6ffedd84057d708c087ccbfa4c461094796280ea05e262771ea7dea507067418", func := "cohort/cohortlaw13.SplitLaunches", spec := "splitLaunches", apart := false }
def SplitLaunchesSaid : Prop := splitLaunchesRow.holds Try.pinned (OpenSpec.ofChange splitLaunchesSpec)

/-- ITS FALSE NEIGHBOUR: 'it returns false'. Refute it at one input. -/
def splitLaunchesWrong : ChangeSpec := { name := "splitLaunches", fn := fun _ => fun
  | [d1, d2, d3] => { results := [.lit (.bool false)], args := [d1, d2, d3] }
  | _ => none }
def SplitLaunchesWrongFalsely : Prop := splitLaunchesRow.holds Try.pinned (OpenSpec.ofChange splitLaunchesWrong)

/- THE SECOND FORM. 'bulk': how many values and letters a reading holds, each counted each time it is reached (what is shared counts as often as it is met; a slice's spare places count too). A statement '..UptoSaid' is the law's where the arguments, and the package variables that the reading takes, are together of bulk at most 1048576: NARROWER than '..Said'. Prove '..Said' where nothing that the law and all that it calls make is longer than what came in: it says more and counts as full. Else prove '..UptoSaid'. A law counts once. -/
mutual
def uptoBulk {H : Type} : DataW H → Nat
  | .lit (.string bytes) => bytes.length + 1
  | .lit _ => 1
  | .nil => 1
  | .ptr d => uptoBulk d + 1
  | .slice elems spare => uptoBulkAll elems + uptoBulkAll spare + 1
  | .agg parts => uptoBulkAll parts + 1
  | .iface _ d => uptoBulk d + 1
  | .map entries => uptoBulkEntries entries + 1
  | .held _ => 1
def uptoBulkAll {H : Type} : List (DataW H) → Nat
  | [] => 0
  | d :: r => uptoBulk d + uptoBulkAll r
def uptoBulkEntries {H : Type} : List (Lit × DataW H) → Nat
  | [] => 0
  | x :: r => uptoBulkEntry x + uptoBulkEntries r
def uptoBulkEntry {H : Type} : Lit × DataW H → Nat
  | (.string bytes, d) => bytes.length + uptoBulk d + 1
  | (_, d) => uptoBulk d + 1
 end
def uptoSmall : (H : Type) → List (DataW H) → Bool := fun _ ds => decide (uptoBulkAll ds ≤ 1048576)
def OpenSpec.upto (s : _root_.Go.ChangeSpec) : _root_.Go.OpenSpec := { _root_.Go.OpenSpec.ofChange s with cond := some uptoSmall }

/-- 'cohortlaw13.SplitTells', WHERE WHAT IT READS IS OF BULK AT MOST 1048576: true; the input reads as it did. -/
def splitTellsUptoRow : OpenClaim := { program := "ytinkeeifndmalaa", sum := "6ffedd84057d708c087ccbfa4c461094796280ea05e262771ea7dea507067418", func := "cohort/cohortlaw13.SplitTells", spec := "splitTells", apart := false, narrowed := true }
def SplitTellsUptoSaid : Prop := splitTellsUptoRow.holds Try.pinned (OpenSpec.upto splitTellsSpec)

/-- 'cohortlaw13.SplitExcess', WHERE WHAT IT READS IS OF BULK AT MOST 1048576: true; the input reads as it did. -/
def splitExcessUptoRow : OpenClaim := { program := "ytinkeeifndmalaa", sum := "6ffedd84057d708c087ccbfa4c461094796280ea05e262771ea7dea507067418", func := "cohort/cohortlaw13.SplitExcess", spec := "splitExcess", apart := false, narrowed := true }
def SplitExcessUptoSaid : Prop := splitExcessUptoRow.holds Try.pinned (OpenSpec.upto splitExcessSpec)

/-- 'cohortlaw13.SplitWhole', WHERE WHAT IT READS IS OF BULK AT MOST 1048576: true; the input reads as it did. -/
def splitWholeUptoRow : OpenClaim := { program := "ytinkeeifndmalaa", sum := "6ffedd84057d708c087ccbfa4c461094796280ea05e262771ea7dea507067418", func := "cohort/cohortlaw13.SplitWhole", spec := "splitWhole", apart := false, narrowed := true }
def SplitWholeUptoSaid : Prop := splitWholeUptoRow.holds Try.pinned (OpenSpec.upto splitWholeSpec)

/-- 'cohortlaw13.SplitLaunches', WHERE WHAT IT READS IS OF BULK AT MOST 1048576: true; the input reads as it did. -/
def splitLaunchesUptoRow : OpenClaim := { program := "ytinkeeifndmalaa", sum := "6ffedd84057d708c087ccbfa4c461094796280ea05e262771ea7dea507067418", func := "cohort/cohortlaw13.SplitLaunches", spec := "splitLaunches", apart := false, narrowed := true }
def SplitLaunchesUptoSaid : Prop := splitLaunchesUptoRow.holds Try.pinned (OpenSpec.upto splitLaunchesSpec)

end Rows
end Go.Proofs.Ytinkeeifndmalaa
