/-
  No cell of these rows narrows 'for every input' (looked for: loops, veiled, ifaces, maps, wideKeys, modest, calm, conditions, laid).
  DERIVED. THE GIVEN ROWS OF THIS SEAT. 4 by the template 'for every input the law returns true; each argument reads behind the call as it read before'; 0 by the template 'total and deterministic' (their statements: YtmbafedpbmldmaaTotals.lean).
  GIVEN WITH THE SEED: the statements are not yours to turn. If you find one false, say at which input.
  Laid BY PROGRAM, IN A SANDBOX (cutbox-rows.mjs): the forced cells as the released guide's own fill.sh prints them over the translation 139981aba03b4bb7… (all of the seat's roots in one cut). By AI agents, Wed Nov 11 2026. No macro, syntax, notation, axiom, sorry.
-/
import Derived.Test.YtmbafedpbmldmaaChecked
import GoSem.Claim
import GoSem.ClaimJoined
import GoSem.ClaimMapViews
import Derived.JoinedTies
import Derived.KernelRfl
namespace Go.Proofs.Ytmbafedpbmldmaa
/- THE CELL 'sum', in the pinned program and in every row, IS THE sha256 OF THE DUMP (.gsa) THAT YtmbafedpbmldmaaProg.lean LOADS. Nothing in Lean hashes anything: it is a label: what it is worth is what the hold of that sum in a sandbox is worth. -/
noncomputable def Try.pinned : Pinned := { name := "ytmbafedpbmldmaa", sum := "139981aba03b4bb7668ac3a45b96e511afbe4547fa65caa6da93e8faf7b0a07e", checked := Try.checked }
namespace Rows
def none {H : Type} : Left H := { results := [], args := [] }

/-- 'cohortlaw16.InstDoes': WHATEVER THE INPUT: true; the input reads as it did. -/
def instDoesSpec : ChangeSpec := { name := "instDoes", fn := fun _ => fun
  | [d1, d2, d3, d4, d5, d6, d7, d8] => { results := [.lit (.bool true)], args := [d1, d2, d3, d4, d5, d6, d7, d8] }
  | _ => none }
def instDoesRow : OpenClaim := { program := "ytmbafedpbmldmaa", sum := "139981aba03b4bb7668ac3a45b96e511afbe4547fa65caa6da93e8faf7b0a07e", func := "cohort/cohortlaw16.InstDoes", spec := "instDoes", plainKeys := false, apart := false }
def InstDoesSaid : Prop := instDoesRow.holds Try.pinned (OpenSpec.ofChange instDoesSpec)

/-- ITS FALSE NEIGHBOUR: 'it returns false'. Refute it at one input. -/
def instDoesWrong : ChangeSpec := { name := "instDoes", fn := fun _ => fun
  | [d1, d2, d3, d4, d5, d6, d7, d8] => { results := [.lit (.bool false)], args := [d1, d2, d3, d4, d5, d6, d7, d8] }
  | _ => none }
def InstDoesWrongFalsely : Prop := instDoesRow.holds Try.pinned (OpenSpec.ofChange instDoesWrong)

/-- 'cohortlaw16.InstNew': WHATEVER THE INPUT: true; the input reads as it did. -/
def instNewSpec : ChangeSpec := { name := "instNew", fn := fun _ => fun
  | [d1, d2, d3, d4, d5] => { results := [.lit (.bool true)], args := [d1, d2, d3, d4, d5] }
  | _ => none }
def instNewRow : OpenClaim := { program := "ytmbafedpbmldmaa", sum := "139981aba03b4bb7668ac3a45b96e511afbe4547fa65caa6da93e8faf7b0a07e", func := "cohort/cohortlaw16.InstNew", spec := "instNew", plainKeys := false, apart := false }
def InstNewSaid : Prop := instNewRow.holds Try.pinned (OpenSpec.ofChange instNewSpec)

/-- ITS FALSE NEIGHBOUR: 'it returns false'. Refute it at one input. -/
def instNewWrong : ChangeSpec := { name := "instNew", fn := fun _ => fun
  | [d1, d2, d3, d4, d5] => { results := [.lit (.bool false)], args := [d1, d2, d3, d4, d5] }
  | _ => none }
def InstNewWrongFalsely : Prop := instNewRow.holds Try.pinned (OpenSpec.ofChange instNewWrong)

/-- 'cohortlaw16.InstGoes': WHATEVER THE INPUT: true; the input reads as it did. -/
def instGoesSpec : ChangeSpec := { name := "instGoes", fn := fun _ => fun
  | [d1, d2, d3, d4, d5] => { results := [.lit (.bool true)], args := [d1, d2, d3, d4, d5] }
  | _ => none }
def instGoesRow : OpenClaim := { program := "ytmbafedpbmldmaa", sum := "139981aba03b4bb7668ac3a45b96e511afbe4547fa65caa6da93e8faf7b0a07e", func := "cohort/cohortlaw16.InstGoes", spec := "instGoes", plainKeys := false, apart := false }
def InstGoesSaid : Prop := instGoesRow.holds Try.pinned (OpenSpec.ofChange instGoesSpec)

/-- ITS FALSE NEIGHBOUR: 'it returns false'. Refute it at one input. -/
def instGoesWrong : ChangeSpec := { name := "instGoes", fn := fun _ => fun
  | [d1, d2, d3, d4, d5] => { results := [.lit (.bool false)], args := [d1, d2, d3, d4, d5] }
  | _ => none }
def InstGoesWrongFalsely : Prop := instGoesRow.holds Try.pinned (OpenSpec.ofChange instGoesWrong)

/-- 'cohortlaw16.InstEnds': WHATEVER THE INPUT: true; the input reads as it did. -/
def instEndsSpec : ChangeSpec := { name := "instEnds", fn := fun _ => fun
  | [d1, d2, d3, d4, d5] => { results := [.lit (.bool true)], args := [d1, d2, d3, d4, d5] }
  | _ => none }
def instEndsRow : OpenClaim := { program := "ytmbafedpbmldmaa", sum := "139981aba03b4bb7668ac3a45b96e511afbe4547fa65caa6da93e8faf7b0a07e", func := "cohort/cohortlaw16.InstEnds", spec := "instEnds", plainKeys := false, apart := false }
def InstEndsSaid : Prop := instEndsRow.holds Try.pinned (OpenSpec.ofChange instEndsSpec)

/-- ITS FALSE NEIGHBOUR: 'it returns false'. Refute it at one input. -/
def instEndsWrong : ChangeSpec := { name := "instEnds", fn := fun _ => fun
  | [d1, d2, d3, d4, d5] => { results := [.lit (.bool false)], args := [d1, d2, d3, d4, d5] }
  | _ => none }
def InstEndsWrongFalsely : Prop := instEndsRow.holds Try.pinned (OpenSpec.ofChange instEndsWrong)

/- THE SECOND FORM. 'bulk': how many values and letters a reading holds, each counted each time it is reached (what is shared counts as often as it is met; a slice's spare places count too). A statement '..UptoSaid' is the law's where the arguments, and the package variables that the reading takes, are together of bulk at most 1048576: NARROWER than '..Said'. Prove '..Said' where nothing that the law and all that it calls make is longer than what came in: it says more and counts as full. Else prove '..UptoSaid'. A law counts once. -/
mutual
def uptoBulk {H : Type} : DataW H → Nat
  | .lit (.string bytes) => bytes.length + 1
  | .lit _ => 1
  | .nil => 1
  | .ptr d => uptoBulk d + 1
  | .slice elems spare => uptoBulkAll elems + uptoBulkAll spare + 1
  | .agg parts => uptoBulkAll parts + 1
  | .iface _ d => uptoBulk d + 1
  | .map entries => uptoBulkEntries entries + 1
  | .held _ => 1
def uptoBulkAll {H : Type} : List (DataW H) → Nat
  | [] => 0
  | d :: r => uptoBulk d + uptoBulkAll r
def uptoBulkEntries {H : Type} : List (Lit × DataW H) → Nat
  | [] => 0
  | x :: r => uptoBulkEntry x + uptoBulkEntries r
def uptoBulkEntry {H : Type} : Lit × DataW H → Nat
  | (.string bytes, d) => bytes.length + uptoBulk d + 1
  | (_, d) => uptoBulk d + 1
 end
def uptoSmall : (H : Type) → List (DataW H) → Bool := fun _ ds => decide (uptoBulkAll ds ≤ 1048576)
def OpenSpec.upto (s : _root_.Go.ChangeSpec) : _root_.Go.OpenSpec := { _root_.Go.OpenSpec.ofChange s with cond := some uptoSmall }

/-- 'cohortlaw16.InstDoes', WHERE WHAT IT READS IS OF BULK AT MOST 1048576: true; the input reads as it did. -/
def instDoesUptoRow : OpenClaim := { program := "ytmbafedpbmldmaa", sum := "139981aba03b4bb7668ac3a45b96e511afbe4547fa65caa6da93e8faf7b0a07e", func := "cohort/cohortlaw16.InstDoes", spec := "instDoes", plainKeys := false, apart := false, narrowed := true }
def InstDoesUptoSaid : Prop := instDoesUptoRow.holds Try.pinned (OpenSpec.upto instDoesSpec)

/-- 'cohortlaw16.InstNew', WHERE WHAT IT READS IS OF BULK AT MOST 1048576: true; the input reads as it did. -/
def instNewUptoRow : OpenClaim := { program := "ytmbafedpbmldmaa", sum := "139981aba03b4bb7668ac3a45b96e511afbe4547fa65caa6da93e8faf7b0a07e", func := "cohort/cohortlaw16.InstNew", spec := "instNew", plainKeys := false, apart := false, narrowed := true }
def InstNewUptoSaid : Prop := instNewUptoRow.holds Try.pinned (OpenSpec.upto instNewSpec)

/-- 'cohortlaw16.InstGoes', WHERE WHAT IT READS IS OF BULK AT MOST 1048576: true; the input reads as it did. -/
def instGoesUptoRow : OpenClaim := { program := "ytmbafedpbmldmaa", sum := "139981aba03b4bb7668ac3a45b96e511afbe4547fa65caa6da93e8faf7b0a07e", func := "cohort/cohortlaw16.InstGoes", spec := "instGoes", plainKeys := false, apart := false, narrowed := true }
def InstGoesUptoSaid : Prop := instGoesUptoRow.holds Try.pinned (OpenSpec.upto instGoesSpec)

/-- 'cohortlaw16.InstEnds', WHERE WHAT IT READS IS OF BULK AT MOST 1048576: true; the input reads as it did. -/
def instEndsUptoRow : OpenClaim := { program := "ytmbafedpbmldmaa", sum := "139981aba03b4bb7668ac3a45b96e511afbe4547fa65caa6da93e8faf7b0a07e", func := "cohort/cohortlaw16.InstEnds", spec := "instEnds", plainKeys := false, apart := false, narrowed := true }
def InstEndsUptoSaid : Prop := instEndsUptoRow.holds Try.pinned (OpenSpec.upto instEndsSpec)

end Rows
end Go.Proofs.Ytmbafedpbmldmaa
