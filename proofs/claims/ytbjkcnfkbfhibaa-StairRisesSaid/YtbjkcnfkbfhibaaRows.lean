/-
  No cell of these rows narrows 'for every input' (looked for: loops, veiled, ifaces, maps, wideKeys, modest, calm, conditions, laid).
  DERIVED. THE GIVEN ROWS OF THIS SEAT. 3 by the template 'for every input the law returns true; each argument reads behind the call as it read before'; 0 by the template 'total and deterministic' (their statements: YtbjkcnfkbfhibaaTotals.lean).
  GIVEN WITH THE SEED: the statements are not yours to turn. If you find one false, say at which input.
  Laid BY PROGRAM, IN A SANDBOX (cutbox-rows.mjs): the forced cells as the released guide's own fill.sh prints them over the translation 29b16768d9fa262d… (all of the seat's roots in one cut). By AI agents, Wed Nov 11 2026. No macro, syntax, notation, axiom, sorry.
-/
import Derived.Test.YtbjkcnfkbfhibaaChecked
import GoSem.Claim
import GoSem.ClaimJoined
import GoSem.ClaimMapViews
import Derived.JoinedTies
import Derived.KernelRfl
namespace Go.Proofs.Ytbjkcnfkbfhibaa
/- THE CELL 'sum', in the pinned program and in every row, IS THE sha256 OF THE DUMP (.gsa) THAT YtbjkcnfkbfhibaaProg.lean LOADS. Nothing in Lean hashes anything: it is a label: what it is worth is what the hold of that sum in a sandbox is worth. -/
noncomputable def Try.pinned : Pinned := { name := "ytbjkcnfkbfhibaa", sum := "29b16768d9fa262d6356409efda6d0944aad5b5925d7ca3ce0b51b30f471db80", checked := Try.checked }
namespace Rows
def none {H : Type} : Left H := { results := [], args := [] }

/-- 'cohortlaw22.StairTells': WHATEVER THE INPUT: true; the input reads as it did. -/
def stairTellsSpec : ChangeSpec := { name := "stairTells", fn := fun _ => fun
  | [d1, d2, d3, d4, d5] => { results := [.lit (.bool true)], args := [d1, d2, d3, d4, d5] }
  | _ => none }
def stairTellsRow : OpenClaim := { program := "ytbjkcnfkbfhibaa", sum := "29b16768d9fa262d6356409efda6d0944aad5b5925d7ca3ce0b51b30f471db80", func := "cohort/cohortlaw22.StairTells", spec := "stairTells", unfollowed := true, recurses := true, apart := false }
def StairTellsSaid : Prop := stairTellsRow.holds Try.pinned (OpenSpec.ofChange stairTellsSpec)

/-- ITS FALSE NEIGHBOUR: 'it returns false'. Refute it at one input. -/
def stairTellsWrong : ChangeSpec := { name := "stairTells", fn := fun _ => fun
  | [d1, d2, d3, d4, d5] => { results := [.lit (.bool false)], args := [d1, d2, d3, d4, d5] }
  | _ => none }
def StairTellsWrongFalsely : Prop := stairTellsRow.holds Try.pinned (OpenSpec.ofChange stairTellsWrong)

/-- 'cohortlaw22.StairRises': WHATEVER THE INPUT: true; the input reads as it did. -/
def stairRisesSpec : ChangeSpec := { name := "stairRises", fn := fun _ => fun
  | [d1, d2, d3, d4] => { results := [.lit (.bool true)], args := [d1, d2, d3, d4] }
  | _ => none }
def stairRisesRow : OpenClaim := { program := "ytbjkcnfkbfhibaa", sum := "29b16768d9fa262d6356409efda6d0944aad5b5925d7ca3ce0b51b30f471db80", func := "cohort/cohortlaw22.StairRises", spec := "stairRises", unfollowed := true, recurses := true, apart := false }
def StairRisesSaid : Prop := stairRisesRow.holds Try.pinned (OpenSpec.ofChange stairRisesSpec)

/-- ITS FALSE NEIGHBOUR: 'it returns false'. Refute it at one input. -/
def stairRisesWrong : ChangeSpec := { name := "stairRises", fn := fun _ => fun
  | [d1, d2, d3, d4] => { results := [.lit (.bool false)], args := [d1, d2, d3, d4] }
  | _ => none }
def StairRisesWrongFalsely : Prop := stairRisesRow.holds Try.pinned (OpenSpec.ofChange stairRisesWrong)

/-- 'cohortlaw22.StairBands': WHATEVER THE INPUT: true; the input reads as it did. -/
def stairBandsSpec : ChangeSpec := { name := "stairBands", fn := fun _ => fun
  | [d] => { results := [.lit (.bool true)], args := [d] }
  | _ => none }
def stairBandsRow : OpenClaim := { program := "ytbjkcnfkbfhibaa", sum := "29b16768d9fa262d6356409efda6d0944aad5b5925d7ca3ce0b51b30f471db80", func := "cohort/cohortlaw22.StairBands", spec := "stairBands", unfollowed := true, recurses := true, apart := false }
def StairBandsSaid : Prop := stairBandsRow.holds Try.pinned (OpenSpec.ofChange stairBandsSpec)

/-- ITS FALSE NEIGHBOUR: 'it returns false'. Refute it at one input. -/
def stairBandsWrong : ChangeSpec := { name := "stairBands", fn := fun _ => fun
  | [d] => { results := [.lit (.bool false)], args := [d] }
  | _ => none }
def StairBandsWrongFalsely : Prop := stairBandsRow.holds Try.pinned (OpenSpec.ofChange stairBandsWrong)

/- THE SECOND FORM. 'bulk': how many values and letters a reading holds, each counted each time it is reached (what is shared counts as often as it is met; a slice's spare places count too). A statement '..UptoSaid' is the law's where the arguments, and the package variables that the reading takes, are together of bulk at most 1048576: NARROWER than '..Said'. Prove '..Said' where nothing that the law and all that it calls make is longer than what came in: it says more and counts as full. Else prove '..UptoSaid'. A law counts once. -/
mutual
def uptoBulk {H : Type} : DataW H → Nat
  | .lit (.string bytes) => bytes.length + 1
  | .lit _ => 1
  | .nil => 1
  | .ptr d => uptoBulk d + 1
  | .slice elems spare => uptoBulkAll elems + uptoBulkAll spare + 1
  | .agg parts => uptoBulkAll parts + 1
  | .iface _ d => uptoBulk d + 1
  | .map entries => uptoBulkEntries entries + 1
  | .held _ => 1
def uptoBulkAll {H : Type} : List (DataW H) → Nat
  | [] => 0
  | d :: r => uptoBulk d + uptoBulkAll r
def uptoBulkEntries {H : Type} : List (Lit × DataW H) → Nat
  | [] => 0
  | x :: r => uptoBulkEntry x + uptoBulkEntries r
def uptoBulkEntry {H : Type} : Lit × DataW H → Nat
  | (.string bytes, d) => bytes.length + uptoBulk d + 1
  | (_, d) => uptoBulk d + 1
 end
def uptoSmall : (H : Type) → List (DataW H) → Bool := fun _ ds => decide (uptoBulkAll ds ≤ 1048576)
def OpenSpec.upto (s : _root_.Go.ChangeSpec) : _root_.Go.OpenSpec := { _root_.Go.OpenSpec.ofChange s with cond := some uptoSmall }

/-- 'cohortlaw22.StairTells', WHERE WHAT IT READS IS OF BULK AT MOST 1048576: true; the input reads as it did. -/
def stairTellsUptoRow : OpenClaim := { program := "ytbjkcnfkbfhibaa", sum := "29b16768d9fa262d6356409efda6d0944aad5b5925d7ca3ce0b51b30f471db80", func := "cohort/cohortlaw22.StairTells", spec := "stairTells", unfollowed := true, recurses := true, apart := false, narrowed := true }
def StairTellsUptoSaid : Prop := stairTellsUptoRow.holds Try.pinned (OpenSpec.upto stairTellsSpec)

/-- 'cohortlaw22.StairRises', WHERE WHAT IT READS IS OF BULK AT MOST 1048576: true; the input reads as it did. -/
def stairRisesUptoRow : OpenClaim := { program := "ytbjkcnfkbfhibaa", sum := "29b16768d9fa262d6356409efda6d0944aad5b5925d7ca3ce0b51b30f471db80", func := "cohort/cohortlaw22.StairRises", spec := "stairRises", unfollowed := true, recurses := true, apart := false, narrowed := true }
def StairRisesUptoSaid : Prop := stairRisesUptoRow.holds Try.pinned (OpenSpec.upto stairRisesSpec)

/-- 'cohortlaw22.StairBands', WHERE WHAT IT READS IS OF BULK AT MOST 1048576: true; the input reads as it did. -/
def stairBandsUptoRow : OpenClaim := { program := "ytbjkcnfkbfhibaa", sum := "29b16768d9fa262d6356409efda6d0944aad5b5925d7ca3ce0b51b30f471db80", func := "cohort/cohortlaw22.StairBands", spec := "stairBands", unfollowed := true, recurses := true, apart := false, narrowed := true }
def StairBandsUptoSaid : Prop := stairBandsUptoRow.holds Try.pinned (OpenSpec.upto stairBandsSpec)

end Rows
end Go.Proofs.Ytbjkcnfkbfhibaa
