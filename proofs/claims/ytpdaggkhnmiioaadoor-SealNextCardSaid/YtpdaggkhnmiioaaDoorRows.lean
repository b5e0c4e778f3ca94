/-
  NARROWER THAN 'FOR EVERY INPUT', by the rows' own cells (each row's printed sentence says how): SealPuts: laid · SealGets: laid · SealBack: laid · SealTorn: laid · SealNext: laid.
  DERIVED. THE GIVEN ROWS OF THIS SEAT. 5 by the template 'for every input the law returns true; each argument reads behind the call as it read before'; 0 by the template 'total and deterministic' (their statements: YtpdaggkhnmiioaaDoorTotals.lean).
  GIVEN WITH THE SEED: the statements are not yours to turn. If you find one false, say at which input.
  Laid BY PROGRAM, IN A SANDBOX (cutbox-rows.mjs): the forced cells as the released guide's own fill.sh prints them over the translation 5615b77dd0478263… (all of the seat's roots in one cut). By AI agents, Wed Nov 11 2026. No macro, syntax, notation, axiom, sorry.
-/
import Derived.Test.YtpdaggkhnmiioaaDoorChecked
import GoSem.Claim
import GoSem.ClaimJoined
import GoSem.ClaimMapViews
import Derived.JoinedTies
import Derived.KernelRfl
namespace Go.Proofs.YtpdaggkhnmiioaaDoor
/- THE CELL 'sum', in the pinned program and in every row, IS THE sha256 OF THE DUMP (.gsa) THAT YtpdaggkhnmiioaaDoorProg.lean LOADS. Nothing in Lean hashes anything: it is a label: what it is worth is what the hold of that sum in a sandbox is worth. -/
noncomputable def Tryd.pinned : Pinned := { name := "ytpdaggkhnmiioaadoor", sum := "5615b77dd0478263dd3326fc258f45f39574e9ff70c2d31bf0a349c3999fed48", checked := Tryd.checked }
namespace Rows
def none {H : Type} : Left H := { results := [], args := [] }

/- WHAT THE LISTED PACKAGE-LEVEL VARIABLES READ AS WHEN THE CALL BEGINS. Each datum BY PROGRAM (the guide's laid-datum.mjs) off the statement by which the dump's own 'gosem.cut.vars' lays the variable. In a bare row this is a premise. The card (YtpdaggkhnmiioaaDoorCards.lean) ties it to the program's text. -/
def laid_cohort_crc_halves {H : Type} : DataW H := .agg [.lit (.int .u32 0), .lit (.int .u32 79764919), .lit (.int .u32 159529838), .lit (.int .u32 222504665), .lit (.int .u32 319059676), .lit (.int .u32 398814059), .lit (.int .u32 445009330), .lit (.int .u32 507990021), .lit (.int .u32 638119352), .lit (.int .u32 583659535), .lit (.int .u32 797628118), .lit (.int .u32 726387553), .lit (.int .u32 890018660), .lit (.int .u32 835552979), .lit (.int .u32 1015980042), .lit (.int .u32 944750013)]

/-- 'cohortlaw07.SealPuts': WHATEVER THE INPUT: true; the input reads as it did. -/
def sealPutsSpec : ChangeSpec := { name := "sealPuts", fn := fun _ => fun
  | [d1, d2] => { results := [.lit (.bool true)], args := [d1, d2] }
  | _ => none }
def sealPutsRow : OpenClaim := { program := "ytpdaggkhnmiioaadoor", sum := "5615b77dd0478263dd3326fc258f45f39574e9ff70c2d31bf0a349c3999fed48", func := "cohort/cohortlaw07.SealPuts", spec := "sealPuts", named := ["cohort/crc.halves"], apart := false, laid := [("cohort/crc.halves", laid_cohort_crc_halves)] }
def SealPutsSaid : Prop := sealPutsRow.holds Tryd.pinned (OpenSpec.ofChange sealPutsSpec)

/-- ITS FALSE NEIGHBOUR: 'it returns false'. Refute it at one input. -/
def sealPutsWrong : ChangeSpec := { name := "sealPuts", fn := fun _ => fun
  | [d1, d2] => { results := [.lit (.bool false)], args := [d1, d2] }
  | _ => none }
def SealPutsWrongFalsely : Prop := sealPutsRow.holds Tryd.pinned (OpenSpec.ofChange sealPutsWrong)

/-- 'cohortlaw07.SealGets': WHATEVER THE INPUT: true; the input reads as it did. -/
def sealGetsSpec : ChangeSpec := { name := "sealGets", fn := fun _ => fun
  | [d1, d2] => { results := [.lit (.bool true)], args := [d1, d2] }
  | _ => none }
def sealGetsRow : OpenClaim := { program := "ytpdaggkhnmiioaadoor", sum := "5615b77dd0478263dd3326fc258f45f39574e9ff70c2d31bf0a349c3999fed48", func := "cohort/cohortlaw07.SealGets", spec := "sealGets", named := ["cohort/crc.halves"], apart := false, laid := [("cohort/crc.halves", laid_cohort_crc_halves)] }
def SealGetsSaid : Prop := sealGetsRow.holds Tryd.pinned (OpenSpec.ofChange sealGetsSpec)

/-- ITS FALSE NEIGHBOUR: 'it returns false'. Refute it at one input. -/
def sealGetsWrong : ChangeSpec := { name := "sealGets", fn := fun _ => fun
  | [d1, d2] => { results := [.lit (.bool false)], args := [d1, d2] }
  | _ => none }
def SealGetsWrongFalsely : Prop := sealGetsRow.holds Tryd.pinned (OpenSpec.ofChange sealGetsWrong)

/-- 'cohortlaw07.SealBack': WHATEVER THE INPUT: true; the input reads as it did. -/
def sealBackSpec : ChangeSpec := { name := "sealBack", fn := fun _ => fun
  | [d1, d2, d3, d4] => { results := [.lit (.bool true)], args := [d1, d2, d3, d4] }
  | _ => none }
def sealBackRow : OpenClaim := { program := "ytpdaggkhnmiioaadoor", sum := "5615b77dd0478263dd3326fc258f45f39574e9ff70c2d31bf0a349c3999fed48", func := "cohort/cohortlaw07.SealBack", spec := "sealBack", named := ["cohort/crc.halves"], apart := false, laid := [("cohort/crc.halves", laid_cohort_crc_halves)] }
def SealBackSaid : Prop := sealBackRow.holds Tryd.pinned (OpenSpec.ofChange sealBackSpec)

/-- ITS FALSE NEIGHBOUR: 'it returns false'. Refute it at one input. -/
def sealBackWrong : ChangeSpec := { name := "sealBack", fn := fun _ => fun
  | [d1, d2, d3, d4] => { results := [.lit (.bool false)], args := [d1, d2, d3, d4] }
  | _ => none }
def SealBackWrongFalsely : Prop := sealBackRow.holds Tryd.pinned (OpenSpec.ofChange sealBackWrong)

/-- 'cohortlaw07.SealTorn': WHATEVER THE INPUT: true; the input reads as it did. -/
def sealTornSpec : ChangeSpec := { name := "sealTorn", fn := fun _ => fun
  | [d1, d2, d3, d4, d5] => { results := [.lit (.bool true)], args := [d1, d2, d3, d4, d5] }
  | _ => none }
def sealTornRow : OpenClaim := { program := "ytpdaggkhnmiioaadoor", sum := "5615b77dd0478263dd3326fc258f45f39574e9ff70c2d31bf0a349c3999fed48", func := "cohort/cohortlaw07.SealTorn", spec := "sealTorn", named := ["cohort/crc.halves"], apart := false, laid := [("cohort/crc.halves", laid_cohort_crc_halves)] }
def SealTornSaid : Prop := sealTornRow.holds Tryd.pinned (OpenSpec.ofChange sealTornSpec)

/-- ITS FALSE NEIGHBOUR: 'it returns false'. Refute it at one input. -/
def sealTornWrong : ChangeSpec := { name := "sealTorn", fn := fun _ => fun
  | [d1, d2, d3, d4, d5] => { results := [.lit (.bool false)], args := [d1, d2, d3, d4, d5] }
  | _ => none }
def SealTornWrongFalsely : Prop := sealTornRow.holds Tryd.pinned (OpenSpec.ofChange sealTornWrong)

/-- 'cohortlaw07.SealNext': WHATEVER THE INPUT: true; the input reads as it did. -/
def sealNextSpec : ChangeSpec := { name := "sealNext", fn := fun _ => fun
  | [d1, d2, d3, d4, d5, d6] => { results := [.lit (.bool true)], args := [d1, d2, d3, d4, d5, d6] }
  | _ => none }
def sealNextRow : OpenClaim := { program := "ytpdaggkhnmiioaadoor", sum := "5615b77dd0478263dd3326fc258f45f39574e9ff70c2d31bf0a349c3999fed48", func := "cohort/cohortlaw07.SealNext", spec := "sealNext", named := ["cohort/crc.halves"], apart := false, laid := [("cohort/crc.halves", laid_cohort_crc_halves)] }
def SealNextSaid : Prop := sealNextRow.holds Tryd.pinned (OpenSpec.ofChange sealNextSpec)

/-- ITS FALSE NEIGHBOUR: 'it returns false'. Refute it at one input. -/
def sealNextWrong : ChangeSpec := { name := "sealNext", fn := fun _ => fun
  | [d1, d2, d3, d4, d5, d6] => { results := [.lit (.bool false)], args := [d1, d2, d3, d4, d5, d6] }
  | _ => none }
def SealNextWrongFalsely : Prop := sealNextRow.holds Tryd.pinned (OpenSpec.ofChange sealNextWrong)

/- THE SECOND FORM. 'bulk': how many values and letters a reading holds, each counted each time it is reached (what is shared counts as often as it is met; a slice's spare places count too). A statement '..UptoSaid' is the law's where the arguments, and the package variables that the reading takes, are together of bulk at most 1048576: NARROWER than '..Said'. Prove '..Said' where nothing that the law and all that it calls make is longer than what came in: it says more and counts as full. Else prove '..UptoSaid'. A law counts once. -/
mutual
def uptoBulk {H : Type} : DataW H → Nat
  | .lit (.string bytes) => bytes.length + 1
  | .lit _ => 1
  | .nil => 1
  | .ptr d => uptoBulk d + 1
  | .slice elems spare => uptoBulkAll elems + uptoBulkAll spare + 1
  | .agg parts => uptoBulkAll parts + 1
  | .iface _ d => uptoBulk d + 1
  | .map entries => uptoBulkEntries entries + 1
  | .held _ => 1
def uptoBulkAll {H : Type} : List (DataW H) → Nat
  | [] => 0
  | d :: r => uptoBulk d + uptoBulkAll r
def uptoBulkEntries {H : Type} : List (Lit × DataW H) → Nat
  | [] => 0
  | x :: r => uptoBulkEntry x + uptoBulkEntries r
def uptoBulkEntry {H : Type} : Lit × DataW H → Nat
  | (.string bytes, d) => bytes.length + uptoBulk d + 1
  | (_, d) => uptoBulk d + 1
 end
def uptoSmall : (H : Type) → List (DataW H) → Bool := fun _ ds => decide (uptoBulkAll ds ≤ 1048576)
def OpenSpec.upto (s : _root_.Go.ChangeSpec) : _root_.Go.OpenSpec := { _root_.Go.OpenSpec.ofChange s with cond := some uptoSmall }

/-- 'cohortlaw07.SealPuts', WHERE WHAT IT READS IS OF BULK AT MOST 1048576: true; the input reads as it did. -/
def sealPutsUptoRow : OpenClaim := { program := "ytpdaggkhnmiioaadoor", sum := "5615b77dd0478263dd3326fc258f45f39574e9ff70c2d31bf0a349c3999fed48", func := "cohort/cohortlaw07.SealPuts", spec := "sealPuts", named := ["cohort/crc.halves"], apart := false, laid := [("cohort/crc.halves", laid_cohort_crc_halves)], narrowed := true }
def SealPutsUptoSaid : Prop := sealPutsUptoRow.holds Tryd.pinned (OpenSpec.upto sealPutsSpec)

/-- 'cohortlaw07.SealGets', WHERE WHAT IT READS IS OF BULK AT MOST 1048576: true; the input reads as it did. -/
def sealGetsUptoRow : OpenClaim := { program := "ytpdaggkhnmiioaadoor", sum := "5615b77dd0478263dd3326fc258f45f39574e9ff70c2d31bf0a349c3999fed48", func := "cohort/cohortlaw07.SealGets", spec := "sealGets", named := ["cohort/crc.halves"], apart := false, laid := [("cohort/crc.halves", laid_cohort_crc_halves)], narrowed := true }
def SealGetsUptoSaid : Prop := sealGetsUptoRow.holds Tryd.pinned (OpenSpec.upto sealGetsSpec)

/-- 'cohortlaw07.SealBack', WHERE WHAT IT READS IS OF BULK AT MOST 1048576: true; the input reads as it did. -/
def sealBackUptoRow : OpenClaim := { program := "ytpdaggkhnmiioaadoor", sum := "5615b77dd0478263dd3326fc258f45f39574e9ff70c2d31bf0a349c3999fed48", func := "cohort/cohortlaw07.SealBack", spec := "sealBack", named := ["cohort/crc.halves"], apart := false, laid := [("cohort/crc.halves", laid_cohort_crc_halves)], narrowed := true }
def SealBackUptoSaid : Prop := sealBackUptoRow.holds Tryd.pinned (OpenSpec.upto sealBackSpec)

/-- 'cohortlaw07.SealTorn', WHERE WHAT IT READS IS OF BULK AT MOST 1048576: true; the input reads as it did. -/
def sealTornUptoRow : OpenClaim := { program := "ytpdaggkhnmiioaadoor", sum := "5615b77dd0478263dd3326fc258f45f39574e9ff70c2d31bf0a349c3999fed48", func := "cohort/cohortlaw07.SealTorn", spec := "sealTorn", named := ["cohort/crc.halves"], apart := false, laid := [("cohort/crc.halves", laid_cohort_crc_halves)], narrowed := true }
def SealTornUptoSaid : Prop := sealTornUptoRow.holds Tryd.pinned (OpenSpec.upto sealTornSpec)

/-- 'cohortlaw07.SealNext', WHERE WHAT IT READS IS OF BULK AT MOST 1048576: true; the input reads as it did. -/
def sealNextUptoRow : OpenClaim := { program := "ytpdaggkhnmiioaadoor", sum := "5615b77dd0478263dd3326fc258f45f39574e9ff70c2d31bf0a349c3999fed48", func := "cohort/cohortlaw07.SealNext", spec := "sealNext", named := ["cohort/crc.halves"], apart := false, laid := [("cohort/crc.halves", laid_cohort_crc_halves)], narrowed := true }
def SealNextUptoSaid : Prop := sealNextUptoRow.holds Tryd.pinned (OpenSpec.upto sealNextSpec)

end Rows
end Go.Proofs.YtpdaggkhnmiioaaDoor
