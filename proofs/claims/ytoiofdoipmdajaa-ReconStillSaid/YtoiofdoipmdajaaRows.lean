/-
  No cell of these rows narrows 'for every input' (looked for: loops, veiled, ifaces, maps, wideKeys, modest, calm, conditions, laid).
  DERIVED. THE GIVEN ROWS OF THIS SEAT. 3 by the template 'for every input the law returns true; each argument reads behind the call as it read before'; 0 by the template 'total and deterministic' (their statements: YtoiofdoipmdajaaTotals.lean).
  GIVEN WITH THE SEED: the statements are not yours to turn. If you find one false, say at which input.
  Laid BY PROGRAM, IN A SANDBOX (cutbox-rows.mjs): the forced cells as the released guide's own fill.sh prints them over the translation a8d89b640448f436… (all of the seat's roots in one cut). By AI agents, Wed Nov 11 2026. No macro, syntax, notation, axiom, sorry.
-/
import Derived.Test.YtoiofdoipmdajaaChecked
import GoSem.Claim
import GoSem.ClaimJoined
import GoSem.ClaimMapViews
import Derived.JoinedTies
import Derived.KernelRfl
namespace Go.Proofs.Ytoiofdoipmdajaa
/- THE CELL 'sum', in the pinned program and in every row, IS THE sha256 OF THE DUMP (.gsa) THAT YtoiofdoipmdajaaProg.lean LOADS. Nothing in Lean hashes anything: it is a label: what it is worth is what the hold of that sum in a sandbox is worth. -/
noncomputable def Try.pinned : Pinned := { name := "ytoiofdoipmdajaa", sum := "a8d89b640448f436481654054f424c9e5319ff391676d8a2d27c0251a7bf9cef", checked := Try.checked }
namespace Rows
def none {H : Type} : Left H := { results := [], args := [] }

/-- 'cohortlaw20.ReconTells': WHATEVER THE INPUT: true; the input reads as it did. -/
def reconTellsSpec : ChangeSpec := { name := "reconTells", fn := fun _ => fun
  | [d1, d2] => { results := [.lit (.bool true)], args := [d1, d2] }
  | _ => none }
def reconTellsRow : OpenClaim := { program := "ytoiofdoipmdajaa", sum := "a8d89b640448f436481654054f424c9e5319ff391676d8a2d27c0251a7bf9cef", func := "cohort/cohortlaw20.ReconTells", spec := "reconTells", unfollowed := true, recurses := true, apart := false }
def ReconTellsSaid : Prop := reconTellsRow.holds Try.pinned (OpenSpec.ofChange reconTellsSpec)

/-- ITS FALSE NEIGHBOUR: 'it returns false'. Refute it at one input. -/
def reconTellsWrong : ChangeSpec := { name := "reconTells", fn := fun _ => fun
  | [d1, d2] => { results := [.lit (.bool false)], args := [d1, d2] }
  | _ => none }
def ReconTellsWrongFalsely : Prop := reconTellsRow.holds Try.pinned (OpenSpec.ofChange reconTellsWrong)

/-- 'cohortlaw20.ReconEach': WHATEVER THE INPUT: true; the input reads as it did. -/
def reconEachSpec : ChangeSpec := { name := "reconEach", fn := fun _ => fun
  | [d1, d2] => { results := [.lit (.bool true)], args := [d1, d2] }
  | _ => none }
def reconEachRow : OpenClaim := { program := "ytoiofdoipmdajaa", sum := "a8d89b640448f436481654054f424c9e5319ff391676d8a2d27c0251a7bf9cef", func := "cohort/cohortlaw20.ReconEach", spec := "reconEach", unfollowed := true, recurses := true, apart := false }
def ReconEachSaid : Prop := reconEachRow.holds Try.pinned (OpenSpec.ofChange reconEachSpec)

/-- ITS FALSE NEIGHBOUR: 'it returns false'. Refute it at one input. -/
def reconEachWrong : ChangeSpec := { name := "reconEach", fn := fun _ => fun
  | [d1, d2] => { results := [.lit (.bool false)], args := [d1, d2] }
  | _ => none }
def ReconEachWrongFalsely : Prop := reconEachRow.holds Try.pinned (OpenSpec.ofChange reconEachWrong)

/-- 'cohortlaw20.ReconStill': WHATEVER THE INPUT: true; the input reads as it did. -/
def reconStillSpec : ChangeSpec := { name := "reconStill", fn := fun _ => fun
  | [d] => { results := [.lit (.bool true)], args := [d] }
  | _ => none }
def reconStillRow : OpenClaim := { program := "ytoiofdoipmdajaa", sum := "a8d89b640448f436481654054f424c9e5319ff391676d8a2d27c0251a7bf9cef", func := "cohort/cohortlaw20.ReconStill", spec := "reconStill", unfollowed := true, recurses := true, apart := false }
def ReconStillSaid : Prop := reconStillRow.holds Try.pinned (OpenSpec.ofChange reconStillSpec)

/-- ITS FALSE NEIGHBOUR: 'it returns false'. Refute it at one input. -/
def reconStillWrong : ChangeSpec := { name := "reconStill", fn := fun _ => fun
  | [d] => { results := [.lit (.bool false)], args := [d] }
  | _ => none }
def ReconStillWrongFalsely : Prop := reconStillRow.holds Try.pinned (OpenSpec.ofChange reconStillWrong)

/- THE SECOND FORM. 'bulk': how many values and letters a reading holds, each counted each time it is reached (what is shared counts as often as it is met; a slice's spare places count too). A statement '..UptoSaid' is the law's where the arguments, and the package variables that the reading takes, are together of bulk at most 1048576: NARROWER than '..Said'. Prove '..Said' where nothing that the law and all that it calls make is longer than what came in: it says more and counts as full. Else prove '..UptoSaid'. A law counts once. -/
mutual
def uptoBulk {H : Type} : DataW H → Nat
  | .lit (.string bytes) => bytes.length + 1
  | .lit _ => 1
  | .nil => 1
  | .ptr d => uptoBulk d + 1
  | .slice elems spare => uptoBulkAll elems + uptoBulkAll spare + 1
  | .agg parts => uptoBulkAll parts + 1
  | .iface _ d => uptoBulk d + 1
  | .map entries => uptoBulkEntries entries + 1
  | .held _ => 1
def uptoBulkAll {H : Type} : List (DataW H) → Nat
  | [] => 0
  | d :: r => uptoBulk d + uptoBulkAll r
def uptoBulkEntries {H : Type} : List (Lit × DataW H) → Nat
  | [] => 0
  | x :: r => uptoBulkEntry x + uptoBulkEntries r
def uptoBulkEntry {H : Type} : Lit × DataW H → Nat
  | (.string bytes, d) => bytes.length + uptoBulk d + 1
  | (_, d) => uptoBulk d + 1
 end
def uptoSmall : (H : Type) → List (DataW H) → Bool := fun _ ds => decide (uptoBulkAll ds ≤ 1048576)
def OpenSpec.upto (s : _root_.Go.ChangeSpec) : _root_.Go.OpenSpec := { _root_.Go.OpenSpec.ofChange s with cond := some uptoSmall }

/-- 'cohortlaw20.ReconTells', WHERE WHAT IT READS IS OF BULK AT MOST 1048576: true; the input reads as it did. -/
def reconTellsUptoRow : OpenClaim := { program := "ytoiofdoipmdajaa", sum := "a8d89b640448f436481654054f424c9e5319ff391676d8a2d27c0251a7bf9cef", func := "cohort/cohortlaw20.ReconTells", spec := "reconTells", unfollowed := true, recurses := true, apart := false, narrowed := true }
def ReconTellsUptoSaid : Prop := reconTellsUptoRow.holds Try.pinned (OpenSpec.upto reconTellsSpec)

/-- 'cohortlaw20.ReconEach', WHERE WHAT IT READS IS OF BULK AT MOST 1048576: true; the input reads as it did. -/
def reconEachUptoRow : OpenClaim := { program := "ytoiofdoipmdajaa", sum := "a8d89b640448f436481654054f424c9e5319ff391676d8a2d27c0251a7bf9cef", func := "cohort/cohortlaw20.ReconEach", spec := "reconEach", unfollowed := true, recurses := true, apart := false, narrowed := true }
def ReconEachUptoSaid : Prop := reconEachUptoRow.holds Try.pinned (OpenSpec.upto reconEachSpec)

/-- 'cohortlaw20.ReconStill', WHERE WHAT IT READS IS OF BULK AT MOST 1048576: true; the input reads as it did. -/
def reconStillUptoRow : OpenClaim := { program := "ytoiofdoipmdajaa", sum := "a8d89b640448f436481654054f424c9e5319ff391676d8a2d27c0251a7bf9cef", func := "cohort/cohortlaw20.ReconStill", spec := "reconStill", unfollowed := true, recurses := true, apart := false, narrowed := true }
def ReconStillUptoSaid : Prop := reconStillUptoRow.holds Try.pinned (OpenSpec.upto reconStillSpec)

end Rows
end Go.Proofs.Ytoiofdoipmdajaa
