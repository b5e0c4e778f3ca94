
/- Contracts of package num's sums, products, quotients and parts, and of the document's own answers, over one translation. -/
import Derived.Test.YtpdaggkhnmiioaaDoorRows
import Derived.Test.YtpdaggkhnmiioaaDoorNumM
import Derived.WalkKit
import Derived.ProofKit
import Derived.OpenShut
import Derived.Lib.Hide
import Derived.Deep.QuietTactic
import Derived.BigQuiet
namespace Go.Proofs.YtpdaggkhnmiioaaDoor.NumA
open Go.ChangeShapes Go.WideShapes Go.ChangeAt Go.RowKit
open NumM

theorem ret_bool {p q : Bool} (h : p = q) : Ending.returned (.bool p) = .returned (.bool q) := by rw [h]
theorem ret_int {k : IntKind} {a b : Int} (h : a = b) : Ending.returned (.int k a) = .returned (.int k b) := by rw [h]
theorem ret_two {k l : IntKind} {a b c d : Int} (h : a = b) (h' : c = d) : Ending.returned (.tuple #[.int k a, .int l c]) = .returned (.tuple #[.int k b, .int l d]) := by rw [h, h']

theorem wrap_wr (x : Int) : wrap64 x = wr x := by unfold wrap64 wr; rfl

theorem val_no {x : Int} (h : outB x = false) : val x = x := by unfold val; rw [h]; rfl
theorem val_yes {x : Int} (h : outB x = true) : val x = 0 := by unfold val; rw [h]; rfl
theorem err_no {x : Int} (h : outB x = false) : err x = 0 := by unfold err; rw [h]; rfl
theorem err_yes {x : Int} (h : outB x = true) : err x = 11 := by unfold err; rw [h]; rfl

end Go.Proofs.YtpdaggkhnmiioaaDoor.NumA
