
/- Contracts of package num's sums, products, quotients and parts, and of the document's own answers, over one translation. -/
import Derived.Test.YtbjkcnfkbfhibaaRows
import Derived.Test.YtbjkcnfkbfhibaaNumM
import Derived.WalkKit
import Derived.ProofKit
import Derived.OpenShut
import Derived.Lib.Hide
import Derived.Deep.QuietTactic
import Derived.BigQuiet
namespace Go.Proofs.Ytbjkcnfkbfhibaa.NumA
open Go.ChangeShapes Go.WideShapes Go.ChangeAt Go.RowKit
open NumM

theorem ret_bool {p q : Bool} (h : p = q) : Ending.returned (.bool p) = .returned (.bool q) := by rw [h]
theorem ret_int {k : IntKind} {a b : Int} (h : a = b) : Ending.returned (.int k a) = .returned (.int k b) := by rw [h]
theorem ret_two {k l : IntKind} {a b c d : Int} (h : a = b) (h' : c = d) : Ending.returned (.tuple #[.int k a, .int l c]) = .returned (.tuple #[.int k b, .int l d]) := by rw [h, h']

theorem wrap_wr (x : Int) : wrap64 x = wr x := by unfold wrap64 wr; rfl

theorem sumOver_any (a b : Int) (w : World) (ha : -9223372036854775808 ≤ a) (ha' : a ≤ 9223372036854775807) (hb : -9223372036854775808 ≤ b) (hb' : b ≤ 9223372036854775807) :
    Calls Try.prog 18 #[.int .i64 a, .int .i64 b] w fun e w' => e = .returned (.bool (outB (a + b))) ∧ w = w' := by
  by_cases h : 0 < b
  · go_enter Try.func18, Try.ntmps18
    go_wp2
    go_ret
    exact ⟨ret_bool (sum_pos h ha), rfl⟩
  · go_enter Try.func18, Try.ntmps18
    go_wp2
    go_ret
    exact ⟨ret_bool (sum_neg (by omega) ha'), rfl⟩
theorem sumOver_is (a b : Int) (w : World) (t : Bool) (ht : Hid (outB (a + b) = t)) (ha : -9223372036854775808 ≤ a) (ha' : a ≤ 9223372036854775807) (hb : -9223372036854775808 ≤ b) (hb' : b ≤ 9223372036854775807) :
    Calls Try.prog 18 #[.int .i64 a, .int .i64 b] w fun e w' => e = .returned (.bool t) ∧ w = w' := by
  have h := sumOver_any a b w ha ha' hb hb'
  rw [ht.out] at h
  exact h

theorem add_any (a b : Int) (w : World) (ha : -9223372036854775808 ≤ a) (ha' : a ≤ 9223372036854775807) (hb : -9223372036854775808 ≤ b) (hb' : b ≤ 9223372036854775807) :
    Calls Try.prog 17 #[.int .i64 a, .int .i64 b] w fun e w' => e = .returned (.tuple #[.int .i64 (val (a + b)), .int .i64 (err (a + b))]) ∧ w = w' := by
  rcases hc : outB (a + b) with _ | _
  · have hb1 := outB_no hc
    have ev : val (a + b) = a + b := by unfold val; rw [hc]; rfl
    have ee : err (a + b) = 0 := by unfold err; rw [hc]; rfl
    have H := Lib.hid hc; clear hc
    have EV := Lib.hid ev; clear ev
    have EE := Lib.hid ee; clear ee
    obtain ⟨h1, h2⟩ := hb1
    go_enter Try.func17, Try.ntmps17
    go_wp2_with (go_at_call 18; refine (sumOver_is _ _ _ false H ha ha' hb hb').mono ?_; rintro e w' ⟨rfl, rfl⟩)
    go_ret2
    exact ⟨ret_two EV.out.symm EE.out.symm, rfl⟩
  · have ev : val (a + b) = 0 := by unfold val; rw [hc]; rfl
    have ee : err (a + b) = 11 := by unfold err; rw [hc]; rfl
    have H := Lib.hid hc; clear hc
    have EV := Lib.hid ev; clear ev
    have EE := Lib.hid ee; clear ee
    go_enter Try.func17, Try.ntmps17
    go_wp2_with (go_at_call 18; refine (sumOver_is _ _ _ true H ha ha' hb hb').mono ?_; rintro e w' ⟨rfl, rfl⟩)
    go_ret2
    exact ⟨ret_two EV.out.symm EE.out.symm, rfl⟩

theorem val_no {x : Int} (h : outB x = false) : val x = x := by unfold val; rw [h]; rfl
theorem val_yes {x : Int} (h : outB x = true) : val x = 0 := by unfold val; rw [h]; rfl
theorem err_no {x : Int} (h : outB x = false) : err x = 0 := by unfold err; rw [h]; rfl
theorem err_yes {x : Int} (h : outB x = true) : err x = 11 := by unfold err; rw [h]; rfl

end Go.Proofs.Ytbjkcnfkbfhibaa.NumA
