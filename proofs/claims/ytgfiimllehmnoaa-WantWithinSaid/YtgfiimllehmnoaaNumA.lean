
/- Contracts of package num's sums, products, quotients and parts, and of the document's own answers, over one translation. -/
import Derived.Test.YtgfiimllehmnoaaRows
import Derived.Test.YtgfiimllehmnoaaNumM
import Derived.WalkKit
import Derived.ProofKit
import Derived.OpenShut
import Derived.Lib.Hide
import Derived.Deep.QuietTactic
import Derived.BigQuiet
namespace Go.Proofs.Ytgfiimllehmnoaa.NumA
open Go.ChangeShapes Go.WideShapes Go.ChangeAt Go.RowKit
open NumM

theorem ret_bool {p q : Bool} (h : p = q) : Ending.returned (.bool p) = .returned (.bool q) := by rw [h]
theorem ret_int {k : IntKind} {a b : Int} (h : a = b) : Ending.returned (.int k a) = .returned (.int k b) := by rw [h]
theorem ret_two {k l : IntKind} {a b c d : Int} (h : a = b) (h' : c = d) : Ending.returned (.tuple #[.int k a, .int l c]) = .returned (.tuple #[.int k b, .int l d]) := by rw [h, h']

theorem wrap_wr (x : Int) : wrap64 x = wr x := by unfold wrap64 wr; rfl

theorem sumOver_any (a b : Int) (w : World) (ha : -9223372036854775808 ≤ a) (ha' : a ≤ 9223372036854775807) (hb : -9223372036854775808 ≤ b) (hb' : b ≤ 9223372036854775807) :
    Calls Try.prog 24 #[.int .i64 a, .int .i64 b] w fun e w' => e = .returned (.bool (outB (a + b))) ∧ w = w' := by
  by_cases h : 0 < b
  · go_enter Try.func24, Try.ntmps24
    go_wp2
    go_ret
    exact ⟨ret_bool (sum_pos h ha), rfl⟩
  · go_enter Try.func24, Try.ntmps24
    go_wp2
    go_ret
    exact ⟨ret_bool (sum_neg (by omega) ha'), rfl⟩
theorem sumOver_is (a b : Int) (w : World) (t : Bool) (ht : Hid (outB (a + b) = t)) (ha : -9223372036854775808 ≤ a) (ha' : a ≤ 9223372036854775807) (hb : -9223372036854775808 ≤ b) (hb' : b ≤ 9223372036854775807) :
    Calls Try.prog 24 #[.int .i64 a, .int .i64 b] w fun e w' => e = .returned (.bool t) ∧ w = w' := by
  have h := sumOver_any a b w ha ha' hb hb'
  rw [ht.out] at h
  exact h

theorem add_any (a b : Int) (w : World) (ha : -9223372036854775808 ≤ a) (ha' : a ≤ 9223372036854775807) (hb : -9223372036854775808 ≤ b) (hb' : b ≤ 9223372036854775807) :
    Calls Try.prog 19 #[.int .i64 a, .int .i64 b] w fun e w' => e = .returned (.tuple #[.int .i64 (val (a + b)), .int .i64 (err (a + b))]) ∧ w = w' := by
  rcases hc : outB (a + b) with _ | _
  · have hb1 := outB_no hc
    have ev : val (a + b) = a + b := by unfold val; rw [hc]; rfl
    have ee : err (a + b) = 0 := by unfold err; rw [hc]; rfl
    have H := Lib.hid hc; clear hc
    have EV := Lib.hid ev; clear ev
    have EE := Lib.hid ee; clear ee
    obtain ⟨h1, h2⟩ := hb1
    go_enter Try.func19, Try.ntmps19
    go_wp2_with (go_at_call 24; refine (sumOver_is _ _ _ false H ha ha' hb hb').mono ?_; rintro e w' ⟨rfl, rfl⟩)
    go_ret2
    exact ⟨ret_two EV.out.symm EE.out.symm, rfl⟩
  · have ev : val (a + b) = 0 := by unfold val; rw [hc]; rfl
    have ee : err (a + b) = 11 := by unfold err; rw [hc]; rfl
    have H := Lib.hid hc; clear hc
    have EV := Lib.hid ev; clear ev
    have EE := Lib.hid ee; clear ee
    go_enter Try.func19, Try.ntmps19
    go_wp2_with (go_at_call 24; refine (sumOver_is _ _ _ true H ha ha' hb hb').mono ?_; rintro e w' ⟨rfl, rfl⟩)
    go_ret2
    exact ⟨ret_two EV.out.symm EE.out.symm, rfl⟩

theorem productOver_zero (a b : Int) (w : World) (h : a = 0 ∨ b = 0) :
    Calls Try.prog 25 #[.int .i64 a, .int .i64 b] w fun e w' => e = .returned (.bool false) ∧ w = w' := by
  rcases Decidable.em (a = 0) with h0 | h0
  · subst h0
    go_enter Try.func25, Try.ntmps25
    go_wp2
    go_ret
    exact ⟨rfl, rfl⟩
  · obtain rfl : b = 0 := by omega
    have h1 : (a == 0) = false := by simpa using h0
    clear h
    go_enter Try.func25, Try.ntmps25
    go_wp2
    go_ret
    exact ⟨rfl, rfl⟩
theorem productOver_any (a b : Int) (w : World) (ha : -9223372036854775808 ≤ a) (ha' : a ≤ 9223372036854775807) (hb : -9223372036854775808 ≤ b) (hb' : b ≤ 9223372036854775807) :
    Calls Try.prog 25 #[.int .i64 a, .int .i64 b] w fun e w' => e = .returned (.bool (outB (a * b))) ∧ w = w' := by
  by_cases h0 : a = 0 ∨ b = 0
  · have e : outB (a * b) = false := by rcases h0 with h | h <;> subst h <;> simp <;> rfl
    rw [e]; exact productOver_zero a b w h0
  · have ha0 : ¬ a = 0 := fun h => h0 (.inl h)
    have hb0 : ¬ b = 0 := fun h => h0 (.inr h)
    clear h0
    have hA : (a == 0) = false := by simpa using ha0
    have hB : (b == 0) = false := by simpa using hb0
    clear ha0 hb0
    rcases Int.lt_or_gt_of_ne (show a ≠ 0 by simpa using hA) with h1 | h1 <;> rcases Int.lt_or_gt_of_ne (show b ≠ 0 by simpa using hB) with h2 | h2
    · go_enter Try.func25, Try.ntmps25
      go_wp2
      go_ret
      exact ⟨ret_bool (by rw [wrap_wr]; exact mul_nn' h1 h2), rfl⟩
    · go_enter Try.func25, Try.ntmps25
      go_wp2
      go_ret
      exact ⟨ret_bool (by rw [wrap_wr]; exact mul_np' h1 h2), rfl⟩
    · go_enter Try.func25, Try.ntmps25
      go_wp2
      go_ret
      exact ⟨ret_bool (by rw [wrap_wr]; exact mul_pn' h1 h2), rfl⟩
    · go_enter Try.func25, Try.ntmps25
      go_wp2
      go_ret
      exact ⟨ret_bool (mul_pp h1 h2), rfl⟩

theorem productOver_is (a b : Int) (w : World) (t : Bool) (ht : Hid (outB (a * b) = t)) (ha : -9223372036854775808 ≤ a) (ha' : a ≤ 9223372036854775807) (hb : -9223372036854775808 ≤ b) (hb' : b ≤ 9223372036854775807) :
    Calls Try.prog 25 #[.int .i64 a, .int .i64 b] w fun e w' => e = .returned (.bool t) ∧ w = w' := by
  have h := productOver_any a b w ha ha' hb hb'
  rw [ht.out] at h
  exact h

theorem val_no {x : Int} (h : outB x = false) : val x = x := by unfold val; rw [h]; rfl
theorem val_yes {x : Int} (h : outB x = true) : val x = 0 := by unfold val; rw [h]; rfl
theorem err_no {x : Int} (h : outB x = false) : err x = 0 := by unfold err; rw [h]; rfl
theorem err_yes {x : Int} (h : outB x = true) : err x = 11 := by unfold err; rw [h]; rfl

theorem mul_any (a b : Int) (w : World) (ha : -9223372036854775808 ≤ a) (ha' : a ≤ 9223372036854775807) (hb : -9223372036854775808 ≤ b) (hb' : b ≤ 9223372036854775807) :
    Calls Try.prog 20 #[.int .i64 a, .int .i64 b] w fun e w' => e = .returned (.tuple #[.int .i64 (val (a * b)), .int .i64 (err (a * b))]) ∧ w = w' := by
  rcases hc : outB (a * b) with _ | _
  · have EV := Lib.hid (val_no hc)
    have EE := Lib.hid (err_no hc)
    have EW := Lib.hid (wr_in hc)
    have H := Lib.hid hc; clear hc
    go_enter Try.func20, Try.ntmps20
    go_wp2_with (go_at_call 25; refine (productOver_is _ _ _ false H ha ha' hb hb').mono ?_; rintro e w' ⟨rfl, rfl⟩)
    go_ret2
    exact ⟨ret_two (by rw [wrap_wr, EW.out, EV.out]) EE.out.symm, rfl⟩
  · have EV := Lib.hid (val_yes hc)
    have EE := Lib.hid (err_yes hc)
    have H := Lib.hid hc; clear hc
    go_enter Try.func20, Try.ntmps20
    go_wp2_with (go_at_call 25; refine (productOver_is _ _ _ true H ha ha' hb hb').mono ?_; rintro e w' ⟨rfl, rfl⟩)
    go_ret2
    exact ⟨ret_two EV.out.symm EE.out.symm, rfl⟩

theorem up_low (a b : Int) (w : World) (hb : b < 1) :
    Calls Try.prog 21 #[.int .i64 a, .int .i64 b] w fun e w' => e = .returned (.tuple #[.int .i64 0, .int .i64 2]) ∧ w = w' := by
  go_enter Try.func21, Try.ntmps21
  go_wp2
  go_ret2
  exact ⟨rfl, rfl⟩
theorem up_any (a b : Int) (w : World) (hb : 1 ≤ b) (ha : -9223372036854775808 ≤ a) (ha' : a ≤ 9223372036854775807) :
    Calls Try.prog 21 #[.int .i64 a, .int .i64 b] w fun e w' => e = .returned (.tuple #[.int .i64 (upQ a b), .int .i64 0]) ∧ w = w' := by
  go_enter Try.func21, Try.ntmps21
  go_wp2
  · have h : 0 < a.tmod b := by assumption
    go_ret2
    exact ⟨ret_two (by rw [wrap_wr]; exact up_pos' hb ⟨ha, ha'⟩ h) rfl, rfl⟩
  · have h : ¬ 0 < a.tmod b := by omega
    go_ret2
    exact ⟨ret_two (up_neg hb h) rfl, rfl⟩
end Go.Proofs.Ytgfiimllehmnoaa.NumA
