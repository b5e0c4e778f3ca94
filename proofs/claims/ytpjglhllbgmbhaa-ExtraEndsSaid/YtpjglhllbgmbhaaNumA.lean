
/- Contracts of package num's sums, products, quotients and parts, and of the document's own answers, over one translation. -/
import Derived.Test.YtpjglhllbgmbhaaRows
import Derived.Test.YtpjglhllbgmbhaaNumM
import Derived.WalkKit
import Derived.ProofKit
import Derived.OpenShut
import Derived.Lib.Hide
import Derived.Deep.QuietTactic
import Derived.BigQuiet
namespace Go.Proofs.Ytpjglhllbgmbhaa.NumA
open Go.ChangeShapes Go.WideShapes Go.ChangeAt Go.RowKit
open NumM

theorem ret_bool {p q : Bool} (h : p = q) : Ending.returned (.bool p) = .returned (.bool q) := by rw [h]
theorem ret_int {k : IntKind} {a b : Int} (h : a = b) : Ending.returned (.int k a) = .returned (.int k b) := by rw [h]
theorem ret_two {k l : IntKind} {a b c d : Int} (h : a = b) (h' : c = d) : Ending.returned (.tuple #[.int k a, .int l c]) = .returned (.tuple #[.int k b, .int l d]) := by rw [h, h']

theorem wrap_wr (x : Int) : wrap64 x = wr x := by unfold wrap64 wr; rfl

theorem productOver_zero (a b : Int) (w : World) (h : a = 0 ∨ b = 0) :
    Calls Try.prog 48 #[.int .i64 a, .int .i64 b] w fun e w' => e = .returned (.bool false) ∧ w = w' := by
  rcases Decidable.em (a = 0) with h0 | h0
  · subst h0
    go_enter Try.func48, Try.ntmps48
    go_wp2
    go_ret
    exact ⟨rfl, rfl⟩
  · obtain rfl : b = 0 := by omega
    have h1 : (a == 0) = false := by simpa using h0
    clear h
    go_enter Try.func48, Try.ntmps48
    go_wp2
    go_ret
    exact ⟨rfl, rfl⟩
theorem productOver_any (a b : Int) (w : World) (ha : -9223372036854775808 ≤ a) (ha' : a ≤ 9223372036854775807) (hb : -9223372036854775808 ≤ b) (hb' : b ≤ 9223372036854775807) :
    Calls Try.prog 48 #[.int .i64 a, .int .i64 b] w fun e w' => e = .returned (.bool (outB (a * b))) ∧ w = w' := by
  by_cases h0 : a = 0 ∨ b = 0
  · have e : outB (a * b) = false := by rcases h0 with h | h <;> subst h <;> simp <;> rfl
    rw [e]; exact productOver_zero a b w h0
  · have ha0 : ¬ a = 0 := fun h => h0 (.inl h)
    have hb0 : ¬ b = 0 := fun h => h0 (.inr h)
    clear h0
    have hA : (a == 0) = false := by simpa using ha0
    have hB : (b == 0) = false := by simpa using hb0
    clear ha0 hb0
    rcases Int.lt_or_gt_of_ne (show a ≠ 0 by simpa using hA) with h1 | h1 <;> rcases Int.lt_or_gt_of_ne (show b ≠ 0 by simpa using hB) with h2 | h2
    · go_enter Try.func48, Try.ntmps48
      go_wp2
      go_ret
      exact ⟨ret_bool (by rw [wrap_wr]; exact mul_nn' h1 h2), rfl⟩
    · go_enter Try.func48, Try.ntmps48
      go_wp2
      go_ret
      exact ⟨ret_bool (by rw [wrap_wr]; exact mul_np' h1 h2), rfl⟩
    · go_enter Try.func48, Try.ntmps48
      go_wp2
      go_ret
      exact ⟨ret_bool (by rw [wrap_wr]; exact mul_pn' h1 h2), rfl⟩
    · go_enter Try.func48, Try.ntmps48
      go_wp2
      go_ret
      exact ⟨ret_bool (mul_pp h1 h2), rfl⟩

theorem productOver_is (a b : Int) (w : World) (t : Bool) (ht : Hid (outB (a * b) = t)) (ha : -9223372036854775808 ≤ a) (ha' : a ≤ 9223372036854775807) (hb : -9223372036854775808 ≤ b) (hb' : b ≤ 9223372036854775807) :
    Calls Try.prog 48 #[.int .i64 a, .int .i64 b] w fun e w' => e = .returned (.bool t) ∧ w = w' := by
  have h := productOver_any a b w ha ha' hb hb'
  rw [ht.out] at h
  exact h

theorem val_no {x : Int} (h : outB x = false) : val x = x := by unfold val; rw [h]; rfl
theorem val_yes {x : Int} (h : outB x = true) : val x = 0 := by unfold val; rw [h]; rfl
theorem err_no {x : Int} (h : outB x = false) : err x = 0 := by unfold err; rw [h]; rfl
theorem err_yes {x : Int} (h : outB x = true) : err x = 11 := by unfold err; rw [h]; rfl

theorem mul_any (a b : Int) (w : World) (ha : -9223372036854775808 ≤ a) (ha' : a ≤ 9223372036854775807) (hb : -9223372036854775808 ≤ b) (hb' : b ≤ 9223372036854775807) :
    Calls Try.prog 44 #[.int .i64 a, .int .i64 b] w fun e w' => e = .returned (.tuple #[.int .i64 (val (a * b)), .int .i64 (err (a * b))]) ∧ w = w' := by
  rcases hc : outB (a * b) with _ | _
  · have EV := Lib.hid (val_no hc)
    have EE := Lib.hid (err_no hc)
    have EW := Lib.hid (wr_in hc)
    have H := Lib.hid hc; clear hc
    go_enter Try.func44, Try.ntmps44
    go_wp2_with (go_at_call 48; refine (productOver_is _ _ _ false H ha ha' hb hb').mono ?_; rintro e w' ⟨rfl, rfl⟩)
    go_ret2
    exact ⟨ret_two (by rw [wrap_wr, EW.out, EV.out]) EE.out.symm, rfl⟩
  · have EV := Lib.hid (val_yes hc)
    have EE := Lib.hid (err_yes hc)
    have H := Lib.hid hc; clear hc
    go_enter Try.func44, Try.ntmps44
    go_wp2_with (go_at_call 48; refine (productOver_is _ _ _ true H ha ha' hb hb').mono ?_; rintro e w' ⟨rfl, rfl⟩)
    go_ret2
    exact ⟨ret_two EV.out.symm EE.out.symm, rfl⟩

theorem up_low (a b : Int) (w : World) (hb : b < 1) :
    Calls Try.prog 45 #[.int .i64 a, .int .i64 b] w fun e w' => e = .returned (.tuple #[.int .i64 0, .int .i64 2]) ∧ w = w' := by
  go_enter Try.func45, Try.ntmps45
  go_wp2
  go_ret2
  exact ⟨rfl, rfl⟩
theorem refUp_low (a b : Int) (w : World) (hb : b < 1) :
    Calls Try.prog 47 #[.int .i64 a, .int .i64 b] w fun e w' => e = .returned (.tuple #[.int .i64 0, .int .i64 2]) ∧ w = w' := by
  go_enter Try.func47, Try.ntmps47
  go_wp2
  go_ret2
  exact ⟨rfl, rfl⟩
theorem up_any (a b : Int) (w : World) (hb : 1 ≤ b) (ha : -9223372036854775808 ≤ a) (ha' : a ≤ 9223372036854775807) :
    Calls Try.prog 45 #[.int .i64 a, .int .i64 b] w fun e w' => e = .returned (.tuple #[.int .i64 (upQ a b), .int .i64 0]) ∧ w = w' := by
  go_enter Try.func45, Try.ntmps45
  go_wp2
  · have h : 0 < a.tmod b := by assumption
    go_ret2
    exact ⟨ret_two (by rw [wrap_wr]; exact up_pos' hb ⟨ha, ha'⟩ h) rfl, rfl⟩
  · have h : ¬ 0 < a.tmod b := by omega
    go_ret2
    exact ⟨ret_two (up_neg hb h) rfl, rfl⟩
theorem refUp_any (a b : Int) (w : World) (hb : 1 ≤ b) (ha : -9223372036854775808 ≤ a) (ha' : a ≤ 9223372036854775807) :
    Calls Try.prog 47 #[.int .i64 a, .int .i64 b] w fun e w' => e = .returned (.tuple #[.int .i64 (upQ a b), .int .i64 0]) ∧ w = w' := by
  go_enter Try.func47, Try.ntmps47
  go_wp2
  · have h : 0 < a.tmod b := by assumption
    go_ret2
    exact ⟨ret_two (by rw [wrap_wr]; exact up_pos' hb ⟨ha, ha'⟩ h) rfl, rfl⟩
  · have h : ¬ 0 < a.tmod b := by omega
    go_ret2
    exact ⟨ret_two (up_neg hb h) rfl, rfl⟩

theorem refMul_zero (a b : Int) (w : World) (h : a = 0 ∨ b = 0) :
    Calls Try.prog 46 #[.int .i64 a, .int .i64 b] w fun e w' => e = .returned (.tuple #[.int .i64 0, .int .i64 0]) ∧ w = w' := by
  rcases Decidable.em (a = 0) with h0 | h0
  · subst h0
    go_enter Try.func46, Try.ntmps46
    go_wp2
    go_ret2
    exact ⟨rfl, rfl⟩
  · obtain rfl : b = 0 := by omega
    have h1 : (a == 0) = false := by simpa using h0
    clear h
    go_enter Try.func46, Try.ntmps46
    go_wp2
    go_ret2
    exact ⟨rfl, rfl⟩
theorem refMul_ends (a b : Int) (w : World) (h : (a = -1 ∧ b = -9223372036854775808) ∨ (b = -1 ∧ a = -9223372036854775808)) :
    Calls Try.prog 46 #[.int .i64 a, .int .i64 b] w fun e w' => e = .returned (.tuple #[.int .i64 0, .int .i64 11]) ∧ w = w' := by
  rcases h with ⟨rfl, rfl⟩ | ⟨rfl, rfl⟩
  · go_enter Try.func46, Try.ntmps46
    go_wp2
    go_ret2
    exact ⟨rfl, rfl⟩
  · go_enter Try.func46, Try.ntmps46
    go_wp2
    go_ret2
    exact ⟨rfl, rfl⟩
theorem refMul_rest (a b : Int) (w : World) (t : Bool) (hA : (a == 0) = false) (hB : (b == 0) = false) (h1 : (a == -1) = false) (h2 : (b == -1) = false) (ht : (wrap64 ((wrap64 (a * b)).tdiv b) != a) = t) :
    Calls Try.prog 46 #[.int .i64 a, .int .i64 b] w fun e w' => e = .returned (.tuple #[.int .i64 (bif t then 0 else wrap64 (a * b)), .int .i64 (bif t then 11 else 0)]) ∧ w = w' := by
  have hB0 : ¬ b = 0 := by simpa using hB
  cases t <;>
  · go_enter Try.func46, Try.ntmps46
    go_wp2
    go_ret2
    exact ⟨rfl, rfl⟩
theorem refMul_a (b : Int) (w : World) (hB : (b == 0) = false) (h1 : (b == -9223372036854775808) = false) (h2 : (b == -1) = false) (hb : -9223372036854775808 < b) (hb' : b ≤ 9223372036854775807) :
    Calls Try.prog 46 #[.int .i64 (-1), .int .i64 b] w fun e w' => e = .returned (.tuple #[.int .i64 (-b), .int .i64 0]) ∧ w = w' := by
  have hB0 : ¬ b = 0 := by simpa using hB
  have hw : (wrap64 (-1) != -1) = false := by rw [wrap_wr]; decide
  go_enter Try.func46, Try.ntmps46
  go_wp2
  go_ret2
  exact ⟨rfl, rfl⟩
theorem refMul_b (a : Int) (w : World) (hB : (a == 0) = false) (h1 : (a == -9223372036854775808) = false) (h2 : (a == -1) = false) (hb : -9223372036854775808 < a) (hb' : a ≤ 9223372036854775807) :
    Calls Try.prog 46 #[.int .i64 a, .int .i64 (-1)] w fun e w' => e = .returned (.tuple #[.int .i64 (-a), .int .i64 0]) ∧ w = w' := by
  go_enter Try.func46, Try.ntmps46
  go_wp2
  go_ret2
  exact ⟨rfl, rfl⟩
theorem refMul_ab (w : World) :
    Calls Try.prog 46 #[.int .i64 (-1), .int .i64 (-1)] w fun e w' => e = .returned (.tuple #[.int .i64 1, .int .i64 0]) ∧ w = w' := by
  go_enter Try.func46, Try.ntmps46
  go_wp2
  go_ret2
  exact ⟨rfl, rfl⟩
end Go.Proofs.Ytpjglhllbgmbhaa.NumA
