
/- Contracts of the document's product, of parts and of clamped numbers. -/
import Derived.Test.YtpjglhllbgmbhaaNumA
namespace Go.Proofs.Ytpjglhllbgmbhaa.NumA
open Go.ChangeShapes Go.WideShapes Go.ChangeAt Go.RowKit
open NumM

theorem eqf {a b : Int} (h : ¬ a = b) : (a == b) = false := by simpa using h

theorem refMul_any (a b : Int) (w : World) (ha : -9223372036854775808 ≤ a) (ha' : a ≤ 9223372036854775807) (hb : -9223372036854775808 ≤ b) (hb' : b ≤ 9223372036854775807) :
    Calls Try.prog 46 #[.int .i64 a, .int .i64 b] w fun e w' => e = .returned (.tuple #[.int .i64 (val (a * b)), .int .i64 (err (a * b))]) ∧ w = w' := by
  by_cases h0 : a = 0 ∨ b = 0
  · have e : outB (a * b) = false := by rcases h0 with h | h <;> subst h <;> simp <;> rfl
    have e0 : a * b = 0 := by rcases h0 with h | h <;> subst h <;> simp
    rw [val_no e, err_no e, e0]; exact refMul_zero a b w h0
  · have hA : ¬ a = 0 := fun h => h0 (.inl h)
    have hB : ¬ b = 0 := fun h => h0 (.inr h)
    by_cases he : (a = -1 ∧ b = -9223372036854775808) ∨ (b = -1 ∧ a = -9223372036854775808)
    · have e : outB (a * b) = true := by rcases he with ⟨rfl, rfl⟩ | ⟨rfl, rfl⟩ <;> rfl
      rw [val_yes e, err_yes e]; exact refMul_ends a b w he
    · by_cases h1 : a = -1
      · subst h1
        have e1 : -1 * b = -b := by omega
        have e : outB (-1 * b) = false := outB_of_in (by omega)
        rw [val_no e, err_no e, e1]
        by_cases h2 : b = -1
        · subst h2; exact refMul_ab w
        · exact refMul_a b w (eqf hB) (eqf (by omega)) (eqf h2) (by omega) hb'
      · by_cases h2 : b = -1
        · subst h2
          have e1 : a * -1 = -a := by omega
          have e : outB (a * -1) = false := outB_of_in (by omega)
          rw [val_no e, err_no e, e1]
          exact refMul_b a w (eqf hA) (eqf (by omega)) (eqf h1) (by omega) ha'
        · rcases hc : outB (a * b) with _ | _
          · rw [val_no hc, err_no hc]
            have h := refMul_rest a b w false (eqf hA) (eqf hB) (eqf h1) (eqf h2) (by rw [wrap_wr, wrap_wr]; exact test_no hB ⟨hb, hb'⟩ h2 hc)
            rw [wrap_wr, wr_in hc] at h
            exact h
          · rw [val_yes hc, err_yes hc]
            exact refMul_rest a b w true (eqf hA) (eqf hB) (eqf h1) (eqf h2) (by rw [wrap_wr, wrap_wr]; exact test_yes hB ⟨hb, hb'⟩ h2 hc)

/-- what Part tells, and its error -/
def partV (n p : Int) : Int := if p < 0 ∨ 1000 < p ∨ n < 0 then 0 else if outB (n * p) = true then 0 else upQ (n * p) 100
def partE (n p : Int) : Int := if p < 0 ∨ 1000 < p ∨ n < 0 then 2 else err (n * p)

theorem mul_is (a b v f : Int) (w : World) (hv : Hid (val (a * b) = v ∧ err (a * b) = f)) (ha : -9223372036854775808 ≤ a) (ha' : a ≤ 9223372036854775807) (hb : -9223372036854775808 ≤ b) (hb' : b ≤ 9223372036854775807) :
    Calls Try.prog 44 #[.int .i64 a, .int .i64 b] w fun e w' => e = .returned (.tuple #[.int .i64 v, .int .i64 f]) ∧ w = w' := by
  have h := mul_any a b w ha ha' hb hb'
  rw [hv.out.1, hv.out.2] at h
  exact h
theorem refMul_is (a b v f : Int) (w : World) (hv : Hid (val (a * b) = v ∧ err (a * b) = f)) (ha : -9223372036854775808 ≤ a) (ha' : a ≤ 9223372036854775807) (hb : -9223372036854775808 ≤ b) (hb' : b ≤ 9223372036854775807) :
    Calls Try.prog 46 #[.int .i64 a, .int .i64 b] w fun e w' => e = .returned (.tuple #[.int .i64 v, .int .i64 f]) ∧ w = w' := by
  have h := refMul_any a b w ha ha' hb hb'
  rw [hv.out.1, hv.out.2] at h
  exact h

theorem part_low (n p : Int) (w : World) (h : p < 0 ∨ 1000 < p ∨ n < 0) :
    Calls Try.prog 40 #[.int .i64 n, .int .i64 p] w fun e w' => e = .returned (.tuple #[.int .i64 0, .int .i64 2]) ∧ w = w' := by
  by_cases h1 : p < 0
  · clear h
    go_enter Try.func40, Try.ntmps40
    go_wp2
    go_ret2
    exact ⟨rfl, rfl⟩
  · by_cases h2 : 1000 < p
    · clear h
      go_enter Try.func40, Try.ntmps40
      go_wp2
      go_ret2
      exact ⟨rfl, rfl⟩
    · have h3 : n < 0 := by omega
      clear h
      go_enter Try.func40, Try.ntmps40
      go_wp2
      go_ret2
      exact ⟨rfl, rfl⟩
theorem part_any (n p : Int) (w : World) (ha : -9223372036854775808 ≤ n) (ha' : n ≤ 9223372036854775807) :
    Calls Try.prog 40 #[.int .i64 n, .int .i64 p] w fun e w' => e = .returned (.tuple #[.int .i64 (partV n p), .int .i64 (partE n p)]) ∧ w = w' := by
  by_cases h : p < 0 ∨ 1000 < p ∨ n < 0
  · unfold partV partE; rw [if_pos h, if_pos h]; exact part_low n p w h
  · have EV : Hid (partV n p = if outB (n * p) = true then 0 else upQ (n * p) 100) := by unfold partV; rw [if_neg h]; exact Lib.hid rfl
    have EE : Hid (partE n p = err (n * p)) := by unfold partE; rw [if_neg h]; exact Lib.hid rfl
    have h1 : 0 ≤ p := by omega
    have h2 : p ≤ 1000 := by omega
    have h3 : 0 ≤ n := by omega
    clear h
    rcases hc : outB (n * p) with _ | _
    · have H : Hid (val (n * p) = n * p ∧ err (n * p) = 0) := Lib.hid ⟨val_no hc, err_no hc⟩
      have hh := outB_no hc
      have HC := Lib.hid hc; clear hc
      have HH := Lib.hid hh; clear hh
      go_enter Try.func40, Try.ntmps40
      go_wp2_with (first | (go_at_call 44; refine (mul_is _ _ _ _ _ H ha ha' (by omega) (by omega)).mono ?_; rintro e w' ⟨rfl, rfl⟩) | (go_at_call 45; refine (up_any _ _ _ (by omega) HH.out.1 HH.out.2).mono ?_; rintro e w' ⟨rfl, rfl⟩))
      go_ret2
      exact ⟨ret_two (by rw [EV.out, HC.out]; rfl) (by rw [EE.out, H.out.2]), rfl⟩
    · have H : Hid (val (n * p) = 0 ∧ err (n * p) = 11) := Lib.hid ⟨val_yes hc, err_yes hc⟩
      have HC := Lib.hid hc; clear hc
      go_enter Try.func40, Try.ntmps40
      go_wp2_with (first | (go_at_call 44; refine (mul_is _ _ _ _ _ H ha ha' (by omega) (by omega)).mono ?_; rintro e w' ⟨rfl, rfl⟩))
      go_ret2
      exact ⟨ret_two (by rw [EV.out, HC.out]; rfl) (by rw [EE.out, H.out.2]), rfl⟩

theorem refPart_low (n p : Int) (w : World) (h : p < 0 ∨ 1000 < p ∨ n < 0) :
    Calls Try.prog 42 #[.int .i64 n, .int .i64 p] w fun e w' => e = .returned (.tuple #[.int .i64 0, .int .i64 2]) ∧ w = w' := by
  by_cases h1 : p < 0
  · clear h
    go_enter Try.func42, Try.ntmps42
    go_wp2
    go_ret2
    exact ⟨rfl, rfl⟩
  · by_cases h2 : 1000 < p
    · clear h
      go_enter Try.func42, Try.ntmps42
      go_wp2
      go_ret2
      exact ⟨rfl, rfl⟩
    · have h3 : n < 0 := by omega
      clear h
      go_enter Try.func42, Try.ntmps42
      go_wp2
      go_ret2
      exact ⟨rfl, rfl⟩
theorem refPart_any (n p : Int) (w : World) (ha : -9223372036854775808 ≤ n) (ha' : n ≤ 9223372036854775807) :
    Calls Try.prog 42 #[.int .i64 n, .int .i64 p] w fun e w' => e = .returned (.tuple #[.int .i64 (partV n p), .int .i64 (partE n p)]) ∧ w = w' := by
  by_cases h : p < 0 ∨ 1000 < p ∨ n < 0
  · unfold partV partE; rw [if_pos h, if_pos h]; exact refPart_low n p w h
  · have EV : Hid (partV n p = if outB (n * p) = true then 0 else upQ (n * p) 100) := by unfold partV; rw [if_neg h]; exact Lib.hid rfl
    have EE : Hid (partE n p = err (n * p)) := by unfold partE; rw [if_neg h]; exact Lib.hid rfl
    have h1 : 0 ≤ p := by omega
    have h2 : p ≤ 1000 := by omega
    have h3 : 0 ≤ n := by omega
    clear h
    rcases hc : outB (n * p) with _ | _
    · have H : Hid (val (n * p) = n * p ∧ err (n * p) = 0) := Lib.hid ⟨val_no hc, err_no hc⟩
      have hh := outB_no hc
      have HC := Lib.hid hc; clear hc
      have HH := Lib.hid hh; clear hh
      go_enter Try.func42, Try.ntmps42
      go_wp2_with (first | (go_at_call 46; refine (refMul_is _ _ _ _ _ H ha ha' (by omega) (by omega)).mono ?_; rintro e w' ⟨rfl, rfl⟩) | (go_at_call 47; refine (refUp_any _ _ _ (by omega) HH.out.1 HH.out.2).mono ?_; rintro e w' ⟨rfl, rfl⟩))
      go_ret2
      exact ⟨ret_two (by rw [EV.out, HC.out]; rfl) (by rw [EE.out, H.out.2]), rfl⟩
    · have H : Hid (val (n * p) = 0 ∧ err (n * p) = 11) := Lib.hid ⟨val_yes hc, err_yes hc⟩
      have HC := Lib.hid hc; clear hc
      go_enter Try.func42, Try.ntmps42
      go_wp2_with (first | (go_at_call 46; refine (refMul_is _ _ _ _ _ H ha ha' (by omega) (by omega)).mono ?_; rintro e w' ⟨rfl, rfl⟩))
      go_ret2
      exact ⟨ret_two (by rw [EV.out, HC.out]; rfl) (by rw [EE.out, H.out.2]), rfl⟩

def clampV (n low high : Int) : Int := if n < low ∨ high < low then low else if high < n then high else n
end Go.Proofs.Ytpjglhllbgmbhaa.NumA
