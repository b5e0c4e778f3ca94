
/- Contracts of layer 2: whether a text is a name, how two stand; the program's and the document's. -/
import Derived.Test.YtkoifdbbomipbaaRows
import Derived.Test.YtkoifdbbomipbaaMem
import Derived.Lib.OthersKept
import Derived.WalkSpells
namespace Go.Proofs.Ytkoifdbbomipbaa.Name
open Go.ChangeShapes Go.WideShapes Go.ChangeAt Go.RowKit
open Mem

theorem ret_bool {p q : Bool} (h : p = q) : Ending.returned (.bool p) = .returned (.bool q) := by rw [h]
theorem ret_int {p q : Int} (h : p = q) : Ending.returned (.int .i64 p) = .returned (.int .i64 q) := by rw [h]
/-! How two texts stand -/
theorem less_irrefl : ∀ x : List UInt8, Op.bytesLess x x = false
  | [] => rfl
  | a :: x => by simp [Op.bytesLess, less_irrefl x]
theorem less_tri : ∀ x y : List UInt8, Op.bytesLess x y = false → Op.bytesLess y x = false → x = y
  | [], [], _, _ => rfl
  | [], _ :: _, h, _ => by simp [Op.bytesLess] at h
  | _ :: _, [], _, h => by simp [Op.bytesLess] at h
  | a :: x, b :: y, h1, h2 => by
    simp only [Op.bytesLess, Bool.or_eq_false_iff, Bool.and_eq_false_iff, decide_eq_false_iff_not, beq_eq_false_iff_ne, ne_eq] at h1 h2
    have e : a = b := UInt8.toNat_inj.1 (by
      have p := h1.1; have q := h2.1
      rw [UInt8.lt_iff_toNat_lt] at p q; omega)
    subst e
    rw [less_tri x y (by simpa using h1.2) (by simpa using h2.2)]
theorem less_trans : ∀ x y z : List UInt8, Op.bytesLess x y = true → Op.bytesLess y z = true → Op.bytesLess x z = true
  | x, [], _, h, _ => by cases x <;> simp [Op.bytesLess] at h
  | _, _ :: _, [], _, h => by simp [Op.bytesLess] at h
  | [], _ :: _, _ :: _, _, _ => rfl
  | a :: x, b :: y, c :: z, h1, h2 => by
    simp only [Op.bytesLess, Bool.or_eq_true, Bool.and_eq_true, decide_eq_true_eq, beq_iff_eq] at h1 h2 ⊢
    rcases h1 with h1 | ⟨rfl, h1⟩
    · rcases h2 with h2 | ⟨rfl, h2⟩
      · left; rw [UInt8.lt_iff_toNat_lt] at *; omega
      · left; exact h1
    · rcases h2 with h2 | ⟨rfl, h2⟩
      · left; exact h2
      · right; exact ⟨rfl, less_trans x y z h1 h2⟩
def cmpS (a b : List UInt8) : Int := if Op.bytesLess a b = true then -1 else if Op.bytesLess b a = true then 1 else 0
def cmpV (a b : ByteArray) : Int := if a.size < b.size then -1 else if b.size < a.size then 1 else cmpS a.toList b.toList
theorem cmpS_bd (a b : List UInt8) : cmpS a b = -1 ∨ cmpS a b = 0 ∨ cmpS a b = 1 := by
  unfold cmpS; split
  · exact .inl rfl
  · split
    · exact .inr (.inr rfl)
    · exact .inr (.inl rfl)
theorem less_asymm {x y : List UInt8} (h : Op.bytesLess x y = true) : Op.bytesLess y x = false := by
  cases e : Op.bytesLess y x with
  | false => rfl
  | true => have := less_trans x y x h e; rw [less_irrefl] at this; cases this
theorem cmpS_swap (a b : List UInt8) : cmpS b a = - cmpS a b := by
  unfold cmpS
  cases h1 : Op.bytesLess a b <;> cases h2 : Op.bytesLess b a <;> simp_all
  have := less_asymm h1; rw [h2] at this; cases this
theorem cmpS_zero {a b : List UInt8} : cmpS a b = 0 ↔ a = b := by
  unfold cmpS
  constructor
  · intro h
    cases h1 : Op.bytesLess a b with
    | true => rw [h1] at h; simp at h
    | false =>
      cases h2 : Op.bytesLess b a with
      | true => rw [h1, h2] at h; simp at h
      | false => exact less_tri a b h1 h2
  · rintro rfl; simp [less_irrefl]
theorem cmpS_neg {a b : List UInt8} : cmpS a b < 0 ↔ Op.bytesLess a b = true := by
  unfold cmpS
  cases h1 : Op.bytesLess a b <;> cases h2 : Op.bytesLess b a <;> simp
theorem cmpS_trans {a b c : List UInt8} (h1 : cmpS a b ≤ 0) (h2 : cmpS b c ≤ 0) : cmpS a c ≤ 0 ∧ (cmpS a b < 0 → cmpS a c < 0) ∧ (cmpS b c < 0 → cmpS a c < 0) := by
  by_cases e1 : a = b
  · subst e1; refine ⟨h2, ?_, id⟩
    intro h; rw [(cmpS_zero (a := a) (b := a)).2 rfl] at h; omega
  · by_cases e2 : b = c
    · subst e2; refine ⟨h1, id, ?_⟩
      intro h; rw [(cmpS_zero (a := b) (b := b)).2 rfl] at h; omega
    · have n1 : cmpS a b < 0 := by have : cmpS a b ≠ 0 := fun h => e1 (cmpS_zero.1 h); omega
      have n2 : cmpS b c < 0 := by have : cmpS b c ≠ 0 := fun h => e2 (cmpS_zero.1 h); omega
      have := cmpS_neg.2 (less_trans a b c (cmpS_neg.1 n1) (cmpS_neg.1 n2))
      exact ⟨by omega, fun _ => this, fun _ => this⟩
theorem size_list (a : ByteArray) : a.toList.length = a.size := by rw [ByteArray.toList_eq]; simp
theorem cmpV_bd (a b : ByteArray) : cmpV a b = -1 ∨ cmpV a b = 0 ∨ cmpV a b = 1 := by
  unfold cmpV; split
  · exact .inl rfl
  · split
    · exact .inr (.inr rfl)
    · exact cmpS_bd _ _
theorem cmpV_swap (a b : ByteArray) : cmpV b a = - cmpV a b := by
  unfold cmpV
  by_cases h1 : a.size < b.size
  · rw [if_pos h1, if_neg (by omega), if_pos h1]; rfl
  · by_cases h2 : b.size < a.size
    · rw [if_pos h2, if_neg h1, if_pos h2]
    · rw [if_neg h2, if_neg h1, if_neg h1, if_neg h2]; exact cmpS_swap _ _
theorem cmpV_zero {a b : ByteArray} : cmpV a b = 0 ↔ a.toList = b.toList := by
  unfold cmpV
  constructor
  · intro h
    by_cases h1 : a.size < b.size
    · rw [if_pos h1] at h; omega
    · by_cases h2 : b.size < a.size
      · rw [if_neg h1, if_pos h2] at h; omega
      · rw [if_neg h1, if_neg h2] at h; exact cmpS_zero.1 h
  · intro h
    have : a.size = b.size := by rw [← size_list, ← size_list, h]
    rw [if_neg (by omega), if_neg (by omega)]; exact cmpS_zero.2 h
theorem cmpV_trans {a b c : ByteArray} (h1 : cmpV a b ≤ 0) (h2 : cmpV b c ≤ 0) : cmpV a c ≤ 0 ∧ (cmpV a b < 0 → cmpV a c < 0) := by
  unfold cmpV at *
  by_cases p1 : a.size < b.size
  · have : ¬ c.size < b.size := by
      intro h; rw [if_neg (by omega), if_pos h] at h2; omega
    rw [if_pos (show a.size < c.size by omega)]
    exact ⟨by omega, fun _ => by omega⟩
  · rw [if_neg p1] at h1 ⊢
    by_cases p2 : b.size < a.size
    · rw [if_pos p2] at h1; omega
    · rw [if_neg p2] at h1 ⊢
      by_cases p3 : b.size < c.size
      · rw [if_pos (show a.size < c.size by omega)]
        exact ⟨by omega, fun _ => by omega⟩
      · rw [if_neg p3] at h2
        by_cases p4 : c.size < b.size
        · rw [if_pos p4] at h2; omega
        · rw [if_neg p4] at h2
          rw [if_neg (show ¬ a.size < c.size by omega), if_neg (show ¬ c.size < a.size by omega)]
          have := cmpS_trans h1 h2
          exact ⟨this.1, this.2.1⟩

theorem not_less (x y : List UInt8) : (!Op.bytesLess x y && !(x == y)) = Op.bytesLess y x := by
  cases h : Op.bytesLess y x with
  | true =>
    rw [less_asymm h]
    have : (x == y) = false := by
      rw [beq_eq_false_iff_ne]; rintro rfl; rw [less_irrefl] at h; cases h
    rw [this]; rfl
  | false =>
    cases h2 : Op.bytesLess x y with
    | true => rfl
    | false => rw [less_tri x y h2 h]; simp
theorem gtr_str (t : TypeId) (a b : ByteArray) : binOp .gtr t (.string a) (.string b) = pure (.bool (Op.bytesLess b.toList a.toList)) := by rw [← not_less]; simp [binOp, Op.stringOp]
def cmpN (a b : Int) : Int := if a < b then -1 else if b < a then 1 else 0
section
attribute [local go_sem] gtr_str
theorem nanS_any (a : ByteArray) (w : World) : Calls Try.prog 25 #[.string a] w fun e w' => e = .returned (.bool false) ∧ w = w' := by
  go_enter Try.func25, Try.ntmps25
  go_wp2
  go_ret
  exact ⟨ret_bool (by simp), rfl⟩
theorem nanI_any (a : Int) (w : World) : Calls Try.prog 24 #[.int .i64 a] w fun e w' => e = .returned (.bool false) ∧ w = w' := by
  go_enter Try.func24, Try.ntmps24
  go_wp2
  go_ret
  exact ⟨ret_bool (by simp), rfl⟩
theorem cmpI_any (a b : Int) (w : World) : Calls Try.prog 20 #[.int .i64 a, .int .i64 b] w fun e w' => e = .returned (.int .i64 (cmpN a b)) ∧ w = w' := by
  by_cases h1 : a < b
  · have HV : Hid (cmpN a b = -1) := Lib.hid (by unfold cmpN; rw [if_pos h1])
    go_enter Try.func20, Try.ntmps20
    go_wp2_with (first | (go_at_call 24; refine (nanI_any _ _).mono ?_; rintro e w1 ⟨rfl, rfl⟩))
    go_ret
    exact ⟨ret_int HV.out.symm, rfl⟩
  · by_cases h2 : b < a
    · have HV : Hid (cmpN a b = 1) := Lib.hid (by unfold cmpN; rw [if_neg h1, if_pos h2])
      go_enter Try.func20, Try.ntmps20
      go_wp2_with (first | (go_at_call 24; refine (nanI_any _ _).mono ?_; rintro e w1 ⟨rfl, rfl⟩))
      go_ret
      exact ⟨ret_int HV.out.symm, rfl⟩
    · have HV : Hid (cmpN a b = 0) := Lib.hid (by unfold cmpN; rw [if_neg h1, if_neg h2])
      go_enter Try.func20, Try.ntmps20
      go_wp2_with (first | (go_at_call 24; refine (nanI_any _ _).mono ?_; rintro e w1 ⟨rfl, rfl⟩))
      go_ret
      exact ⟨ret_int HV.out.symm, rfl⟩
theorem cmpT_any (a b : ByteArray) (w : World) : Calls Try.prog 21 #[.string a, .string b] w fun e w' => e = .returned (.int .i64 (cmpS a.toList b.toList)) ∧ w = w' := by
  rcases h1 : Op.bytesLess a.toList b.toList with _ | _
  · rcases h2 : Op.bytesLess b.toList a.toList with _ | _
    · have HV : Hid (cmpS a.toList b.toList = 0) := Lib.hid (by unfold cmpS; rw [h1, h2]; rfl)
      go_enter Try.func21, Try.ntmps21
      go_wp2_with (first | (go_at_call 25; refine (nanS_any _ _).mono ?_; rintro e w1 ⟨rfl, rfl⟩))
      go_ret
      exact ⟨ret_int HV.out.symm, rfl⟩
    · have HV : Hid (cmpS a.toList b.toList = 1) := Lib.hid (by unfold cmpS; rw [h1, h2]; rfl)
      go_enter Try.func21, Try.ntmps21
      go_wp2_with (first | (go_at_call 25; refine (nanS_any _ _).mono ?_; rintro e w1 ⟨rfl, rfl⟩))
      go_ret
      exact ⟨ret_int HV.out.symm, rfl⟩
  · have HV : Hid (cmpS a.toList b.toList = -1) := Lib.hid (by unfold cmpS; rw [h1]; rfl)
    go_enter Try.func21, Try.ntmps21
    go_wp2_with (first | (go_at_call 25; refine (nanS_any _ _).mono ?_; rintro e w1 ⟨rfl, rfl⟩))
    go_ret
    exact ⟨ret_int HV.out.symm, rfl⟩
theorem compare_any (a b : ByteArray) (w : World) : Calls Try.prog 9 #[.string a, .string b] w fun e w' => e = .returned (.int .i64 (cmpV a b)) ∧ w = w' := by
  by_cases h1 : a.size < b.size
  · have HV : Hid (cmpV a b = -1) := Lib.hid (by unfold cmpV; rw [if_pos h1])
    have HI : Hid (cmpN a.size b.size = -1) := Lib.hid (by unfold cmpN; rw [if_pos (by omega)])
    go_enter Try.func9, Try.ntmps9
    go_wp2_with (first | (go_at_call 20; refine (cmpI_any _ _ _).mono ?_; rintro e w1 ⟨rfl, rfl⟩; rw [HI.out]))
    go_ret
    exact ⟨ret_int HV.out.symm, rfl⟩
  · by_cases h2 : b.size < a.size
    · have HV : Hid (cmpV a b = 1) := Lib.hid (by unfold cmpV; rw [if_neg h1, if_pos h2])
      have HI : Hid (cmpN a.size b.size = 1) := Lib.hid (by unfold cmpN; rw [if_neg (by omega), if_pos (by omega)])
      go_enter Try.func9, Try.ntmps9
      go_wp2_with (first | (go_at_call 20; refine (cmpI_any _ _ _).mono ?_; rintro e w1 ⟨rfl, rfl⟩; rw [HI.out]))
      go_ret
      exact ⟨ret_int HV.out.symm, rfl⟩
    · have HV : Hid (cmpV a b = cmpS a.toList b.toList) := Lib.hid (by unfold cmpV; rw [if_neg h1, if_neg h2])
      have HI : Hid (cmpN a.size b.size = 0) := Lib.hid (by unfold cmpN; rw [if_neg (by omega), if_neg (by omega)])
      go_enter Try.func9, Try.ntmps9
      go_wp2_with (first | (go_at_call 20; refine (cmpI_any _ _ _).mono ?_; rintro e w1 ⟨rfl, rfl⟩; rw [HI.out]) | (go_at_call 21; refine (cmpT_any _ _ _).mono ?_; rintro e w1 ⟨rfl, rfl⟩))
      go_ret
      exact ⟨ret_int HV.out.symm, rfl⟩
end
end Go.Proofs.Ytkoifdbbomipbaa.Name
