
/- Sums of bytes: a row of up to four bytes that is changed. Plain mathematics. -/
import Derived.Test.YtpdaggkhnmiioaaDoorCrcM
namespace Go.Proofs.YtpdaggkhnmiioaaDoor.CrcM
open Go

theorem step4_of {x : BitVec 32} (h : x &&& 0x0FFFFFFF#32 = x) : step4 x = x <<< 4 := by rw [← h, step4_low, h]
theorem low24 : ∀ i, i < 32 → i < 24 → (0x00FFFFFF#32).getLsbD i = true := by decide +kernel
theorem low_a (x : BitVec 32) : (x &&& 0x00FFFFFF#32) &&& 0x0FFFFFFF#32 = x &&& 0x00FFFFFF#32 := by
  rw [BitVec.and_assoc, show (0x00FFFFFF#32 &&& 0x0FFFFFFF#32) = 0x00FFFFFF#32 by decide]
theorem low_b (x : BitVec 32) : ((x &&& 0x00FFFFFF#32) <<< 4) &&& 0x0FFFFFFF#32 = (x &&& 0x00FFFFFF#32) <<< 4 := by
  rw [BitVec.shiftLeft_and_distrib, BitVec.and_assoc, show (0x00FFFFFF#32 <<< 4 &&& 0x0FFFFFFF#32) = 0x00FFFFFF#32 <<< 4 by decide]
theorem step8_low (x : BitVec 32) : step8 (x &&& 0x00FFFFFF#32) = (x &&& 0x00FFFFFF#32) <<< 8 := by
  unfold step8
  rw [step4_of (low_a x), step4_of (low_b x), ← BitVec.shiftLeft_add]
theorem byte_bit {x : BitVec 32} (h : x.toNat < 256) {i : Nat} (hi : 8 ≤ i) : x.getLsbD i = false := by
  apply Nat.testBit_lt_two_pow
  exact Nat.lt_of_lt_of_le h (Nat.pow_le_pow_right (by omega) hi : 2 ^ 8 ≤ 2 ^ i)
/-- a byte that stands below the highest place goes up by eight steps -/
theorem step8_byte {x : BitVec 32} (h : x.toNat < 256) {s : Nat} (hs : s ≤ 16) : step8 (x <<< s) = x <<< (s + 8) := by
  have e : (x <<< s) &&& 0x00FFFFFF#32 = x <<< s := by
    apply BitVec.eq_of_getLsbD_eq
    intro i hi
    rw [BitVec.getLsbD_and, BitVec.getLsbD_shiftLeft]
    by_cases h1 : i < 24
    · rw [low24 i hi h1]; simp
    · have : x.getLsbD (i - s) = false := byte_bit h (by omega)
      rw [this]; simp
  rw [← e, step8_low, e, BitVec.shiftLeft_add]

def it : Nat → BitVec 32 → BitVec 32
  | 0, x => x
  | j + 1, x => step8 (it j x)
theorem it_xor (j : Nat) (a b : BitVec 32) : it j (a ^^^ b) = it j a ^^^ it j b := by
  induction j with
  | zero => rfl
  | succ j ih => simp only [it, ih, step8_xor]
theorem step_zero : stepB 0#32 = 0#32 := by decide
theorem step_inj {x : BitVec 32} (h : stepB x = 0#32) : x = 0#32 := by
  unfold stepB at h
  cases hm : x.msb with
  | true =>
    exfalso
    rw [hm] at h
    have h1 := congrArg (fun y : BitVec 32 => y.getLsbD 0) h
    simp at h1
  | false =>
    rw [hm] at h
    simp only [Bool.false_eq_true, if_false, BitVec.xor_zero] at h
    apply BitVec.eq_of_getLsbD_eq
    intro i hi
    rcases Nat.lt_or_ge i 31 with h31 | h31
    · have h1 := congrArg (fun y : BitVec 32 => y.getLsbD (i + 1)) h
      simp only [BitVec.getLsbD_shiftLeft] at h1
      simpa [show i + 1 < 32 by omega] using h1
    · obtain rfl : i = 31 := by omega
      rw [BitVec.msb_eq_getLsbD_last] at hm
      simpa using hm
theorem step4_inj {x : BitVec 32} (h : step4 x = 0#32) : x = 0#32 := step_inj (step_inj (step_inj (step_inj h)))
theorem step8_inj {x : BitVec 32} (h : step8 x = 0#32) : x = 0#32 := step4_inj (step4_inj h)
theorem step8_zero : step8 0#32 = 0#32 := by unfold step8 step4; simp only [step_zero]
theorem it_zero (j : Nat) : it j 0#32 = 0#32 := by
  induction j with
  | zero => rfl
  | succ j ih => simp only [it, ih, step8_zero]
theorem it_inj {j : Nat} {x : BitVec 32} (h : it j x = 0#32) : x = 0#32 := by
  induction j with
  | zero => exact h
  | succ j ih => exact ih (step8_inj h)

/-- the difference of two sums, byte by byte: e tells how the bytes differ -/
def dif (e : Nat → BitVec 32) : Nat → BitVec 32
  | 0 => 0#32
  | k + 1 => step8 (dif e k ^^^ (e k <<< 24))
theorem dif_ahead {e : Nat → BitVec 32} {F : Nat} (h : ∀ k, k < F → e k = 0#32) : ∀ k, k ≤ F → dif e k = 0#32 := by
  intro k
  induction k with
  | zero => intro _; rfl
  | succ k ih =>
    intro hk
    simp only [dif, ih (by omega), h k (by omega)]
    exact step8_zero
theorem dif_behind {e : Nat → BitVec 32} {G : Nat} (h : ∀ k, G ≤ k → e k = 0#32) : ∀ j, dif e (G + j) = it j (dif e G) := by
  intro j
  induction j with
  | zero => rfl
  | succ j ih =>
    show step8 (dif e (G + j) ^^^ (e (G + j) <<< 24)) = step8 (it j (dif e G))
    rw [ih, h (G + j) (by omega)]
    simp
/-- the word of the first j of four bytes -/
def word (e : Nat → BitVec 32) (F : Nat) : Nat → BitVec 32
  | 0 => 0#32
  | j + 1 => word e F j ^^^ (e (F + j) <<< (24 - 8 * j))
theorem word_succ (e : Nat → BitVec 32) (F j : Nat) : word e F (j + 1) = word e F j ^^^ (e (F + j) <<< (24 - 8 * j)) := rfl
theorem dif_succ (e : Nat → BitVec 32) (k : Nat) : dif e (k + 1) = step8 (dif e k ^^^ (e k <<< 24)) := rfl
theorem up {x : BitVec 32} (h : x.toNat < 256) : ∀ j, j ≤ 3 → it j (x <<< (24 - 8 * j)) = x <<< 24 := by
  intro j hj
  rcases (by omega : j = 0 ∨ j = 1 ∨ j = 2 ∨ j = 3) with rfl | rfl | rfl | rfl
  · rfl
  · show step8 (x <<< 16) = _
    exact step8_byte h (by omega)
  · show step8 (step8 (x <<< 8)) = _
    rw [step8_byte h (by omega), step8_byte h (by omega)]
  · show step8 (step8 (step8 (x <<< 0))) = _
    rw [step8_byte h (by omega), step8_byte h (by omega), step8_byte h (by omega)]
theorem dif_word {e : Nat → BitVec 32} {F : Nat} (h0 : dif e F = 0#32) (h : ∀ k, (e k).toNat < 256) : ∀ j, j ≤ 4 → dif e (F + j) = it j (word e F j) := by
  intro j
  induction j with
  | zero => intro _; simpa [word, it] using h0
  | succ j ih =>
    intro hj
    show step8 (dif e (F + j) ^^^ (e (F + j) <<< 24)) = step8 (it j (word e F j ^^^ (e (F + j) <<< (24 - 8 * j))))
    rw [ih (by omega), it_xor, up (h _) j (by omega)]
theorem xor_eq_zero {a b : BitVec 32} (h : a ^^^ b = 0#32) : a = b := by
  have : a ^^^ b ^^^ b = b := by rw [h]; simp
  rwa [BitVec.xor_assoc, BitVec.xor_self, BitVec.xor_zero] at this
theorem high_zero {a b : BitVec 32} {s : Nat} (ha : a.toNat < 256) (hs : s ≤ 24) (hb : b.toNat < 2 ^ s) (h : (a <<< s) ^^^ b = 0#32) : a = 0#32 ∧ b = 0#32 := by
  have e := congrArg BitVec.toNat (xor_eq_zero h)
  rw [BitVec.toNat_shiftLeft, Nat.shiftLeft_eq] at e
  have hp : (2 : Nat) ^ s ≤ 2 ^ 24 := Nat.pow_le_pow_right (by omega) hs
  have hm : a.toNat * 2 ^ s ≤ 255 * 2 ^ 24 := Nat.mul_le_mul (by omega) hp
  rw [Nat.mod_eq_of_lt (by omega)] at e
  have ha0 : a.toNat = 0 := by
    rcases Nat.eq_zero_or_pos a.toNat with h0 | h0
    · exact h0
    · have : 1 * 2 ^ s ≤ a.toNat * 2 ^ s := Nat.mul_le_mul_right _ h0
      omega
  refine ⟨BitVec.eq_of_toNat_eq (by simpa using ha0), BitVec.eq_of_toNat_eq ?_⟩
  rw [ha0, Nat.zero_mul] at e
  simpa using e.symm
theorem xor_lt {a b : BitVec 32} {s : Nat} (ha : a.toNat < 2 ^ s) (hb : b.toNat < 2 ^ s) : (a ^^^ b).toNat < 2 ^ s := by
  rw [BitVec.toNat_xor]; exact Nat.xor_lt_two_pow ha hb
theorem shl_lt {a : BitVec 32} {s : Nat} (ha : a.toNat < 256) (hs : s ≤ 16) : (a <<< s).toNat < 2 ^ (s + 8) := by
  rw [BitVec.toNat_shiftLeft, Nat.shiftLeft_eq]
  have hp : (2 : Nat) ^ s ≤ 2 ^ 16 := Nat.pow_le_pow_right (by omega) hs
  have hm : a.toNat * 2 ^ s ≤ 255 * 2 ^ 16 := Nat.mul_le_mul (by omega) hp
  rw [Nat.mod_eq_of_lt (by omega), Nat.pow_add]
  have : 0 < 2 ^ s := Nat.pow_pos (by omega)
  rw [Nat.mul_comm]
  exact Nat.mul_lt_mul_of_pos_left ha this
theorem word_zero {e : Nat → BitVec 32} {F : Nat} (h : ∀ k, (e k).toNat < 256) : ∀ m, m ≤ 4 → (∀ j, m ≤ j → e (F + j) = 0#32) → word e F m = 0#32 → ∀ j, e (F + j) = 0#32 := by
  intro m hm hz hw
  have hw4 : word e F 4 = 0#32 := by
    have g : ∀ i, i ≤ 4 - m → word e F (m + i) = 0#32 := by
      intro i
      induction i with
      | zero => intro _; exact hw
      | succ i ih =>
        intro hi
        rw [← Nat.add_assoc, word_succ, ih (by omega), hz _ (by omega)]
        rw [BitVec.zero_shiftLeft, BitVec.xor_zero]
    have := g (4 - m) (Nat.le_refl _)
    rwa [show m + (4 - m) = 4 by omega] at this
  have e4 : (e (F + 0) <<< 24) ^^^ ((e (F + 1) <<< 16) ^^^ ((e (F + 2) <<< 8) ^^^ (e (F + 3) <<< 0))) = 0#32 := by
    have w1 : word e F 1 = 0#32 ^^^ (e (F + 0) <<< 24) := word_succ e F 0
    have w2 : word e F 2 = word e F 1 ^^^ (e (F + 1) <<< 16) := word_succ e F 1
    have w3 : word e F 3 = word e F 2 ^^^ (e (F + 2) <<< 8) := word_succ e F 2
    have w4 : word e F 4 = word e F 3 ^^^ (e (F + 3) <<< 0) := word_succ e F 3
    rw [← hw4, w4, w3, w2, w1, BitVec.zero_xor, BitVec.xor_assoc, BitVec.xor_assoc]
  have l0 := shl_lt (h (F + 3)) (show 0 ≤ 16 by omega)
  have l1 := shl_lt (h (F + 2)) (show 8 ≤ 16 by omega)
  have l2 := shl_lt (h (F + 1)) (show 16 ≤ 16 by omega)
  have l01 : ((e (F + 2) <<< 8) ^^^ (e (F + 3) <<< 0)).toNat < 2 ^ 16 := xor_lt l1 (Nat.lt_of_lt_of_le l0 (by decide))
  obtain ⟨z0, r0⟩ := high_zero (h _) (by omega) (xor_lt l2 (Nat.lt_of_lt_of_le l01 (by decide))) e4
  obtain ⟨z1, r1⟩ := high_zero (h _) (by omega) l01 r0
  obtain ⟨z2, r2⟩ := high_zero (h _) (by omega) l0 r1
  have z3 : e (F + 3) = 0#32 := by rw [BitVec.shiftLeft_zero] at r2; exact r2
  intro j
  rcases (by omega : j = 0 ∨ j = 1 ∨ j = 2 ∨ j = 3 ∨ 4 ≤ j) with rfl | rfl | rfl | rfl | hj
  · exact z0
  · exact z1
  · exact z2
  · exact z3
  · exact hz j (by omega)
theorem dif_all {e : Nat → BitVec 32} (h : ∀ k, e k = 0#32) (n : Nat) : dif e n = 0#32 := dif_ahead (F := n) (fun k _ => h k) n (Nat.le_refl _)
/-- THE ROW: of bytes that differ within a row of m, up to four, the difference is 0 just if they do not differ -/
theorem dif_row {e : Nat → BitVec 32} {F m n : Nat} (hm : m ≤ 4) (hn : F + m ≤ n) (h : ∀ k, (e k).toNat < 256) (ha : ∀ k, k < F → e k = 0#32) (hb : ∀ k, F + m ≤ k → e k = 0#32) (hd : dif e n = 0#32) : ∀ k, e k = 0#32 := by
  have h1 := dif_behind hb (n - (F + m))
  rw [show F + m + (n - (F + m)) = n by omega, hd] at h1
  have h2 := it_inj h1.symm
  rw [dif_word (dif_ahead ha F (Nat.le_refl _)) h m hm] at h2
  have h3 := word_zero h m hm (fun j hj => hb _ (by omega)) (it_inj h2)
  intro k
  rcases Nat.lt_or_ge k F with hk | hk
  · exact ha k hk
  · have := h3 (k - F)
    rwa [show F + (k - F) = k by omega] at this

/-! Sums of bytes that a function of the place tells. -/
def sumF (r : BitVec 32) (f : Nat → Int) : Nat → BitVec 32
  | 0 => r
  | k + 1 => takeB (sumF r f k) (f k)
theorem sumF_succ (r : BitVec 32) (f : Nat → Int) (k : Nat) : sumF r f (k + 1) = takeB (sumF r f k) (f k) := rfl
theorem sumF_is (r : BitVec 32) (bs : List Int) : ∀ k, k ≤ bs.length → sumB r (bs.take k) = sumF r (fun i => bs.getD i 0) k := by
  intro k
  induction k with
  | zero => intro _; rfl
  | succ k ih =>
    intro hk
    rw [sum_take r (by omega), ih (by omega)]; rfl
theorem xor4 (a b c d : BitVec 32) : (a ^^^ c) ^^^ (b ^^^ d) = (a ^^^ b) ^^^ (c ^^^ d) := by ac_rfl
theorem sumF_dif (r : BitVec 32) (f g : Nat → Int) (e : Nat → BitVec 32) (h : ∀ k, byteB (g k) = byteB (f k) ^^^ e k) : ∀ k, sumF r g k = sumF r f k ^^^ dif e k := by
  intro k
  induction k with
  | zero => show r = r ^^^ 0#32; simp
  | succ k ih =>
    rw [sumF_succ, sumF_succ, dif_succ]
    unfold takeB
    rw [ih, h k, ← step8_xor, BitVec.shiftLeft_xor_distrib, xor4]
end Go.Proofs.YtpdaggkhnmiioaaDoor.CrcM
