
/- What Get tells of a sealed block, of one with a changed byte, and of one torn in the middle. -/
import Derived.Test.YtpdaggkhnmiioaaDoorSealI
import Derived.Test.YtpdaggkhnmiioaaDoorCrcN
namespace Go.Proofs.YtpdaggkhnmiioaaDoor.Seal
open Go.ChangeShapes Go.WideShapes Go.ChangeAt Go.RowKit Go.Deep
open Mem Rec Crc Blk Ref00
set_option linter.unusedVariables false

theorem digs_at {n : Int} {k i : Nat} (h : i < k) : (NumA.digs n k).getD i 0 = n / (256 : Int) ^ i % 256 := by
  simp [NumA.digs, List.getD, List.getElem?_range h, NumA.sh]
theorem fld4_is (bs : List Int) : fld bs 4 = bs.getD 0 0 + bs.getD 1 0 * 256 + bs.getD 2 0 * 65536 + bs.getD 3 0 * 16777216 := by
  simp [fld, NumA.getV, NumA.getE, NumA.sizeB, NumA.num, NumA.bt]
theorem fld8_is (bs : List Int) : fld bs 8 = bs.getD 0 0 + bs.getD 1 0 * 256 + bs.getD 2 0 * 65536 + bs.getD 3 0 * 16777216 + bs.getD 4 0 * 4294967296 + bs.getD 5 0 * 1099511627776 + bs.getD 6 0 * 281474976710656 + bs.getD 7 0 * 72057594037927936 := by
  simp [fld, NumA.getV, NumA.getE, NumA.sizeB, NumA.num, NumA.bt]
theorem nA_is (L : List Int) : nA L = L.getD 4 0 + L.getD 5 0 * 256 + L.getD 6 0 * 65536 + L.getD 7 0 * 16777216 + L.getD 8 0 * 4294967296 + L.getD 9 0 * 1099511627776 + L.getD 10 0 * 281474976710656 + L.getD 11 0 * 72057594037927936 := by
  unfold nA
  rw [fld8_is, part_at 4 8 0 (by omega), part_at 4 8 1 (by omega), part_at 4 8 2 (by omega), part_at 4 8 3 (by omega), part_at 4 8 4 (by omega), part_at 4 8 5 (by omega), part_at 4 8 6 (by omega), part_at 4 8 7 (by omega)]
theorem nB_is (L : List Int) : nB L = L.getD 56 0 + L.getD 57 0 * 256 + L.getD 58 0 * 65536 + L.getD 59 0 * 16777216 + L.getD 60 0 * 4294967296 + L.getD 61 0 * 1099511627776 + L.getD 62 0 * 281474976710656 + L.getD 63 0 * 72057594037927936 := by
  unfold nB
  rw [fld8_is, part_at 56 8 0 (by omega), part_at 56 8 1 (by omega), part_at 56 8 2 (by omega), part_at 56 8 3 (by omega), part_at 56 8 4 (by omega), part_at 56 8 5 (by omega), part_at 56 8 6 (by omega), part_at 56 8 7 (by omega)]
theorem sA_is (L : List Int) : sA L = L.getD 0 0 + L.getD 1 0 * 256 + L.getD 2 0 * 65536 + L.getD 3 0 * 16777216 := by
  unfold sA
  rw [fld4_is, part_at 0 4 0 (by omega), part_at 0 4 1 (by omega), part_at 0 4 2 (by omega), part_at 0 4 3 (by omega)]

/-! A sealed block -/
theorem mid_low (n : Int) (bs : List Int) {i : Nat} (h : i < 8) : (mid n bs).getD i 0 = n / (256 : Int) ^ i % 256 := by
  rw [← digs_at (k := 8) h]
  unfold mid
  simp only [List.getD, List.append_assoc]
  rw [List.getElem?_append_left (by rw [NumA.digs_length]; exact h)]
theorem mid_end (n : Int) {bs : List Int} (hl : bs.length ≤ 44) {i : Nat} (h : i < 8) : (mid n bs).getD (52 + i) 0 = n / (256 : Int) ^ i % 256 := by
  rw [← digs_at (k := 8) h]
  unfold mid
  have e : (NumA.digs n 8 ++ (bs ++ zs (44 - bs.length))).length = 52 := by
    rw [List.length_append, List.length_append, NumA.digs_length, zs_len]; omega
  simp only [List.getD]
  rw [List.getElem?_append_right (by omega), e, show 52 + i - 52 = i by omega]
theorem mid_body (n : Int) {bs : List Int} (hl : bs.length ≤ 44) {i : Nat} (h : i < 44) : (mid n bs).getD (8 + i) 0 = if i < bs.length then bs.getD i 0 else 0 := by
  unfold mid
  simp only [List.getD, List.append_assoc]
  rw [List.getElem?_append_right (by rw [NumA.digs_length]; omega), NumA.digs_length, show 8 + i - 8 = i by omega]
  split
  · rename_i hi
    rw [List.getElem?_append_left hi]
  · rename_i hi
    rw [List.getElem?_append_right (by omega), List.getElem?_append_left (by rw [zs_len]; omega)]
    unfold zs
    rw [List.getElem?_replicate]
    split <;> rfl
theorem pL_num (n : Int) (bs : List Int) {i : Nat} (h : i < 8) : (pL n bs).getD (4 + i) 0 = n / (256 : Int) ^ i % 256 := by
  rw [pL_high n bs (by omega), show 4 + i - 4 = i by omega, mid_low n bs h]
theorem pL_end (n : Int) {bs : List Int} (hl : bs.length ≤ 44) {i : Nat} (h : i < 8) : (pL n bs).getD (56 + i) 0 = n / (256 : Int) ^ i % 256 := by
  rw [pL_high n bs (by omega), show 56 + i - 4 = 52 + i by omega, mid_end n hl h]
theorem eight (n : Int) (h0 : 0 ≤ n) (h1 : n ≤ 18446744073709551615) : n / (256 : Int) ^ 0 % 256 + n / (256 : Int) ^ 1 % 256 * 256 + n / (256 : Int) ^ 2 % 256 * 65536 + n / (256 : Int) ^ 3 % 256 * 16777216 + n / (256 : Int) ^ 4 % 256 * 4294967296 + n / (256 : Int) ^ 5 % 256 * 1099511627776 + n / (256 : Int) ^ 6 % 256 * 281474976710656 + n / (256 : Int) ^ 7 % 256 * 72057594037927936 = n := by
  have q0 : (256 : Int) ^ 0 = 1 := rfl
  have q1 : (256 : Int) ^ 1 = 256 := rfl
  have q2 : (256 : Int) ^ 2 = 65536 := rfl
  have q3 : (256 : Int) ^ 3 = 16777216 := rfl
  have q4 : (256 : Int) ^ 4 = 4294967296 := rfl
  have q5 : (256 : Int) ^ 5 = 1099511627776 := rfl
  have q6 : (256 : Int) ^ 6 = 281474976710656 := rfl
  have q7 : (256 : Int) ^ 7 = 72057594037927936 := rfl
  rw [q0, q1, q2, q3, q4, q5, q6, q7]
  omega
theorem nA_pL {n : Int} (h0 : 0 ≤ n) (h1 : n ≤ 18446744073709551615) (bs : List Int) : nA (pL n bs) = n := by
  have e := eight n h0 h1
  rw [nA_is]
  rw [← pL_num n bs (i := 0) (by omega), ← pL_num n bs (i := 1) (by omega), ← pL_num n bs (i := 2) (by omega), ← pL_num n bs (i := 3) (by omega), ← pL_num n bs (i := 4) (by omega), ← pL_num n bs (i := 5) (by omega), ← pL_num n bs (i := 6) (by omega), ← pL_num n bs (i := 7) (by omega)] at e
  exact e
theorem nB_pL {n : Int} (h0 : 0 ≤ n) (h1 : n ≤ 18446744073709551615) {bs : List Int} (hl : bs.length ≤ 44) : nB (pL n bs) = n := by
  have e := eight n h0 h1
  rw [nB_is]
  rw [← pL_end n hl (i := 0) (by omega), ← pL_end n hl (i := 1) (by omega), ← pL_end n hl (i := 2) (by omega), ← pL_end n hl (i := 3) (by omega), ← pL_end n hl (i := 4) (by omega), ← pL_end n hl (i := 5) (by omega), ← pL_end n hl (i := 6) (by omega), ← pL_end n hl (i := 7) (by omega)] at e
  exact e
theorem four_digs (x : Int) (h0 : 0 ≤ x) (h1 : x ≤ 4294967295) : (NumA.digs x 4).getD 0 0 + (NumA.digs x 4).getD 1 0 * 256 + (NumA.digs x 4).getD 2 0 * 65536 + (NumA.digs x 4).getD 3 0 * 16777216 = x := by
  rw [digs_at (by omega), digs_at (by omega), digs_at (by omega), digs_at (by omega)]
  have q0 : (256 : Int) ^ 0 = 1 := rfl
  have q1 : (256 : Int) ^ 1 = 256 := rfl
  have q2 : (256 : Int) ^ 2 = 65536 := rfl
  have q3 : (256 : Int) ^ 3 = 16777216 := rfl
  rw [q0, q1, q2, q3]
  omega
theorem pL_part (n : Int) {bs : List Int} (hl : bs.length ≤ 44) : ((pL n bs).drop 4).take 60 = mid n bs := by
  have e : (pL n bs).drop 4 = mid n bs := by
    unfold pL
    rw [List.drop_append_of_le_length (by rw [NumA.digs_length]; omega), List.drop_of_length_le (by rw [NumA.digs_length]; omega), List.nil_append]
  rw [e, List.take_of_length_le (by rw [mid_len n hl]; omega)]
theorem sums_pL (n : Int) {bs : List Int} (hl : bs.length ≤ 44) : sA (pL n bs) = sB (pL n bs) := by
  have e : sB (pL n bs) = CrcM.num (CrcM.sumB 0xffffffff#32 (mid n bs)) := by unfold sB; rw [pL_part n hl]
  rw [e, sA_is, pL_low n bs (by omega), pL_low n bs (by omega), pL_low n bs (by omega), pL_low n bs (by omega)]
  exact four_digs _ (CrcM.num_lo _) (CrcM.num_hi _)
theorem gE_pL {n : Int} (h0 : 1 ≤ n) (h1 : n ≤ 18446744073709551615) {bs : List Int} (hl : bs.length ≤ 44) : gE (pL n bs) = 0 := by
  unfold gE
  rw [nA_pL (by omega) h1, nB_pL (by omega) h1 hl, if_neg (by omega), if_neg (by rw [sums_pL n hl]; simp)]
theorem gN_pL {n : Int} (h0 : 1 ≤ n) (h1 : n ≤ 18446744073709551615) {bs : List Int} (hl : bs.length ≤ 44) : gN (pL n bs) = n := by
  unfold gN
  rw [if_pos (gE_pL h0 h1 hl), nA_pL (by omega) h1]
theorem gB_pL {n : Int} (h0 : 1 ≤ n) (h1 : n ≤ 18446744073709551615) {bs : List Int} (hl : bs.length ≤ 44) {i : Nat} (hi : i < 44) : (gB (pL n bs)).getD i 0 = if i < bs.length then bs.getD i 0 else 0 := by
  unfold gB
  rw [if_pos (gE_pL h0 h1 hl), part_at 12 44 i hi, pL_high n bs (by omega), show 12 + i - 4 = 8 + i by omega, mid_body n hl hi]
theorem gB_pL_len {n : Int} (h0 : 1 ≤ n) (h1 : n ≤ 18446744073709551615) {bs : List Int} (hl : bs.length ≤ 44) : (gB (pL n bs)).length = 44 := by
  unfold gB
  rw [if_pos (gE_pL h0 h1 hl), List.length_take, List.length_drop, pL_len n hl]
  rfl

/-! One byte is changed -/
theorem take_inj {a b : BitVec 32} {c : Int} (h : CrcM.takeB a c = CrcM.takeB b c) : a = b := by
  unfold CrcM.takeB at h
  have h1 : CrcM.step8 ((a ^^^ (CrcM.byteB c <<< 24)) ^^^ (b ^^^ (CrcM.byteB c <<< 24))) = 0#32 := by
    rw [CrcM.step8_xor, h, BitVec.xor_self]
  have h2 := CrcM.xor_eq_zero (CrcM.step8_inj h1)
  have h3 := congrArg (fun y => y ^^^ (CrcM.byteB c <<< 24)) h2
  simpa only [BitVec.xor_assoc, BitVec.xor_self, BitVec.xor_zero] using h3
theorem sum_inj (bs : List Int) : ∀ {a b : BitVec 32}, CrcM.sumB a bs = CrcM.sumB b bs → a = b := by
  induction bs with
  | nil => intro a b h; exact h
  | cons c bs ih => intro a b h; exact take_inj (ih (a := CrcM.takeB a c) (b := CrcM.takeB b c) h)
theorem take_byte {a : BitVec 32} {c d : Int} (hc : 0 ≤ c ∧ c ≤ 255) (hd : 0 ≤ d ∧ d ≤ 255) (h : CrcM.takeB a c = CrcM.takeB a d) : c = d := by
  unfold CrcM.takeB at h
  have h1 : CrcM.step8 ((a ^^^ (CrcM.byteB c <<< 24)) ^^^ (a ^^^ (CrcM.byteB d <<< 24))) = 0#32 := by
    rw [CrcM.step8_xor, h, BitVec.xor_self]
  have h2 := CrcM.xor_eq_zero (CrcM.step8_inj h1)
  have h3 := congrArg (fun y => a ^^^ y) h2
  simp only [← BitVec.xor_assoc, BitVec.xor_self, BitVec.zero_xor] at h3
  have h4 := CrcM.num_byte hc.1 hc.2
  have h5 := CrcM.num_byte hd.1 hd.2
  rw [h3, ← h5] at h4
  omega
theorem sum_set {r : BitVec 32} {L : List Int} {k : Nat} {c : Int} (hk : k < L.length) (hb : 0 ≤ L.getD k 0 ∧ L.getD k 0 ≤ 255) (hc : 0 ≤ c ∧ c ≤ 255) (h : CrcM.sumB r (L.set k c) = CrcM.sumB r L) : c = L.getD k 0 := by
  have e1 : L.set k c = L.take k ++ c :: L.drop (k + 1) := by rw [List.set_eq_take_append_cons_drop, if_pos hk]
  have e2 : L = L.take k ++ L.getD k 0 :: L.drop (k + 1) := by
    have h1 : L.getD k 0 = L[k] := by simp [List.getD, hk]
    rw [h1, ← List.drop_eq_getElem_cons hk, List.take_append_drop]
  have e3 : CrcM.sumB r L = CrcM.sumB r (L.take k ++ L.getD k 0 :: L.drop (k + 1)) := by rw [← e2]
  rw [e1, e3, CrcM.sum_append, CrcM.sum_append] at h
  exact take_byte hc hb (sum_inj (L.drop (k + 1)) (a := CrcM.takeB _ c) (b := CrcM.takeB _ (L.getD k 0)) h)
theorem set_get {L : List Int} {k i : Nat} {c : Int} (hk : k < L.length) : (L.set k c).getD i 0 = if i = k then c else L.getD i 0 := by
  simp only [List.getD, List.getElem?_set]
  by_cases h : k = i
  · subst h
    rw [if_pos rfl, if_pos hk, if_pos rfl]; rfl
  · rw [if_neg h, if_neg (fun e => h e.symm)]
theorem set_ok {L : List Int} (hL : okL L) {k : Nat} (hk : k < 64) {c : Int} (hc : 0 ≤ c ∧ c ≤ 255) : okL (L.set k c) := by
  have hl := hL.1
  refine ⟨by rw [List.length_set]; exact hl, fun i => ?_⟩
  rw [set_get (by omega)]
  split
  · exact hc
  · exact hL.2 i
theorem sums_of {L : List Int} (h : gE L = 0) : sA L = sB L := by
  unfold gE at h
  split at h
  · omega
  · split at h
    · omega
    · rename_i h2; exact Classical.not_not.1 h2
theorem gE_set {L : List Int} (hL : okL L) (h0 : gE L = 0) {k : Nat} (hk : k < 64) {c : Int} (hc : 0 ≤ c ∧ c ≤ 255) (hne : c ≠ L.getD k 0) : gE (L.set k c) ≠ 0 := by
  intro h
  have hl := hL.1
  have s1 := sums_of h0
  have s2 := sums_of h
  rcases Nat.lt_or_ge k 4 with h4 | h4
  · have eB : sB (L.set k c) = sB L := by unfold sB; rw [List.drop_set, if_pos h4]
    rw [eB, ← s1, sA_is, sA_is, set_get (by omega), set_get (by omega), set_get (by omega), set_get (by omega)] at s2
    have b0 := hL.2 0
    have b1 := hL.2 1
    have b2 := hL.2 2
    have b3 := hL.2 3
    have hk4 : k = 0 ∨ k = 1 ∨ k = 2 ∨ k = 3 := by omega
    rcases hk4 with rfl | rfl | rfl | rfl <;> simp only [reduceIte, Nat.reduceEqDiff] at s2 <;> omega
  · have eA : sA (L.set k c) = sA L := by
      rw [sA_is, sA_is, set_get (by omega), set_get (by omega), set_get (by omega), set_get (by omega), if_neg (by omega), if_neg (by omega), if_neg (by omega), if_neg (by omega)]
    rw [eA, s1] at s2
    unfold sB at s2
    have e2 : ((L.set k c).drop 4).take 60 = ((L.drop 4).take 60).set (k - 4) c := by
      rw [List.drop_set, if_neg (by omega), List.take_set]
    have h3 := CrcM.num_inj s2
    rw [e2] at h3
    have hp : ((L.drop 4).take 60).getD (k - 4) 0 = L.getD k 0 := by rw [part_at 4 60 (k - 4) (by omega), show 4 + (k - 4) = k by omega]
    have := sum_set (k := k - 4) (c := c) (by rw [List.length_take, List.length_drop]; omega) (by rw [hp]; exact hL.2 k) hc h3.symm
    rw [hp] at this
    exact hne this

/-! Half of another one -/
def torn (X Y : List Int) : List Int := X.take 32 ++ Y.drop 32
theorem torn_len {X Y : List Int} (hX : okL X) (hY : okL Y) : (torn X Y).length = 64 := by
  have := hX.1
  have := hY.1
  unfold torn
  rw [List.length_append, List.length_take, List.length_drop]; omega
theorem torn_low {X Y : List Int} (hX : okL X) {i : Nat} (hi : i < 32) : (torn X Y).getD i 0 = X.getD i 0 := by
  have := hX.1
  unfold torn
  simp only [List.getD]
  rw [List.getElem?_append_left (by rw [List.length_take]; omega), List.getElem?_take_of_lt hi]
theorem torn_high {X Y : List Int} (hX : okL X) {i : Nat} (hi : 32 ≤ i) : (torn X Y).getD i 0 = Y.getD i 0 := by
  have h := hX.1
  have e : (X.take 32).length = 32 := by rw [List.length_take]; omega
  unfold torn
  simp only [List.getD]
  rw [List.getElem?_append_right (by omega), e, List.getElem?_drop, show 32 + (i - 32) = i by omega]
theorem torn_ok {X Y : List Int} (hX : okL X) (hY : okL Y) : okL (torn X Y) := by
  refine ⟨torn_len hX hY, fun i => ?_⟩
  rcases Nat.lt_or_ge i 32 with h | h
  · rw [torn_low hX h]; exact hX.2 i
  · rw [torn_high hX h]; exact hY.2 i
theorem torn_nA {X Y : List Int} (hX : okL X) : nA (torn X Y) = nA X := by
  rw [nA_is, nA_is, torn_low hX (by omega), torn_low hX (by omega), torn_low hX (by omega), torn_low hX (by omega), torn_low hX (by omega), torn_low hX (by omega), torn_low hX (by omega), torn_low hX (by omega)]
theorem torn_nB {X Y : List Int} (hX : okL X) : nB (torn X Y) = nB Y := by
  rw [nB_is, nB_is, torn_high hX (by omega), torn_high hX (by omega), torn_high hX (by omega), torn_high hX (by omega), torn_high hX (by omega), torn_high hX (by omega), torn_high hX (by omega), torn_high hX (by omega)]
theorem torn_gE {X Y : List Int} (hX : okL X) (h : nA X ≠ nB Y) : gE (torn X Y) = 5 := by
  unfold gE
  rw [torn_nA hX, torn_nB hX, if_pos (Or.inl h)]
/-- what is held of a write of M over L, by its pick -/
def held (L M : List Int) (p : Int) : List Int := if p < 1 then L else if 64 ≤ p then M else if p % 2 = 1 then torn M L else torn L M
theorem held_ok {L M : List Int} (hL : okL L) (hM : okL M) (p : Int) : okL (held L M p) := by
  unfold held
  split
  · exact hL
  · split
    · exact hM
    · split
      · exact torn_ok hM hL
      · exact torn_ok hL hM
theorem nA_zs : nA (zs 64) = 0 := by decide +kernel
theorem nB_zs : nB (zs 64) = 0 := by decide +kernel
end Go.Proofs.YtpdaggkhnmiioaaDoor.Seal
