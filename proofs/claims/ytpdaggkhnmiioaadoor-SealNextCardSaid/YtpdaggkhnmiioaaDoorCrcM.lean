
/- Sums of bytes, CRC-32 with the high bit first: plain mathematics over words of 32 bits. No code of the program. -/
import Derived.Laws.BitsAllLaws
import Derived.WalkKit
namespace Go.Proofs.YtpdaggkhnmiioaaDoor.CrcM
open Go

/-- one step: doubled, against the polynomial if the highest bit was 1 -/
def stepB (r : BitVec 32) : BitVec 32 := (r <<< 1) ^^^ (if r.msb then 0x04c11db7#32 else 0#32)
def step4 (r : BitVec 32) : BitVec 32 := stepB (stepB (stepB (stepB r)))
def step8 (r : BitVec 32) : BitVec 32 := step4 (step4 r)
theorem step_xor (a b : BitVec 32) : stepB (a ^^^ b) = stepB a ^^^ stepB b := by
  unfold stepB
  rw [BitVec.shiftLeft_xor_distrib, BitVec.msb_xor]
  cases a.msb <;> cases b.msb <;> simp
  · rw [BitVec.xor_assoc]
  · rw [BitVec.xor_assoc, BitVec.xor_comm (b <<< 1), BitVec.xor_assoc]
  · rw [show a <<< 1 ^^^ 79764919#32 ^^^ (b <<< 1 ^^^ 79764919#32) = (a <<< 1 ^^^ b <<< 1) ^^^ (79764919#32 ^^^ 79764919#32) by ac_rfl]
    simp
theorem step4_xor (a b : BitVec 32) : step4 (a ^^^ b) = step4 a ^^^ step4 b := by unfold step4; simp only [step_xor]
theorem step8_xor (a b : BitVec 32) : step8 (a ^^^ b) = step8 a ^^^ step8 b := by unfold step8; simp only [step4_xor]
theorem step_low {r : BitVec 32} (h : r.msb = false) : stepB r = r <<< 1 := by unfold stepB; rw [h]; simp

def table : List (BitVec 32) := [0#32, 79764919#32, 159529838#32, 222504665#32, 319059676#32, 398814059#32, 445009330#32, 507990021#32, 638119352#32, 583659535#32, 797628118#32, 726387553#32, 890018660#32, 835552979#32, 1015980042#32, 944750013#32]
def T (i : Nat) : BitVec 32 := table.getD i 0#32
theorem table_is : ∀ i, i < 16 → T i = step4 (BitVec.ofNat 32 i <<< 28) := by decide +kernel
theorem mask4 : ∀ i, i < 32 → 4 ≤ i → (0xFFFFFFF0#32).getLsbD i = true := by decide +kernel
theorem maskHi : ∀ i, i < 32 → 28 ≤ i → (0xF0000000#32).getLsbD i = true := by decide +kernel
theorem maskHi' : ∀ i, i < 32 → i < 28 → (0xF0000000#32).getLsbD i = false := by decide +kernel
theorem step4_low (x : BitVec 32) : step4 (x &&& 0x0FFFFFFF#32) = x <<< 4 := by
  have s0 (y : BitVec 32) : stepB (y &&& 0x0FFFFFFF#32) = (y <<< 1) &&& 0x1FFFFFFE#32 := by
    rw [step_low (by rw [BitVec.msb_and, show (0x0FFFFFFF#32).msb = false by decide, Bool.and_false]), BitVec.shiftLeft_and_distrib, show (0x0FFFFFFF#32 <<< 1) = 0x1FFFFFFE#32 by decide]
  have s1 (y : BitVec 32) : stepB (y &&& 0x1FFFFFFE#32) = (y <<< 1) &&& 0x3FFFFFFC#32 := by
    rw [step_low (by rw [BitVec.msb_and, show (0x1FFFFFFE#32).msb = false by decide, Bool.and_false]), BitVec.shiftLeft_and_distrib, show (0x1FFFFFFE#32 <<< 1) = 0x3FFFFFFC#32 by decide]
  have s2 (y : BitVec 32) : stepB (y &&& 0x3FFFFFFC#32) = (y <<< 1) &&& 0x7FFFFFF8#32 := by
    rw [step_low (by rw [BitVec.msb_and, show (0x3FFFFFFC#32).msb = false by decide, Bool.and_false]), BitVec.shiftLeft_and_distrib, show (0x3FFFFFFC#32 <<< 1) = 0x7FFFFFF8#32 by decide]
  have s3 (y : BitVec 32) : stepB (y &&& 0x7FFFFFF8#32) = (y <<< 1) &&& 0xFFFFFFF0#32 := by
    rw [step_low (by rw [BitVec.msb_and, show (0x7FFFFFF8#32).msb = false by decide, Bool.and_false]), BitVec.shiftLeft_and_distrib, show (0x7FFFFFF8#32 <<< 1) = 0xFFFFFFF0#32 by decide]
  unfold step4
  rw [s0, s1, s2, s3]
  simp only [← BitVec.shiftLeft_add]
  apply BitVec.eq_of_getLsbD_eq
  intro i hi
  rw [BitVec.getLsbD_and, BitVec.getLsbD_shiftLeft]
  by_cases h : 4 ≤ i
  · rw [mask4 i hi h]; simp
  · have : i < 4 := by omega
    simp [this]
theorem high_part (x : BitVec 32) : x &&& 0xF0000000#32 = BitVec.ofNat 32 (x.toNat / 268435456) <<< 28 := by
  have e : BitVec.ofNat 32 (x.toNat / 268435456) = x >>> 28 := by
    apply BitVec.eq_of_toNat_eq
    rw [BitVec.toNat_ushiftRight, Nat.shiftRight_eq_div_pow, BitVec.toNat_ofNat]
    have := x.isLt
    omega
  rw [e]
  apply BitVec.eq_of_getLsbD_eq
  intro i hi
  rw [BitVec.getLsbD_and, BitVec.getLsbD_shiftLeft, BitVec.getLsbD_ushiftRight]
  by_cases h : 28 ≤ i
  · rw [maskHi i hi h, show 28 + (i - 28) = i by omega]
    have : ¬ i < 28 := by omega
    simp [this, hi]
  · rw [maskHi' i hi (by omega)]
    have : i < 28 := by omega
    simp [this]
theorem masks : ∀ i, i < 32 → (0xF0000000#32).getLsbD i = !(0x0FFFFFFF#32).getLsbD i := by decide +kernel
theorem parts (x : BitVec 32) : x = (x &&& 0xF0000000#32) ^^^ (x &&& 0x0FFFFFFF#32) := by
  apply BitVec.eq_of_getLsbD_eq
  intro i hi
  rw [BitVec.getLsbD_xor, BitVec.getLsbD_and, BitVec.getLsbD_and, masks i hi]
  cases x.getLsbD i <;> cases (0x0FFFFFFF#32).getLsbD i <;> rfl
/-- four steps by the table -/
theorem four_is (x : BitVec 32) : (x <<< 4) ^^^ T (x.toNat / 268435456) = step4 x := by
  have h : x.toNat / 268435456 < 16 := by have := x.isLt; omega
  conv => rhs; rw [parts x, step4_xor, step4_low, high_part, ← table_is _ h]
  rw [BitVec.xor_comm]

def byteB (c : Int) : BitVec 32 := BitVec.ofInt 32 c
def takeB (r : BitVec 32) (c : Int) : BitVec 32 := step8 (r ^^^ (byteB c <<< 24))
def sumB (r : BitVec 32) (bs : List Int) : BitVec 32 := bs.foldl takeB r
theorem sum_snoc (r : BitVec 32) (bs : List Int) (c : Int) : sumB r (bs ++ [c]) = takeB (sumB r bs) c := by simp [sumB]
theorem sum_append (r : BitVec 32) (a b : List Int) : sumB r (a ++ b) = sumB (sumB r a) b := by simp [sumB]
theorem sum_take {bs : List Int} {k : Nat} (r : BitVec 32) (h : k < bs.length) : sumB r (bs.take (k + 1)) = takeB (sumB r (bs.take k)) (bs.getD k 0) := by
  rw [List.take_succ_eq_append_getElem h, sum_snoc]
  simp [List.getD, List.getElem?_eq_getElem h]

/-! As numbers. -/
def num (r : BitVec 32) : Int := (r.toNat : Int)
theorem num_lo (r : BitVec 32) : 0 ≤ num r := Int.natCast_nonneg _
theorem num_hi (r : BitVec 32) : num r ≤ 4294967295 := by have := r.isLt; unfold num; omega
theorem num_of {x : Int} (h0 : 0 ≤ x) (h1 : x ≤ 4294967295) : ∃ r : BitVec 32, x = num r := by
  refine ⟨BitVec.ofNat 32 x.toNat, ?_⟩
  unfold num
  rw [BitVec.toNat_ofNat]; omega
theorem num_inj {a b : BitVec 32} (h : num a = num b) : a = b := BitVec.eq_of_toNat_eq (by unfold num at h; omega)
theorem num_xor (a b : BitVec 32) : bits .xor .u32 (num a) (num b) = num (a ^^^ b) := by
  unfold num
  rw [u32_xor_nat _ _ a.isLt b.isLt, BitVec.toNat_xor]
theorem num_shl (a : BitVec 32) (k : Nat) (m : Int) (hk : m = 2 ^ k) : num a * m % 4294967296 = num (a <<< k) := by
  unfold num
  rw [BitVec.toNat_shiftLeft, Nat.shiftLeft_eq, hk, Int.natCast_emod, Int.natCast_mul, Int.natCast_pow]
  rfl
theorem num_four (a : BitVec 32) : bits .xor .u32 (num a * 16 % 4294967296) (num (T (a.toNat / 268435456))) = num (step4 a) := by
  rw [num_shl a 4 16 (by decide), num_xor, four_is]
theorem num_step (a : BitVec 32) (h : 2147483648 ≤ num a) : bits .xor .u32 (2 * num a % 4294967296) 79764919 = num (stepB a) := by
  have e : (79764919 : Int) = num 79764919#32 := by decide
  rw [Int.mul_comm, num_shl a 1 2 (by decide), e, num_xor]
  have : a.msb = true := by rw [BitVec.msb_eq_decide]; unfold num at h; simp; omega
  unfold stepB; rw [this]; rfl
theorem num_step' (a : BitVec 32) (h : num a < 2147483648) : 2 * num a % 4294967296 = num (stepB a) := by
  rw [Int.mul_comm, num_shl a 1 2 (by decide)]
  have : a.msb = false := by rw [BitVec.msb_eq_decide]; unfold num at h; simp; omega
  unfold stepB; rw [this]; simp
theorem num_byte {c : Int} (h0 : 0 ≤ c) (h1 : c ≤ 255) : c * (16777216 : Int) = num (byteB c <<< 24) := by
  obtain ⟨n, rfl⟩ := Int.eq_ofNat_of_zero_le h0
  unfold num byteB
  rw [BitVec.toNat_shiftLeft, Nat.shiftLeft_eq, BitVec.ofInt_natCast, BitVec.toNat_ofNat]
  have hn : n ≤ 255 := by omega
  rw [Nat.mod_eq_of_lt (show n < 2 ^ 32 by omega), Nat.mod_eq_of_lt (show n * 2 ^ 24 < 2 ^ 32 by omega)]
  show (n : Int) * 16777216 = ((n * 16777216 : Nat) : Int)
  omega
theorem num_take (a : BitVec 32) {c : Int} (h0 : 0 ≤ c) (h1 : c ≤ 255) : bits .xor .u32 (num a) (c * (16777216 : Int)) = num (a ^^^ (byteB c <<< 24)) := by
  rw [num_byte h0 h1, num_xor]
theorem num_index (a : BitVec 32) : (num a / 268435456).toNat = a.toNat / 268435456 := by unfold num; omega
end Go.Proofs.YtpdaggkhnmiioaaDoor.CrcM
