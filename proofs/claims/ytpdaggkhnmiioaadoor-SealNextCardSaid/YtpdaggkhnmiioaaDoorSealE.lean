
/- Contracts of layer 7: Put of a number and a body that may be. -/
import Derived.Test.YtpdaggkhnmiioaaDoorSealD
import Derived.Deep.RegionWith
namespace Go.Proofs.YtpdaggkhnmiioaaDoor.Seal
open Go.ChangeShapes Go.WideShapes Go.ChangeAt Go.RowKit Go.Deep
open Mem Rec Crc Blk Ref00
set_option linter.unusedVariables false

theorem splice_mid {α : Type} (a b c d : List α) (h : d.length = b.length) : splice (a ++ (b ++ c)) a.length d = a ++ (d ++ c) := by
  unfold splice
  rw [List.take_left, h, ← List.append_assoc a b c, List.drop_left' (by simp)]
theorem zs_add (i j : Nat) : zs (i + j) = zs i ++ zs j := by unfold zs; rw [List.replicate_append_replicate]
theorem splice_at {α : Type} {L : List α} {o : Nat} {d a b c : List α} (hL : L = a ++ (b ++ c)) (ho : a.length = o) (h : d.length = b.length) : splice L o d = a ++ (d ++ c) := by
  subst hL; subst ho; exact splice_mid a b c d h
def M1 (n : Int) : List Int := splice (zs 64) 4 (NumA.digs n 8)
def M2 (n : Int) (bs : List Int) : List Int := splice (M1 n) 12 bs
def M3 (n : Int) (bs : List Int) : List Int := splice (M2 n bs) 56 (NumA.digs n 8)
theorem M1_is (n : Int) : M1 n = zs 4 ++ (NumA.digs n 8 ++ zs 52) := splice_at (show zs 64 = zs 4 ++ (zs 8 ++ zs 52) by rw [← zs_add, ← zs_add]) (zs_len 4) (by rw [NumA.digs_length, zs_len])
theorem M2_is (n : Int) {bs : List Int} (h : bs.length ≤ 44) : M2 n bs = (zs 4 ++ NumA.digs n 8) ++ (bs ++ (zs (44 - bs.length) ++ zs 8)) := by
  refine splice_at (b := zs bs.length) ?_ (by rw [List.length_append, zs_len, NumA.digs_length]) (by rw [zs_len])
  rw [M1_is, ← zs_add, ← zs_add, show bs.length + (44 - bs.length + 8) = 52 by omega, List.append_assoc]
theorem M3_is (n : Int) {bs : List Int} (h : bs.length ≤ 44) : M3 n bs = zs 4 ++ mid n bs := by
  have e : M3 n bs = (zs 4 ++ NumA.digs n 8 ++ (bs ++ zs (44 - bs.length))) ++ (NumA.digs n 8 ++ []) := by
    refine splice_at (b := zs 8) ?_ ?_ (by rw [zs_len, NumA.digs_length])
    · rw [M2_is n h]; simp
    · simp only [List.length_append, zs_len, NumA.digs_length]; omega
  rw [e]; unfold mid; simp
theorem mid_len (n : Int) {bs : List Int} (h : bs.length ≤ 44) : (mid n bs).length = 60 := by
  unfold mid
  simp only [List.length_append, zs_len, NumA.digs_length]; omega
theorem M3_tail (n : Int) {bs : List Int} (h : bs.length ≤ 44) : ((M3 n bs).drop 4).take 60 = mid n bs := by
  rw [M3_is n h, List.drop_left' (zs_len 4), List.take_of_length_le (by rw [mid_len n h]; omega)]
theorem M3_len (n : Int) {bs : List Int} (h : bs.length ≤ 44) : (M3 n bs).length = 64 := by
  rw [M3_is n h, List.length_append, zs_len, mid_len n h]
theorem M4_is (n : Int) {bs : List Int} (h : bs.length ≤ 44) : splice (M3 n bs) 0 (NumA.digs (CrcM.num (CrcM.sumB 0xffffffff#32 (mid n bs))) 4) = pL n bs := by
  have := splice_at (L := M3 n bs) (o := 0) (d := NumA.digs (CrcM.num (CrcM.sumB 0xffffffff#32 (mid n bs))) 4) (a := []) (b := zs 4) (c := mid n bs) (by rw [M3_is n h]; rfl) rfl (by rw [zs_len, NumA.digs_length])
  rw [this]; rfl
theorem pL_len (n : Int) {bs : List Int} (h : bs.length ≤ 44) : (pL n bs).length = 64 := by
  unfold pL; rw [List.length_append, NumA.digs_length, mid_len n h]
theorem digs_bytes {n : Int} (h0 : 0 ≤ n) (k : Nat) : ∀ i, 0 ≤ (NumA.digs n k).getD i 0 ∧ (NumA.digs n k).getD i 0 ≤ 255 := by
  intro i
  rcases Nat.lt_or_ge i k with h | h
  · have : (NumA.digs n k).getD i 0 = NumA.sh n i % 256 := by simp [NumA.digs, List.getD, h]
    rw [this]; omega
  · have : (NumA.digs n k).getD i 0 = 0 := by simp [List.getD, List.getElem?_eq_none (show (NumA.digs n k).length ≤ i by rw [NumA.digs_length]; exact h)]
    rw [this]; omega
theorem both_bytes {a b : List Int} (ha : ∀ i, 0 ≤ a.getD i 0 ∧ a.getD i 0 ≤ 255) (hb : ∀ i, 0 ≤ b.getD i 0 ∧ b.getD i 0 ≤ 255) : ∀ i, 0 ≤ (a ++ b).getD i 0 ∧ (a ++ b).getD i 0 ≤ 255 := by
  intro i
  rcases Nat.lt_or_ge i a.length with h | h
  · have : (a ++ b).getD i 0 = a.getD i 0 := by simp [List.getD, List.getElem?_append_left h]
    rw [this]; exact ha i
  · have : (a ++ b).getD i 0 = b.getD (i - a.length) 0 := by simp [List.getD, List.getElem?_append_right h]
    rw [this]; exact hb _
theorem zs_bytes (k : Nat) : ∀ i, 0 ≤ (zs k).getD i 0 ∧ (zs k).getD i 0 ≤ 255 := by
  intro i
  have : (zs k).getD i 0 = 0 := by
    unfold zs
    rcases Nat.lt_or_ge i k with h | h
    · simp [List.getD, h]
    · simp [List.getD, List.getElem?_eq_none (show (List.replicate k (0 : Int)).length ≤ i by simpa using h)]
  rw [this]; omega
theorem mid_bytes {n : Int} (h0 : 0 ≤ n) {bs : List Int} (hb : ∀ i, 0 ≤ bs.getD i 0 ∧ bs.getD i 0 ≤ 255) : ∀ i, 0 ≤ (mid n bs).getD i 0 ∧ (mid n bs).getD i 0 ≤ 255 :=
  both_bytes (both_bytes (digs_bytes h0 8) (both_bytes hb (zs_bytes _))) (digs_bytes h0 8)
theorem pL_ok {n : Int} (h0 : 0 ≤ n) {bs : List Int} (h : bs.length ≤ 44) (hb : ∀ i, 0 ≤ bs.getD i 0 ∧ bs.getD i 0 ≤ 255) : okL (pL n bs) :=
  ⟨pL_len n h, both_bytes (digs_bytes (CrcM.num_lo _) 4) (mid_bytes h0 hb)⟩
theorem zs_ok : okL (zs 64) := ⟨rfl, zs_bytes 64⟩
theorem stillC {P : Program} {f : FuncId} {args : Array Value} {w : World} {v : Value} (h : Calls P f args w fun e w' => e = .returned v ∧ w = w') : Calls P f args w fun e w' => e = .returned v ∧ w' = w := h.mono fun _ _ ⟨a, b⟩ => ⟨a, b.symm⟩
set_option maxHeartbeats 4000000 in
theorem put_fine (n : Int) (A : Option Addr) (m c : Nat) (bs : List Int) (w : World) (B : Nat) (h0 : 1 ≤ n) (h1 : n ≤ 18446744073709551615) (hm : m ≤ 44) (hr : Rd w w.heap.size A m bs) (hb : ∀ i, 0 ≤ bs.getD i 0 ∧ bs.getD i 0 ≤ 255) (Ld : Laid w) :
    Calls Tryd.prog 9 #[.int .u64 n, .slice A m c] w fun e w' => e = .returned (.tuple #[blkV (pL n bs), .int .i64 0]) ∧ Below w.heap.size w w' := by
  have hl := hr.1
  have hbl : bs.length ≤ 44 := by omega
  have B1 : Below w.heap.size w (w.alloc (.cells (blkC (zs 64)) 26)) := bAlloc (Below.refl _ _) _
  have B2 := bAlloc (Below.refl (w.alloc (.cells (blkC (zs 64)) 26)).heap.size (w.alloc (.cells (blkC (zs 64)) 26))) (.cells (blkC (zs 64)) 26)
  have hs1 : (w.alloc (.cells (blkC (zs 64)) 26)).heap.size = w.heap.size + 1 := by simp
  have C1 := lay_any (w.heap.size + 1) 4 8 8 (zs 64) 26 n _ _ _ (new_at hs1) (by rw [zs_64]; omega) (by omega) (by omega) h1 (digs_fit (by omega) h1) B2 (by omega)
  have HR := Lib.hid hr
  have HL := Lib.hid Ld
  have HB1 := Lib.hid B1
  have hn : (n == 0) = false := by simp; omega
  have C1 := Lib.hid C1
  have HS := Lib.hid hs1
  have HW : Hid ((w.alloc (.cells (blkC (zs 64)) 26)).heap[w.heap.size]? = some (.cells (blkC (zs 64)) 26 (0, 0))) := Lib.hid (heap_alloc_new _ _)
  have HL3 := Lib.hid (M3_len n hbl)
  have HM3 := Lib.hid (M3_tail n hbl)
  have HM4 := Lib.hid (M4_is n hbl)
  have HP := Lib.hid (pL_len n hbl)
  have HBY : Hid (∀ i, 0 ≤ (mid n bs).getD i 0 ∧ (mid n bs).getD i 0 ≤ 255) := Lib.hid (mid_bytes (by omega) hb)
  have HBL := Lib.hid hl
  have hl1 : Hid ((M1 n).length = 64) := Lib.hid (by rw [M1_is]; simp only [List.length_append, zs_len, NumA.digs_length])
  have hl2 : Hid ((M2 n bs).length = 64) := Lib.hid (by rw [M2_is n hbl]; simp only [List.length_append, zs_len, NumA.digs_length]; omega)
  clear hr Ld B1 B2 hs1 hb hl hbl
  go_enter Tryd.func9, Tryd.ntmps9
  go_wp2_with (first | (refine alloc_blk rfl rfl ?_))
  refine C1.out.mono ?_
  rintro e w3 ⟨rfl, h3, b3⟩
  have H3 := Lib.hid h3
  have HB3 := Lib.hid b3
  clear h3 b3
  go_wp2_with (with_reducible refine wpList_copy_splice rfl (.tmp 17) (.tmp 18) 23 23 rfl 5 Tryd.underlying23 infoB1 (some ⟨w.heap.size + 1, 12, none⟩) A 44 44 m c ?c1 ?c2 (w.heap.size + 1) 12 (bytesV (M1 n)) 26 ?c3 (bytesV bs) ?c4 ?c5 ?c6 (bytesV_one _) (w.alloc (.cells (blkC (zs 64)) 26)).heap.size (w.alloc (.cells (blkC (zs 64)) 26)) ?c7 ?c8 ?_)
  case c1 => rfl
  case c2 => rfl
  case c3 => exact H3.out
  case c4 => rw [bytesV_length, HBL.out]; exact (Nat.min_eq_left hm).symm
  case c5 =>
    intro h
    rw [bytesV_length, HBL.out] at h
    obtain ⟨ad, e1, e2⟩ := (HR.out.below (HB1.out.trans (HB3.out.mono (by have := HS.out; omega)))).cells (fun e => by have := HR.out.2.1 e; omega)
    first | exact ⟨rfl, ad, e1, e2⟩ | exact ⟨ad, e1, e2⟩
  case c6 => rw [bytesV_length, bytesV_length, hl1.out, HBL.out]; omega
  case c7 => exact HB3.out
  case c8 => have := HS.out; omega
  intro w4 h4 b4
  have h4' : w4.heap[w.heap.size + 1]? = some (.cells (blkC (M2 n bs)) 26 (0, 0)) := by
    have := h4.out
    rw [splice_bytes] at this
    exact this
  have C2 := lay_any (w.heap.size + 1) 56 8 8 (M2 n bs) 26 n _ _ _ h4' (by rw [hl2.out]; omega) (by omega) (by omega) h1 (digs_fit (by omega) h1) b4 (by have := HS.out; omega)
  have C2 := Lib.hid C2
  clear h4 h4' b4
  go_wp2_with fail
  refine C2.out.mono ?_
  rintro e w5 ⟨rfl, h5, b5⟩
  have b5' : Below (w.alloc (.cells (blkC (zs 64)) 26)).heap.size (w.alloc (.cells (blkC (zs 64)) 26)) w5.drew := (b5.mono (by have := HS.out; omega)).drew
  have C3 := of_any (some ⟨w.heap.size + 1, 4, none⟩) 60 60 _ w5.drew _ ((HL.out.below HB1.out).below b5') (blk_rd (w := w5.drew) (L := M3 n bs) h5 4 60 (by rw [HL3.out]; omega)) (by rw [HM3.out]; exact HBY.out) (by omega)
  rw [HM3.out] at C3
  have s0 := CrcM.num_lo (CrcM.sumB 0xffffffff#32 (mid n bs))
  have s1 := CrcM.num_hi (CrcM.sumB 0xffffffff#32 (mid n bs))
  have C4 := lay_any (w.heap.size + 1) 0 4 4 (M3 n bs) 26 (CrcM.num (CrcM.sumB 0xffffffff#32 (mid n bs))) w5.drew _ _ h5 (by rw [HL3.out]; omega) (by omega) s0 (by omega) (digs_fit4 s0 s1) b5' (by have := HS.out; omega)
  rw [HM4.out] at C4
  have C3 := Lib.hid C3
  have C4 := Lib.hid C4
  have h64 := Lib.hid (infoB (pL n bs) HP.out)
  clear h5 b5 b5'
  go_wp2_with fail
  go_still_tail 4, (by kernel_rfl)
  still_call (stillC C3.out)
  still_step
  refine wpStill_nil ?_
  change wpList _ _ _ _ _ w5.drew
  go_wp2_with fail
  refine C4.out.mono ?_
  rintro e w6 ⟨rfl, h6, b6⟩
  all_goals
    have hr6 : w6.heap[w.heap.size]? = some (.cells (blkC (zs 64)) 26 (0, 0)) := (b6.block w.heap.size (by have := HS.out; omega)).trans HW.out
    go_wp2_with (first | (refine load_blk rfl _ rfl (w.heap.size + 1) rfl (pL n bs) _ _ h6 HP.out ?_) | (refine store_blk rfl _ _ rfl w.heap.size (pL n bs) (zs 64) _ rfl rfl hr6 HP.out zs_64 ?_))
    refine bodyPost_ret (v := .tuple #[blkV (pL n bs), .int .i64 0]) ?_ rfl ⟨rfl, ?_⟩
    · rw [results_cell_tmp rfl]
      show ((loadVar 26 (⟨w.heap.size, 0, none⟩ : Addr)).run Tryd.prog _).andThen _ = _
      rw [run_loadVar_row _ w.heap.size 26 26 (blkC (pL n bs)) (0, 0) _ (row_at hr6) Tryd.underlying26 rfl h64.out]
      rfl
    · exact below_row _ (HB1.out.trans (b6.mono (by have := HS.out; omega))) (Nat.le_refl _)
theorem put_any (n : Int) (A : Option Addr) (m c : Nat) (bs : List Int) (w : World) (h0 : 0 ≤ n) (h1 : n ≤ 18446744073709551615) (hm : m ≤ 140737488355328) (hr : Rd w w.heap.size A m bs) (hb : ∀ i, 0 ≤ bs.getD i 0 ∧ bs.getD i 0 ≤ 255) (Ld : Laid w) :
    Calls Tryd.prog 9 #[.int .u64 n, .slice A m c] w fun e w' => e = .returned (.tuple #[blkV (pB n m bs), .int .i64 (pE n m)]) ∧ Below w.heap.size w w' := by
  by_cases h : n = 0 ∨ 44 < m
  · have e1 : pE n m = if n = 0 then 2 else 3 := by
      unfold pE
      by_cases h0 : n = 0
      · rw [if_pos h0, if_pos h0]
      · rw [if_neg h0, if_neg h0, if_pos (by omega)]
    have e2 : pB n m bs = zs 64 := by
      unfold pB
      rw [if_neg]
      rw [e1]; split <;> omega
    rw [e2]
    exact put_zero n A m c w hm h _ e1
  · have e1 : pE n m = 0 := by unfold pE; rw [if_neg (by omega), if_neg (by omega)]
    have e2 : pB n m bs = pL n bs := by unfold pB; rw [if_pos e1]
    rw [e1, e2]
    exact put_fine n A m c bs w w.heap.size (by omega) h1 (by omega) hr hb Ld
end Go.Proofs.YtpdaggkhnmiioaaDoor.Seal
