
/- Contracts of layer 7: the document's Put, whole. -/
import Derived.Test.YtpdaggkhnmiioaaDoorSealF
import Derived.IntWalk
import Derived.Outline
namespace Go.Proofs.YtpdaggkhnmiioaaDoor.Seal
open Go.ChangeShapes Go.WideShapes Go.ChangeAt Go.RowKit Go.Deep
open Mem Rec Crc Blk Ref00
set_option linter.unusedVariables false

theorem rput_zero (n : Int) (A : Option Addr) (m c : Nat) (w : World) (hn0 : 0 ≤ n) (hm : m ≤ 140737488355328) (h : n = 0 ∨ 44 < m) (k : Int) (hk : k = if n = 0 then 2 else 3) :
    Calls Tryd.prog 10 #[.int .u64 n, .slice A m c] w fun e w' => e = .returned (.tuple #[blkV (zs 64), .int .i64 k]) ∧ Below w.heap.size w w' := by
  have h64 := infoB (zs 64) zs_64
  have hr : ((w.alloc (.cells (blkC (zs 64)) 26)).alloc (.cells (blkC (zs 64)) 26)).heap[w.heap.size]? = some (.cells (blkC (zs 64)) 26 (0, 0)) := kept_at (heap_alloc_new w _)
  have hx : ((w.alloc (.cells (blkC (zs 64)) 26)).alloc (.cells (blkC (zs 64)) 26)).heap[w.heap.size + 1]? = some (.cells (blkC (zs 64)) 26 (0, 0)) := new_at (by simp)
  have HR := Lib.hid hr
  have HX := Lib.hid hx
  clear hr hx
  by_cases h0 : n = 0
  · subst h0
    obtain rfl : k = 2 := by simpa using hk
    clear hk h
    go_enter Tryd.func10, Tryd.ntmps10
    go_wp2_with (first | (refine alloc_blk rfl rfl ?_) | (refine load_blk rfl _ rfl (w.heap.size + 1) rfl (zs 64) _ _ HX.out zs_64 ?_) | (refine store_blk rfl _ _ rfl w.heap.size (zs 64) (zs 64) _ rfl rfl HR.out zs_64 zs_64 ?_))
    refine bodyPost_ret (v := .tuple #[blkV (zs 64), .int .i64 2]) ?_ rfl ⟨rfl, ?_⟩
    · rw [results_cell_tmp rfl]
      show ((loadVar 26 (⟨w.heap.size, 0, none⟩ : Addr)).run Tryd.prog _).andThen _ = _
      rw [run_loadVar_row _ w.heap.size 26 26 (blkC (zs 64)) (0, 0) _ (row_at HR.out) Tryd.underlying26 rfl h64]
      rfl
    · exact below_row _ (bAlloc (bAlloc (Below.refl _ _) _) _) (Nat.le_refl _)
  · have hm44 : 44 < m := by omega
    obtain rfl : k = 3 := by simpa [h0] using hk
    have hn : 1 ≤ n := by omega
    clear hk h
    go_enter Tryd.func10, Tryd.ntmps10
    go_wp2_with (first | (refine alloc_blk rfl rfl ?_) | (refine load_blk rfl _ rfl (w.heap.size + 1) rfl (zs 64) _ _ HX.out zs_64 ?_) | (refine store_blk rfl _ _ rfl w.heap.size (zs 64) (zs 64) _ rfl rfl HR.out zs_64 zs_64 ?_))
    refine bodyPost_ret (v := .tuple #[blkV (zs 64), .int .i64 3]) ?_ rfl ⟨rfl, ?_⟩
    · rw [results_cell_tmp rfl]
      show ((loadVar 26 (⟨w.heap.size, 0, none⟩ : Addr)).run Tryd.prog _).andThen _ = _
      rw [run_loadVar_row _ w.heap.size 26 26 (blkC (zs 64)) (0, 0) _ (row_at HR.out) Tryd.underlying26 rfl h64]
      rfl
    · exact below_row _ (bAlloc (bAlloc (Below.refl _ _) _) _) (Nat.le_refl _)

/-- the first k bytes of a block are laid -/
def fill (L : List Int) (k : Nat) : List Int := L.take k ++ zs (64 - k)
theorem fill_len {L : List Int} (hL : L.length = 64) {k : Nat} (hk : k ≤ 64) : (fill L k).length = 64 := by
  unfold fill; rw [List.length_append, List.length_take, zs_len]; omega
theorem fill_all {L : List Int} (hL : L.length = 64) : fill L 64 = L := by
  unfold fill; rw [List.take_of_length_le (by omega)]; simp [zs]
theorem fill_set {L : List Int} (hL : L.length = 64) {k : Nat} (hk : k < 64) : (blkC (fill L k)).setIfInBounds k (.int .u8 (L.getD k 0)) = blkC (fill L (k + 1)) := by
  have e : (fill L k).set k (L.getD k 0) = fill L (k + 1) := by
    unfold fill
    have hl : (L.take k).length = k := by rw [List.length_take]; omega
    rw [List.set_append_right _ _ (by omega), hl, Nat.sub_self, show 64 - k = (64 - (k + 1)) + 1 by omega]
    have ht : L.take (k + 1) = L.take k ++ [L.getD k 0] := by
      rw [List.take_succ_eq_append_getElem (by omega)]
      simp [List.getD, show k < L.length by omega]
    rw [ht]
    simp only [zs, List.replicate_succ, List.set_cons_zero, List.append_assoc, List.cons_append, List.nil_append]
  rw [← e]
  unfold blkC bytesV
  rw [List.setIfInBounds_toArray, List.map_set]
theorem cell_same {w wr : World} {g : Nat} (h : ∀ j, j ≠ g → wr.heap[j]? = w.heap[j]?) {g' : Nat} (hne : g' ≠ g) (i : Nat) : wr.cell? ⟨g', i, none⟩ = w.cell? ⟨g', i, none⟩ := World.cell?_of_block (h g' hne)
theorem rd_cell {w : World} {B g n : Nat} {bs : List Int} (h : Rd w B (some ⟨g, 0, none⟩) n bs) {i : Nat} (hi : i < n) : w.cell? ⟨g, i, none⟩ = some (.int .u8 (bs.getD i 0)) := by
  obtain ⟨b, off, e, _, hc⟩ := h.2.2 (by omega)
  injection e with e
  injection e with e1 e2
  subst e1; subst e2
  have := hc i hi
  rwa [Nat.zero_add] at this
theorem pL_low (n : Int) (bs : List Int) {k : Nat} (hk : k < 4) : (pL n bs).getD k 0 = (NumA.digs (CrcM.num (CrcM.sumB 0xffffffff#32 (mid n bs))) 4).getD k 0 := by
  unfold pL
  simp [List.getD, List.getElem?_append_left (show k < (NumA.digs (CrcM.num (CrcM.sumB 0xffffffff#32 (mid n bs))) 4).length by rw [NumA.digs_length]; exact hk)]
theorem pL_high (n : Int) (bs : List Int) {k : Nat} (hk : 4 ≤ k) : (pL n bs).getD k 0 = (mid n bs).getD (k - 4) 0 := by
  unfold pL
  simp [List.getD, List.getElem?_append_right (show (NumA.digs (CrcM.num (CrcM.sumB 0xffffffff#32 (mid n bs))) 4).length ≤ k by rw [NumA.digs_length]; exact hk), NumA.digs_length]
set_option maxHeartbeats 4000000 in
theorem rput_fine (n : Int) (A : Option Addr) (m c : Nat) (bs : List Int) (w : World) (h0 : 1 ≤ n) (h1 : n ≤ 18446744073709551615) (hm : m ≤ 44) (hr : Rd w w.heap.size A m bs) (hA : A = none → c = 0) (hb : ∀ i, 0 ≤ bs.getD i 0 ∧ bs.getD i 0 ≤ 255) :
    Calls Tryd.prog 10 #[.int .u64 n, .slice A m c] w fun e w' => e = .returned (.tuple #[blkV (pL n bs), .int .i64 0]) ∧ Below w.heap.size w w' := by
  have hl := hr.1
  have hbl : bs.length ≤ 44 := by omega
  have B0 : Below w.heap.size w ((w.alloc (.cells (blkC (zs 64)) 26)).alloc (.cells (blkC (zs 64)) 26)) := bAlloc (bAlloc (Below.refl _ _) _) _
  have hr0 : ((w.alloc (.cells (blkC (zs 64)) 26)).alloc (.cells (blkC (zs 64)) 26)).heap[w.heap.size]? = some (.cells (blkC (zs 64)) 26 (0, 0)) := kept_at (heap_alloc_new w _)
  have hx0 : ((w.alloc (.cells (blkC (zs 64)) 26)).alloc (.cells (blkC (zs 64)) 26)).heap[w.heap.size + 1]? = some (.cells (blkC (zs 64)) 26 (0, 0)) := new_at (by simp)
  have hsz : ((w.alloc (.cells (blkC (zs 64)) 26)).alloc (.cells (blkC (zs 64)) 26)).heap.size = w.heap.size + 2 := by simp
  have C1 := Lib.hid (behind_any n A m c bs _ (by omega) h1 hm ((hr.below B0).more B0.size) hA)
  have HR0 := Lib.hid hr0
  have HX0 := Lib.hid hx0
  have HS := Lib.hid hsz
  have HB0 := Lib.hid B0
  have HBY : Hid (∀ i, 0 ≤ (mid n bs).getD i 0 ∧ (mid n bs).getD i 0 ≤ 255) := Lib.hid (mid_bytes (by omega) hb)
  have HP := Lib.hid (pL_len n hbl)
  have HPl := Lib.hid (fun k (hk : k < 4) => pL_low n bs hk)
  have HPh := Lib.hid (fun k (hk : 4 ≤ k) => pL_high n bs hk)
  clear hr hA hb hl hbl hr0 hx0 hsz B0
  go_enter Tryd.func10, Tryd.ntmps10
  go_wp2_with (first | (refine alloc_blk rfl rfl ?_))
  refine C1.out.mono ?_
  rintro e w3 ⟨gb, cb, rfl, hgb, hcb, hcb', rb, b3⟩
  have HRb := Lib.hid rb
  have HB3 := Lib.hid b3
  have C2 := Lib.hid (rof_any (some ⟨gb, 0, none⟩) 60 cb (mid n bs) w3 _ rb HBY.out (by omega))
  clear rb b3 C1
  go_wp2_with fail
  refine C2.out.mono ?_
  rintro e w4 ⟨rfl, rfl⟩
  have s0 := CrcM.num_lo (CrcM.sumB 0xffffffff#32 (mid n bs))
  have s1 := CrcM.num_hi (CrcM.sumB 0xffffffff#32 (mid n bs))
  go_wp2_with fail
  refine (NumA.refPut_own _ 4 w3 s0 (by omega) (by omega) (by omega) (by decide) (big4 s0 s1)).mono ?_
  rintro e w4 ⟨gs, cs, rfl, hgs, hcs, hcs', rs, b4⟩
  have HRs := Lib.hid rs
  have HRb := Lib.hid (HRb.out.below b4)
  have b34 := bTrans HB3.out b4
  have HX4 : Hid (w4.heap[w.heap.size + 1]? = some (.cells (blkC (zs 64)) 26 (0, 0))) := Lib.hid (kept_at' b34 HX0.out)
  have HR4 : Hid (w4.heap[w.heap.size]? = some (.cells (blkC (zs 64)) 26 (0, 0))) := Lib.hid (kept_at' b34 HR0.out)
  have hsz3 : w.heap.size + 2 ≤ w3.heap.size := by have := HB3.out.size; have := HS.out; omega
  have ne1 : gb ≠ w.heap.size + 1 := by have := HS.out; omega
  have ne2 : gs ≠ w.heap.size + 1 := by omega
  have HB4 := Lib.hid (bTrans HB0.out b34)
  clear rs b4 b34 hgb hgs
  go_wp2_with fail
  go_loopw [10] (fun i wr => ∃ k : Nat, k ≤ 64 ∧ i = .int .i64 k ∧ wr.heap[w.heap.size + 1]? = some (.cells (blkC (fill (pL n bs) k)) 26 (0, 0)) ∧ (∀ j, j ≠ w.heap.size + 1 → wr.heap[j]? = w4.heap[j]?) ∧ Below w.heap.size w wr) (fun i _ => 64 - (intOf i).toNat)
  case atStart => exact ⟨0, by omega, rfl, by have := HX4.out; simpa [fill] using this, fun _ _ => rfl, HB4.out⟩
  case round =>
    obtain ⟨k, hk, rfl, hx, hj, hb⟩ := hrel
    by_cases hlt : k < 64
    · have f0 := frozen_of_row wr (w.heap.size + 1) k _ _ hx
      have c0 : wr.cell? ⟨w.heap.size + 1, k, none⟩ = some (.int .u8 ((fill (pL n bs) k).getD k 0)) := by
        rw [cell_of_row _ _ _ _ _ _ hx, blkC_get (by rw [fill_len HP.out hk]; exact hlt)]
      have HX5 : Hid (∀ v, v = (pL n bs).getD k 0 → (wr.setCell ⟨w.heap.size + 1, k, none⟩ (.int .u8 v)).heap[w.heap.size + 1]? = some (.cells (blkC (fill (pL n bs) (k + 1))) 26 (0, 0))) := Lib.hid (fun v hv => by
        rw [heap_setCell_same wr _ k _ _ _ hx, hv, fill_set HP.out hlt])
      have HJ5 : Hid (∀ (v : Value) j, j ≠ w.heap.size + 1 → (wr.setCell ⟨w.heap.size + 1, k, none⟩ v).heap[j]? = w4.heap[j]?) := Lib.hid (fun v j hne => (heap_setCell_other wr _ j v hne).trans (hj j hne))
      have HB5 : Hid (∀ v : Value, Below w.heap.size w (wr.setCell ⟨w.heap.size + 1, k, none⟩ v)) := Lib.hid (fun v => bSet hb (p := ⟨w.heap.size + 1, k, none⟩) (by simp) v)
      by_cases h4 : k < 4
      · have cs0 : wr.cell? ⟨gs, k, none⟩ = some (.int .u8 ((pL n bs).getD k 0)) := by rw [cell_same hj ne2, rd_cell HRs.out h4, HPl.out k h4]
        generalize hv : (pL n bs).getD k 0 = v at cs0
        have HV := Lib.hid hv
        clear hx hj hb hv
        go_wp2_with fail
        go_roundw
        case rel => exact ⟨k + 1, by omega, by go_num, HX5.out _ HV.out.symm, HJ5.out _, HB5.out _⟩
        case measure => simp [intOf]; omega
      · have cs0 : wr.cell? ⟨gb, k - 4, none⟩ = some (.int .u8 ((pL n bs).getD k 0)) := by rw [cell_same hj ne1, rd_cell HRb.out (by omega), HPh.out k (by omega)]
        generalize hv : (pL n bs).getD k 0 = v at cs0
        have HV := Lib.hid hv
        have j2 : ((k : Int) - 4).toNat = k - 4 := by omega
        have j3 : (0 : Int) ≤ (k : Int) - 4 := by omega
        have j4 : (k : Int) - 4 < 60 := by omega
        clear hx hj hb hv
        go_wp2_with fail
        go_roundw
        case rel => exact ⟨k + 1, by omega, by go_num, HX5.out _ HV.out.symm, HJ5.out _, HB5.out _⟩
        case measure => simp [intOf]; omega
    · obtain rfl : k = 64 := by omega
      rw [fill_all HP.out] at hx
      have hr6 := (hj w.heap.size (by omega)).trans HR4.out
      have h64 := Lib.hid (infoB (pL n bs) HP.out)
      have HX6 := Lib.hid hx
      have HR6 := Lib.hid hr6
      have HB6 := Lib.hid hb
      clear hx hj hb hr6
      go_wp2_with (first | (refine load_blk rfl _ rfl (w.heap.size + 1) rfl (pL n bs) _ _ HX6.out HP.out ?_) | (refine store_blk rfl _ _ rfl w.heap.size (pL n bs) (zs 64) _ rfl rfl HR6.out HP.out zs_64 ?_))
      refine bodyPost_ret (v := .tuple #[blkV (pL n bs), .int .i64 0]) ?_ rfl ⟨rfl, ?_⟩
      · rw [results_cell_tmp rfl]
        show ((loadVar 26 (⟨w.heap.size, 0, none⟩ : Addr)).run Tryd.prog _).andThen _ = _
        rw [run_loadVar_row _ w.heap.size 26 26 (blkC (pL n bs)) (0, 0) _ (row_at HR6.out) Tryd.underlying26 rfl h64.out]
        rfl
      · exact below_row _ HB6.out (Nat.le_refl _)
theorem rput_any (n : Int) (A : Option Addr) (m c : Nat) (bs : List Int) (w : World) (h0 : 0 ≤ n) (h1 : n ≤ 18446744073709551615) (hm : m ≤ 140737488355328) (hr : Rd w w.heap.size A m bs) (hA : A = none → c = 0) (hb : ∀ i, 0 ≤ bs.getD i 0 ∧ bs.getD i 0 ≤ 255) :
    Calls Tryd.prog 10 #[.int .u64 n, .slice A m c] w fun e w' => e = .returned (.tuple #[blkV (pB n m bs), .int .i64 (pE n m)]) ∧ Below w.heap.size w w' := by
  by_cases h : n = 0 ∨ 44 < m
  · have e1 : pE n m = if n = 0 then 2 else 3 := by
      unfold pE
      by_cases h0 : n = 0
      · rw [if_pos h0, if_pos h0]
      · rw [if_neg h0, if_neg h0, if_pos (by omega)]
    have e2 : pB n m bs = zs 64 := by
      unfold pB
      rw [if_neg]
      rw [e1]; split <;> omega
    rw [e2]
    exact rput_zero n A m c w h0 hm h _ e1
  · have e1 : pE n m = 0 := by unfold pE; rw [if_neg (by omega), if_neg (by omega)]
    have e2 : pB n m bs = pL n bs := by unfold pB; rw [if_pos e1]
    rw [e1, e2]
    exact rput_fine n A m c bs w (by omega) h1 (by omega) hr hA hb
end Go.Proofs.YtpdaggkhnmiioaaDoor.Seal
