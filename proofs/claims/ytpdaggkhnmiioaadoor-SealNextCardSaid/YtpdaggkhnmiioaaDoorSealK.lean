
/- Contracts of layer 7: what is held of a torn write. -/
import Derived.Test.YtpdaggkhnmiioaaDoorSealJ
namespace Go.Proofs.YtpdaggkhnmiioaaDoor.Seal
open Go.ChangeShapes Go.WideShapes Go.ChangeAt Go.RowKit Go.Deep
open Mem Rec Crc Blk Ref00
set_option linter.unusedVariables false

theorem getD_ext {A B : List Int} (ha : A.length = 64) (hb : B.length = 64) (h : ∀ i, i < 64 → A.getD i 0 = B.getD i 0) : A = B := by
  apply List.ext_getElem (by omega)
  intro i h1 h2
  have := h i (by omega)
  simpa [List.getD, h1, h2] using this
/-- from place lo up to place k the other one's bytes -/
def patch (L M : List Int) (lo k : Nat) : List Int := (List.range 64).map fun i => if lo ≤ i ∧ i < k then M.getD i 0 else L.getD i 0
theorem patch_len (L M : List Int) (lo k : Nat) : (patch L M lo k).length = 64 := by simp [patch]
theorem patch_get (L M : List Int) (lo k : Nat) {i : Nat} (h : i < 64) : (patch L M lo k).getD i 0 = if lo ≤ i ∧ i < k then M.getD i 0 else L.getD i 0 := by simp [patch, List.getD, h]
theorem patch_zero {L : List Int} (hL : L.length = 64) (M : List Int) (lo : Nat) : patch L M lo lo = L :=
  getD_ext (patch_len _ _ _ _) hL fun i hi => by rw [patch_get _ _ _ _ hi, if_neg (by omega)]
theorem patch_set (L M : List Int) {lo k : Nat} (h : lo ≤ k) (hk : k < 64) : (patch L M lo k).set k (M.getD k 0) = patch L M lo (k + 1) :=
  getD_ext (by rw [List.length_set, patch_len]) (patch_len _ _ _ _) fun i hi => by
    rw [set_get (by rw [patch_len]; exact hk), patch_get _ _ _ _ hi, patch_get _ _ _ _ hi]
    by_cases e : i = k
    · subst e; rw [if_pos rfl, if_pos (by omega)]
    · rw [if_neg e]
      by_cases e2 : lo ≤ i ∧ i < k
      · rw [if_pos e2, if_pos (by omega)]
      · rw [if_neg e2, if_neg (by omega)]
theorem patch_a {L M : List Int} (hL : okL L) (hM : okL M) : patch L M 0 32 = torn M L :=
  getD_ext (patch_len _ _ _ _) (torn_len hM hL) fun i hi => by
    rw [patch_get _ _ _ _ hi]
    by_cases e : i < 32
    · rw [if_pos (by omega), torn_low hM e]
    · rw [if_neg (by omega), torn_high hM (by omega)]
theorem patch_b {L M : List Int} (hL : okL L) (hM : okL M) : patch L M 32 64 = torn L M :=
  getD_ext (patch_len _ _ _ _) (torn_len hL hM) fun i hi => by
    rw [patch_get _ _ _ _ hi]
    by_cases e : i < 32
    · rw [if_neg (by omega), torn_low hL e]
    · rw [if_pos (by omega), torn_high hL (by omega)]
theorem blk_set {L : List Int} {k : Nat} (v : Int) : (blkC L).setIfInBounds k (.int .u8 v) = blkC (L.set k v) := by
  unfold blkC bytesV
  rw [List.setIfInBounds_toArray, List.map_set]

set_option maxRecDepth 100000 in
set_option maxHeartbeats 1000000 in
theorem half_0 (L M : List Int) (w : World) (hL : okL L) (hM : okL M) :
    Calls Tryd.prog 32 #[blkV L, blkV M, .int .i64 0] w fun e w' => e = .returned (blkV (torn M L)) ∧ Below w.heap.size w w' := by
  have B0 := bAlloc (bAlloc (bAlloc (Below.refl w.heap.size w) (.cells (blkC L) 26)) (.cells (blkC M) 26)) (.cells (blkC (zs 64)) 26)
  have hx : (((w.alloc (.cells (blkC L) 26)).alloc (.cells (blkC M) 26)).alloc (.cells (blkC (zs 64)) 26)).heap[w.heap.size]? = some (.cells (blkC L) 26 (0, 0)) := kept_at (kept_at (heap_alloc_new w _))
  have hy : (((w.alloc (.cells (blkC L) 26)).alloc (.cells (blkC M) 26)).alloc (.cells (blkC (zs 64)) 26)).heap[w.heap.size + 1]? = some (.cells (blkC M) 26 (0, 0)) := kept_at (new_at (by simp))
  have hr : (((w.alloc (.cells (blkC L) 26)).alloc (.cells (blkC M) 26)).alloc (.cells (blkC (zs 64)) 26)).heap[w.heap.size + 2]? = some (.cells (blkC (zs 64)) 26 (0, 0)) := new_at (by simp)
  have HX := Lib.hid hx
  have HY := Lib.hid hy
  have HR := Lib.hid hr
  have HB0 := Lib.hid B0
  have HL := Lib.hid hL
  have HM := Lib.hid hM
  have HMl := Lib.hid hM.1
  have HPl := Lib.hid (fun k => patch_len L M 0 k)
  clear hx hy hr B0 hL hM
  go_enter Tryd.func32, Tryd.ntmps32
  go_wp2_with (first | (refine alloc_blk rfl rfl ?_))
  go_loopw [7] (fun i wr => ∃ k : Nat, 0 ≤ k ∧ k ≤ 32 ∧ i = .int .i64 k ∧ wr.heap[w.heap.size]? = some (.cells (blkC (patch L M 0 k)) 26 (0, 0)) ∧ wr.heap[w.heap.size + 1]? = some (.cells (blkC M) 26 (0, 0)) ∧ wr.heap[w.heap.size + 2]? = some (.cells (blkC (zs 64)) 26 (0, 0)) ∧ Below w.heap.size w wr) (fun i _ => 32 - (intOf i).toNat)
  case atStart => exact ⟨0, by omega, by omega, rfl, by rw [patch_zero HL.out.1]; simpa using HX.out, by simpa using HY.out, by simpa using HR.out, by simpa using HB0.out⟩
  case round =>
    obtain ⟨k, hk0, hk, rfl, hx, hy, hr, hb⟩ := hrel
    by_cases hlt : k < 32
    · have hlt' : (k : Int) < 32 := by omega
      have hk64 : k < 64 := by omega
      have f0 := frozen_of_row wr w.heap.size k _ _ hx
      have c0 : wr.cell? ⟨w.heap.size, k, none⟩ = some (.int .u8 ((patch L M 0 k).getD k 0)) := by
        rw [cell_of_row _ _ _ _ _ _ hx, blkC_get (by rw [HPl.out]; exact hk64)]
      have c1 : wr.cell? ⟨w.heap.size + 1, k, none⟩ = some (.int .u8 (M.getD k 0)) := by
        rw [cell_of_row _ _ _ _ _ _ hy, blkC_get (by rw [HMl.out]; exact hk64)]
      have HX5 : Hid ((wr.setCell ⟨w.heap.size, k, none⟩ (.int .u8 (M.getD k 0))).heap[w.heap.size]? = some (.cells (blkC (patch L M 0 (k + 1))) 26 (0, 0))) := Lib.hid (by
        rw [heap_setCell_same wr _ k _ _ _ hx, blk_set, patch_set L M hk0 hk64])
      have HY5 := Lib.hid ((heap_setCell_other wr ⟨w.heap.size, k, none⟩ (w.heap.size + 1) (.int .u8 (M.getD k 0)) (by show w.heap.size + 1 ≠ w.heap.size; omega)).trans hy)
      have HR5 := Lib.hid ((heap_setCell_other wr ⟨w.heap.size, k, none⟩ (w.heap.size + 2) (.int .u8 (M.getD k 0)) (by show w.heap.size + 2 ≠ w.heap.size; omega)).trans hr)
      have HB5 : Hid (∀ v : Value, Below w.heap.size w (wr.setCell ⟨w.heap.size, k, none⟩ v)) := Lib.hid (fun v => bSet hb (p := ⟨w.heap.size, k, none⟩) (Nat.le_refl _) v)
      clear hx hy hr hb
      generalize M.getD k 0 = v at *
      go_wp2_with fail
      go_roundw
      case rel => exact ⟨k + 1, by omega, by omega, by go_num, HX5.out, HY5.out, HR5.out, HB5.out _⟩
      case measure => simp [intOf]; omega
    · obtain rfl : k = 32 := by omega
      have HX6 := Lib.hid hx
      have HR6 := Lib.hid hr
      have HB6 := Lib.hid hb
      have h64 := Lib.hid (infoB (patch L M 0 32) (patch_len _ _ _ _))
      have HE := Lib.hid (patch_a HL.out HM.out)
      clear hx hy hr hb
      go_wp2_with (first | (refine load_blk rfl (.tmp 3) rfl w.heap.size rfl (patch L M 0 32) _ _ HX6.out (HPl.out _) ?_) | (refine store_blk rfl (.tmp 6) _ rfl (w.heap.size + 2) (patch L M 0 32) (zs 64) _ rfl rfl HR6.out (HPl.out _) zs_64 ?_))
      refine bodyPost_ret (v := blkV (patch L M 0 32)) ?_ rfl ⟨by rw [HE.out], ?_⟩
      · exact results_cell_row rfl _ _ (w.heap.size + 2) _ _ _ _ rfl (row_at HR6.out) Tryd.underlying26 rfl h64.out
      · exact below_row _ HB6.out (by omega)

set_option maxRecDepth 100000 in
set_option maxHeartbeats 1000000 in
theorem half_1 (L M : List Int) (w : World) (hL : okL L) (hM : okL M) :
    Calls Tryd.prog 32 #[blkV L, blkV M, .int .i64 1] w fun e w' => e = .returned (blkV (torn L M)) ∧ Below w.heap.size w w' := by
  have B0 := bAlloc (bAlloc (bAlloc (Below.refl w.heap.size w) (.cells (blkC L) 26)) (.cells (blkC M) 26)) (.cells (blkC (zs 64)) 26)
  have hx : (((w.alloc (.cells (blkC L) 26)).alloc (.cells (blkC M) 26)).alloc (.cells (blkC (zs 64)) 26)).heap[w.heap.size]? = some (.cells (blkC L) 26 (0, 0)) := kept_at (kept_at (heap_alloc_new w _))
  have hy : (((w.alloc (.cells (blkC L) 26)).alloc (.cells (blkC M) 26)).alloc (.cells (blkC (zs 64)) 26)).heap[w.heap.size + 1]? = some (.cells (blkC M) 26 (0, 0)) := kept_at (new_at (by simp))
  have hr : (((w.alloc (.cells (blkC L) 26)).alloc (.cells (blkC M) 26)).alloc (.cells (blkC (zs 64)) 26)).heap[w.heap.size + 2]? = some (.cells (blkC (zs 64)) 26 (0, 0)) := new_at (by simp)
  have HX := Lib.hid hx
  have HY := Lib.hid hy
  have HR := Lib.hid hr
  have HB0 := Lib.hid B0
  have HL := Lib.hid hL
  have HM := Lib.hid hM
  have HMl := Lib.hid hM.1
  have HPl := Lib.hid (fun k => patch_len L M 32 k)
  clear hx hy hr B0 hL hM
  go_enter Tryd.func32, Tryd.ntmps32
  go_wp2_with (first | (refine alloc_blk rfl rfl ?_))
  go_loopw [7] (fun i wr => ∃ k : Nat, 32 ≤ k ∧ k ≤ 64 ∧ i = .int .i64 k ∧ wr.heap[w.heap.size]? = some (.cells (blkC (patch L M 32 k)) 26 (0, 0)) ∧ wr.heap[w.heap.size + 1]? = some (.cells (blkC M) 26 (0, 0)) ∧ wr.heap[w.heap.size + 2]? = some (.cells (blkC (zs 64)) 26 (0, 0)) ∧ Below w.heap.size w wr) (fun i _ => 64 - (intOf i).toNat)
  case atStart => exact ⟨32, by omega, by omega, rfl, by rw [patch_zero HL.out.1]; simpa using HX.out, by simpa using HY.out, by simpa using HR.out, by simpa using HB0.out⟩
  case round =>
    obtain ⟨k, hk0, hk, rfl, hx, hy, hr, hb⟩ := hrel
    by_cases hlt : k < 64
    · have hlt' : (k : Int) < 64 := by omega
      have hk64 : k < 64 := by omega
      have f0 := frozen_of_row wr w.heap.size k _ _ hx
      have c0 : wr.cell? ⟨w.heap.size, k, none⟩ = some (.int .u8 ((patch L M 32 k).getD k 0)) := by
        rw [cell_of_row _ _ _ _ _ _ hx, blkC_get (by rw [HPl.out]; exact hk64)]
      have c1 : wr.cell? ⟨w.heap.size + 1, k, none⟩ = some (.int .u8 (M.getD k 0)) := by
        rw [cell_of_row _ _ _ _ _ _ hy, blkC_get (by rw [HMl.out]; exact hk64)]
      have HX5 : Hid ((wr.setCell ⟨w.heap.size, k, none⟩ (.int .u8 (M.getD k 0))).heap[w.heap.size]? = some (.cells (blkC (patch L M 32 (k + 1))) 26 (0, 0))) := Lib.hid (by
        rw [heap_setCell_same wr _ k _ _ _ hx, blk_set, patch_set L M hk0 hk64])
      have HY5 := Lib.hid ((heap_setCell_other wr ⟨w.heap.size, k, none⟩ (w.heap.size + 1) (.int .u8 (M.getD k 0)) (by show w.heap.size + 1 ≠ w.heap.size; omega)).trans hy)
      have HR5 := Lib.hid ((heap_setCell_other wr ⟨w.heap.size, k, none⟩ (w.heap.size + 2) (.int .u8 (M.getD k 0)) (by show w.heap.size + 2 ≠ w.heap.size; omega)).trans hr)
      have HB5 : Hid (∀ v : Value, Below w.heap.size w (wr.setCell ⟨w.heap.size, k, none⟩ v)) := Lib.hid (fun v => bSet hb (p := ⟨w.heap.size, k, none⟩) (Nat.le_refl _) v)
      clear hx hy hr hb
      generalize M.getD k 0 = v at *
      go_wp2_with fail
      go_roundw
      case rel => exact ⟨k + 1, by omega, by omega, by go_num, HX5.out, HY5.out, HR5.out, HB5.out _⟩
      case measure => simp [intOf]; omega
    · obtain rfl : k = 64 := by omega
      have HX6 := Lib.hid hx
      have HR6 := Lib.hid hr
      have HB6 := Lib.hid hb
      have h64 := Lib.hid (infoB (patch L M 32 64) (patch_len _ _ _ _))
      have HE := Lib.hid (patch_b HL.out HM.out)
      clear hx hy hr hb
      go_wp2_with (first | (refine load_blk rfl (.tmp 3) rfl w.heap.size rfl (patch L M 32 64) _ _ HX6.out (HPl.out _) ?_) | (refine store_blk rfl (.tmp 6) _ rfl (w.heap.size + 2) (patch L M 32 64) (zs 64) _ rfl rfl HR6.out (HPl.out _) zs_64 ?_))
      refine bodyPost_ret (v := blkV (patch L M 32 64)) ?_ rfl ⟨by rw [HE.out], ?_⟩
      · exact results_cell_row rfl _ _ (w.heap.size + 2) _ _ _ _ rfl (row_at HR6.out) Tryd.underlying26 rfl h64.out
      · exact below_row _ HB6.out (by omega)

set_option maxRecDepth 100000 in
set_option maxHeartbeats 1000000 in
/-- what is held of a write -/
theorem torn_any (L M : List Int) (p : Int) (w : World) (hL : okL L) (hM : okL M) (p0 : -9223372036854775808 ≤ p) (p1 : p ≤ 9223372036854775807) :
    Calls Tryd.prog 22 #[blkV L, blkV M, .int .i64 p] w fun e w' => e = .returned (blkV (held L M p)) ∧ Below w.heap.size w w' := by
  have B0 := bAlloc (bAlloc (bAlloc (Below.refl w.heap.size w) (.cells (blkC L) 26)) (.cells (blkC M) 26)) (.cells (blkC (zs 64)) 26)
  have hx : (((w.alloc (.cells (blkC L) 26)).alloc (.cells (blkC M) 26)).alloc (.cells (blkC (zs 64)) 26)).heap[w.heap.size]? = some (.cells (blkC L) 26 (0, 0)) := kept_at (kept_at (heap_alloc_new w _))
  have hy : (((w.alloc (.cells (blkC L) 26)).alloc (.cells (blkC M) 26)).alloc (.cells (blkC (zs 64)) 26)).heap[w.heap.size + 1]? = some (.cells (blkC M) 26 (0, 0)) := kept_at (new_at (by simp))
  have hr : (((w.alloc (.cells (blkC L) 26)).alloc (.cells (blkC M) 26)).alloc (.cells (blkC (zs 64)) 26)).heap[w.heap.size + 2]? = some (.cells (blkC (zs 64)) 26 (0, 0)) := new_at (by simp)
  have HX := Lib.hid hx
  have HY := Lib.hid hy
  have HR := Lib.hid hr
  have HB0 := Lib.hid B0
  have C0 := Lib.hid (fun W => half_0 L M W hL hM)
  have C1 := Lib.hid (fun W => half_1 L M W hL hM)
  have HL := Lib.hid hL.1
  have HM := Lib.hid hM.1
  have T0 := Lib.hid (torn_len hM hL)
  have T1 := Lib.hid (torn_len hL hM)
  have I0 := Lib.hid (infoB L hL.1)
  have I1 := Lib.hid (infoB M hM.1)
  have I2 := Lib.hid (infoB (torn M L) (torn_len hM hL))
  have I3 := Lib.hid (infoB (torn L M) (torn_len hL hM))
  clear hx hy hr B0 hL hM
  have ht : 0 ≤ p → Int.tmod p 2 = p % 2 := fun h => Int.tmod_eq_emod_of_nonneg h
  by_cases h1 : p < 1
  · have e : Hid (held L M p = L) := Lib.hid (by unfold held; rw [if_pos h1])
    clear ht
    go_enter Tryd.func22, Tryd.ntmps22
    go_wp2_with (first | (refine alloc_blk rfl rfl ?_) | (refine load_blk rfl (.tmp 3) rfl w.heap.size rfl L _ _ HX.out HL.out ?_) | (refine store_blk rfl (.tmp 6) _ rfl (w.heap.size + 2) L (zs 64) _ rfl rfl HR.out HL.out zs_64 ?_))
    refine bodyPost_ret (v := blkV L) ?_ rfl ⟨by rw [e.out], ?_⟩
    · exact results_cell_row rfl _ _ (w.heap.size + 2) _ _ _ _ rfl (row_at HR.out) Tryd.underlying26 rfl I0.out
    · exact below_row _ HB0.out (by omega)
  by_cases h2 : 64 ≤ p
  · have e : Hid (held L M p = M) := Lib.hid (by unfold held; rw [if_neg h1, if_pos h2])
    clear ht
    go_enter Tryd.func22, Tryd.ntmps22
    go_wp2_with (first | (refine alloc_blk rfl rfl ?_) | (refine load_blk rfl (.tmp 4) rfl (w.heap.size + 1) rfl M _ _ HY.out HM.out ?_) | (refine store_blk rfl (.tmp 6) _ rfl (w.heap.size + 2) M (zs 64) _ rfl rfl HR.out HM.out zs_64 ?_))
    refine bodyPost_ret (v := blkV M) ?_ rfl ⟨by rw [e.out], ?_⟩
    · exact results_cell_row rfl _ _ (w.heap.size + 2) _ _ _ _ rfl (row_at HR.out) Tryd.underlying26 rfl I1.out
    · exact below_row _ HB0.out (by omega)
  have ht := ht (by omega)
  by_cases h3 : p % 2 = 1
  · have e : Hid (held L M p = torn M L) := Lib.hid (by unfold held; rw [if_neg h1, if_neg h2, if_pos h3])
    rw [h3] at ht
    go_enter Tryd.func22, Tryd.ntmps22
    go_wp2_with (first | (refine alloc_blk rfl rfl ?_) | (refine load_blk rfl (.tmp 3) rfl w.heap.size rfl L _ _ HX.out HL.out ?_) | (refine load_blk rfl (.tmp 4) rfl (w.heap.size + 1) rfl M _ _ HY.out HM.out ?_))
    refine (C0.out _).mono ?_
    rintro e2 w2 ⟨rfl, b2⟩
    have HR2 := Lib.hid (kept_at' b2 HR.out)
    have HB2 := Lib.hid (bTrans HB0.out b2)
    clear b2
    go_wp2_with (first | (refine store_blk rfl (.tmp 6) _ rfl (w.heap.size + 2) (torn M L) (zs 64) _ rfl rfl HR2.out T0.out zs_64 ?_))
    refine bodyPost_ret (v := blkV (torn M L)) ?_ rfl ⟨by rw [e.out], ?_⟩
    · exact results_cell_row rfl _ _ (w.heap.size + 2) _ _ _ _ rfl (row_at HR2.out) Tryd.underlying26 rfl I2.out
    · exact below_row _ HB2.out (by omega)
  · have e : Hid (held L M p = torn L M) := Lib.hid (by unfold held; rw [if_neg h1, if_neg h2, if_neg h3])
    have h4 : p % 2 = 0 := by omega
    rw [h4] at ht
    go_enter Tryd.func22, Tryd.ntmps22
    go_wp2_with (first | (refine alloc_blk rfl rfl ?_) | (refine load_blk rfl (.tmp 3) rfl w.heap.size rfl L _ _ HX.out HL.out ?_) | (refine load_blk rfl (.tmp 4) rfl (w.heap.size + 1) rfl M _ _ HY.out HM.out ?_))
    refine (C1.out _).mono ?_
    rintro e2 w2 ⟨rfl, b2⟩
    have HR2 := Lib.hid (kept_at' b2 HR.out)
    have HB2 := Lib.hid (bTrans HB0.out b2)
    clear b2
    go_wp2_with (first | (refine store_blk rfl (.tmp 6) _ rfl (w.heap.size + 2) (torn L M) (zs 64) _ rfl rfl HR2.out T1.out zs_64 ?_))
    refine bodyPost_ret (v := blkV (torn L M)) ?_ rfl ⟨by rw [e.out], ?_⟩
    · exact results_cell_row rfl _ _ (w.heap.size + 2) _ _ _ _ rfl (row_at HR2.out) Tryd.underlying26 rfl I3.out
    · exact below_row _ HB2.out (by omega)

end Go.Proofs.YtpdaggkhnmiioaaDoor.Seal
