
/- Layer 7: blocks that vouch for themselves; blocks that are compared. -/
import Derived.Test.YtpdaggkhnmiioaaDoorSealH
import Derived.Deep.MidRow
import Derived.Outline
namespace Go.Proofs.YtpdaggkhnmiioaaDoor.Seal
open Go.ChangeShapes Go.WideShapes Go.ChangeAt Go.RowKit Go.Deep
open Mem Rec Crc Blk Ref00
open Go.Extern.Stop (cell)
set_option linter.unusedVariables false
attribute [local go_sem ↓] exec_blk exec_zero Go.wp_at_zero Go.wp_at_succ
attribute [local go_sem] run_blk run_zero

theorem bytes_cells {L : List Int} (h : ∀ i, 0 ≤ L.getD i 0 ∧ L.getD i 0 ≤ 255) : (blkC L) = ((L.map fun z => UInt8.ofNat z.toNat).map cell).toArray := by
  unfold blkC bytesV
  congr 1
  rw [List.map_map]
  apply List.map_congr_left
  intro z hz
  obtain ⟨i, hi, rfl⟩ := List.mem_iff_getElem.1 hz
  have := h i
  rw [show L.getD i 0 = L[i] by simp [List.getD, hi]] at this
  show Value.int .u8 L[i] = cell (UInt8.ofNat L[i].toNat)
  unfold cell
  congr 1
  rw [UInt8.toNat_ofNat', Nat.mod_eq_of_lt (by omega)]
  show _ = ((L[i].toNat : Nat) : Int)
  omega
theorem map_inj {L M : List Int} (hL : ∀ i, 0 ≤ L.getD i 0 ∧ L.getD i 0 ≤ 255) (hM : ∀ i, 0 ≤ M.getD i 0 ∧ M.getD i 0 ≤ 255) (h : L.map (fun z => UInt8.ofNat z.toNat) = M.map fun z => UInt8.ofNat z.toNat) : L = M := by
  have e := bytes_cells hL
  rw [h, ← bytes_cells hM] at e
  have e2 : bytesV L = bytesV M := by
    have := congrArg Array.toList e
    simpa [blkC] using this
  have hlen : L.length = M.length := by have := congrArg List.length e2; rwa [bytesV_length, bytesV_length] at this
  apply List.ext_getElem hlen
  intro i h1 h2
  have a := bytesV_at h1
  have b := bytesV_at h2
  rw [e2, b] at a
  injection a with a
  injection a with _ a
  simp [List.getD, h1, h2] at a
  exact a.symm
theorem sizeU8 : ∀ w, (sizeOf 5).run Tryd.prog w = .ok 1 w := fun _ => by kernel_rfl
/-- two blocks are compared -/
theorem eql_blk (w : World) {L M : List Int} (hL : okL L) (hM : okL M) (t : Bool) (h : decide (L = M) = t) : (Op.equalIn 10000 26 (.agg (blkC L)) (.agg (blkC M))).run Tryd.prog w = .ok t w := by
  rw [bytes_cells hL.2, bytes_cells hM.2, show (10000 : Nat) = 9998 + 2 from rfl, run_equalIn_bytes w 9998 26 5 64 Tryd.underlying26 Tryd.underlying5 sizeU8 _ _ (by rw [List.length_map]; exact hL.1) (by rw [List.length_map]; exact hM.1)]
  congr 1
  rw [← h, Bool.eq_iff_iff]
  simp only [beq_iff_eq, decide_eq_true_eq]
  exact ⟨fun e => map_inj hL.2 hM.2 e, fun e => by rw [e]⟩

theorem range_of {w : World} {g : Nat} {L : List Int} {t : TypeId} {fr : Nat × Nat} (h : w.heap[g]? = some (.cells (blkC L) t fr)) : w.rangeAt g 0 (bytesV L) := by
  intro j v hj
  rw [Nat.zero_add, cell_of_row _ _ _ _ _ _ h]
  show (bytesV L).toArray[j]? = _
  rw [List.getElem?_toArray]; exact hj
theorem range_kept {w w' : World} {g : Nat} {cs : List Value} (hb : Below w.heap.size w w') (hg : g < w.heap.size) (h : w.rangeAt g 0 cs) : w'.rangeAt g 0 cs := fun j v hj => ((bcell hb).1 _ _ hg).trans (h j v hj)
def L5 : List Int := pL 5 []
def L6 : List Int := pL 6 []
theorem ok5 : okL L5 := pL_ok (by omega) (by simp) (fun i => by simp)
theorem ok6 : okL L6 := pL_ok (by omega) (by simp) (fun i => by simp)
theorem lv1 : gE (zs 64) = 5 := by decide +kernel
theorem lv2 : nA L5 = 5 := by decide +kernel
theorem lv3 : nB L5 = 5 := by decide +kernel
theorem lv4 : nwW L5 L6 = 1 := by decide +kernel
theorem lv5 : nwE L5 L6 = 0 := by decide +kernel
theorem lv6 : nxW L6 L5 = 1 := by decide +kernel
theorem lv7 : nxW (zs 64) (zs 64) = 0 := by decide +kernel
set_option maxHeartbeats 4000000 in
theorem lives_any (w : World) (Ld : Laid w) : Calls Tryd.prog 12 #[] w fun e w' => e = .returned (.bool true) ∧ Below w.heap.size w w' := by
  have HL := Lib.hid Ld
  have C1 := put_any 0 none 0 0 [] w (by omega) (by omega) (by omega) (Rd.nil_ _ _) (fun i => by simp) Ld
  rw [show pE 0 0 = 2 by decide, show pB 0 0 [] = zs 64 by decide] at C1
  have C1 := Lib.hid C1
  have hmk : ∀ w, (Instr.makeSlice 23 (.int .i64 45) (.int .i64 45)).run Tryd.prog w = .ok (.slice (some ⟨w.heap.size, 0, none⟩) 45 45) (w.alloc (.cells (bytesV (zs 45)).toArray 5)) := fun _ => by kernel_rfl
  have K2 : Hid (∀ (W : World) (g : Nat), W.heap.size = g → Laid W → Calls Tryd.prog 9 #[.int .u64 1, .slice (some ⟨g, 0, none⟩) 45 45] (W.alloc (.cells (bytesV (zs 45)).toArray 5)) fun e w' => e = .returned (.tuple #[blkV (zs 64), .int .i64 3]) ∧ Below (W.alloc (.cells (bytesV (zs 45)).toArray 5)).heap.size (W.alloc (.cells (bytesV (zs 45)).toArray 5)) w') := Lib.hid (fun W g hg hW => by
    subst hg
    have := put_any 1 (some ⟨W.heap.size, 0, none⟩) 45 45 (zs 45) (W.alloc (.cells (bytesV (zs 45)).toArray 5)) (by omega) (by omega) (by omega) (rd_row (new_at rfl) rfl) (zs_bytes 45) (hW.below (bAlloc (Below.refl _ _) _))
    rw [show pE 1 45 = 3 by decide, show pB 1 45 (zs 45) = zs 64 by decide] at this
    exact this)
  clear Ld
  go_enter Tryd.func12, Tryd.ntmps12
  go_wp2_with fail
  refine C1.out.mono ?_
  rintro e w1 ⟨rfl, b1⟩
  have HN1 : Hid ((w1.alloc (.cells (blkC (zs 64)) 26)).heap[w1.heap.size]? = some (.cells (blkC (zs 64)) 26 (0, 0))) := Lib.hid (heap_alloc_new _ _)
  have HB1 : Hid (Below w.heap.size w ((w1.alloc (.cells (blkC (zs 64)) 26)).setRow w1.heap.size (blkC (zs 64)))) := Lib.hid (below_row _ (bAlloc b1 _) b1.size)
  have K2' := Lib.hid (K2.out _ (w1.heap.size + 1) (by simp) (HL.out.below HB1.out))
  clear b1
  go_wp2_with (first | (refine alloc_blk rfl rfl ?_) | (refine store_blk rfl (.tmp 1) _ rfl w1.heap.size (zs 64) (zs 64) _ rfl rfl HN1.out zs_64 zs_64 ?_))
  refine K2'.out.mono ?_
  rintro e w2 ⟨rfl, b2⟩
  have HN2 : Hid ((w2.alloc (.cells (blkC (zs 64)) 26)).heap[w2.heap.size]? = some (.cells (blkC (zs 64)) 26 (0, 0))) := Lib.hid (heap_alloc_new _ _)
  have b12 := bTrans (bAlloc HB1.out _) b2
  have HB2 : Hid (Below w.heap.size w ((w2.alloc (.cells (blkC (zs 64)) 26)).setRow w2.heap.size (blkC (zs 64)))) := Lib.hid (below_row _ (bAlloc b12 _) b12.size)
  have C3 := get_any (zs 64) _ zs_ok (HL.out.below HB2.out)
  have C3 := Lib.hid C3
  clear b2 b12 K2 K2' C1 HN1 HB1
  go_wp2_with (first | (refine alloc_blk rfl rfl ?_) | (refine build_blk rfl rfl ?_) | (refine store_blk rfl (.tmp 3) _ rfl w2.heap.size (zs 64) (zs 64) _ rfl rfl HN2.out zs_64 zs_64 ?_))
  refine C3.out.mono ?_
  rintro e w3 ⟨A3, m3, c3, rfl, _, _, b3⟩
  rw [lv1]
  have HB3 := Lib.hid (bTrans HB2.out b3)
  clear b3 C3 HN2 HB2
  go_wp2_with fail
  refine (sealed_any 5 w3 (by omega) (by omega) (HL.out.below HB3.out)).mono ?_
  rintro e w4 ⟨rfl, b4⟩
  have HN4 : Hid ((w4.alloc (.cells (blkC (zs 64)) 26)).heap[w4.heap.size]? = some (.cells (blkC (zs 64)) 26 (0, 0))) := Lib.hid (heap_alloc_new _ _)
  have b34 := bTrans HB3.out b4
  have B5 : Below w.heap.size w ((w4.alloc (.cells (blkC (zs 64)) 26)).setRow w4.heap.size (blkC L5)) := below_row _ (bAlloc b34 _) b34.size
  have HX5 : ((w4.alloc (.cells (blkC (zs 64)) 26)).setRow w4.heap.size (blkC L5)).heap[w4.heap.size]? = some (.cells (blkC L5) 26 (0, 0)) := row_at HN4.out
  have r64 := blk_rd HX5 0 64 (by have := ok5.1; omega)
  rw [List.drop_zero, List.take_of_length_le (by have := ok5.1; omega)] at r64
  have F1 := NumA.refGet_all _ (some ⟨w4.heap.size, 0, none⟩) 64 64 L5 (4 : Nat) 8 _ r64 ok5.2 (by omega) (by omega) (by omega)
  have F2 := NumA.refGet_all _ (some ⟨w4.heap.size, 0, none⟩) 64 64 L5 (56 : Nat) 8 _ r64 ok5.2 (by omega) (by omega) (by omega)
  rw [get_8 L5 4 (by omega)] at F1
  rw [get_8 L5 56 (by omega)] at F2
  change Calls _ _ _ _ (fun e w' => e = .returned (.tuple #[.int .u64 (nA L5), .int .i64 (NumA.getE 64 (4 : Nat) 8)]) ∧ _ = w') at F1
  change Calls _ _ _ _ (fun e w' => e = .returned (.tuple #[.int .u64 (nB L5), .int .i64 (NumA.getE 64 (56 : Nat) 8)]) ∧ _ = w') at F2
  rw [lv2] at F1
  rw [lv3] at F2
  change Calls _ _ #[_, .int .i64 4, .int .i64 8] _ _ at F1
  change Calls _ _ #[_, .int .i64 56, .int .i64 8] _ _ at F2
  have F1 := Lib.hid F1
  have F2 := Lib.hid F2
  have HB5 := Lib.hid B5
  have HX := Lib.hid HX5
  have S0 : Hid (w4.heap.size < ((w4.alloc (.cells (blkC (zs 64)) 26)).setRow w4.heap.size (blkC L5)).heap.size ∧ ((w4.alloc (.cells (blkC (zs 64)) 26)).setRow w4.heap.size (blkC L5)).rangeAt w4.heap.size 0 (bytesV L5)) := Lib.hid ⟨by simp, range_of HX5⟩
  clear HX5 r64 B5 b34 b4
  change Hid _ at HN4
  rw [show pL 5 [] = L5 from rfl]
  go_wp2_with (first | (refine alloc_blk rfl rfl ?_) | (refine store_blk rfl (.tmp 8) _ rfl w4.heap.size L5 (zs 64) _ rfl rfl HN4.out ok5.1 zs_64 ?_))
  refine F1.out.mono ?_
  rintro e w5 ⟨rfl, rfl⟩
  go_wp2_with fail
  refine F2.out.mono ?_
  rintro e w5 ⟨rfl, rfl⟩
  generalize (w4.alloc (.cells (blkC (zs 64)) 26)).setRow w4.heap.size (blkC L5) = w5 at HB5 S0 ⊢
  have HL5 := Lib.hid (HL.out.below HB5.out)
  have G6 : Hid (∀ W, Below w5.heap.size w5 W → Calls Tryd.prog 28 #[.int .u64 6] W fun e w' => e = .returned (blkV L6) ∧ Below W.heap.size W w') := Lib.hid (fun W hW => sealed_any 6 W (by omega) (by omega) (HL5.out.below hW))
  have GW : Hid (∀ W, Below w5.heap.size w5 W → Calls Tryd.prog 16 #[blkV L5, blkV L6] W fun e w' => e = .returned (.tuple #[.int .i64 1, .int .i64 0]) ∧ Below W.heap.size W w') := Lib.hid (fun W hW => by
    have := newest_any L5 L6 W ok5 ok6 (HL5.out.below hW)
    rw [lv4, lv5] at this; exact this)
  have GX : Hid (∀ W, Below w5.heap.size w5 W → Calls Tryd.prog 18 #[blkV L6, blkV L5] W fun e w' => e = .returned (.int .i64 1) ∧ Below W.heap.size W w') := Lib.hid (fun W hW => by
    have := next_any L6 L5 W ok6 ok5 (HL5.out.below hW)
    rw [lv6] at this; exact this)
  have GZ : Hid (∀ W, Below w5.heap.size w5 W → Calls Tryd.prog 18 #[blkV (zs 64), blkV (zs 64)] W fun e w' => e = .returned (.int .i64 0) ∧ Below W.heap.size W w') := Lib.hid (fun W hW => by
    have := next_any (zs 64) (zs 64) W zs_ok zs_ok (HL5.out.below hW)
    rw [lv7] at this; exact this)
  obtain ⟨hlt, S1⟩ := S0.out
  have hu := Tryd.underlying26
  have hi5 : (Tryd.prog.info? 26).map (·.size) = some (bytesV L5).length := by rw [bytesV_length, ok5.1]; exact infoBlk
  clear S0 F1 F2 HX HN4 HB3
  go_wp2_with fail
  go_region_held3 (fun w' => w'.rangeAt w4.heap.size 0 (bytesV L5) ∧ Below w5.heap.size w5 w') (first | exact ⟨range_kept Bn hlt S1, Bn⟩ | exact ⟨S1, Below.refl _ _⟩ | exact ⟨S1, bDrew (Below.refl _ _)⟩) (first
      | (go_at_call 28; refine (G6.out _ (by first | assumption | exact bDrew (Below.refl _ _) | exact Below.refl _ _)).mono ?_; rintro e wn ⟨rfl, bn⟩; have Bn : Below w5.heap.size w5 wn := bTrans (by first | assumption | exact bDrew (Below.refl _ _) | exact Below.refl _ _) bn)
      | (go_at_call 16; refine (GW.out _ (by first | assumption | exact bDrew (Below.refl _ _) | exact Below.refl _ _)).mono ?_; rintro e wn ⟨rfl, bn⟩; have Bn : Below w5.heap.size w5 wn := bTrans (by first | assumption | exact bDrew (Below.refl _ _) | exact Below.refl _ _) bn)
      | (go_at_call_of 18 (blkV L6); refine (GX.out _ (by first | assumption | exact bDrew (Below.refl _ _) | exact Below.refl _ _)).mono ?_; rintro e wn ⟨rfl, bn⟩; have Bn : Below w5.heap.size w5 wn := bTrans (by first | assumption | exact bDrew (Below.refl _ _) | exact Below.refl _ _) bn)
      | (go_at_call_of 18 (blkV (zs 64)); refine (GZ.out _ (by first | assumption | exact bDrew (Below.refl _ _) | exact Below.refl _ _)).mono ?_; rintro e wn ⟨rfl, bn⟩; have Bn : Below w5.heap.size w5 wn := bTrans (by first | assumption | exact bDrew (Below.refl _ _) | exact Below.refl _ _) bn))
  all_goals
    have B6 := Bn
    have S2 := range_kept Bn hlt S1
    clear Bn bn
    generalize NumA.getE 64 (4 : Nat) 8 = z1
    go_wp2_with fail
    go_region_held3 (fun w' => w'.rangeAt w4.heap.size 0 (bytesV L5) ∧ Below w5.heap.size w5 w') (first | exact ⟨range_kept Bn hlt S1, Bn⟩ | exact ⟨S2, B6⟩ | exact ⟨S2, bDrew B6⟩) (first
      | (go_at_call 28; refine (G6.out _ (by first | assumption | exact bDrew B6 | exact B6)).mono ?_; rintro e wm ⟨rfl, bn⟩; have Bn : Below w5.heap.size w5 wm := bTrans (by first | assumption | exact bDrew B6 | exact B6) bn)
      | (go_at_call_of 18 (blkV L6); refine (GX.out _ (by first | assumption | exact bDrew B6 | exact B6)).mono ?_; rintro e wm ⟨rfl, bn⟩; have Bn : Below w5.heap.size w5 wm := bTrans (by first | assumption | exact bDrew B6 | exact B6) bn)
      | (go_at_call_of 18 (blkV (zs 64)); refine (GZ.out _ (by first | assumption | exact bDrew B6 | exact B6)).mono ?_; rintro e wm ⟨rfl, bn⟩; have Bn : Below w5.heap.size w5 wm := bTrans (by first | assumption | exact bDrew B6 | exact B6) bn))
    all_goals
      go_wp2
      go_ret
      exact ⟨rfl, bTrans HB5.out Bn⟩
end Go.Proofs.YtpdaggkhnmiioaaDoor.Seal
