
/- Contracts of layer 7: the document's Get; which of two blocks is the newest. -/
import Derived.Test.YtpdaggkhnmiioaaDoorSealA

namespace Go.Proofs.YtpdaggkhnmiioaaDoor.Seal
open Go.ChangeShapes Go.WideShapes Go.ChangeAt Go.RowKit Go.Deep
open Mem Rec Crc Blk Ref00
set_option linter.unusedVariables false

theorem part_at {L : List Int} (o k i : Nat) (h : i < k) : ((L.drop o).take k).getD i 0 = L.getD (o + i) 0 := by simp [List.getD, h]
theorem get_4 (L : List Int) (o : Nat) (ho : o + 4 ≤ 64) : NumA.getV 64 L o 4 = fld ((L.drop o).take 4) 4 := by
  have e1 : NumA.getE 64 (o : Int) 4 = 0 := by
    unfold NumA.getE
    rw [if_neg (by rw [show NumA.sizeB 4 = true by decide]; simp; omega), if_neg (by omega)]
  have e2 : NumA.getE 4 0 4 = 0 := by decide
  unfold fld NumA.getV
  rw [show ((4 : Nat) : Int) = 4 from rfl, e1, e2, if_pos rfl, if_pos rfl]
  unfold NumA.num NumA.bt
  simp only [Int.toNat_natCast, Int.toNat_zero, Nat.zero_add]
  rw [part_at o 4 0 (by omega), part_at o 4 1 (by omega), part_at o 4 2 (by omega), part_at o 4 3 (by omega)]
  rfl
theorem get_8 (L : List Int) (o : Nat) (ho : o + 8 ≤ 64) : NumA.getV 64 L o 8 = fld ((L.drop o).take 8) 8 := by
  have e1 : NumA.getE 64 (o : Int) 8 = 0 := by
    unfold NumA.getE
    rw [if_neg (by rw [show NumA.sizeB 8 = true by decide]; simp; omega), if_neg (by omega)]
  have e2 : NumA.getE 8 0 8 = 0 := by decide
  unfold fld NumA.getV
  rw [show ((8 : Nat) : Int) = 8 from rfl, e1, e2, if_pos rfl, if_pos rfl]
  unfold NumA.num NumA.bt
  simp only [Int.toNat_natCast, Int.toNat_zero, Nat.zero_add]
  rw [part_at o 8 0 (by omega), part_at o 8 1 (by omega), part_at o 8 2 (by omega), part_at o 8 3 (by omega), part_at o 8 4 (by omega), part_at o 8 5 (by omega), part_at o 8 6 (by omega), part_at o 8 7 (by omega)]
  rfl
theorem fld_nonneg {bs : List Int} (h : ∀ i, 0 ≤ bs.getD i 0 ∧ bs.getD i 0 ≤ 255) (k : Nat) : 0 ≤ fld bs k := by
  unfold fld NumA.getV
  split
  · unfold NumA.num NumA.bt
    have h0 := (h (0 : Int).toNat).1
    have h1 := (h ((0 : Int).toNat + 1)).1
    have h2 := (h ((0 : Int).toNat + 2)).1
    have h3 := (h ((0 : Int).toNat + 3)).1
    have h4 := (h ((0 : Int).toNat + 4)).1
    have h5 := (h ((0 : Int).toNat + 5)).1
    have h6 := (h ((0 : Int).toNat + 6)).1
    have h7 := (h ((0 : Int).toNat + 7)).1
    split
    · exact h0
    · split
      · omega
      · split <;> omega
  · omega
theorem nA_nonneg {L : List Int} (h : okL L) : 0 ≤ nA L := fld_nonneg (part_bytes h.2 4 8) 8
set_option maxHeartbeats 1000000 in
theorem rget_any (L : List Int) (w : World) (hL : okL L) : Calls Tryd.prog 14 #[blkV L] w (Got w L) := by
  have hg : (w.alloc (.cells (blkC L) 26)).heap[w.heap.size]? = some (.cells (blkC L) 26 (0, 0)) := heap_alloc_new _ _
  have hl := hL.1
  have hx0 := nA_nonneg hL
  have B0 := bAlloc (Below.refl w.heap.size w) (.cells (blkC L) 26)
  have r64 : Rd (w.alloc (.cells (blkC L) 26)) (w.alloc (.cells (blkC L) 26)).heap.size (some ⟨w.heap.size, 0, none⟩) 64 L := by
    have := blk_rd hg 0 64 (by omega)
    rwa [List.drop_zero, List.take_of_length_le (by omega)] at this
  have F1 := NumA.refGet_all _ (some ⟨w.heap.size, 0, none⟩) 64 64 L (0 : Nat) 4 _ r64 hL.2 (by omega) (by omega) (by omega)
  have F2 := NumA.refGet_all _ (some ⟨w.heap.size, 0, none⟩) 64 64 L (4 : Nat) 8 _ r64 hL.2 (by omega) (by omega) (by omega)
  have F3 := NumA.refGet_all _ (some ⟨w.heap.size, 0, none⟩) 64 64 L (56 : Nat) 8 _ r64 hL.2 (by omega) (by omega) (by omega)
  rw [get_4 L 0 (by omega)] at F1
  rw [get_8 L 4 (by omega)] at F2
  rw [get_8 L 56 (by omega)] at F3
  have F4 := rof_any (some ⟨w.heap.size, 4, none⟩) 60 60 _ (w.alloc (.cells (blkC L) 26)) _ (blk_rd hg 4 60 (by omega)) (part_bytes hL.2 4 60) (by omega)
  have HR := Lib.hid (blk_rd (w := w.alloc (.cells (blkC L) 26)) hg 12 44 (by omega))
  change Calls _ _ _ _ (fun e w' => e = .returned (.tuple #[.int .u64 (sA L), .int .i64 (NumA.getE 64 (0 : Nat) 4)]) ∧ _ = w') at F1
  change Calls _ _ _ _ (fun e w' => e = .returned (.tuple #[.int .u64 (nA L), .int .i64 (NumA.getE 64 (4 : Nat) 8)]) ∧ _ = w') at F2
  change Calls _ _ _ _ (fun e w' => e = .returned (.tuple #[.int .u64 (nB L), .int .i64 (NumA.getE 64 (56 : Nat) 8)]) ∧ _ = w') at F3
  change Calls _ _ _ _ (fun e w' => e = .returned (.int .u32 (sB L)) ∧ _ = w') at F4
  have c0 : 0 ≤ sB L := CrcM.num_lo _
  have c1 : sB L ≤ 4294967295 := CrcM.num_hi _
  have HB0 := Lib.hid B0
  have HG : Hid (∀ k, gE L = k → k ≠ 0 → ∀ w w' : World, Below w.heap.size w w' → Got w L (.returned (.tuple #[.int .u64 0, .slice none 0 0, .int .i64 k])) w') := Lib.hid (fun k h1 h2 w w' hb => got_none h1 h2 hb)
  have HN : Hid (gE L = 0 → ∀ (w w' : World) (A : Option Addr) (c : Nat), (A = none → c = 0) → Rd w' w'.heap.size A 44 ((L.drop 12).take 44) → Below w.heap.size w w' → Got w L (.returned (.tuple #[.int .u64 (nA L), .slice A 44 c, .int .i64 0])) w') := Lib.hid (fun h w w' A c h1 h2 h3 => got_all h h1 h2 h3)
  have HE : Hid (gE L = if nA L ≠ nB L ∨ nA L = 0 then 5 else if sA L ≠ sB L then 6 else 0) := Lib.hid rfl
  generalize nA L = x at F2 hx0 HN HE
  generalize nB L = y at F3 HE
  generalize sA L = s at F1 HE
  generalize sB L = c at F4 HE c0 c1
  have F1 := Lib.hid F1
  have F2 := Lib.hid F2
  have F3 := Lib.hid F3
  have F4 := Lib.hid F4
  obtain ⟨i0, hi, hz0, hz1, hz2⟩ := info_parts infoByte
  clear hg r64 hL B0 hl
  by_cases hxy : x = y
  · subst hxy
    by_cases h0 : x = 0
    · subst h0
      have E5 : Hid (gE L = 5) := Lib.hid (by rw [HE.out]; simp)
      go_enter Tryd.func14, Tryd.ntmps14
      go_wp2_with fail
      refine F1.out.mono ?_
      rintro e w2 ⟨rfl, rfl⟩
      go_wp2_with fail
      refine F2.out.mono ?_
      rintro e w2 ⟨rfl, rfl⟩
      go_wp2_with fail
      refine F3.out.mono ?_
      rintro e w2 ⟨rfl, rfl⟩
      go_wp2_with fail
      go_ret3
      exact HG.out _ E5.out (by omega) _ _ HB0.out
    · have hx1 : 1 ≤ x := by omega
      by_cases hs : c = s
      · have E0 : Hid (gE L = 0) := Lib.hid (by rw [HE.out, if_neg (by omega), if_neg (by omega)])
        subst hs
        go_enter Tryd.func14, Tryd.ntmps14
        go_wp2_with fail
        refine F1.out.mono ?_
        rintro e w2 ⟨rfl, rfl⟩
        go_wp2_with fail
        refine F2.out.mono ?_
        rintro e w2 ⟨rfl, rfl⟩
        go_wp2_with fail
        refine F3.out.mono ?_
        rintro e w2 ⟨rfl, rfl⟩
        go_wp2_with fail
        refine F4.out.mono ?_
        rintro e w2 ⟨rfl, rfl⟩
        go_wp2_with (at_builtin; refine append_bytes rfl _ _ 23 rfl w.heap.size 5 i0 Tryd.underlying23 hi hz0 hz1 hz2 _ 0 [] rfl (World.ownsRow_nil _ _ _ _) _ (some ⟨w.heap.size, 12, none⟩) 44 52 ((L.drop 12).take 44) rfl HR.out (fun e => (by cases e)) (by omega) (by simp) ?_; intro v2 W2 hown2 hgrow)
        have hb2 : Below w.heap.size w W2 := HB0.out.grown hgrow (by simp) (fun k hk => by cases hk)
        simp only [Nat.zero_add, List.nil_append] at hown2
        obtain ⟨g, cap2, rfl, hg1, hg2, hcap, hcm⟩ := own_form hown2 (by omega)
        go_ret3
        exact HN.out E0.out _ _ _ _ (fun e => (by cases e)) (Rd.of_own hown2) hb2
      · have E6 : Hid (gE L = 6) := Lib.hid (by rw [HE.out, if_neg (by omega), if_pos (by omega)])
        go_enter Tryd.func14, Tryd.ntmps14
        go_wp2_with fail
        refine F1.out.mono ?_
        rintro e w2 ⟨rfl, rfl⟩
        go_wp2_with fail
        refine F2.out.mono ?_
        rintro e w2 ⟨rfl, rfl⟩
        go_wp2_with fail
        refine F3.out.mono ?_
        rintro e w2 ⟨rfl, rfl⟩
        go_wp2_with fail
        refine F4.out.mono ?_
        rintro e w2 ⟨rfl, rfl⟩
        go_wp2_with fail
        go_ret3
        exact HG.out _ E6.out (by omega) _ _ HB0.out
  · have E5 : Hid (gE L = 5) := Lib.hid (by rw [HE.out, if_pos (by omega)])
    go_enter Tryd.func14, Tryd.ntmps14
    go_wp2_with fail
    refine F1.out.mono ?_
    rintro e w2 ⟨rfl, rfl⟩
    go_wp2_with fail
    refine F2.out.mono ?_
    rintro e w2 ⟨rfl, rfl⟩
    go_wp2_with fail
    refine F3.out.mono ?_
    rintro e w2 ⟨rfl, rfl⟩
    go_wp2_with fail
    go_ret3
    exact HG.out _ E5.out (by omega) _ _ HB0.out
end Go.Proofs.YtpdaggkhnmiioaaDoor.Seal
