
/- Contracts of layer 7: which of two blocks is the newest, and where the next one belongs; the program's and the document's. -/
import Derived.Test.YtpdaggkhnmiioaaDoorSealB
namespace Go.Proofs.YtpdaggkhnmiioaaDoor.Seal
open Go.ChangeShapes Go.WideShapes Go.ChangeAt Go.RowKit Go.Deep
open Mem Rec Crc Blk Ref00
set_option linter.unusedVariables false

def nwE (L M : List Int) : Int := if gE L ≠ 0 ∧ gE M ≠ 0 then 7 else 0
def nwW (L M : List Int) : Int := if gE L ≠ 0 ∧ gE M ≠ 0 then 0 else if gE M ≠ 0 then 0 else if gE L ≠ 0 ∨ gN L < gN M then 1 else 0
def nxW (L M : List Int) : Int := if nwE L M ≠ 0 then 0 else 1 - nwW L M
theorem nw_range (L M : List Int) : 0 ≤ nwW L M ∧ nwW L M ≤ 1 := by
  unfold nwW
  split
  · omega
  · split
    · omega
    · split <;> omega
theorem ret_i {a b : Int} (h : a = b) : Ending.returned (.int .i64 a) = .returned (.int .i64 b) := by rw [h]
theorem ret_ii {a b c d : Int} (h : a = b) (h' : c = d) : Ending.returned (.tuple #[.int .i64 a, .int .i64 c]) = .returned (.tuple #[.int .i64 b, .int .i64 d]) := by rw [h, h']
theorem kept_at {w : World} {o x : Obj} {g : Nat} (h : w.heap[g]? = some x) : (w.alloc o).heap[g]? = some x := by
  have hl : g < w.heap.size := by
    rcases Nat.lt_or_ge g w.heap.size with hlt | hge
    · exact hlt
    · rw [Array.getElem?_eq_none hge] at h; cases h
  rw [(bAlloc (Below.refl w.heap.size w) o).block g hl]; exact h
theorem kept_at' {w w1 : World} {g : Nat} {o : Obj} (hb : Below w.heap.size w w1) (h : w.heap[g]? = some o) : w1.heap[g]? = some o := by
  have hl : g < w.heap.size := by
    rcases Nat.lt_or_ge g w.heap.size with hlt | hge
    · exact hlt
    · rw [Array.getElem?_eq_none hge] at h; cases h
  rw [hb.block g hl]; exact h

set_option maxHeartbeats 1000000 in
theorem newest_any (L M : List Int) (w : World) (hL : okL L) (hM : okL M) (Ld : Laid w) :
    Calls Tryd.prog 16 #[blkV L, blkV M] w fun e w' => e = .returned (.tuple #[.int .i64 (nwW L M), .int .i64 (nwE L M)]) ∧ Below w.heap.size w w' := by
  have IL := Lib.hid (infoB L hL.1)
  have IM := Lib.hid (infoB M hM.1)
  have B0 := bAlloc (bAlloc (Below.refl w.heap.size w) (.cells (blkC L) 26)) (.cells (blkC M) 26)
  have hx : ((w.alloc (.cells (blkC L) 26)).alloc (.cells (blkC M) 26)).heap[w.heap.size]? = some (.cells (blkC L) 26 (0, 0)) := kept_at (heap_alloc_new w _)
  have hy : ((w.alloc (.cells (blkC L) 26)).alloc (.cells (blkC M) 26)).heap[w.heap.size + 1]? = some (.cells (blkC M) 26 (0, 0)) := new_at (by simp)
  have G1 := Lib.hid (get_any L ((w.alloc (.cells (blkC L) 26)).alloc (.cells (blkC M) 26)) hL (Ld.below B0))
  have G2 := Lib.hid (fun W (hW : Below ((w.alloc (.cells (blkC L) 26)).alloc (.cells (blkC M) 26)).heap.size ((w.alloc (.cells (blkC L) 26)).alloc (.cells (blkC M) 26)) W) => get_any M W hM ((Ld.below B0).below hW))
  have HX := Lib.hid hx
  have HY := Lib.hid hy
  have HB0 := Lib.hid B0
  have e1 : Hid (nwW L M = if gE L ≠ 0 ∧ gE M ≠ 0 then 0 else if gE M ≠ 0 then 0 else if gE L ≠ 0 ∨ gN L < gN M then 1 else 0) := Lib.hid rfl
  have e2 : Hid (nwE L M = if gE L ≠ 0 ∧ gE M ≠ 0 then 7 else 0) := Lib.hid rfl
  have P1 : Hid (∀ (w : World) (L : List Int) e w', Got w L e w' → ∃ A m c, e = .returned (.tuple #[.int .u64 (gN L), .slice A m c, .int .i64 (gE L)]) ∧ Below w.heap.size w w') := Lib.hid (fun w L e w' h => by obtain ⟨A, m, c, h1, _, _, h4⟩ := h; exact ⟨A, m, c, h1, h4⟩)
  clear B0 hx hy Ld hL hM
  by_cases hl : gE L = 0
  all_goals by_cases hm : gE M = 0
  all_goals by_cases hn : gN L < gN M
  all_goals
    (first | (have z1 : (gE L != 0) = true := by simpa using hl
              have z2 : (gE L == 0) = false := by simpa using hl) | skip)
    (first | (have z3 : (gE M != 0) = true := by simpa using hm
              have z4 : (gE M == 0) = false := by simpa using hm) | skip)
    go_enter Tryd.func16, Tryd.ntmps16
    go_wp2_with (first | (refine load_whole rfl 26 _ rfl w.heap.size rfl _ (blkC L) _ _ HX.out Tryd.underlying26 rfl IL.out ?_))
    refine G1.out.mono ?_
    rintro e w2 hG
    obtain ⟨A2, m2, c2, rfl, b2⟩ := P1.out _ _ _ _ hG
    clear hG
    have HY2 := Lib.hid (kept_at' b2 HY.out)
    go_wp2_with (first | (refine load_whole rfl 26 _ rfl (w.heap.size + 1) rfl _ (blkC M) _ _ HY2.out Tryd.underlying26 rfl IM.out ?_))
    refine (G2.out w2 b2).mono ?_
    rintro e w3 hG
    obtain ⟨A3, m3, c3, rfl, b3⟩ := P1.out _ _ _ _ hG
    clear hG
    go_wp2_with fail
    go_ret2
    exact ⟨ret_ii (by rw [e1.out]; simp [hl, hm, hn]) (by rw [e2.out]; simp [hl, hm]), bTrans HB0.out (bTrans b2 b3)⟩

set_option maxHeartbeats 1000000 in
theorem rnewest_any (L M : List Int) (w : World) (hL : okL L) (hM : okL M) (Ld : Laid w) :
    Calls Tryd.prog 17 #[blkV L, blkV M] w fun e w' => e = .returned (.tuple #[.int .i64 (nwW L M), .int .i64 (nwE L M)]) ∧ Below w.heap.size w w' := by
  have IL := Lib.hid (infoB L hL.1)
  have IM := Lib.hid (infoB M hM.1)
  have B0 := bAlloc (bAlloc (Below.refl w.heap.size w) (.cells (blkC L) 26)) (.cells (blkC M) 26)
  have hx : ((w.alloc (.cells (blkC L) 26)).alloc (.cells (blkC M) 26)).heap[w.heap.size]? = some (.cells (blkC L) 26 (0, 0)) := kept_at (heap_alloc_new w _)
  have hy : ((w.alloc (.cells (blkC L) 26)).alloc (.cells (blkC M) 26)).heap[w.heap.size + 1]? = some (.cells (blkC M) 26 (0, 0)) := new_at (by simp)
  have G1 := Lib.hid (rget_any L ((w.alloc (.cells (blkC L) 26)).alloc (.cells (blkC M) 26)) hL)
  have G2 := Lib.hid (fun W (hW : Below ((w.alloc (.cells (blkC L) 26)).alloc (.cells (blkC M) 26)).heap.size ((w.alloc (.cells (blkC L) 26)).alloc (.cells (blkC M) 26)) W) => rget_any M W hM)
  have HX := Lib.hid hx
  have HY := Lib.hid hy
  have HB0 := Lib.hid B0
  have e1 : Hid (nwW L M = if gE L ≠ 0 ∧ gE M ≠ 0 then 0 else if gE M ≠ 0 then 0 else if gE L ≠ 0 ∨ gN L < gN M then 1 else 0) := Lib.hid rfl
  have e2 : Hid (nwE L M = if gE L ≠ 0 ∧ gE M ≠ 0 then 7 else 0) := Lib.hid rfl
  have P1 : Hid (∀ (w : World) (L : List Int) e w', Got w L e w' → ∃ A m c, e = .returned (.tuple #[.int .u64 (gN L), .slice A m c, .int .i64 (gE L)]) ∧ Below w.heap.size w w') := Lib.hid (fun w L e w' h => by obtain ⟨A, m, c, h1, _, _, h4⟩ := h; exact ⟨A, m, c, h1, h4⟩)
  clear B0 hx hy Ld hL hM
  by_cases hl : gE L = 0
  all_goals by_cases hm : gE M = 0
  all_goals by_cases hn : gN L < gN M
  all_goals
    (first | (have z1 : (gE L != 0) = true := by simpa using hl
              have z2 : (gE L == 0) = false := by simpa using hl) | skip)
    (first | (have z3 : (gE M != 0) = true := by simpa using hm
              have z4 : (gE M == 0) = false := by simpa using hm) | skip)
    go_enter Tryd.func17, Tryd.ntmps17
    go_wp2_with (first | (refine load_whole rfl 26 _ rfl w.heap.size rfl _ (blkC L) _ _ HX.out Tryd.underlying26 rfl IL.out ?_))
    refine G1.out.mono ?_
    rintro e w2 hG
    obtain ⟨A2, m2, c2, rfl, b2⟩ := P1.out _ _ _ _ hG
    clear hG
    have HY2 := Lib.hid (kept_at' b2 HY.out)
    go_wp2_with (first | (refine load_whole rfl 26 _ rfl (w.heap.size + 1) rfl _ (blkC M) _ _ HY2.out Tryd.underlying26 rfl IM.out ?_))
    refine (G2.out w2 b2).mono ?_
    rintro e w3 hG
    obtain ⟨A3, m3, c3, rfl, b3⟩ := P1.out _ _ _ _ hG
    clear hG
    go_wp2_with fail
    go_ret2
    exact ⟨ret_ii (by rw [e1.out]; simp [hl, hm, hn]) (by rw [e2.out]; simp [hl, hm]), bTrans HB0.out (bTrans b2 b3)⟩

set_option maxHeartbeats 1000000 in
theorem next_any (L M : List Int) (w : World) (hL : okL L) (hM : okL M) (Ld : Laid w) :
    Calls Tryd.prog 18 #[blkV L, blkV M] w fun e w' => e = .returned (.int .i64 (nxW L M)) ∧ Below w.heap.size w w' := by
  have IL := Lib.hid (infoB L hL.1)
  have IM := Lib.hid (infoB M hM.1)
  have B0 := bAlloc (bAlloc (Below.refl w.heap.size w) (.cells (blkC L) 26)) (.cells (blkC M) 26)
  have hx : ((w.alloc (.cells (blkC L) 26)).alloc (.cells (blkC M) 26)).heap[w.heap.size]? = some (.cells (blkC L) 26 (0, 0)) := kept_at (heap_alloc_new w _)
  have hy : ((w.alloc (.cells (blkC L) 26)).alloc (.cells (blkC M) 26)).heap[w.heap.size + 1]? = some (.cells (blkC M) 26 (0, 0)) := new_at (by simp)
  have G1 := Lib.hid (newest_any L M ((w.alloc (.cells (blkC L) 26)).alloc (.cells (blkC M) 26)) hL hM (Ld.below B0))
  have HX := Lib.hid hx
  have HY := Lib.hid hy
  have HB0 := Lib.hid B0
  have hr := nw_range L M
  have e1 : Hid (nxW L M = if nwE L M ≠ 0 then 0 else 1 - nwW L M) := Lib.hid rfl
  clear B0 hx hy Ld hL hM
  generalize nwW L M = a at G1 hr e1
  generalize nwE L M = b at G1 e1
  by_cases hb : b = 0
  all_goals
    (first | (have z1 : (b != 0) = true := by simpa using hb) | skip)
    go_enter Tryd.func18, Tryd.ntmps18
    go_wp2_with (first | (refine load_whole rfl 26 (.tmp 2) rfl w.heap.size rfl _ (blkC L) _ _ HX.out Tryd.underlying26 rfl IL.out ?_) | (refine load_whole rfl 26 (.tmp 3) rfl (w.heap.size + 1) rfl _ (blkC M) _ _ HY.out Tryd.underlying26 rfl IM.out ?_))
    refine G1.out.mono ?_
    rintro e w2 ⟨rfl, b2⟩
    go_wp2_with fail
    go_ret
    exact ⟨ret_i (by rw [e1.out]; simp [hb]), bTrans HB0.out b2⟩

set_option maxHeartbeats 1000000 in
theorem rnext_any (L M : List Int) (w : World) (hL : okL L) (hM : okL M) (Ld : Laid w) :
    Calls Tryd.prog 19 #[blkV L, blkV M] w fun e w' => e = .returned (.int .i64 (nxW L M)) ∧ Below w.heap.size w w' := by
  have IL := Lib.hid (infoB L hL.1)
  have IM := Lib.hid (infoB M hM.1)
  have B0 := bAlloc (bAlloc (Below.refl w.heap.size w) (.cells (blkC L) 26)) (.cells (blkC M) 26)
  have hx : ((w.alloc (.cells (blkC L) 26)).alloc (.cells (blkC M) 26)).heap[w.heap.size]? = some (.cells (blkC L) 26 (0, 0)) := kept_at (heap_alloc_new w _)
  have hy : ((w.alloc (.cells (blkC L) 26)).alloc (.cells (blkC M) 26)).heap[w.heap.size + 1]? = some (.cells (blkC M) 26 (0, 0)) := new_at (by simp)
  have G1 := Lib.hid (rnewest_any L M ((w.alloc (.cells (blkC L) 26)).alloc (.cells (blkC M) 26)) hL hM (Ld.below B0))
  have HX := Lib.hid hx
  have HY := Lib.hid hy
  have HB0 := Lib.hid B0
  have hr := nw_range L M
  have e1 : Hid (nxW L M = if nwE L M ≠ 0 then 0 else 1 - nwW L M) := Lib.hid rfl
  clear B0 hx hy Ld hL hM
  generalize nwW L M = a at G1 hr e1
  generalize nwE L M = b at G1 e1
  by_cases hb : b = 0
  all_goals
    (first | (have z1 : (b != 0) = true := by simpa using hb) | skip)
    go_enter Tryd.func19, Tryd.ntmps19
    go_wp2_with (first | (refine load_whole rfl 26 (.tmp 2) rfl w.heap.size rfl _ (blkC L) _ _ HX.out Tryd.underlying26 rfl IL.out ?_) | (refine load_whole rfl 26 (.tmp 3) rfl (w.heap.size + 1) rfl _ (blkC M) _ _ HY.out Tryd.underlying26 rfl IM.out ?_))
    refine G1.out.mono ?_
    rintro e w2 ⟨rfl, b2⟩
    go_wp2_with fail
    go_ret
    exact ⟨ret_i (by rw [e1.out]; simp [hb]), bTrans HB0.out b2⟩
end Go.Proofs.YtpdaggkhnmiioaaDoor.Seal
