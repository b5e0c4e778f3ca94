
/- Layer 14: the example of the laws. -/
import Derived.Test.YtgaeelhbdgpobaaBlackI
import Derived.Laws.ResultCell
namespace Go.Proofs.Ytgaeelhbdgpobaa.Black
open Go.ChangeShapes Go.WideShapes Go.ChangeAt Go.RowKit
open Mem Arr Lst Rec

theorem row_at {w : World} {g : Nat} {cells old : Array Value} {t : TypeId} {fr : Nat × Nat} (h : w.heap[g]? = some (.cells old t fr)) : (w.setRow g cells).heap[g]? = some (.cells cells t fr) := by
  unfold World.setRow
  simp [Array.getElem?_modify, h]
theorem row_else {w : World} {g g' : Nat} {cells : Array Value} (h : g ≠ g') : (w.setRow g cells).heap[g']? = w.heap[g']? := by
  unfold World.setRow
  simp [Array.getElem?_modify, h]
section
variable {P : Program}
/-- a whole record is stored into a block -/
theorem store_whole {ops : Array Oper} {rest : List Oper} {o : Oper} {a : Act} {w : World} {Q : Exit → Act → World → Prop} (hw : Region.wanted o (yielded ops a.tmps) = true) (ty : TypeId) (x y : Operand) (ho : o.op = .store ty x y) (g : Nat)
    (cells old : Array Value) (t : TypeId) (hx : a.eval x = .pointer (some ⟨g, 0, none⟩)) (hy : a.eval y = .agg cells) (hg : w.heap[g]? = some (.cells old t (0, 0)))
    (hi : (P.info? ty).map (·.size) = some cells.size) (hold : old.size = cells.size) (h1 : cells.all (·.oneCell') = true)
    (h : wpList P ops Q rest (a.put o.dst undef) (w.setRow g cells)) : wpList P ops Q (o :: rest) a w :=
  BigFrame.wpList_want hw fun _ hK => wp_store_row ty x y ho g cells hx hy t old hg hi hold h1 (hK _ _ h)
end
theorem heap_under {w : World} {o : Obj} {g : Nat} {x : Obj} (h : w.heap[g]? = some x) : (w.alloc o).heap[g]? = some x := by
  have hl : g < w.heap.size := by
    rcases Nat.lt_or_ge g w.heap.size with hlt | hge
    · exact hlt
    · rw [Array.getElem?_eq_none hge] at h; cases h
  rw [World.alloc]
  exact (Array.getElem?_push_lt hl).trans ((Array.getElem?_eq_getElem hl).symm.trans h)

def twoC (g : Nat) : Cfg := ⟨some ⟨g, 0, none⟩, 2, 2, 0, 0, true, 0, 0, 0, 0, 0, 0, 0, 0, 0, 0, 0, 0, false, 0, none, 0, 0, none, 0, 0⟩
theorem below_row {a w : World} {g : Nat} (cells : Array Value) (h : Below a.heap.size a w) (hg : a.heap.size ≤ g) : Below a.heap.size a (w.setRow g cells) := by
  refine ⟨h.os, h.tape, h.output, ?_, fun k hk => (row_else (by omega)).trans (h.block k hk)⟩
  have := h.size
  unfold World.setRow
  simpa using this
set_option maxHeartbeats 1000000 in
theorem two_any (w : World) :
    Calls Try.prog 21 #[] w fun e w' => e = .returned (.tuple #[(twoC (w.heap.size + 1)).val, .slice (some ⟨w.heap.size + 2, 0, none⟩) 2 2]) ∧ Pools w' w'.heap.size (some ⟨w.heap.size + 1, 0, none⟩) 2 (fun i => i == 1) ∧ Quotes w' w'.heap.size (some ⟨w.heap.size + 2, 0, none⟩) 2 (fun _ => 5) (fun _ => 5) (fun _ => 0) ∧ Below w.heap.size w w' := by
  have H1 := Lib.hid (Cfg.one (twoC (w.heap.size + 1)))
  go_enter Try.func21, Try.ntmps21
  go_wp2_with (first | (refine store_whole rfl 27 _ _ rfl w.heap.size (twoC (w.heap.size + 1)).cells _ _ rfl rfl (heap_under (heap_under (heap_alloc_new _ _))) (infoCfg.trans rfl) rfl H1.out ?_))
  refine bodyPost_ret (v := .tuple #[(twoC (w.heap.size + 1)).val, .slice (some ⟨w.heap.size + 2, 0, none⟩) 2 2]) ?_ rfl ⟨rfl, ?_, ?_, ?_⟩
  · rw [results_cell_tmp rfl]
    show ((loadVar 27 (⟨w.heap.size, 0, none⟩ : Addr)).run Try.prog _).andThen _ = _
    rw [run_loadVar_row _ w.heap.size 27 27 (twoC (w.heap.size + 1)).cells (0, 0) _ (row_at (heap_under (heap_under (heap_alloc_new _ _)))) Try.underlying27 rfl (infoCfg.trans rfl)]
    rfl
  · refine ⟨fun i j => if j = 1 then .bool (i == 1) else if j = 0 then .string ⟨#[if i = 0 then 97 else 98]⟩ else if j = 2 then .int .i64 1 else .int .i64 0, ⟨fun e => (by cases e), fun _ => ⟨w.heap.size + 1, 0, rfl, by unfold World.setRow; simp, ?_⟩⟩, fun i _ => rfl⟩
    intro i j hi hj
    rw [cell_of_row _ _ _ _ _ _ ((row_else (by omega)).trans (heap_under (heap_alloc2_new _ _ _)))]
    rcases (by omega : i = 0 ∨ i = 1) with rfl | rfl <;> rcases (by omega : j = 0 ∨ j = 1 ∨ j = 2 ∨ j = 3) with rfl | rfl | rfl | rfl <;> rfl
  · refine ⟨fun e => (by cases e), fun _ => ⟨w.heap.size + 2, 0, rfl, by unfold World.setRow; simp, ?_⟩⟩
    intro i j hi hj
    have hh : ∀ (o1 o2 o3 : Obj), (((w.alloc o1).alloc o2).alloc o3).heap[w.heap.size + 2]? = some o3 := by
      intro o1 o2 o3
      have := heap_alloc_new ((w.alloc o1).alloc o2) o3
      have e : ((w.alloc o1).alloc o2).heap.size = w.heap.size + 2 := by simp
      rw [e] at this; exact this
    rw [cell_of_row _ _ _ _ _ _ ((row_else (by omega)).trans (hh _ _ _))]
    rcases (by omega : i = 0 ∨ i = 1) with rfl | rfl <;> rcases (by omega : j = 0 ∨ j = 1 ∨ j = 2) with rfl | rfl | rfl <;> rfl
  · exact below_row _ (bAlloc (bAlloc (bAlloc (Below.refl _ _) _) _) _) (Nat.le_refl _)
end Go.Proofs.Ytgaeelhbdgpobaa.Black
