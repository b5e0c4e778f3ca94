
/- Records stored into the middle of the block that was laid last. No code of the program. -/
import Derived.Test.YtflnamahaclidaaSt
import Derived.Laws.ResultCell
namespace Go.Proofs.Ytflnamahaclidaa.St
open Go.ChangeShapes Go.WideShapes Go.ChangeAt Go.RowKit Go.Deep
open Mem Arr Lst Rec Grown
def setA (C : Array Value) : Nat → List Value → Array Value
  | _, [] => C
  | k, v :: r => setA (C.setIfInBounds k v) (k + 1) r
theorem setA_size : ∀ (vs : List Value) (C : Array Value) (k : Nat), (setA C k vs).size = C.size
  | [], _, _ => rfl
  | v :: r, C, k => by rw [setA, setA_size r]; simp
theorem setCells_alloc (w : World) (t : TypeId) : ∀ (vs : List Value) (C : Array Value) (k : Nat), (w.alloc (.cells C t (0, 0))).setCells w.heap.size k vs = w.alloc (.cells (setA C k vs) t (0, 0))
  | [], _, _ => rfl
  | v :: r, C, k => by
    rw [World.setCells, World.setCell_alloc_at C t w.heap.size k v rfl, setCells_alloc w t r]
    rfl
theorem there_alloc {w : World} {C : Array Value} {t : TypeId} {k n : Nat} (h : k + n ≤ C.size) : (w.alloc (.cells C t (0, 0))).there w.heap.size k n := fun j hj => by
  constructor
  · rw [cell_of_row _ _ _ _ _ _ (heap_alloc_new w _), Array.getElem?_eq_getElem (by omega)]; rfl
  · unfold World.frozen?; rw [heap_alloc_new]; simp
theorem store_part {P : Program} {ops : Array Oper} {rest : List Oper} {o : Oper} {a : Act} {w : World} {Q : Exit → Act → World → Prop} (hgd : o.guard = none) (ty : TypeId) (x y : Operand) (ho : o.op = .store ty x y)
    (k : Nat) (vs C D : Array Value) (t : TypeId) (hx : a.eval x = .pointer (some ⟨w.heap.size, k, none⟩)) (hy : a.eval y = .agg vs)
    (hi : (P.info? ty).map (·.size) = some vs.size) (h1 : vs.all (·.oneCell') = true) (hk : k + vs.size ≤ C.size) (hD : setA C k vs.toList = D)
    (h : wpList P ops Q rest (a.put o.dst undef) (w.alloc (.cells D t (0, 0)))) : wpList P ops Q (o :: rest) a (w.alloc (.cells C t (0, 0))) := by
  refine wpList_store_mid hgd ty x y ho w.heap.size k vs hx hy (there_alloc hk) hi h1 ?_
  rw [setCells_alloc, hD]; exact h
theorem row_at {w : World} {g : Nat} {cells old : Array Value} {t : TypeId} {fr : Nat × Nat} (h : w.heap[g]? = some (.cells old t fr)) : (w.setRow g cells).heap[g]? = some (.cells cells t fr) := by
  unfold World.setRow
  simp [Array.getElem?_modify, h]
theorem row_else {w : World} {g g' : Nat} {cells : Array Value} (h : g ≠ g') : (w.setRow g cells).heap[g']? = w.heap[g']? := by
  unfold World.setRow
  simp [Array.getElem?_modify, h]
theorem store_whole {P : Program} {ops : Array Oper} {rest : List Oper} {o : Oper} {a : Act} {w : World} {Q : Exit → Act → World → Prop} (hgd : o.guard = none) (ty : TypeId) (x y : Operand) (ho : o.op = .store ty x y) (g : Nat)
    (cells old : Array Value) (t : TypeId) (hx : a.eval x = .pointer (some ⟨g, 0, none⟩)) (hy : a.eval y = .agg cells) (hg : w.heap[g]? = some (.cells old t (0, 0)))
    (hi : (P.info? ty).map (·.size) = some cells.size) (hold : old.size = cells.size) (h1 : cells.all (·.oneCell') = true)
    (h : wpList P ops Q rest (a.put o.dst undef) (w.setRow g cells)) : wpList P ops Q (o :: rest) a w :=
  wpList_plain hgd fun _ hK => wp_store_row ty x y ho g cells hx hy t old hg hi hold h1 (hK _ _ h)
theorem heap_under {w : World} {o : Obj} {g : Nat} {x : Obj} (h : w.heap[g]? = some x) : (w.alloc o).heap[g]? = some x := by
  have hl : g < w.heap.size := by
    rcases Nat.lt_or_ge g w.heap.size with hlt | hge
    · exact hlt
    · rw [Array.getElem?_eq_none hge] at h; cases h
  rw [World.alloc]
  exact (Array.getElem?_push_lt hl).trans ((Array.getElem?_eq_getElem hl).symm.trans h)
theorem below_row {a w : World} {g : Nat} (cells : Array Value) (h : Below a.heap.size a w) (hg : a.heap.size ≤ g) : Below a.heap.size a (w.setRow g cells) := by
  refine ⟨h.os, h.tape, h.output, ?_, fun k hk => (row_else (by omega)).trans (h.block k hk)⟩
  have := h.size
  unfold World.setRow
  simpa using this
def cfg0 : Cfg := ⟨none, 0, 0, 0, 0, false, 0, 0, 0, 0, 0, 0, 0, 0, 0, 0, 0, 0, false, 0, none, 0, 0, none, 0, 0⟩
def state0 : State := ⟨cfg0, cfg0, 0, 0, 0, 0, 0, none, 0, 0, none, 0, 0, none, 0, 0, false, 0, 0, 0, false, false, none, 0, 0⟩
theorem infoState : (Try.prog.info? 36).map (fun i => (i.zero, i.size)) = some (some state0.val, 55) := by kernel_rfl
theorem sizeRefresh : (Try.prog.info? 33).map (·.size) = some 6 := by kernel_rfl
end Go.Proofs.Ytflnamahaclidaa.St
