
/- A block of the call's own as a row of cells: stored into, read. No code of the program. -/
import Derived.Test.YtoiofdoipmdajaaOpens
import Derived.Laws.ResultCell
import Derived.RangeFuncNested
namespace Go.Proofs.Ytoiofdoipmdajaa.St0
open Go.ChangeShapes Go.WideShapes Go.ChangeAt Go.RowKit Go.Deep
open Mem Arr Lst Rec Grown
def setA (C : Array Value) : Nat → List Value → Array Value
  | _, [] => C
  | k, v :: r => setA (C.setIfInBounds k v) (k + 1) r
theorem setA_size : ∀ (vs : List Value) (C : Array Value) (k : Nat), (setA C k vs).size = C.size
  | [], _, _ => rfl
  | v :: r, C, k => by rw [setA, setA_size r]; simp
theorem setCells_alloc (w : World) (t : TypeId) : ∀ (vs : List Value) (C : Array Value) (k : Nat), (w.alloc (.cells C t (0, 0))).setCells w.heap.size k vs = w.alloc (.cells (setA C k vs) t (0, 0))
  | [], _, _ => rfl
  | v :: r, C, k => by
    rw [World.setCells, World.setCell_alloc_at C t w.heap.size k v rfl, setCells_alloc w t r]
    rfl
theorem there_alloc {w : World} {C : Array Value} {t : TypeId} {k n : Nat} (h : k + n ≤ C.size) : (w.alloc (.cells C t (0, 0))).there w.heap.size k n := fun j hj => by
  constructor
  · rw [cell_of_row _ _ _ _ _ _ (heap_alloc_new w _), Array.getElem?_eq_getElem (by omega)]; rfl
  · unfold World.frozen?; rw [heap_alloc_new]; simp
theorem store_part {P : Program} {ops : Array Oper} {rest : List Oper} {o : Oper} {a : Act} {w : World} {Q : Exit → Act → World → Prop} (hgd : o.guard = none) (ty : TypeId) (x y : Operand) (ho : o.op = .store ty x y)
    (k : Nat) (vs C D : Array Value) (t : TypeId) (hx : a.eval x = .pointer (some ⟨w.heap.size, k, none⟩)) (hy : a.eval y = .agg vs)
    (hi : (P.info? ty).map (·.size) = some vs.size) (h1 : vs.all (·.oneCell') = true) (hk : k + vs.size ≤ C.size) (hD : setA C k vs.toList = D)
    (h : wpList P ops Q rest (a.put o.dst undef) (w.alloc (.cells D t (0, 0)))) : wpList P ops Q (o :: rest) a (w.alloc (.cells C t (0, 0))) := by
  refine wpList_store_mid hgd ty x y ho w.heap.size k vs hx hy (there_alloc hk) hi h1 ?_
  rw [setCells_alloc, hD]; exact h
theorem row_at {w : World} {g : Nat} {cells old : Array Value} {t : TypeId} {fr : Nat × Nat} (h : w.heap[g]? = some (.cells old t fr)) : (w.setRow g cells).heap[g]? = some (.cells cells t fr) := by
  unfold World.setRow
  simp [Array.getElem?_modify, h]
theorem row_else {w : World} {g g' : Nat} {cells : Array Value} (h : g ≠ g') : (w.setRow g cells).heap[g']? = w.heap[g']? := by
  unfold World.setRow
  simp [Array.getElem?_modify, h]
theorem store_whole {P : Program} {ops : Array Oper} {rest : List Oper} {o : Oper} {a : Act} {w : World} {Q : Exit → Act → World → Prop} (hgd : o.guard = none) (ty : TypeId) (x y : Operand) (ho : o.op = .store ty x y) (g : Nat)
    (cells old : Array Value) (t : TypeId) (hx : a.eval x = .pointer (some ⟨g, 0, none⟩)) (hy : a.eval y = .agg cells) (hg : w.heap[g]? = some (.cells old t (0, 0)))
    (hi : (P.info? ty).map (·.size) = some cells.size) (hold : old.size = cells.size) (h1 : cells.all (·.oneCell') = true)
    (h : wpList P ops Q rest (a.put o.dst undef) (w.setRow g cells)) : wpList P ops Q (o :: rest) a w :=
  wpList_plain hgd fun _ hK => wp_store_row ty x y ho g cells hx hy t old hg hi hold h1 (hK _ _ h)
theorem heap_under {w : World} {o : Obj} {g : Nat} {x : Obj} (h : w.heap[g]? = some x) : (w.alloc o).heap[g]? = some x := by
  have hl : g < w.heap.size := by
    rcases Nat.lt_or_ge g w.heap.size with hlt | hge
    · exact hlt
    · rw [Array.getElem?_eq_none hge] at h; cases h
  rw [World.alloc]
  exact (Array.getElem?_push_lt hl).trans ((Array.getElem?_eq_getElem hl).symm.trans h)
theorem below_row {a w : World} {g : Nat} (cells : Array Value) (h : Below a.heap.size a w) (hg : a.heap.size ≤ g) : Below a.heap.size a (w.setRow g cells) := by
  refine ⟨h.os, h.tape, h.output, ?_, fun k hk => (row_else (by omega)).trans (h.block k hk)⟩
  have := h.size
  unfold World.setRow
  simpa using this
theorem setRow_self {w : World} {g : Nat} {C : Array Value} {t : TypeId} {fr : Nat × Nat} (h : w.heap[g]? = some (.cells C t fr)) : w.setRow g C = w := by
  unfold World.setRow
  have : (w.heap.modify g fun | .cells _ elem frozen => .cells C elem frozen | o => o) = w.heap := by
    apply Array.ext_getElem?
    intro i
    rw [Array.getElem?_modify]
    split
    · rename_i e; subst e; rw [h]; rfl
    · rfl
  exact congrArg (fun x => { w with heap := x }) this
theorem setRow_setRow (w : World) (g : Nat) (C D : Array Value) : (w.setRow g C).setRow g D = w.setRow g D := by
  unfold World.setRow
  congr 1
  apply Array.ext_getElem?
  intro i
  simp only [Array.getElem?_modify]
  split
  · cases w.heap[i]? with
    | none => rfl
    | some o => cases o <;> rfl
  · rfl
theorem setCell_row {w : World} {g k : Nat} {v : Value} {C : Array Value} {t : TypeId} {fr : Nat × Nat} (h : w.heap[g]? = some (.cells C t fr)) : w.setCell ⟨g, k, none⟩ v = w.setRow g (C.setIfInBounds k v) := by
  unfold World.setRow World.setCell
  congr 1
  apply Array.ext_getElem?
  intro i
  simp only [Array.getElem?_modify]
  split
  · rename_i e; subst e; rw [h]; rfl
  · rfl
theorem setCells_row {g : Nat} {t : TypeId} {fr : Nat × Nat} : ∀ (vs : List Value) (w : World) (C : Array Value) (k : Nat), w.heap[g]? = some (.cells C t fr) → w.setCells g k vs = w.setRow g (setA C k vs)
  | [], w, C, k, h => (setRow_self h).symm
  | v :: r, w, C, k, h => by
    rw [World.setCells, setCell_row h, setCells_row r _ _ _ (row_at h), setRow_setRow]
    rfl
theorem range_row {w : World} {g : Nat} {C : Array Value} {t : TypeId} {fr : Nat × Nat} (h : w.heap[g]? = some (.cells C t fr)) : w.rangeAt g 0 C.toList := fun j v hj => by
  rw [cell_of_row _ _ _ _ _ _ h, Nat.zero_add]; simpa using hj
theorem cell_row {w : World} {g k : Nat} {C : Array Value} {t : TypeId} {fr : Nat × Nat} {v : Value} (h : w.heap[g]? = some (.cells C t fr)) (hk : C[k]? = some v) : w.cell? ⟨g, k, none⟩ = some v := by
  rw [cell_of_row _ _ _ _ _ _ h]; exact hk
theorem free_row {w : World} {g : Nat} {C : Array Value} {t : TypeId} (h : w.heap[g]? = some (.cells C t (0, 0))) (k : Nat) : w.frozen? ⟨g, k, none⟩ = false := by
  unfold World.frozen?; rw [h]; simp
theorem there_row {w : World} {g : Nat} {C : Array Value} {t : TypeId} (h : w.heap[g]? = some (.cells C t (0, 0))) {k n : Nat} (hk : k + n ≤ C.size) : w.there g k n := fun j hj => by
  refine ⟨?_, free_row h _⟩
  rw [cell_of_row _ _ _ _ _ _ h, Array.getElem?_eq_getElem (by omega)]; rfl
/-- a record is stored into the middle of such a block -/
theorem store_row {P : Program} {ops : Array Oper} {rest : List Oper} {o : Oper} {a : Act} {w : World} {Q : Exit → Act → World → Prop} (hgd : o.guard = none) (ty : TypeId) (x y : Operand) (ho : o.op = .store ty x y)
    (g k : Nat) (vs C D : Array Value) (t : TypeId) (hg : w.heap[g]? = some (.cells C t (0, 0))) (hx : a.eval x = .pointer (some ⟨g, k, none⟩)) (hy : a.eval y = .agg vs)
    (hi : (P.info? ty).map (·.size) = some vs.size) (h1 : vs.all (·.oneCell') = true) (hk : k + vs.size ≤ C.size) (hD : setA C k vs.toList = D)
    (h : wpList P ops Q rest (a.put o.dst undef) (w.setRow g D)) : wpList P ops Q (o :: rest) a w := by
  refine wpList_store_mid hgd ty x y ho g k vs hx hy (there_row hg hk) hi h1 ?_
  rw [setCells_row _ _ _ _ hg, hD]; exact h
theorem own_row {w : World} {base : Nat} {E : TypeId} {sz : Nat} {v : Value} {n : Nat} {V : Nat → Nat → Value} (h : Row.Own w base E sz v n V) {g : Nat} (hg : g < base) (D : Array Value) : Row.Own (w.setRow g D) base E sz v n V := by
  refine ⟨h.1, ?_⟩
  rcases h.2 with h' | ⟨g1, cap, cur, h', hbg, hg1, hnc, hcm, hcs, ht⟩
  · exact .inl h'
  · exact .inr ⟨g1, cap, cur, h', hbg, (row_else (by omega)).trans hg1, hnc, hcm, hcs, ht⟩
theorem box_row {w : World} {cs : Array Value} {t : TypeId} (p : Grown (w.alloc (.cells cs t))) : p.w1.heap[w.heap.size]? = some (.cells cs t (0, 0)) :=
  (p.below.block w.heap.size (by simp)).trans (heap_alloc_new w _)
theorem box_new (w : World) (cs : Array Value) (t : TypeId) : ∀ p : Grown (w.alloc (.cells cs t)), p.w1.rangeAt w.heap.size 0 cs.toList := fun p => range_in (by simp) (range_new w cs t) p
theorem box_cell {w0 : World} {g : Nat} {cs : Array Value} (h : ∀ p : Grown w0, p.w1.rangeAt g 0 cs.toList) {k : Nat} {v : Value} (hk : cs[k]? = some v) : ∀ p : Grown w0, p.w1.cell? ⟨g, k, none⟩ = some v := fun p => by
  have := h p k v (by simpa using hk)
  simpa using this
end Go.Proofs.Ytoiofdoipmdajaa.St0
