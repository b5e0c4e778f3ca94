
/- Requests that were not answered yet, as values: their fields by name; lists of them. No code of the program. -/
import Derived.Test.YtoiofdoipmdajaaSums
namespace Go.Proofs.Ytoiofdoipmdajaa.Opens
open Go.ChangeShapes Go.WideShapes Go.ChangeAt Go.RowKit
open Mem Arr Lst Rec Grown
structure Opn where
  kind : Int
  tok : Int
  pool : Int
  warm : Bool
  id : Int
  since : Int
  wt : Int
  spot : Bool
  ver : Int
def Opn.cells (x : Opn) : Array Value := #[.int .u8 x.kind, .int .u64 x.tok, .int .i64 x.pool, .bool x.warm, .int .u64 x.id, .int .u64 x.since, .int .i64 x.wt, .bool x.spot, .int .u32 x.ver]
@[reducible] def Opn.val (x : Opn) : Value := .agg x.cells
theorem Opn.one (x : Opn) : x.cells.all (·.oneCell') = true := by unfold Opn.cells; simp [Value.oneCell']
theorem Opn.f0 (x : Opn) : x.cells[0]? = some (.int .u8 x.kind) := rfl
theorem Opn.f1 (x : Opn) : x.cells[1]? = some (.int .u64 x.tok) := rfl
theorem Opn.f2 (x : Opn) : x.cells[2]? = some (.int .i64 x.pool) := rfl
theorem Opn.f3 (x : Opn) : x.cells[3]? = some (.bool x.warm) := rfl
theorem Opn.f4 (x : Opn) : x.cells[4]? = some (.int .u64 x.id) := rfl
theorem Opn.f5 (x : Opn) : x.cells[5]? = some (.int .u64 x.since) := rfl
theorem Opn.f6 (x : Opn) : x.cells[6]? = some (.int .i64 x.wt) := rfl
theorem Opn.f7 (x : Opn) : x.cells[7]? = some (.bool x.spot) := rfl
theorem Opn.f8 (x : Opn) : x.cells[8]? = some (.int .u32 x.ver) := rfl
def none_ : Opn := ⟨0, 0, 0, false, 0, 0, 0, false, 0⟩
def opnV (O : Nat → Opn) (i j : Nat) : Value := ((O i).cells[j]?).getD undef
def Opns (w : World) (B : Nat) (A : Option Addr) (n : Nat) (O : Nat → Opn) : Prop := Recs w B A n 9 (opnV O)
theorem Opns.later {w w' : World} {A : Option Addr} {n : Nat} {O : Nat → Opn} (h : Opns w w.heap.size A n O) (hb : Below w.heap.size w w') : Opns w' w'.heap.size A n O := Recs.later h hb
theorem opn_lt {x : Opn} {j : Nat} {u : Value} (h : x.cells[j]? = some u) : j < 9 := (Array.getElem?_eq_some_iff.1 h).1
theorem opns_at {w : World} {A : Option Addr} {n : Nat} {O : Nat → Opn} (h : Opns w w.heap.size A n O) (hn : 0 < n) : ∃ b off, A = some ⟨b, off, none⟩ := by
  obtain ⟨b, off, e, _⟩ := h.2 hn
  exact ⟨b, off, e⟩
theorem opn_cells {w wr : World} {A : Option Addr} {n : Nat} {O : Nat → Opn} (h : Opns w w.heap.size A n O) (hb : Below w.heap.size w wr) {b off : Nat} (hA : A = some ⟨b, off, none⟩) {k : Nat} (hk : k < n) :
    b < wr.heap.size ∧ wr.rangeAt b (off + k * 9) (O k).cells.toList := by
  obtain ⟨b', off', e, hlt, hc⟩ := (h.later hb).2 (by omega)
  rw [hA] at e
  injection e with e
  injection e with e1 e2
  subst e1; subst e2
  refine ⟨hlt, fun j v hj => ?_⟩
  have hj' : (O k).cells[j]? = some v := by simpa using hj
  rw [Nat.add_assoc, hc k j hk (opn_lt hj')]
  unfold opnV
  rw [hj']; rfl
theorem range_cell {w : World} {b o : Nat} {cs : Array Value} (h : w.rangeAt b o cs.toList) {k : Nat} {v : Value} (hk : cs[k]? = some v) : w.cell? ⟨b, o + k, none⟩ = some v := h k v (by simpa using hk)
theorem store_plain {P : Program} {ops : Array Oper} {rest : List Oper} {o : Oper} {a : Act} {w : World} {Q : Exit → Act → World → Prop} (hgd : o.guard = none) (ty : TypeId) (x y : Operand) (ho : o.op = .store ty x y)
    (cells old : Array Value) (t : TypeId) (hx : a.eval x = .pointer (some ⟨w.heap.size, 0, none⟩)) (hy : a.eval y = .agg cells)
    (hi : (P.info? ty).map (·.size) = some cells.size) (hold : old.size = cells.size) (h1 : cells.all (·.oneCell') = true)
    (h : wpList P ops Q rest (a.put o.dst undef) (w.alloc (.cells cells t (0, 0)))) : wpList P ops Q (o :: rest) a (w.alloc (.cells old t (0, 0))) :=
  wpList_plain hgd fun _ hK => wp_store_row ty x y ho w.heap.size cells hx hy t old (heap_alloc_new w _) hi hold h1 (by rw [setRow_alloc]; exact hK _ _ h)
/-- the same for an instance -/
theorem store_inp {ops : Array Oper} {rest : List Oper} {o : Oper} {a : Act} {w : World} {Q : Exit → Act → World → Prop} (hgd : o.guard = none) (x y : Operand) (ho : o.op = .store 36 x y)
    (c : Inst.Ins) (old : Array Value) (t : TypeId) (hx : a.eval x = .pointer (some ⟨w.heap.size, 0, none⟩)) (hy : a.eval y = c.val) (hold : old.size = 12)
    (h : wpList Try.prog ops Q rest (a.put o.dst undef) (w.alloc (.cells c.cells t (0, 0)))) : wpList Try.prog ops Q (o :: rest) a (w.alloc (.cells old t (0, 0))) :=
  store_plain hgd 36 x y ho c.cells old t hx hy (Inst.sizeInst.trans rfl) (hold.trans rfl) c.one h
end Go.Proofs.Ytoiofdoipmdajaa.Opens
