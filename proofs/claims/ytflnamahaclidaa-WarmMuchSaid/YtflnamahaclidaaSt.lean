
/- A controller's state as a value: its fields by name; loaded out of a box. No code of the program. -/
import Derived.Test.YtflnamahaclidaaRows
import Derived.Test.YtflnamahaclidaaCfg
import Derived.Test.YtflnamahaclidaaSums
namespace Go.Proofs.Ytflnamahaclidaa.St
open Go.ChangeShapes Go.WideShapes Go.ChangeAt Go.RowKit Go.Deep
open Mem Arr Lst Rec Grown

structure State where
  c : Cfg
  b : Cfg
  ver : Int
  now : Int
  desired : Int
  tok : Int
  til : Int
  qA : Option Addr
  qN : Nat
  qC : Nat
  iA : Option Addr
  iN : Nat
  iC : Nat
  oA : Option Addr
  oN : Nat
  oC : Nat
  on : Bool
  least : Int
  most : Int
  stop : Int
  stopped : Bool
  back : Bool
  nA : Option Addr
  nN : Nat
  nC : Nat
def cfgL (c : Cfg) : List Value := [.slice c.pA c.pN c.pC, .int .u8 c.strategy, .int .i64 c.spread, .bool c.fallback, .int .i64 c.min, .int .i64 c.max, .int .i64 c.base, .int .i64 c.percent, .int .i64 c.surge, .int .i64 c.warm, .int .u64 c.drain, .int .u64 c.hookIn, .int .u64 c.hookOut, .int .u64 c.black, .int .u64 c.deadline, .int .u64 c.cool, .bool c.replace, .int .i64 c.target, .slice c.bA c.bN c.bC, .slice c.lA c.lN c.lC]
def ownL (s : State) : List Value := [.int .u32 s.ver, .int .u64 s.now, .int .i64 s.desired, .int .u64 s.tok, .int .u64 s.til, .slice s.qA s.qN s.qC, .slice s.iA s.iN s.iC, .slice s.oA s.oN s.oC, .bool s.on, .int .i64 s.least, .int .i64 s.most, .int .i64 s.stop, .bool s.stopped, .bool s.back, .slice s.nA s.nN s.nC]
def cellL (s : State) : List Value := cfgL s.c ++ (cfgL s.b ++ ownL s)
def State.cells (s : State) : Array Value := (cellL s).toArray
@[reducible] def State.val (s : State) : Value := .agg s.cells
theorem State.size (s : State) : s.cells.size = 55 := rfl
theorem State.one (s : State) : s.cells.all (·.oneCell') = true := by
  unfold State.cells cellL cfgL ownL
  simp [Value.oneCell']
theorem State.f0 (s : State) : s.cells[0]? = some (.slice s.c.pA s.c.pN s.c.pC) := rfl
theorem State.f8 (s : State) : s.cells[8]? = some (.int .i64 s.c.surge) := rfl
theorem State.f9 (s : State) : s.cells[9]? = some (.int .i64 s.c.warm) := rfl
theorem State.f16 (s : State) : s.cells[16]? = some (.bool s.c.replace) := rfl
theorem State.f40 (s : State) : s.cells[40]? = some (.int .u32 s.ver) := rfl
theorem State.f41 (s : State) : s.cells[41]? = some (.int .u64 s.now) := rfl
theorem State.f42 (s : State) : s.cells[42]? = some (.int .i64 s.desired) := rfl
theorem State.f45 (s : State) : s.cells[45]? = some (.slice s.qA s.qN s.qC) := rfl
theorem State.f46 (s : State) : s.cells[46]? = some (.slice s.iA s.iN s.iC) := rfl
theorem State.f47 (s : State) : s.cells[47]? = some (.slice s.oA s.oN s.oC) := rfl
theorem State.f48 (s : State) : s.cells[48]? = some (.bool s.on) := rfl
theorem State.f49 (s : State) : s.cells[49]? = some (.int .i64 s.least) := rfl
theorem State.f50 (s : State) : s.cells[50]? = some (.int .i64 s.most) := rfl
theorem State.f51 (s : State) : s.cells[51]? = some (.int .i64 s.stop) := rfl
theorem State.f52 (s : State) : s.cells[52]? = some (.bool s.stopped) := rfl
theorem sizeState : (Try.prog.info? 36).map (·.size) = some 55 := by kernel_rfl
theorem load_st {ops : Array Oper} {rest : List Oper} {o : Oper} {a : Act} {w : World} {Q : Exit → Act → World → Prop} (hw : Region.wanted o (yielded ops a.tmps) = true) (x : Operand) (ho : o.op = .load 36 x)
    (g k : Nat) (hx : a.eval x = .pointer (some ⟨g, k, none⟩)) (s : State) (hc : w.rangeAt g k s.cells.toList)
    (h : wpList Try.prog ops Q rest (a.put o.dst s.val) w) : wpList Try.prog ops Q (o :: rest) a w :=
  BigFrame.wpList_want hw fun _ hK => wp_load_mid 36 x ho g k hx s.cells.toList _ hc Try.underlying36 rfl (sizeState.trans rfl) (hK _ _ h)
theorem load_in {ops : Array Oper} {rest : List Oper} {o : Oper} {a : Act} {w : World} {Q : Exit → Act → World → Prop} (hw : Region.wanted o (yielded ops a.tmps) = true) (x : Operand) (ho : o.op = .load 44 x)
    (g k : Nat) (hx : a.eval x = .pointer (some ⟨g, k, none⟩)) (c : Inst.Ins) (hc : w.rangeAt g k c.cells.toList)
    (h : wpList Try.prog ops Q rest (a.put o.dst c.val) w) : wpList Try.prog ops Q (o :: rest) a w :=
  BigFrame.wpList_want hw fun _ hK => wp_load_mid 44 x ho g k hx c.cells.toList _ hc Try.underlying44 rfl (Inst.sizeInst.trans rfl) (hK _ _ h)
theorem exec_st (ρ : Operand → Value) (x : Operand) (dst : Option Tmp) (ty : TypeId) (pos : String) (after : Array Edge) (guard : Option (Nat × Bool)) :
    execOp ρ { dst, op := .load 36 x, type := ty, pos, after, guard } = loadRec 36 (ρ x) := rfl
theorem run_st {w : World} {b o : Nat} {s : State} (h : w.rangeAt b o s.cells.toList) : (loadRec 36 (.pointer (some ⟨b, o, none⟩))).run Try.prog w = .ok (.value s.val) w :=
  run_loadMid 36 Try.underlying36 rfl (sizeState.trans rfl) h
theorem store_st {ops : Array Oper} {rest : List Oper} {o : Oper} {a : Act} {w : World} {Q : Exit → Act → World → Prop} (hw : Region.wanted o (yielded ops a.tmps) = true) (x y : Operand) (ho : o.op = .store 36 x y)
    (s : State) (old : Array Value) (t : TypeId) (hx : a.eval x = .pointer (some ⟨w.heap.size, 0, none⟩)) (hy : a.eval y = s.val) (hold : old.size = 55)
    (h : wpList Try.prog ops Q rest (a.put o.dst undef) (w.alloc (.cells s.cells t (0, 0)))) : wpList Try.prog ops Q (o :: rest) a (w.alloc (.cells old t (0, 0))) :=
  store_new hw 36 x y ho s.cells old t hx hy (sizeState.trans rfl) (hold.trans rfl) s.one h

/-! What is known of a box, in every world that has come of the one in which it was laid. -/
/-- the block g holds the cells cs, in w and in all that comes of it -/
theorem box_new (w : World) (cs : Array Value) (t : TypeId) : ∀ p : Grown (w.alloc (.cells cs t)), p.w1.rangeAt w.heap.size 0 cs.toList := fun p => range_in (by simp) (range_new w cs t) p
theorem box_cell {w0 : World} {g : Nat} {cs : Array Value} (h : ∀ p : Grown w0, p.w1.rangeAt g 0 cs.toList) {k : Nat} {v : Value} (hk : cs[k]? = some v) : ∀ p : Grown w0, p.w1.cell? ⟨g, k, none⟩ = some v := fun p => by
  have := h p k v (by simpa using hk)
  simpa using this
theorem region_more {P : Program} {id : Nat} {Q : Exit → Act → World → Prop} {a : Act} {w0 : World} {p : Grown w0} {l : List Oper} (hm : P.follows .mixedOrders = true) (hB : Region.lexB .any l.toArray = true)
    (h : wpQuiet P l.toArray (fun w' => ∃ q : Grown w0, w' = q.w1) (fun a' => ∀ w', (∃ q : Grown w0, w' = q.w1) → Q .normal a' w') l a) : (Code.region id l.toArray true).wp P Q a p.w1 :=
  wp_region_quiet (C := fun w' => ∃ q : Grown w0, w' = q.w1) hm hB ⟨⟨p.w1.drew, bDrew p.below⟩, rfl⟩ (by simpa using h)
/-- the next operation is a load (a store) of that type, that no guard keeps back: seen without a look at values -/
theorem at_load (T : TypeId) {P : Program} {ops : Array Oper} {rest : List Oper} {a : Act} {w : World} {Q : Exit → Act → World → Prop} {x : Operand} {dst : Option Tmp} {ty : TypeId} {pos : String} {after : Array Edge}
    (h : wpList P ops Q ({ dst, op := .load T x, type := ty, pos, after, guard := none } :: rest) a w) : wpList P ops Q ({ dst, op := .load T x, type := ty, pos, after, guard := none } :: rest) a w := h
theorem at_loadg (T : TypeId) {P : Program} {ops : Array Oper} {rest : List Oper} {a : Act} {w : World} {Q : Exit → Act → World → Prop} {x : Operand} {dst : Option Tmp} {ty : TypeId} {pos : String} {after : Array Edge} {g : Option (Nat × Bool)}
    (h : wpList P ops Q ({ dst, op := .load T x, type := ty, pos, after, guard := g } :: rest) a w) : wpList P ops Q ({ dst, op := .load T x, type := ty, pos, after, guard := g } :: rest) a w := h
theorem at_store (T : TypeId) {P : Program} {ops : Array Oper} {rest : List Oper} {a : Act} {w : World} {Q : Exit → Act → World → Prop} {x y : Operand} {dst : Option Tmp} {ty : TypeId} {pos : String} {after : Array Edge}
    (h : wpList P ops Q ({ dst, op := .store T x y, type := ty, pos, after, guard := none } :: rest) a w) : wpList P ops Q ({ dst, op := .store T x y, type := ty, pos, after, guard := none } :: rest) a w := h
theorem grown_of {w w1 : World} (h : Below w.heap.size w w1) : ∃ p : Grown w, w1 = p.w1 := ⟨⟨w1, h⟩, rfl⟩
theorem grown_trans {w : World} {p : Grown w} {w1 : World} (h : Below p.w1.heap.size p.w1 w1) : ∃ q : Grown w, w1 = q.w1 := ⟨⟨w1, bTrans p.below h⟩, rfl⟩
end Go.Proofs.Ytflnamahaclidaa.St
