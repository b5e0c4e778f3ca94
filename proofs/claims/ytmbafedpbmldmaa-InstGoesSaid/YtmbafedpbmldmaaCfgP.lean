
/- A configuration that is read as a whole out of a box. -/
import Derived.Test.YtmbafedpbmldmaaRows
import Derived.Test.YtmbafedpbmldmaaCfg
import Derived.Test.YtmbafedpbmldmaaRec
namespace Go.Proofs.Ytmbafedpbmldmaa
open Go.ChangeShapes Go.WideShapes Go.ChangeAt Go.RowKit
open Rec
theorem infoCfg : (Try.prog.info? 30).map (·.size) = some 20 := by kernel_rfl
theorem load_cfg {ops : Array Oper} {rest : List Oper} {o : Oper} {a : Act} {w : World} {Q : Exit → Act → World → Prop} (hw : Region.wanted o (yielded ops a.tmps) = true) (x : Operand) (ho : o.op = .load 30 x)
    (g : Nat) (hx : a.eval x = .pointer (some ⟨g, 0, none⟩)) (c : Cfg) (t : TypeId) (fr : Nat × Nat) (hg : w.heap[g]? = some (.cells c.cells t fr))
    (h : wpList Try.prog ops Q rest (a.put o.dst c.val) w) : wpList Try.prog ops Q (o :: rest) a w :=
  BigFrame.wpList_want hw fun _ hK => wp_load_row 30 x ho g hx t c.cells fr _ hg Try.underlying30 rfl (infoCfg.trans rfl) (hK _ _ h)
/-- the box is as it was, when a call has ended -/
theorem kept_box {w w1 : World} {g : Nat} {o : Obj} (hb : Below w.heap.size w w1) (h : w.heap[g]? = some o) : w1.heap[g]? = some o := by
  have hl : g < w.heap.size := by
    rcases Nat.lt_or_ge g w.heap.size with hlt | hge
    · exact hlt
    · rw [Array.getElem?_eq_none hge] at h; cases h
  rw [hb.block g hl]; exact h
theorem kept_hid {w w1 : World} {g : Nat} {o : Obj} (hb : Below w.heap.size w w1) (h : Hid (w.heap[g]? = some o)) : Hid (w1.heap[g]? = some o) := Lib.hid (kept_box hb h.out)
theorem new_hid {w w1 : World} {o : Obj} (hb : Below (w.alloc o).heap.size (w.alloc o) w1) : Hid (w1.heap[w.heap.size]? = some o) := Lib.hid (kept_box hb (heap_alloc_new _ _))
/-- in a region that draws its order a configuration is loaded by these two rows -/
theorem exec_cfg (ρ : Operand → Value) (x : Operand) (dst : Option Tmp) (ty : TypeId) (pos : String) (after : Array Edge) (guard : Option (Nat × Bool)) :
    execOp ρ { dst, op := .load 30 x, type := ty, pos, after, guard } = loadRec 30 (ρ x) := rfl
theorem run_cfg (w : World) (g : Nat) (h : RecOK w g 20) : (loadRec 30 (.pointer (some ⟨g, 0, none⟩))).run Try.prog w = .ok (.value (.agg (recIn w g))) w :=
  run_loadRec 30 Try.underlying30 rfl infoCfg w g h
end Go.Proofs.Ytmbafedpbmldmaa
