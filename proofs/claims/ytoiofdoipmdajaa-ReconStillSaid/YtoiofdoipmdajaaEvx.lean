
/- How a record of an event is made, and a list of one. No walk here. -/
import Derived.Test.YtoiofdoipmdajaaEvs
namespace Go.Proofs.Ytoiofdoipmdajaa.Evs
open Go.ChangeShapes Go.WideShapes Go.ChangeAt Go.RowKit
theorem exec_b {o : Oper} {a : Act} {w : World} (parts : Array (Nat × Operand)) (ho : o.op = .build 45 parts) {y : Ev} (h : (Instr.build 45 (parts.map fun (i, x) => (i, a.eval x))).run Try.prog w = .ok y.val w) : (execOp a.eval o).run Try.prog w = .ok (.value y.val) w := by
  unfold execOp
  rw [ho]
  simp only [Sem.run_bind, Sem.run_pure, h, Result.andThen_ok]
theorem exec_bS {o : Oper} {a : Act} {w : World} (x : Operand) (ho : o.op = .buildSlice 25 1 #[(0, x)]) {y : Ev} (hx : a.eval x = y.val) : (execOp a.eval o).run Try.prog w = .ok (.value (.slice (some ⟨w.heap.size, 0, none⟩) 1 1)) (w.alloc (.cells y.cells 45 (0, 0))) := by
  have h : (Instr.buildSlice 25 1 (#[(0, x)].map fun (i, x) => (i, a.eval x))).run Try.prog w = .ok (.slice (some ⟨w.heap.size, 0, none⟩) 1 1) (w.alloc (.cells y.cells 45 (0, 0))) := by
    simp only [List.map_toArray, List.map_cons, List.map_nil]
    rw [hx]; exact buildS y w
  unfold execOp
  rw [ho]
  simp only [Sem.run_bind, Sem.run_pure, h, Result.andThen_ok]
theorem exec_b2 {o : Oper} {a : Act} {w : World} (x0 x : Operand) (ho : o.op = .build 45 #[(0, x0), (2, x)]) {k i : Int} (h0 : a.eval x0 = .int .u8 k) (hx : a.eval x = .int .u64 i) : (execOp a.eval o).run Try.prog w = .ok (.value (Ev.val ⟨k, 0, i⟩)) w :=
  exec_b _ ho (by
    simp only [List.map_toArray, List.map_cons, List.map_nil]
    rw [h0, hx]; exact build2 k i w)
theorem exec_b3 {o : Oper} {a : Act} {w : World} (x0 x1 x : Operand) (ho : o.op = .build 45 #[(0, x0), (1, x1), (2, x)]) {k t i : Int} (h0 : a.eval x0 = .int .u8 k) (h1 : a.eval x1 = .int .u64 t) (hx : a.eval x = .int .u64 i) : (execOp a.eval o).run Try.prog w = .ok (.value (Ev.val ⟨k, t, i⟩)) w :=
  exec_b _ ho (by
    simp only [List.map_toArray, List.map_cons, List.map_nil]
    rw [h0, h1, hx]; exact build3 k t i w)
end Go.Proofs.Ytoiofdoipmdajaa.Evs
