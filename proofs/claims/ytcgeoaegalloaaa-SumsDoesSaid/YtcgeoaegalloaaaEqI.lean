
/- Whether two instances are one, as the program asks it. -/
import Derived.Test.YtcgeoaegalloaaaInst
import Derived.Laws.StructEq
namespace Go.Proofs.Ytcgeoaegalloaaa.Inst
open Go.ChangeShapes Go.WideShapes Go.ChangeAt Go.RowKit
attribute [local go_sem] Oper.semAt_some
deriving instance DecidableEq for Ins
section
variable {P : Program} {w : World} {xs ys : Array Value} {f : Field} {fs : List Field}
theorem eq_int (hn : (f.name == "_") = false) (hp : P.plainKey f.type = true) {k k' : IntKind} {a b : Int} (hx : xs[f.offset]? = some (.int k a)) (hy : ys[f.offset]? = some (.int k b)) (hu : P.underlying f.type = some (.int k')) :
    (Op.eqFields 9999 xs ys (f :: fs)).run P w = if a = b then (Op.eqFields 9999 xs ys fs).run P w else .ok false w := by
  have h : f.name ≠ "_" := by simpa using hn
  simp only [Op.eqFields, if_pos h, Sem.run_bind, run_part_plain (P := P) w hp hx, run_part_plain (P := P) w hp hy, Result.andThen_ok]
  rw [run_equalIn_int w 9998 f.type k k' a b hu]
  by_cases e : a = b <;> simp [e]
theorem eq_bool (hn : (f.name == "_") = false) (hp : P.plainKey f.type = true) {a b : Bool} (hx : xs[f.offset]? = some (.bool a)) (hy : ys[f.offset]? = some (.bool b)) (hu : P.underlying f.type = some .bool) :
    (Op.eqFields 9999 xs ys (f :: fs)).run P w = if a = b then (Op.eqFields 9999 xs ys fs).run P w else .ok false w := by
  have h : f.name ≠ "_" := by simpa using hn
  simp only [Op.eqFields, if_pos h, Sem.run_bind, run_part_plain (P := P) w hp hx, run_part_plain (P := P) w hp hy, Result.andThen_ok]
  rw [run_equalIn_bool' w 9998 f.type a b hu]
  by_cases e : a = b <;> simp [e]
end
set_option maxHeartbeats 4000000 in
theorem run_eqIns (x y : Ins) (w : World) : (binOp .eql 36 x.val y.val).run Try.prog w = .ok (.bool (decide (x = y))) w := by
  have hu : Try.prog.underlying 36 = some (.struct (Try.prog.fieldsOf 36)) := Try.underlying36
  have hp : Try.prog.stoodInHeld 36 = false := by kernel_rfl
  rw [run_eql_struct]
  rw [run_equalIn_struct w 9999 _ _ _ hu hp]
  simp only [Program.fieldsOf, Try.underlying36]
  rw [eq_int rfl (by kernel_rfl) x.f0 y.f0 Try.underlying34, eq_int rfl (by kernel_rfl) x.f1 y.f1 Try.underlying34, eq_int rfl (by kernel_rfl) x.f2 y.f2 Try.underlying3, eq_int rfl (by kernel_rfl) x.f3 y.f3 Try.underlying2,
    eq_bool rfl (by kernel_rfl) x.f4 y.f4 Try.underlying4, eq_int rfl (by kernel_rfl) x.f5 y.f5 Try.underlying5, eq_int rfl (by kernel_rfl) x.f6 y.f6 Try.underlying34, eq_bool rfl (by kernel_rfl) x.f7 y.f7 Try.underlying4,
    eq_int rfl (by kernel_rfl) x.f8 y.f8 Try.underlying34, eq_bool rfl (by kernel_rfl) x.f9 y.f9 Try.underlying4, eq_bool rfl (by kernel_rfl) x.f10 y.f10 Try.underlying4, eq_int rfl (by kernel_rfl) x.f11 y.f11 Try.underlying24]
  obtain ⟨a0, a1, a2, a3, a4, a5, a6, a7, a8, a9, a10, a11⟩ := x
  obtain ⟨b0, b1, b2, b3, b4, b5, b6, b7, b8, b9, b10, b11⟩ := y
  simp only [Ins.mk.injEq]
  by_cases h0 : a0 = b0 <;> by_cases h1 : a1 = b1 <;> by_cases h2 : a2 = b2 <;> by_cases h3 : a3 = b3 <;> simp [h0, h1, h2, h3]
  by_cases h4 : a4 = b4 <;> by_cases h5 : a5 = b5 <;> by_cases h6 : a6 = b6 <;> by_cases h7 : a7 = b7 <;> simp [h4, h5, h6, h7]
  by_cases h8 : a8 = b8 <;> by_cases h9 : a9 = b9 <;> by_cases h10 : a10 = b10 <;> by_cases h11 : a11 = b11 <;> simp [h8, h9, h10, h11, Op.eqFields]
theorem run_neqIns (x y : Ins) (w : World) : (binOp .neq 36 x.val y.val).run Try.prog w = .ok (.bool (!decide (x = y))) w := by
  have h := run_eqIns x y w
  rw [run_eql_struct] at h
  rw [run_neq_struct]
  cases hq : (Op.equalIn 10000 36 (.agg x.cells) (.agg y.cells)).run Try.prog w with
  | ok b w' =>
    rw [hq] at h
    simp only [Result.andThen_ok, Result.ok.injEq, Value.bool.injEq] at h
    rw [Result.andThen_ok, h.1, h.2]
  | halt z w' => rw [hq] at h; cases h
theorem run_guardIns (op : BinOp) (a b : Operand) (x y : Ins) (w : World) : (eqGuard op 36 a b x.val y.val).run Try.prog w = .ok () w :=
  run_eqGuard_agg w op _ a b _ _ (by kernel_rfl)
end Go.Proofs.Ytcgeoaegalloaaa.Inst
