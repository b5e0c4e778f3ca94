
/- A configuration that came in: its fields, and what is known of them. -/
import Derived.Test.YtflnamahaclidaaCfgP
import Derived.Test.YtflnamahaclidaaArr
namespace Go.Proofs.Ytflnamahaclidaa
open Go.ChangeShapes Go.WideShapes Go.ChangeAt Go.RowKit Go.Deep
open Mem Arr Rec
/-- the numbers of a configuration fit their kinds -/
structure CfgOk (c : Cfg) : Prop where
  strategy : (Lit.int .u8 c.strategy).wf = true
  spread : (Lit.int .i64 c.spread).wf = true
  min : (Lit.int .i64 c.min).wf = true
  max : (Lit.int .i64 c.max).wf = true
  base : (Lit.int .i64 c.base).wf = true
  percent : (Lit.int .i64 c.percent).wf = true
  surge : (Lit.int .i64 c.surge).wf = true
  warm : (Lit.int .i64 c.warm).wf = true
  drain : (Lit.int .u64 c.drain).wf = true
  hookIn : (Lit.int .u64 c.hookIn).wf = true
  hookOut : (Lit.int .u64 c.hookOut).wf = true
  black : (Lit.int .u64 c.black).wf = true
  deadline : (Lit.int .u64 c.deadline).wf = true
  cool : (Lit.int .u64 c.cool).wf = true
  target : (Lit.int .i64 c.target).wf = true
theorem cfg_arg {H : Type} {enc : TypeId × Value → H} {w : World} {r : Reach} {b0 : Nat} {v : Value} {d : DataW H} {p : List MemPlace} (hv : Value.okWide Try.prog w r b0 27 v) (h : DataW.Trod enc Try.prog w 0 (fun _ => true) true 27 v d p) :
    ∃ c : Cfg, v = c.val ∧ CfgOk c ∧ (∃ d p, DataW.Trod enc Try.prog w 0 (fun _ => true) true 22 (.slice c.pA c.pN c.pC) d p) ∧ (∃ d p, DataW.Trod enc Try.prog w 0 (fun _ => true) true 24 (.slice c.bA c.bN c.bC) d p) ∧ (∃ d p, DataW.Trod enc Try.prog w 0 (fun _ => true) true 25 (.slice c.lA c.lN c.lC) d p) := by
  obtain ⟨cs, rfl, hl, hg⟩ := record_of Try.underlying27 (by kernel_rfl) (by kernel_rfl) hv h
  clear h hv
  match cs, hl with
  | [x0, x1, x2, x3, x4, x5, x6, x7, x8, x9, x10, x11, x12, x13, x14, x15, x16, x17, x18, x19], _ =>
    obtain ⟨u0, m0, y0, e0, t0⟩ := hg 0 _ rfl
    injection e0 with e0
    subst e0
    obtain ⟨q0, s0⟩ := one_slice Try.underlying22 t0
    obtain ⟨u1, m1, y1, e1, t1⟩ := hg 1 _ rfl
    injection e1 with e1
    subst e1
    obtain ⟨q1, f1⟩ := one_int Try.underlying5 t1
    obtain ⟨u2, m2, y2, e2, t2⟩ := hg 2 _ rfl
    injection e2 with e2
    subst e2
    obtain ⟨q2, f2⟩ := one_int Try.underlying2 t2
    obtain ⟨u3, m3, y3, e3, t3⟩ := hg 3 _ rfl
    injection e3 with e3
    subst e3
    have q3 := one_bool Try.underlying4 t3
    obtain ⟨u4, m4, y4, e4, t4⟩ := hg 4 _ rfl
    injection e4 with e4
    subst e4
    obtain ⟨q4, f4⟩ := one_int Try.underlying2 t4
    obtain ⟨u5, m5, y5, e5, t5⟩ := hg 5 _ rfl
    injection e5 with e5
    subst e5
    obtain ⟨q5, f5⟩ := one_int Try.underlying2 t5
    obtain ⟨u6, m6, y6, e6, t6⟩ := hg 6 _ rfl
    injection e6 with e6
    subst e6
    obtain ⟨q6, f6⟩ := one_int Try.underlying2 t6
    obtain ⟨u7, m7, y7, e7, t7⟩ := hg 7 _ rfl
    injection e7 with e7
    subst e7
    obtain ⟨q7, f7⟩ := one_int Try.underlying2 t7
    obtain ⟨u8, m8, y8, e8, t8⟩ := hg 8 _ rfl
    injection e8 with e8
    subst e8
    obtain ⟨q8, f8⟩ := one_int Try.underlying2 t8
    obtain ⟨u9, m9, y9, e9, t9⟩ := hg 9 _ rfl
    injection e9 with e9
    subst e9
    obtain ⟨q9, f9⟩ := one_int Try.underlying2 t9
    obtain ⟨u10, m10, y10, e10, t10⟩ := hg 10 _ rfl
    injection e10 with e10
    subst e10
    obtain ⟨q10, f10⟩ := one_int Try.underlying23 t10
    obtain ⟨u11, m11, y11, e11, t11⟩ := hg 11 _ rfl
    injection e11 with e11
    subst e11
    obtain ⟨q11, f11⟩ := one_int Try.underlying23 t11
    obtain ⟨u12, m12, y12, e12, t12⟩ := hg 12 _ rfl
    injection e12 with e12
    subst e12
    obtain ⟨q12, f12⟩ := one_int Try.underlying23 t12
    obtain ⟨u13, m13, y13, e13, t13⟩ := hg 13 _ rfl
    injection e13 with e13
    subst e13
    obtain ⟨q13, f13⟩ := one_int Try.underlying23 t13
    obtain ⟨u14, m14, y14, e14, t14⟩ := hg 14 _ rfl
    injection e14 with e14
    subst e14
    obtain ⟨q14, f14⟩ := one_int Try.underlying23 t14
    obtain ⟨u15, m15, y15, e15, t15⟩ := hg 15 _ rfl
    injection e15 with e15
    subst e15
    obtain ⟨q15, f15⟩ := one_int Try.underlying23 t15
    obtain ⟨u16, m16, y16, e16, t16⟩ := hg 16 _ rfl
    injection e16 with e16
    subst e16
    have q16 := one_bool Try.underlying4 t16
    obtain ⟨u17, m17, y17, e17, t17⟩ := hg 17 _ rfl
    injection e17 with e17
    subst e17
    obtain ⟨q17, f17⟩ := one_int Try.underlying2 t17
    obtain ⟨u18, m18, y18, e18, t18⟩ := hg 18 _ rfl
    injection e18 with e18
    subst e18
    obtain ⟨q18, s18⟩ := one_slice Try.underlying24 t18
    obtain ⟨u19, m19, y19, e19, t19⟩ := hg 19 _ rfl
    injection e19 with e19
    subst e19
    obtain ⟨q19, s19⟩ := one_slice Try.underlying25 t19
    refine ⟨⟨sA x0, sN x0, sC x0, intV x1, intV x2, boolV x3, intV x4, intV x5, intV x6, intV x7, intV x8, intV x9, intV x10, intV x11, intV x12, intV x13, intV x14, intV x15, boolV x16, intV x17, sA x18, sN x18, sC x18, sA x19, sN x19, sC x19⟩, ?_, ⟨f1, f2, f4, f5, f6, f7, f8, f9, f10, f11, f12, f13, f14, f15, f17⟩, ⟨_, _, s0⟩, ⟨_, _, s18⟩, ⟨_, _, s19⟩⟩
    show Value.agg #[x0, x1, x2, x3, x4, x5, x6, x7, x8, x9, x10, x11, x12, x13, x14, x15, x16, x17, x18, x19] = Value.agg #[.slice (sA x0) (sN x0) (sC x0), .int .u8 (intV x1), .int .i64 (intV x2), .bool (boolV x3), .int .i64 (intV x4), .int .i64 (intV x5), .int .i64 (intV x6), .int .i64 (intV x7), .int .i64 (intV x8), .int .i64 (intV x9), .int .u64 (intV x10), .int .u64 (intV x11), .int .u64 (intV x12), .int .u64 (intV x13), .int .u64 (intV x14), .int .u64 (intV x15), .bool (boolV x16), .int .i64 (intV x17), .slice (sA x18) (sN x18) (sC x18), .slice (sA x19) (sN x19) (sC x19)]
    rw [← q0, ← q1, ← q2, ← q3, ← q4, ← q5, ← q6, ← q7, ← q8, ← q9, ← q10, ← q11, ← q12, ← q13, ← q14, ← q15, ← q16, ← q17, ← q18, ← q19]
end Go.Proofs.Ytflnamahaclidaa
