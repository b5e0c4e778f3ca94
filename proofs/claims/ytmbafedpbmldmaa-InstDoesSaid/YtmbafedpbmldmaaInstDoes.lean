
/- Whether an instance may be, and what becomes of it, is what the document says: the law returns true. -/
import Derived.Test.YtmbafedpbmldmaaIdH
import Derived.Test.YtmbafedpbmldmaaArg0
import Derived.Test.YtmbafedpbmldmaaEqI
namespace Go.Proofs.Ytmbafedpbmldmaa.instDoes
open Go.ChangeShapes Go.WideShapes Go.ChangeAt Go.RowKit
open Mem Arr Lst Rec Inst Grown Opens St0 Does ArgI
attribute [local go_sem] Oper.semAt_some
attribute [local go_sem ↓] exec_ins Go.wp_at_zero Go.wp_at_succ
attribute [local go_sem ↓ high] run_eqIns run_guardIns
set_option linter.unusedVariables false
theorem nonneg {z : Int} (h : (Lit.int .u64 z).wf = true) : 0 ≤ z := by
  simp [Lit.wf, IntKind.min, IntKind.max, IntKind.signed, IntKind.bits] at h
  omega
theorem may_is (x : Ins) (v : Bool) (hv : okB x = v) (w : World) : Calls Try.prog 9 #[x.val] w fun e w' => e = .returned (.bool v) ∧ Below w.heap.size w w' := by
  have := may_any x w; rw [hv] at this; exact this
theorem do_is (x : Ins) (what now at_ : Int) (c : Cfg) (h : In0 now at_ c) (a : Ans) (ha : doV x what now at_ c = a) (w : World) : Calls Try.prog 7 #[x.val, .int .u8 what, .int .u64 now, .int .u64 at_, c.val] w fun e w' => e = .returned (.tuple #[a.x.val, .int .u8 a.ask, .int .i64 a.e]) ∧ Below w.heap.size w w' := by
  have := do_any x what now at_ c h w; rw [ha] at this; exact this
theorem ref_is (x : Ins) (what now at_ : Int) (c : Cfg) (h : In0 now at_ c) (a : Ans) (ha : doV x what now at_ c = a) (w : World) : Calls Try.prog 8 #[x.val, .int .u8 what, .int .u64 now, .int .u64 at_, c.val] w fun e w' => e = .returned (.tuple #[a.x.val, .int .u8 a.ask, .int .i64 a.e]) ∧ Below w.heap.size w w' := by
  have := ref_any x what now at_ c h w; rw [ref_do x what now at_ c h, ha] at this; exact this
set_option maxHeartbeats 8000000 in
set_option maxRecDepth 100000 in
theorem walk (x : Ins) (what now at_ hi ho dr de : Int) (w : World) (b0 : InsOk x) (wa : (Lit.int .u8 what).wf = true) (wb : (Lit.int .u64 now).wf = true) (wc : (Lit.int .u64 at_).wf = true) (wd : (Lit.int .u64 hi).wf = true) (we : (Lit.int .u64 ho).wf = true) (wf : (Lit.int .u64 dr).wf = true) (wg : (Lit.int .u64 de).wf = true) :
    Calls Try.prog 3 #[x.val, .int .u8 what, .int .u64 now, .int .u64 at_, .int .u64 hi, .int .u64 ho, .int .u64 dr, .int .u64 de] w fun e w' => e = .returned (.bool true) ∧ Below w.heap.size w w' := by
  have hc : In0 now at_ (spans hi ho dr de) := ⟨nonneg wb, nonneg wd, nonneg we, nonneg wf, nonneg wg⟩
  obtain ⟨a, ha⟩ : ∃ a, doV x what now at_ (spans hi ho dr de) = a := ⟨_, rfl⟩
  obtain ⟨v, hv⟩ : ∃ v, okB x = v := ⟨_, rfl⟩
  have D1 := Lib.hid (fun W => do_is x what now at_ (spans hi ho dr de) hc a ha W)
  have D2 := Lib.hid (fun W => ref_is x what now at_ (spans hi ho dr de) hc a ha W)
  have M1 := Lib.hid (fun W => may_is x v hv W)
  have M2 := Lib.hid (fun W => refMay_is x v hv W)
  have CL := Lib.hid (fun W => lives_any W)
  clear ha hv hc wa wb wc wd we wf wg b0
  obtain ⟨c, ec⟩ : ∃ c, spans hi ho dr de = c := ⟨_, rfl⟩
  have HX := heap_under (o := .cells c.cells 30 (0, 0)) (heap_alloc_new w (.cells x.cells 25))
  have HC := heap_alloc_new (w.alloc (.cells x.cells 25)) (.cells c.cells 30 (0, 0))
  have BW := bAlloc (bAlloc (Below.refl _ w) (.cells x.cells 25)) (.cells c.cells 30 (0, 0))
  rw [World.size_alloc] at HC
  rw [ec] at D1 D2
  go_enter Try.func3, Try.ntmps3
  go_wp2_with (first | ((with_reducible refine at_store 30 ?_); (refine store_plain rfl 30 _ _ rfl c.cells _ _ (by rw [World.size_alloc]; rfl) (by rw [← ec]; rfl) (infoCfg.trans rfl) rfl c.one ?_)) | (refine load_cfg rfl _ rfl _ rfl c _ _ HC ?_) | ((with_reducible refine at_load' 25 ?_); (refine load_ins rfl _ rfl _ _ rfl x (range_row HX) ?_)))
  refine (D1.out _).mono ?_
  rintro _ u ⟨rfl, bu⟩
  replace HX := kept_box bu HX
  replace HC := kept_box bu HC
  replace BW := bTrans BW bu
  clear bu
  have HA := heap_alloc_new u (.cells a.x.cells 25 (0, 0))
  replace HX := heap_under (o := .cells a.x.cells 25 (0, 0)) HX
  replace HC := heap_under (o := .cells a.x.cells 25 (0, 0)) HC
  replace BW := bAlloc BW (.cells a.x.cells 25 (0, 0))
  go_wp2_with (first | ((with_reducible refine at_store 25 ?_); (refine store_inp rfl _ _ rfl a.x _ _ rfl rfl rfl ?_)) | (refine load_cfg rfl _ rfl _ rfl c _ _ HC ?_) | ((with_reducible refine at_load' 25 ?_); (refine load_ins rfl _ rfl _ _ rfl x (range_row HX) ?_)))
  refine (D2.out _).mono ?_
  rintro _ u2 ⟨rfl, bu⟩
  replace HX := kept_box bu HX
  replace HA := kept_box bu HA
  replace BW := bTrans BW bu
  clear bu HC D1 D2
  have HB := heap_alloc_new u2 (.cells a.x.cells 25 (0, 0))
  replace HX := heap_under (o := .cells a.x.cells 25 (0, 0)) HX
  replace HA := heap_under (o := .cells a.x.cells 25 (0, 0)) HA
  replace BW := bAlloc BW (.cells a.x.cells 25 (0, 0))
  go_wp2_with (first | ((with_reducible refine at_store 25 ?_); (refine store_inp rfl _ _ rfl a.x _ _ rfl rfl rfl ?_)))
  have I0 := fun p : Grown (u2.alloc (.cells a.x.cells 25)) => run_ins (range_row (kept_box p.below HX))
  have I1 := fun p : Grown (u2.alloc (.cells a.x.cells 25)) => run_ins (range_row (kept_box p.below HA))
  have I2 := fun p : Grown (u2.alloc (.cells a.x.cells 25)) => run_ins (range_row (kept_box p.below HB))
  refine region_grown (by kernel_rfl) (by kernel_rfl) ?_
  repeat ((with_reducible refine wpQuiet_step (fun K hK => ?_)); go_simp; (first | (refine hK _ ?_; clear hK K) | (apply Exists.intro; refine ⟨fun _ => ?_, hK _ ?_⟩; (first | (go_at_call 9; exact call_grown (M1.out _)) | (go_at_call 10; exact call_grown (M2.out _)) | (go_at_call 11; exact call_grown (CL.out _))); clear hK K)))
  (with_reducible refine wpQuiet_nil ?_)
  rintro _ ⟨p, rfl⟩
  go_wp2
  go_ret
  exact ⟨rfl, bTrans BW p.below⟩

/-! The row's step, by the frame. -/
theorem own : ownKnob Try.prog.godebug = none := by kernel_rfl
theorem laidOut : laidOutB Try.prog = true := by kernel_rfl
set_option maxRecDepth 100000 in
theorem lifted (os : Os) (started : os.Started) (H : Type) (enc : TypeId × Value → H) :
    ReturnsInHanded {} Try.checked os 3 .any (Rows.instDoesSpec.pre6 enc Try.prog Try.f3 Rows.instDoesRow.domain false) (Rows.instDoesSpec.post enc Try.prog Try.f3 false true false false) := by
  refine returnsInHanded_of_change_sized (C := Try.checked) own started (by kernel_rfl) Try.func3
    (ChangeSpec.witness6 (enc := enc) (C := Try.checked) false ⟨#[], #[Inst.none_.val, .int .u8 0, .int .u64 0, .int .u64 0, .int .u64 0, .int .u64 0, .int .u64 0, .int .u64 0], []⟩ 8 (by kernel_rfl) (by kernel_rfl) (by kernel_rfl) (by kernel_rfl)) ?_
  intro W base args ds gs before hval0 hW _ hsz0 _
  have hsz : (DataW.weightsEach Try.prog (Try.f3.params.toList ++ Rows.instDoesSpec.plain.varTypes Try.prog) (ds ++ gs)).all (· ≤ reachBytes) = true := hsz0
  have hval : ∀ (j : Nat) t v, Try.f3.params[j]? = some t → args[j]? = some v → Value.okWide Try.prog W .any base t v := hval0
  have hW' := hW
  obtain ⟨p, q, hA0, hV, rfl, hfz, hnd⟩ := hW
  have hA : DataW.TrodAll enc Try.prog W 0 (fun _ => true) true Try.f3.params.toList args.toList ds p := hA0
  rw [Try.params3] at hA hval hsz
  obtain ⟨v0, vs0, d0, ds0, p0, q0, hargs, rfl, rfl, h0, r0⟩ := trodAll_cons hA
  obtain ⟨v1, vs1, d1, ds1, p1, q1, rfl, rfl, rfl, h1, r1⟩ := trodAll_cons r0
  obtain ⟨v2, vs2, d2, ds2, p2, q2, rfl, rfl, rfl, h2, r2⟩ := trodAll_cons r1
  obtain ⟨v3, vs3, d3, ds3, p3, q3, rfl, rfl, rfl, h3, r3⟩ := trodAll_cons r2
  obtain ⟨v4, vs4, d4, ds4, p4, q4, rfl, rfl, rfl, h4, r4⟩ := trodAll_cons r3
  obtain ⟨v5, vs5, d5, ds5, p5, q5, rfl, rfl, rfl, h5, r5⟩ := trodAll_cons r4
  obtain ⟨v6, vs6, d6, ds6, p6, q6, rfl, rfl, rfl, h6, r6⟩ := trodAll_cons r5
  obtain ⟨v7, vs7, d7, ds7, p7, q7, rfl, rfl, rfl, h7, r7⟩ := trodAll_cons r6
  obtain ⟨rfl, rfl, rfl⟩ := trodAll_nil r7
  obtain rfl : args = #[v0, v1, v2, v3, v4, v5, v6, v7] := by cases args; simp_all
  obtain ⟨rfl, rfl⟩ := trodVars_none hV
  have k0 := h0
  have lt0 : ∀ x ∈ p0, x.block < W.heap.size := by obtain ⟨m, hm⟩ := k0; exact DataW.trod_lt m _ _ _ hm
  obtain ⟨x0, rfl, b0⟩ := ins_arg (hval 0 25 v0 rfl rfl) h0
  obtain ⟨a1, rfl, rfl, rfl, w1⟩ := open_int Try.underlying5 (hval 1 5 v1 rfl rfl) h1
  obtain ⟨a2, rfl, rfl, rfl, w2⟩ := open_int Try.underlying22 (hval 2 22 v2 rfl rfl) h2
  obtain ⟨a3, rfl, rfl, rfl, w3⟩ := open_int Try.underlying22 (hval 3 22 v3 rfl rfl) h3
  obtain ⟨a4, rfl, rfl, rfl, w4⟩ := open_int Try.underlying22 (hval 4 22 v4 rfl rfl) h4
  obtain ⟨a5, rfl, rfl, rfl, w5⟩ := open_int Try.underlying22 (hval 5 22 v5 rfl rfl) h5
  obtain ⟨a6, rfl, rfl, rfl, w6⟩ := open_int Try.underlying22 (hval 6 22 v6 rfl rfl) h6
  obtain ⟨a7, rfl, rfl, rfl, w7⟩ := open_int Try.underlying22 (hval 7 22 v7 rfl rfl) h7
  clear hA0 hval0 hsz0
  refine (walk x0 a1 a2 a3 a4 a5 a6 a7 W b0 w1 w2 w3 w4 w5 w6 w7).mono fun e W' ⟨he, bel⟩ => ?_
  subst he
  exact ⟨_, rfl, _, _, _, [], _, [], hW', trodAll_mk1 (shut_bool Try.underlying4 _), (trodAll_cons_mk (Below.trod laidOut (by kernel_rfl) (of_decide_eq_true (by kernel_rfl)) k0 bel lt0) (trodAll_cons_mk (shut_int Try.underlying5 w1) (trodAll_cons_mk (shut_int Try.underlying22 w2) (trodAll_cons_mk (shut_int Try.underlying22 w3) (trodAll_cons_mk (shut_int Try.underlying22 w4) (trodAll_cons_mk (shut_int Try.underlying22 w5) (trodAll_cons_mk (shut_int Try.underlying22 w6) (trodAll_cons_mk (shut_int Try.underlying22 w7) trodAll_mk0)))))))), rfl, bel.frame _, fun h => by cases h⟩

/-- The statement. -/
theorem proved : Rows.InstDoesSaid :=
  OpenClaim.holds_of_wide 3 Try.f3 rfl rfl rfl rfl rfl rfl rfl ⟨rfl, rfl, rfl, rfl, rfl⟩ rfl rfl rfl rfl rfl (by kernel_rfl) Try.func3 (by kernel_rfl)
    (of_decide_eq_true (by kernel_rfl)) (by unfold Func.isWrapper; first | (rw [if_pos (by decide +kernel)]; kernel_rfl) | (rw [if_neg (by decide +kernel)]; exact ⟨rfl, rfl⟩))
    (fun os started H enc _ => lifted os started H enc)
end Go.Proofs.Ytmbafedpbmldmaa.instDoes
