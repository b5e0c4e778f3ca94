
/- The instance of a launch that was granted, and whether one serves, or comes, is what the document says: the law returns true. -/
import Derived.Test.YtmbafedpbmldmaaIdI
import Derived.Test.YtmbafedpbmldmaaArg0
import Derived.Test.YtmbafedpbmldmaaEqI
namespace Go.Proofs.Ytmbafedpbmldmaa.instNew
open Go.ChangeShapes Go.WideShapes Go.ChangeAt Go.RowKit
open Mem Arr Lst Rec Inst Grown Opens St0 Does ArgI
attribute [local go_sem] Oper.semAt_some
attribute [local go_sem ↓] exec_ins exec_opn exec_cfg Go.wp_at_zero Go.wp_at_succ
attribute [local go_sem ↓ high] run_eqIns run_guardIns
set_option linter.unusedVariables false
set_option linter.unusedSimpArgs false
theorem new_is (id : Int) (x : Opn) (now : Int) (c : Cfg) (n0 : 0 ≤ now) (d0 : 0 ≤ c.deadline) (y : Ins) (hy : newX id x now c = y) (w : World) : Calls Try.prog 12 #[.int .u64 id, x.val, .int .u64 now, c.val] w fun e w' => e = .returned y.val ∧ Below w.heap.size w w' := by
  have := new_any id x now c n0 d0 w; rw [hy] at this; exact this
theorem refNew_is (id : Int) (x : Opn) (now : Int) (c : Cfg) (n0 : 0 ≤ now) (d0 : 0 ≤ c.deadline) (y : Ins) (hy : newX id x now c = y) (w : World) : Calls Try.prog 13 #[.int .u64 id, x.val, .int .u64 now, c.val] w fun e w' => e = .returned y.val ∧ Below w.heap.size w w' := by
  have := refNew_any id x now c n0 d0 w; rw [hy] at this; exact this
theorem serves_is (x : Ins) (v : Bool) (hv : servesB x = v) (w : World) : Calls Try.prog 14 #[x.val] w fun e w' => e = .returned (.bool v) ∧ Below w.heap.size w w' := by
  have := serves_any x w; rw [hv] at this; exact this
theorem refServes_is (x : Ins) (v : Bool) (hv : servesB x = v) (w : World) : Calls Try.prog 15 #[x.val] w fun e w' => e = .returned (.bool v) ∧ Below w.heap.size w w' := by
  have := refServes_any x w; rw [hv] at this; exact this
theorem comes_is (x : Ins) (v : Bool) (hv : comesB x = v) (w : World) : Calls Try.prog 16 #[x.val] w fun e w' => e = .returned (.bool v) ∧ Below w.heap.size w w' := by
  have := comes_any x w; rw [hv] at this; exact this
theorem refComes_is (x : Ins) (v : Bool) (hv : comesB x = v) (w : World) : Calls Try.prog 17 #[x.val] w fun e w' => e = .returned (.bool v) ∧ Below w.heap.size w w' := by
  have := refComes_any x w; rw [hv] at this; exact this
theorem run_cfgR {w : World} {b o : Nat} {c : Cfg} (h : w.rangeAt b o c.cells.toList) : (loadRec 30 (.pointer (some ⟨b, o, none⟩))).run Try.prog w = .ok (.value c.val) w :=
  run_loadMid 30 Try.underlying30 rfl (infoCfg.trans rfl) h
set_option maxHeartbeats 8000000 in
set_option maxRecDepth 100000 in
theorem walk (id : Int) (o : Opn) (now de : Int) (i : Ins) (w : World) (wa : (Lit.int .u64 id).wf = true) (bo : OpnOk o) (wb : (Lit.int .u64 now).wf = true) (wc : (Lit.int .u64 de).wf = true) (bi : InsOk i) :
    Calls Try.prog 4 #[.int .u64 id, o.val, .int .u64 now, .int .u64 de, i.val] w fun e w' => e = .returned (.bool true) ∧ Below w.heap.size w w' := by
  have n0 : 0 ≤ now := by simp [Lit.wf, IntKind.min, IntKind.max, IntKind.signed, IntKind.bits] at wb; omega
  have d0 : 0 ≤ de := by simp [Lit.wf, IntKind.min, IntKind.max, IntKind.signed, IntKind.bits] at wc; omega
  obtain ⟨y, hy⟩ : ∃ y, newX id o now (spans 0 0 0 de) = y := ⟨_, rfl⟩
  obtain ⟨v, hv⟩ : ∃ v, servesB i = v := ⟨_, rfl⟩
  obtain ⟨u, hu⟩ : ∃ u, comesB i = u := ⟨_, rfl⟩
  have N1 := Lib.hid (fun W => new_is id o now (spans 0 0 0 de) n0 d0 y hy W)
  have N2 := Lib.hid (fun W => refNew_is id o now (spans 0 0 0 de) n0 d0 y hy W)
  have S1 := Lib.hid (fun W => serves_is i v hv W)
  have S2 := Lib.hid (fun W => refServes_is i v hv W)
  have C1 := Lib.hid (fun W => comes_is i u hu W)
  have C2 := Lib.hid (fun W => refComes_is i u hu W)
  have CL := Lib.hid (fun W => lives_any W)
  clear hy hv hu n0 d0 wa wb wc bo bi
  obtain ⟨c, ec⟩ : ∃ c, spans 0 0 0 de = c := ⟨_, rfl⟩
  rw [ec] at N1 N2
  have HO := heap_under (o := .cells c.cells 30 (0, 0)) (heap_under (o := .cells i.cells 25) (heap_alloc_new w (.cells o.cells 40)))
  have HI := heap_under (o := .cells c.cells 30 (0, 0)) (heap_alloc_new (w.alloc (.cells o.cells 40)) (.cells i.cells 25))
  have HC := heap_alloc_new ((w.alloc (.cells o.cells 40)).alloc (.cells i.cells 25)) (.cells c.cells 30 (0, 0))
  rw [World.size_alloc] at HI
  rw [World.size_alloc, World.size_alloc] at HC
  have BW := bAlloc (bAlloc (bAlloc (Below.refl _ w) (.cells o.cells 40)) (.cells i.cells 25)) (.cells c.cells 30 (0, 0))
  go_enter Try.func4, Try.ntmps4
  go_wp2_with ((with_reducible refine at_store 30 ?_); (refine store_plain rfl 30 _ _ rfl c.cells _ _ (by rw [World.size_alloc, World.size_alloc]; rfl) (by rw [← ec]; rfl) (infoCfg.trans rfl) rfl c.one ?_))
  have I0 := fun p : Grown (((w.alloc (.cells o.cells 40)).alloc (.cells i.cells 25)).alloc (.cells c.cells 30 (0, 0))) => run_opn (range_row (kept_box p.below HO))
  have I1 := fun p : Grown (((w.alloc (.cells o.cells 40)).alloc (.cells i.cells 25)).alloc (.cells c.cells 30 (0, 0))) => run_ins (range_row (kept_box p.below HI))
  have I2 := fun p : Grown (((w.alloc (.cells o.cells 40)).alloc (.cells i.cells 25)).alloc (.cells c.cells 30 (0, 0))) => run_cfgR (range_row (kept_box p.below HC))
  refine region_grown (by kernel_rfl) (by kernel_rfl) ?_
  repeat ((with_reducible refine wpQuiet_step (fun K hK => ?_)); go_simp; (first | (refine hK _ ?_; clear hK K) | (apply Exists.intro; refine ⟨fun _ => ?_, hK _ ?_⟩; (first | (go_at_call 12; exact call_grown (N1.out _)) | (go_at_call 13; exact call_grown (N2.out _)) | (go_at_call 14; exact call_grown (S1.out _)) | (go_at_call 15; exact call_grown (S2.out _)) | (go_at_call 16; exact call_grown (C1.out _)) | (go_at_call 17; exact call_grown (C2.out _)) | (go_at_call 11; exact call_grown (CL.out _))); clear hK K)))
  (with_reducible refine wpQuiet_nil ?_)
  rintro _ ⟨p, rfl⟩
  go_wp2
  go_ret
  exact ⟨rfl, bTrans BW p.below⟩

/-! The row's step, by the frame. -/
theorem own : ownKnob Try.prog.godebug = none := by kernel_rfl
theorem laidOut : laidOutB Try.prog = true := by kernel_rfl
set_option maxRecDepth 100000 in
theorem lifted (os : Os) (started : os.Started) (H : Type) (enc : TypeId × Value → H) :
    ReturnsInHanded {} Try.checked os 4 .any (Rows.instNewSpec.pre6 enc Try.prog Try.f4 Rows.instNewRow.domain false) (Rows.instNewSpec.post enc Try.prog Try.f4 false true false false) := by
  refine returnsInHanded_of_change_sized (C := Try.checked) own started (by kernel_rfl) Try.func4
    (ChangeSpec.witness6 (enc := enc) (C := Try.checked) false ⟨#[], #[.int .u64 0, Opens.none_.val, .int .u64 0, .int .u64 0, Inst.none_.val], []⟩ 8 (by kernel_rfl) (by kernel_rfl) (by kernel_rfl) (by kernel_rfl)) ?_
  intro W base args ds gs before hval0 hW _ hsz0 _
  have hsz : (DataW.weightsEach Try.prog (Try.f4.params.toList ++ Rows.instNewSpec.plain.varTypes Try.prog) (ds ++ gs)).all (· ≤ reachBytes) = true := hsz0
  have hval : ∀ (j : Nat) t v, Try.f4.params[j]? = some t → args[j]? = some v → Value.okWide Try.prog W .any base t v := hval0
  have hW' := hW
  obtain ⟨p, q, hA0, hV, rfl, hfz, hnd⟩ := hW
  have hA : DataW.TrodAll enc Try.prog W 0 (fun _ => true) true Try.f4.params.toList args.toList ds p := hA0
  rw [Try.params4] at hA hval hsz
  obtain ⟨v0, vs0, d0, ds0, p0, q0, hargs, rfl, rfl, h0, r0⟩ := trodAll_cons hA
  obtain ⟨v1, vs1, d1, ds1, p1, q1, rfl, rfl, rfl, h1, r1⟩ := trodAll_cons r0
  obtain ⟨v2, vs2, d2, ds2, p2, q2, rfl, rfl, rfl, h2, r2⟩ := trodAll_cons r1
  obtain ⟨v3, vs3, d3, ds3, p3, q3, rfl, rfl, rfl, h3, r3⟩ := trodAll_cons r2
  obtain ⟨v4, vs4, d4, ds4, p4, q4, rfl, rfl, rfl, h4, r4⟩ := trodAll_cons r3
  obtain ⟨rfl, rfl, rfl⟩ := trodAll_nil r4
  obtain rfl : args = #[v0, v1, v2, v3, v4] := by cases args; simp_all
  obtain ⟨rfl, rfl⟩ := trodVars_none hV
  obtain ⟨a0, rfl, rfl, rfl, w0⟩ := open_int Try.underlying22 (hval 0 22 v0 rfl rfl) h0
  have k1 := h1
  have lt1 : ∀ x ∈ p1, x.block < W.heap.size := by obtain ⟨m, hm⟩ := k1; exact DataW.trod_lt m _ _ _ hm
  obtain ⟨x1, rfl, b1⟩ := opn_arg (hval 1 40 v1 rfl rfl) h1
  obtain ⟨a2, rfl, rfl, rfl, w2⟩ := open_int Try.underlying22 (hval 2 22 v2 rfl rfl) h2
  obtain ⟨a3, rfl, rfl, rfl, w3⟩ := open_int Try.underlying22 (hval 3 22 v3 rfl rfl) h3
  have k4 := h4
  have lt4 : ∀ x ∈ p4, x.block < W.heap.size := by obtain ⟨m, hm⟩ := k4; exact DataW.trod_lt m _ _ _ hm
  obtain ⟨x4, rfl, b4⟩ := ins_arg (hval 4 25 v4 rfl rfl) h4
  clear hA0 hval0 hsz0
  refine (walk a0 x1 a2 a3 x4 W w0 b1 w2 w3 b4).mono fun e W' ⟨he, bel⟩ => ?_
  subst he
  exact ⟨_, rfl, _, _, _, [], _, [], hW', trodAll_mk1 (shut_bool Try.underlying4 _), (trodAll_cons_mk (shut_int Try.underlying22 w0) (trodAll_cons_mk (Below.trod laidOut (by kernel_rfl) (of_decide_eq_true (by kernel_rfl)) k1 bel lt1) (trodAll_cons_mk (shut_int Try.underlying22 w2) (trodAll_cons_mk (shut_int Try.underlying22 w3) (trodAll_cons_mk (Below.trod laidOut (by kernel_rfl) (of_decide_eq_true (by kernel_rfl)) k4 bel lt4) trodAll_mk0))))), rfl, bel.frame _, fun h => by cases h⟩

/-- The statement. -/
theorem proved : Rows.InstNewSaid :=
  OpenClaim.holds_of_wide 4 Try.f4 rfl rfl rfl rfl rfl rfl rfl ⟨rfl, rfl, rfl, rfl, rfl⟩ rfl rfl rfl rfl rfl (by kernel_rfl) Try.func4 (by kernel_rfl)
    (of_decide_eq_true (by kernel_rfl)) (by unfold Func.isWrapper; first | (rw [if_pos (by decide +kernel)]; kernel_rfl) | (rw [if_neg (by decide +kernel)]; exact ⟨rfl, rfl⟩))
    (fun os started H enc _ => lifted os started H enc)
end Go.Proofs.Ytmbafedpbmldmaa.instNew
