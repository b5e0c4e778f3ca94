
/- Of a metric that is the target nothing changes, without Bands: for every four uint16 and two uint32 the law returns true. No condition. -/
import Derived.IntWalk
import Derived.Test.YtgfiimllehmnoaaWantL
import Derived.Test.YtgfiimllehmnoaaList
namespace Go.Proofs.Ytgfiimllehmnoaa.wantSteady
open Go.ChangeShapes Go.WideShapes Go.ChangeAt Go.RowKit
open NumM NumA Mem Arr Rec Want
set_option linter.unusedVariables false

theorem steady_met {lo hi tg d u now n t f : Int} (h0 : 0 ≤ lo) (h1 : hi ≤ 65536) (h2 : 1 ≤ tg) (h3 : tg ≤ 65536) (h4 : lo ≤ d) (h5 : d ≤ hi) (hu : u ≤ 4294967295) (hn : now ≤ 4294967295) (h : Met (fun _ => 0) (fun _ => 0) (steadyC lo hi tg 7) d u now tg n t f) : n = d ∧ t = u ∧ f = 0 := by
  have hb : ¬ badM (steadyC lo hi tg 7) d u now tg := by
    show ¬ (tg < 0 ∨ 1048576 < tg ∨ tg < 0 ∨ 1048576 < tg ∨ d < 0 ∨ 65536 < d ∨ 1099511693312 < u ∨ 1099511693312 < now ∨ 65536 < 7)
    omega
  by_cases hs : staysM (steadyC lo hi tg 7) u now
  · exact met_stay h hb hs
  · have g : 0 ≤ d * tg := Int.mul_nonneg (by omega) (by omega)
    have k : d * tg ≤ 65536 * 65536 := Int.mul_le_mul (by omega) h3 (by omega) (by omega)
    have ho : outB (d * tg) = false := outB_of_in (by omega)
    have a1 := up_ge (a := d * tg) h2
    have a2 := up_lt (a := d * tg) h2
    have g1 : d ≤ upQ (d * tg) tg := Int.le_of_mul_le_mul_right a1 (by omega)
    have g2 : upQ (d * tg) tg - 1 < d := Int.lt_of_mul_lt_mul_right a2 (by omega)
    have e1 : folV (fun _ => 0) (fun _ => 0) (steadyC lo hi tg 7) d tg = d := by
      refine (if_pos rfl).trans ?_
      show Track.trackV d tg tg = d
      unfold Track.trackV; rw [if_neg (by omega), ho]
      show upQ (d * tg) tg = d
      omega
    have e2 : folE (fun _ => 0) (fun _ => 0) (steadyC lo hi tg 7) d tg = 0 := by
      refine (if_pos rfl).trans ?_
      show Track.trackE d tg tg = 0
      unfold Track.trackE; rw [if_neg (by omega), err_no ho]
    have e3 : clampV (folV (fun _ => 0) (fun _ => 0) (steadyC lo hi tg 7) d tg) lo hi = d := by
      rw [e1]; unfold clampV; rw [if_neg (by omega), if_neg (by omega)]
    obtain ⟨q1, q2, q3⟩ := met_go h hb hs e2 e3
    rcases q3 with ⟨q, _⟩ | ⟨_, q⟩
    · exact absurd rfl q
    · exact ⟨q1, q, q2⟩

set_option maxHeartbeats 2000000 in
theorem walk (a0 a1 a2 a3 a4 a5 : Int) (w : World) (w0 : (Lit.int .u16 a0).wf = true) (w1 : (Lit.int .u16 a1).wf = true) (w2 : (Lit.int .u16 a2).wf = true) (w3 : (Lit.int .u16 a3).wf = true) (w4 : (Lit.int .u32 a4).wf = true) (w5 : (Lit.int .u32 a5).wf = true) :
    Calls Try.prog 4 #[.int .u16 a0, .int .u16 a1, .int .u16 a2, .int .u16 a3, .int .u32 a4, .int .u32 a5] w fun e w' => e = .returned (.bool true) ∧ Below w.heap.size w w' := by
  obtain ⟨_, _⟩ := bounds_u16 w0
  obtain ⟨_, _⟩ := bounds_u16 w1
  obtain ⟨_, _⟩ := bounds_u16 w2
  obtain ⟨_, _⟩ := bounds_u16 w3
  obtain ⟨_, _⟩ := bounds_u32 w4
  obtain ⟨_, _⟩ := bounds_u32 w5
  clear w0 w1 w2 w3 w4 w5
  have H1 := Lib.hid (Cfg.one (steadyC a0 (a0 + a1 % 1000) (1 + a2) 7))
  have f4 := Cfg.f4 (steadyC a0 (a0 + a1 % 1000) (1 + a2) 7)
  have f5 := Cfg.f5 (steadyC a0 (a0 + a1 % 1000) (1 + a2) 7)
  have f17 := Cfg.f17 (steadyC a0 (a0 + a1 % 1000) (1 + a2) 7)
  have r1 : (steadyC a0 (a0 + a1 % 1000) (1 + a2) 7).min = a0 := rfl
  have r2 : (steadyC a0 (a0 + a1 % 1000) (1 + a2) 7).max = a0 + a1 % 1000 := rfl
  have r3 : (steadyC a0 (a0 + a1 % 1000) (1 + a2) 7).target = 1 + a2 := rfl
  rw [r1] at f4
  rw [r2] at f5
  rw [r3] at f17
  clear r1 r2 r3
  have hq1 : 1 ≤ a0 + a1 % 1000 - a0 + 1 := by omega
  have hq2 : 0 ≤ a3 % (a0 + a1 % 1000 - a0 + 1) := Int.emod_nonneg _ (by omega)
  have hq3 : a3 % (a0 + a1 % 1000 - a0 + 1) < a0 + a1 % 1000 - a0 + 1 := Int.emod_lt_of_pos _ (by omega)
  have z : (a0 + a1 % 1000 - a0 + 1 == 0) = false := by simp; omega
  have z2 : ¬ (a0 + a1 % 1000 - a0 + 1 = 0) := by omega
  have g3 : a3.tmod (a0 + a1 % 1000 - a0 + 1) = a3 % (a0 + a1 % 1000 - a0 + 1) := Int.tmod_eq_emod_of_nonneg (by omega)
  have g0 := IntWalk.i64_in a3 (by omega)
  have g1 := IntWalk.i64_in (a0 + a1 % 1000 - a0) (by omega)
  have g2 := IntWalk.i64_in (a0 + a1 % 1000 - a0 + 1) (by omega)
  have g4 := IntWalk.i64_in (a3 % (a0 + a1 % 1000 - a0 + 1)) (by omega)
  have g5 := IntWalk.i64_in (a0 + a3 % (a0 + a1 % 1000 - a0 + 1)) (by omega)
  go_enter Try.func4, Try.ntmps4
  go_wp2_with (first | (refine store_new rfl 27 _ _ rfl (steadyC a0 (a0 + a1 % 1000) (1 + a2) 7).cells _ _ rfl rfl (infoCfg.trans rfl) rfl H1.out ?_))
  go_quiet (fail)
  clear g0 g1 g2 g3 g4 g5 z z2
  have bd1 : a0 ≤ a0 + a3 % (a0 + a1 % 1000 - a0 + 1) := by omega
  have bd2 : a0 + a3 % (a0 + a1 % 1000 - a0 + 1) ≤ a0 + a1 % 1000 := by omega
  generalize a0 + a3 % (a0 + a1 % 1000 - a0 + 1) = dd at *
  by_cases hbig : 65536 < a0 + a1 % 1000
  · go_wp2_with (first
      | (go_at_call 6; refine (lives_any _).mono ?_; rintro e wn ⟨rfl, bn⟩; (first | (have gn := kept_hid bn (by assumption)) | (have gn := new_hid bn) | skip); (first | (have Bn : Below w.heap.size w _ := bTrans (by assumption) bn) | (have Bn : Below w.heap.size w _ := bTrans (bDrew (by assumption)) bn) | (have Bn : Below w.heap.size w _ := bTrans (bDrewN _ (by assumption)) bn) | (have Bn : Below w.heap.size w _ := bTrans (bAlloc (by assumption) _) bn) | (have Bn : Below w.heap.size w _ := bTrans (bAlloc (bDrew (by assumption)) _) bn) | (have Bn : Below w.heap.size w _ := bTrans (bDrew (bAlloc (by assumption) _)) bn) | (have Bn : Below w.heap.size w _ := bTrans (Below.refl _ _) bn) | (have Bn : Below w.heap.size w _ := bTrans (bDrew (Below.refl _ _)) bn) | (have Bn : Below w.heap.size w _ := bTrans (bAlloc (Below.refl _ _) _) bn) | (have Bn : Below w.heap.size w _ := bTrans (bAlloc (bAlloc (Below.refl _ _) _) _) bn) | (have Bn : Below w.heap.size w _ := bTrans (bDrewN _ (bAlloc (Below.refl _ _) _)) bn))))
    go_ret
    exact ⟨rfl, by assumption⟩
  · have hb' : a0 + a1 % 1000 ≤ 65536 := by omega
    clear hbig
    go_wp2_with (first
      | (refine load_cfg rfl _ rfl _ rfl (steadyC a0 (a0 + a1 % 1000) (1 + a2) 7) _ _ (heap_alloc_new _ _) ?_)
      | (go_at_call 7; refine (metric_any (steadyC a0 (a0 + a1 % 1000) (1 + a2) 7) (fun _ => 0) (fun _ => 0) _ _ _ _ _ (no_bands _ _ rfl) (Nat.zero_le _) (by omega) (by omega) (show (0 : Int) ≤ 7 by omega)).mono ?_; rintro e w2 ⟨n, t, f, rfl, hM, hb2⟩; obtain ⟨rfl, rfl, rfl⟩ := steady_met (by omega) hb' (by omega) (by omega) bd1 bd2 (by omega) (by omega) hM; have Bn : Below w.heap.size w _ := bTrans (bDrewN _ (bAlloc (Below.refl _ _) _)) hb2; clear hb2 hM)
      | (go_at_call 6; refine (lives_any _).mono ?_; rintro e wn ⟨rfl, bn⟩; (first | (have gn := kept_hid bn (by assumption)) | (have gn := new_hid bn) | skip); (first | (have Bn : Below w.heap.size w _ := bTrans (by assumption) bn) | (have Bn : Below w.heap.size w _ := bTrans (bDrew (by assumption)) bn) | (have Bn : Below w.heap.size w _ := bTrans (bDrewN _ (by assumption)) bn) | (have Bn : Below w.heap.size w _ := bTrans (bAlloc (by assumption) _) bn) | (have Bn : Below w.heap.size w _ := bTrans (bAlloc (bDrew (by assumption)) _) bn) | (have Bn : Below w.heap.size w _ := bTrans (bDrew (bAlloc (by assumption) _)) bn) | (have Bn : Below w.heap.size w _ := bTrans (Below.refl _ _) bn) | (have Bn : Below w.heap.size w _ := bTrans (bDrew (Below.refl _ _)) bn) | (have Bn : Below w.heap.size w _ := bTrans (bAlloc (Below.refl _ _) _) bn) | (have Bn : Below w.heap.size w _ := bTrans (bAlloc (bAlloc (Below.refl _ _) _) _) bn) | (have Bn : Below w.heap.size w _ := bTrans (bDrewN _ (bAlloc (Below.refl _ _) _)) bn))))
    go_ret
    exact ⟨rfl, by assumption⟩

/-! The row's step, by the frame. -/
theorem own : ownKnob Try.prog.godebug = none := by kernel_rfl
theorem laidOut : laidOutB Try.prog = true := by kernel_rfl
set_option maxRecDepth 100000 in
theorem lifted (os : Os) (started : os.Started) (H : Type) (enc : TypeId × Value → H) :
    ReturnsInHanded {} Try.checked os 4 .any (Rows.wantSteadySpec.pre6 enc Try.prog Try.f4 Rows.wantSteadyRow.domain false) (Rows.wantSteadySpec.post enc Try.prog Try.f4 false true false false) := by
  refine returnsInHanded_of_change_sized (C := Try.checked) own started (by kernel_rfl) Try.func4
    (ChangeSpec.witness6 (enc := enc) (C := Try.checked) false ⟨#[], #[.int .u16 0, .int .u16 0, .int .u16 0, .int .u16 0, .int .u32 0, .int .u32 0], []⟩ 8 (by kernel_rfl) (by kernel_rfl) (by kernel_rfl) (by kernel_rfl)) ?_
  intro W base args ds gs before hval0 hW _ hsz0 _
  have hsz : (DataW.weightsEach Try.prog (Try.f4.params.toList ++ Rows.wantSteadySpec.plain.varTypes Try.prog) (ds ++ gs)).all (· ≤ reachBytes) = true := hsz0
  have hval : ∀ (j : Nat) t v, Try.f4.params[j]? = some t → args[j]? = some v → Value.okWide Try.prog W .any base t v := hval0
  have hW' := hW
  obtain ⟨p, q, hA0, hV, rfl, hfz, hnd⟩ := hW
  have hA : DataW.TrodAll enc Try.prog W 0 (fun _ => true) true Try.f4.params.toList args.toList ds p := hA0
  rw [Try.params4] at hA hval hsz
  obtain ⟨v0, vs0, d0, ds0, p0, q0, hargs, rfl, rfl, h0, r0⟩ := trodAll_cons hA
  obtain ⟨v1, vs1, d1, ds1, p1, q1, rfl, rfl, rfl, h1, r1⟩ := trodAll_cons r0
  obtain ⟨v2, vs2, d2, ds2, p2, q2, rfl, rfl, rfl, h2, r2⟩ := trodAll_cons r1
  obtain ⟨v3, vs3, d3, ds3, p3, q3, rfl, rfl, rfl, h3, r3⟩ := trodAll_cons r2
  obtain ⟨v4, vs4, d4, ds4, p4, q4, rfl, rfl, rfl, h4, r4⟩ := trodAll_cons r3
  obtain ⟨v5, vs5, d5, ds5, p5, q5, rfl, rfl, rfl, h5, r5⟩ := trodAll_cons r4
  obtain ⟨rfl, rfl, rfl⟩ := trodAll_nil r5
  obtain rfl : args = #[v0, v1, v2, v3, v4, v5] := by cases args; simp_all
  obtain ⟨rfl, rfl⟩ := trodVars_none hV
  obtain ⟨a0, rfl, rfl, rfl, w0⟩ := open_int Try.underlying35 (hval 0 35 v0 rfl rfl) h0
  obtain ⟨a1, rfl, rfl, rfl, w1⟩ := open_int Try.underlying35 (hval 1 35 v1 rfl rfl) h1
  obtain ⟨a2, rfl, rfl, rfl, w2⟩ := open_int Try.underlying35 (hval 2 35 v2 rfl rfl) h2
  obtain ⟨a3, rfl, rfl, rfl, w3⟩ := open_int Try.underlying35 (hval 3 35 v3 rfl rfl) h3
  obtain ⟨a4, rfl, rfl, rfl, w4⟩ := open_int Try.underlying36 (hval 4 36 v4 rfl rfl) h4
  obtain ⟨a5, rfl, rfl, rfl, w5⟩ := open_int Try.underlying36 (hval 5 36 v5 rfl rfl) h5
  clear hA0 hval0 hsz0
  refine (walk a0 a1 a2 a3 a4 a5 W w0 w1 w2 w3 w4 w5).mono fun e W' ⟨he, bel⟩ => ?_
  subst he
  exact ⟨_, rfl, _, _, _, [], _, [], hW', trodAll_mk1 (shut_bool Try.underlying4 _), (trodAll_cons_mk (shut_int Try.underlying35 w0) (trodAll_cons_mk (shut_int Try.underlying35 w1) (trodAll_cons_mk (shut_int Try.underlying35 w2) (trodAll_cons_mk (shut_int Try.underlying35 w3) (trodAll_cons_mk (shut_int Try.underlying36 w4) (trodAll_cons_mk (shut_int Try.underlying36 w5) trodAll_mk0)))))), rfl, bel.frame _, fun h => by cases h⟩

/-- The statement. -/
theorem proved : Rows.WantSteadySaid :=
  OpenClaim.holds_of_wide 4 Try.f4 rfl rfl rfl rfl rfl rfl rfl ⟨rfl, rfl, rfl, rfl, rfl⟩ rfl rfl rfl rfl rfl (by kernel_rfl) Try.func4 (by kernel_rfl)
    (of_decide_eq_true (by kernel_rfl)) (by unfold Func.isWrapper; first | (rw [if_pos (by decide +kernel)]; kernel_rfl) | (rw [if_neg (by decide +kernel)]; exact ⟨rfl, rfl⟩))
    (fun os started H enc _ => lifted os started H enc)
end Go.Proofs.Ytgfiimllehmnoaa.wantSteady
