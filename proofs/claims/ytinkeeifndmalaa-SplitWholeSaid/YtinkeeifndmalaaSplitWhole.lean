
/- What is wanted of both is desired together, none below 0; the floor is at most what is wanted on demand; of a capacity of one more not less of either is wanted: for every input the law returns true. No condition. -/
import Derived.Test.YtinkeeifndmalaaSplitL
namespace Go.Proofs.Ytinkeeifndmalaa.splitWhole
open Go.ChangeShapes Go.WideShapes Go.ChangeAt Go.RowKit
open NumM NumA Mem Rec Split
set_option linter.unusedVariables false

theorem rises {b p n : Int} (hb : 0 ≤ b) (hb' : b ≤ 65536) (hp : 0 ≤ p) (hp' : p ≤ 100) (hn : 0 ≤ n) (hn' : n < 65536) :
    demV b p n + spoV b p n = n ∧ 0 ≤ demV b p n ∧ 0 ≤ spoV b p n ∧ floorV b p n ≤ demV b p n ∧ demV b p n ≤ demV b p (n + 1) ∧ spoV b p n ≤ spoV b p (n + 1) ∧ demV b p (n + 1) + spoV b p (n + 1) = n + 1 ∧ demV b p (n + 1) ≤ 65536 ∧ spoV b p (n + 1) ≤ 65536 := by
  have r1 : reckB b p n = true := by unfold reckB; exact decide_eq_true (by omega)
  have r2 : reckB b p (n + 1) = true := by unfold reckB; exact decide_eq_true (by omega)
  have a1 := above_bd r1
  have a2 := above_bd r2
  have f1 := floor_bd b p n
  have f2 := floor_bd b p (n + 1)
  have d1 := floor_le r1
  have d2 := floor_le r2
  unfold demV spoV
  rw [if_pos r1, if_pos r2, if_pos r1, if_pos r2]
  have key : floorV b p n + aboveV b p n ≤ floorV b p (n + 1) + aboveV b p (n + 1) ∧ floorV b p (n + 1) + aboveV b p (n + 1) ≤ floorV b p n + aboveV b p n + 1 := by
    by_cases h : n < b
    · have e1 : floorV b p n = n := by unfold floorV; rw [if_pos r1, if_pos (by omega)]
      have e2 : floorV b p (n + 1) = n + 1 := by unfold floorV; rw [if_pos r2, if_pos (by omega)]
      omega
    · have e1 : floorV b p n = b := by unfold floorV; rw [if_pos r1]; split <;> omega
      have e2 : floorV b p (n + 1) = b := by unfold floorV; rw [if_pos r2]; split <;> omega
      unfold aboveV
      rw [e1, e2, show (n + 1 - b) * p = (n - b) * p + p from by rw [show n + 1 - b = n - b + 1 from by omega, Int.add_mul, Int.one_mul]]
      unfold upQ
      omega
  omega

set_option maxHeartbeats 2000000 in
theorem walk (a0 a1 a2 : Int) (w : World) (w0 : (Lit.int .u32 a0).wf = true) (w1 : (Lit.int .u8 a1).wf = true) (w2 : (Lit.int .u32 a2).wf = true) :
    Calls Try.prog 5 #[.int .u32 a0, .int .u8 a1, .int .u32 a2] w fun e w' => e = .returned (.bool true) ∧ Below w.heap.size w w' := by
  obtain ⟨_, _⟩ := bounds_u32 w0
  obtain ⟨_, _⟩ := bounds_u8 w1
  obtain ⟨_, _⟩ := bounds_u32 w2
  clear w0 w1 w2
  have R := rises (b := a0 % 65537) (p := a1 % 101) (n := a2 % 65536) (by omega) (by omega) (by omega) (by omega) (by omega) (by omega)
  have H1 := Lib.hid (Cfg.one (Cfg.with_ (a0 % 65537) (a1 % 101)))
  generalize hf : floorV (a0 % 65537) (a1 % 101) (a2 % 65536) = f at R
  generalize ha : demV (a0 % 65537) (a1 % 101) (a2 % 65536) = a at R
  generalize hb : spoV (a0 % 65537) (a1 % 101) (a2 % 65536) = b at R
  generalize hx : demV (a0 % 65537) (a1 % 101) (a2 % 65536 + 1) = x at R
  generalize hy : spoV (a0 % 65537) (a1 % 101) (a2 % 65536 + 1) = y at R
  have HF : Hid (floorV (Cfg.with_ (a0 % 65537) (a1 % 101)).base (Cfg.with_ (a0 % 65537) (a1 % 101)).percent (a2 % 65536) = f) := Lib.hid hf
  have HW : Hid (demV (Cfg.with_ (a0 % 65537) (a1 % 101)).base (Cfg.with_ (a0 % 65537) (a1 % 101)).percent (a2 % 65536) = a ∧ spoV (Cfg.with_ (a0 % 65537) (a1 % 101)).base (Cfg.with_ (a0 % 65537) (a1 % 101)).percent (a2 % 65536) = b) := Lib.hid ⟨ha, hb⟩
  have HX : Hid (demV (Cfg.with_ (a0 % 65537) (a1 % 101)).base (Cfg.with_ (a0 % 65537) (a1 % 101)).percent (a2 % 65536 + 1) = x ∧ spoV (Cfg.with_ (a0 % 65537) (a1 % 101)).base (Cfg.with_ (a0 % 65537) (a1 % 101)).percent (a2 % 65536 + 1) = y) := Lib.hid ⟨hx, hy⟩
  clear hf ha hb hx hy
  obtain ⟨r1, r2, r3, r4, r5, r6, r7, r8, r9⟩ := R
  have t1 : (a + b == a2 % 65536) = true := by simpa using r1
  have t2 : (x + y == a2 % 65536 + 1) = true := by simpa using r7
  have q1 : a + b ≤ a2 % 65536 := by omega
  have q2 : x + y ≤ a2 % 65536 + 1 := by omega
  clear r1 r7
  go_enter Try.func5, Try.ntmps5
  go_wp2_with fail
  refine (with_any _ _ _).mono ?_; rintro e w1 ⟨rfl, B1⟩
  go_wp2_with (first
      | (refine store_new rfl 27 _ _ rfl (Cfg.with_ (a0 % 65537) (a1 % 101)).cells _ _ rfl rfl (infoCfg.trans rfl) rfl H1.out ?_)
      | (refine load_cfg rfl _ rfl _ rfl (Cfg.with_ (a0 % 65537) (a1 % 101)) _ _ (heap_alloc_new _ _) ?_)
      | (refine load_cfg rfl _ rfl _ rfl (Cfg.with_ (a0 % 65537) (a1 % 101)) _ _ (Hid.out (by assumption)) ?_))
  go_at_call 8; refine (want_is (Cfg.with_ (a0 % 65537) (a1 % 101)) _ _ _ _ HW).mono ?_; rintro e wn ⟨rfl, bn⟩; (first | (have gn := kept_hid bn (by assumption)) | (have gn := new_hid bn) | skip); (first | (have Bn : Below w.heap.size w _ := bTrans (by assumption) bn) | (have Bn : Below w.heap.size w _ := bTrans (bDrew (by assumption)) bn) | (have Bn : Below w.heap.size w _ := bTrans (bAlloc (by assumption) _) bn) | (have Bn : Below w.heap.size w _ := bTrans (bAlloc (bDrew (by assumption)) _) bn) | (have Bn : Below w.heap.size w _ := bTrans (bDrew (bAlloc (by assumption) _)) bn) | (have Bn : Below w.heap.size w _ := bTrans (Below.refl _ _) bn) | (have Bn : Below w.heap.size w _ := bTrans (bDrew (Below.refl _ _)) bn) | (have Bn : Below w.heap.size w _ := bTrans (bAlloc (Below.refl _ _) _) bn) | (have Bn : Below w.heap.size w _ := bTrans (bAlloc (bAlloc (Below.refl _ _) _) _) bn))
  go_wp2_with (first
      | (refine load_cfg rfl _ rfl _ rfl (Cfg.with_ (a0 % 65537) (a1 % 101)) _ _ (heap_alloc_new _ _) ?_)
      | (refine load_cfg rfl _ rfl _ rfl (Cfg.with_ (a0 % 65537) (a1 % 101)) _ _ (Hid.out (by assumption)) ?_))
  go_at_call 8; refine (want_is (Cfg.with_ (a0 % 65537) (a1 % 101)) _ _ _ _ HX).mono ?_; rintro e wn ⟨rfl, bn⟩; (first | (have gn := kept_hid bn (by assumption)) | (have gn := new_hid bn) | skip); (first | (have Bn : Below w.heap.size w _ := bTrans (by assumption) bn) | (have Bn : Below w.heap.size w _ := bTrans (bDrew (by assumption)) bn) | (have Bn : Below w.heap.size w _ := bTrans (bAlloc (by assumption) _) bn) | (have Bn : Below w.heap.size w _ := bTrans (bAlloc (bDrew (by assumption)) _) bn) | (have Bn : Below w.heap.size w _ := bTrans (bDrew (bAlloc (by assumption) _)) bn) | (have Bn : Below w.heap.size w _ := bTrans (Below.refl _ _) bn) | (have Bn : Below w.heap.size w _ := bTrans (bDrew (Below.refl _ _)) bn) | (have Bn : Below w.heap.size w _ := bTrans (bAlloc (Below.refl _ _) _) bn) | (have Bn : Below w.heap.size w _ := bTrans (bAlloc (bAlloc (Below.refl _ _) _) _) bn))
  go_wp2_with (first
      | (refine load_cfg rfl _ rfl _ rfl (Cfg.with_ (a0 % 65537) (a1 % 101)) _ _ (heap_alloc_new _ _) ?_)
      | (refine load_cfg rfl _ rfl _ rfl (Cfg.with_ (a0 % 65537) (a1 % 101)) _ _ (Hid.out (by assumption)) ?_)
      | (go_at_call 12; refine (floor_is (Cfg.with_ (a0 % 65537) (a1 % 101)) _ _ _ HF).mono ?_; rintro e wn ⟨rfl, bn⟩; (first | (have gn := kept_hid bn (by assumption)) | (have gn := new_hid bn) | skip); (first | (have Bn : Below w.heap.size w _ := bTrans (by assumption) bn) | (have Bn : Below w.heap.size w _ := bTrans (bDrew (by assumption)) bn) | (have Bn : Below w.heap.size w _ := bTrans (bAlloc (by assumption) _) bn) | (have Bn : Below w.heap.size w _ := bTrans (bAlloc (bDrew (by assumption)) _) bn) | (have Bn : Below w.heap.size w _ := bTrans (bDrew (bAlloc (by assumption) _)) bn) | (have Bn : Below w.heap.size w _ := bTrans (Below.refl _ _) bn) | (have Bn : Below w.heap.size w _ := bTrans (bDrew (Below.refl _ _)) bn) | (have Bn : Below w.heap.size w _ := bTrans (bAlloc (Below.refl _ _) _) bn) | (have Bn : Below w.heap.size w _ := bTrans (bAlloc (bAlloc (Below.refl _ _) _) _) bn)))
      | (go_at_call 16; refine (lives_any _).mono ?_; rintro e wn ⟨rfl, bn⟩; (first | (have gn := kept_hid bn (by assumption)) | (have gn := new_hid bn) | skip); (first | (have Bn : Below w.heap.size w _ := bTrans (by assumption) bn) | (have Bn : Below w.heap.size w _ := bTrans (bDrew (by assumption)) bn) | (have Bn : Below w.heap.size w _ := bTrans (bAlloc (by assumption) _) bn) | (have Bn : Below w.heap.size w _ := bTrans (bAlloc (bDrew (by assumption)) _) bn) | (have Bn : Below w.heap.size w _ := bTrans (bDrew (bAlloc (by assumption) _)) bn) | (have Bn : Below w.heap.size w _ := bTrans (Below.refl _ _) bn) | (have Bn : Below w.heap.size w _ := bTrans (bDrew (Below.refl _ _)) bn) | (have Bn : Below w.heap.size w _ := bTrans (bAlloc (Below.refl _ _) _) bn) | (have Bn : Below w.heap.size w _ := bTrans (bAlloc (bAlloc (Below.refl _ _) _) _) bn))))
  all_goals
    go_ret
    exact ⟨rfl, by assumption⟩

/-! The row's step, by the frame. -/
theorem own : ownKnob Try.prog.godebug = none := by kernel_rfl
theorem laidOut : laidOutB Try.prog = true := by kernel_rfl
set_option maxRecDepth 100000 in
theorem lifted (os : Os) (started : os.Started) (H : Type) (enc : TypeId × Value → H) :
    ReturnsInHanded {} Try.checked os 5 .any (Rows.splitWholeSpec.pre6 enc Try.prog Try.f5 Rows.splitWholeRow.domain false) (Rows.splitWholeSpec.post enc Try.prog Try.f5 false true false false) := by
  refine returnsInHanded_of_change_sized (C := Try.checked) own started (by kernel_rfl) Try.func5
    (ChangeSpec.witness6 (enc := enc) (C := Try.checked) false ⟨#[], #[.int .u32 0, .int .u8 0, .int .u32 0], []⟩ 8 (by kernel_rfl) (by kernel_rfl) (by kernel_rfl) (by kernel_rfl)) ?_
  intro W base args ds gs before hval0 hW _ hsz0 _
  have hsz : (DataW.weightsEach Try.prog (Try.f5.params.toList ++ Rows.splitWholeSpec.plain.varTypes Try.prog) (ds ++ gs)).all (· ≤ reachBytes) = true := hsz0
  have hval : ∀ (j : Nat) t v, Try.f5.params[j]? = some t → args[j]? = some v → Value.okWide Try.prog W .any base t v := hval0
  have hW' := hW
  obtain ⟨p, q, hA0, hV, rfl, hfz, hnd⟩ := hW
  have hA : DataW.TrodAll enc Try.prog W 0 (fun _ => true) true Try.f5.params.toList args.toList ds p := hA0
  rw [Try.params5] at hA hval hsz
  obtain ⟨v0, vs0, d0, ds0, p0, q0, hargs, rfl, rfl, h0, r0⟩ := trodAll_cons hA
  obtain ⟨v1, vs1, d1, ds1, p1, q1, rfl, rfl, rfl, h1, r1⟩ := trodAll_cons r0
  obtain ⟨v2, vs2, d2, ds2, p2, q2, rfl, rfl, rfl, h2, r2⟩ := trodAll_cons r1
  obtain ⟨rfl, rfl, rfl⟩ := trodAll_nil r2
  obtain rfl : args = #[v0, v1, v2] := by cases args; simp_all
  obtain ⟨rfl, rfl⟩ := trodVars_none hV
  obtain ⟨a0, rfl, rfl, rfl, w0⟩ := open_int Try.underlying38 (hval 0 38 v0 rfl rfl) h0
  obtain ⟨a1, rfl, rfl, rfl, w1⟩ := open_int Try.underlying5 (hval 1 5 v1 rfl rfl) h1
  obtain ⟨a2, rfl, rfl, rfl, w2⟩ := open_int Try.underlying38 (hval 2 38 v2 rfl rfl) h2
  clear hA0 hval0 hsz0
  refine (walk a0 a1 a2 W w0 w1 w2).mono fun e W' ⟨he, bel⟩ => ?_
  subst he
  exact ⟨_, rfl, _, _, _, [], _, [], hW', trodAll_mk1 (shut_bool Try.underlying4 _), (trodAll_cons_mk (shut_int Try.underlying38 w0) (trodAll_cons_mk (shut_int Try.underlying5 w1) (trodAll_cons_mk (shut_int Try.underlying38 w2) trodAll_mk0))), rfl, bel.frame _, fun h => by cases h⟩

/-- The statement. -/
theorem proved : Rows.SplitWholeSaid :=
  OpenClaim.holds_of_wide 5 Try.f5 rfl rfl rfl rfl rfl rfl rfl ⟨rfl, rfl, rfl, rfl, rfl⟩ rfl rfl rfl rfl rfl (by kernel_rfl) Try.func5 (by kernel_rfl)
    (of_decide_eq_true (by kernel_rfl)) (by unfold Func.isWrapper; first | (rw [if_pos (by decide +kernel)]; kernel_rfl) | (rw [if_neg (by decide +kernel)]; exact ⟨rfl, rfl⟩))
    (fun os started H enc _ => lifted os started H enc)
end Go.Proofs.Ytinkeeifndmalaa.splitWhole
