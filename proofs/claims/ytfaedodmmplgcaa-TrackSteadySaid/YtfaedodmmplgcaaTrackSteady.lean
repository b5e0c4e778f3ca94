
/- Of a metric that is the target what is tracked is the capacity; the metric that would come of it is at most the target: for every three uint32 (reduced below 2^30) the law returns true. No condition. -/
import Derived.Test.YtfaedodmmplgcaaTrack
import Derived.Test.YtfaedodmmplgcaaMem
namespace Go.Proofs.Ytfaedodmmplgcaa.trackSteady
open Go.ChangeShapes Go.WideShapes Go.ChangeAt Go.RowKit
open NumM NumA Track
set_option linter.unusedVariables false

/-- n is the least number of which t times is no less than x -/
structure Up (x t n : Int) : Prop where
  ge : x ≤ n * t
  lt : (n - 1) * t < x
  b1 : 0 ≤ n
  b2 : n ≤ 1152921504606846976
  b3 : n * t ≤ 2305843009213693952
  b4 : 0 ≤ n * t
  b5 : -1152921504606846976 ≤ (n - 1) * t
theorem prod_bd {d m : Int} (h0 : 0 ≤ d) (h1 : d ≤ 1073741824) (h2 : 0 ≤ m) (h3 : m ≤ 1073741824) : 0 ≤ d * m ∧ d * m ≤ 1152921504606846976 := by
  have g := Int.mul_nonneg h0 h2
  have k : d * m ≤ 1073741824 * 1073741824 := Int.mul_le_mul h1 h3 h2 (by omega)
  omega
theorem up_of {x t : Int} (h0 : 0 ≤ x) (h1 : x ≤ 1152921504606846976) (h2 : 1 ≤ t) (h3 : t ≤ 1073741824) : Up x t (upQ x t) := by
  have a1 := up_ge (a := x) h2
  have a2 := up_lt (a := x) h2
  have e : (upQ x t - 1) * t = upQ x t * t - t := by rw [Int.sub_mul, Int.one_mul]
  have n0 : 0 ≤ upQ x t := by
    unfold upQ
    have : (-x) / t ≤ 0 := Int.ediv_nonpos_of_nonpos_of_neg (by omega) (by omega)
    omega
  have n1 : upQ x t ≤ 1152921504606846976 := by
    unfold upQ
    have g1 : (-x) * t ≤ -x := by
      have := Int.mul_le_mul_of_nonpos_left (a := -x) (show -x ≤ 0 by omega) h2
      rw [Int.mul_one] at this; exact this
    have g2 := Int.le_ediv_of_mul_le (show 0 < t by omega) g1
    omega
  refine ⟨a1, a2, n0, n1, ?_, ?_, ?_⟩ <;> omega
theorem want_up (d m t : Int) (w : World) (h0 : 0 ≤ d) (h1 : d ≤ 1073741824) (h2 : 0 ≤ m) (h3 : m ≤ 1073741824) (h4 : 1 ≤ t) (h5 : t ≤ 1073741824) :
    Calls Try.prog 6 #[.int .i64 d, .int .i64 m, .int .i64 t] w fun e w' => ∃ n, e = .returned (.tuple #[.int .i64 n, .int .i64 0]) ∧ Up (d * m) t n ∧ w = w' := by
  obtain ⟨b1, b2⟩ := prod_bd h0 h1 h2 h3
  have ho : outB (d * m) = false := outB_of_in (by omega)
  have hv : trackV d m t = upQ (d * m) t := by unfold trackV; rw [if_neg (by omega), ho]; rfl
  have he : trackE d m t = 0 := by unfold trackE; rw [if_neg (by omega), err_no ho]
  have h := want_any d m t w (by omega) (by omega)
  rw [hv, he] at h
  exact h.mono fun _ _ h => ⟨_, h.1, up_of b1 b2 h4 h5, h.2⟩
theorem want_same (d t : Int) (w : World) (h0 : 0 ≤ d) (h1 : d ≤ 1073741824) (h4 : 1 ≤ t) (h5 : t ≤ 1073741824) :
    Calls Try.prog 6 #[.int .i64 d, .int .i64 t, .int .i64 t] w fun e w' => e = .returned (.tuple #[.int .i64 d, .int .i64 0]) ∧ w = w' := by
  refine (want_up d t t w h0 h1 (by omega) h5 h4 h5).mono fun _ _ ⟨n, he, hu, hw⟩ => ?_
  have e : n = d := by
    have g1 : d ≤ n := Int.le_of_mul_le_mul_right hu.ge (by omega)
    have g2 : n - 1 < d := Int.lt_of_mul_lt_mul_right hu.lt (by omega)
    omega
  subst e
  exact ⟨he, hw⟩

theorem walk (a0 a1 a2 : Int) (w : World) (w0 : (Lit.int .u32 a0).wf = true) (w1 : (Lit.int .u32 a1).wf = true) (w2 : (Lit.int .u32 a2).wf = true) :
    Calls Try.prog 4 #[.int .u32 a0, .int .u32 a1, .int .u32 a2] w fun e w' => e = .returned (.bool true) ∧ Below w.heap.size w w' := by
  obtain ⟨ha, ha'⟩ := bounds_u32 w0
  obtain ⟨hb, hb'⟩ := bounds_u32 w1
  obtain ⟨hc, hc'⟩ := bounds_u32 w2
  clear w0 w1 w2
  obtain ⟨b1, b2⟩ := prod_bd (d := a0 % 1073741824) (m := a1 % 1073741824) (by omega) (by omega) (by omega) (by omega)
  go_enter Try.func4, Try.ntmps4
  go_wp2_with fail
  refine (want_same _ _ _ (by omega) (by omega) (by omega) (by omega)).mono ?_; rintro e w' ⟨rfl, rfl⟩
  go_wp2_with fail
  refine (want_up _ _ _ _ (by omega) (by omega) (by omega) (by omega) (by omega) (by omega)).mono ?_; rintro e w' ⟨n, rfl, ⟨h1, h2, h3, h4, h5, h6, h7⟩, rfl⟩
  go_wp2_with (first | (go_at_call 10; refine (lives_any _).mono ?_; rintro e w' ⟨rfl, rfl⟩))
  all_goals
    go_ret
    exact ⟨rfl, Below.refl _ _⟩

/-! The row's step, by the frame. -/
theorem own : ownKnob Try.prog.godebug = none := by kernel_rfl
theorem laidOut : laidOutB Try.prog = true := by kernel_rfl
set_option maxRecDepth 100000 in
theorem lifted (os : Os) (started : os.Started) (H : Type) (enc : TypeId × Value → H) :
    ReturnsInHanded {} Try.checked os 4 .any (Rows.trackSteadySpec.pre6 enc Try.prog Try.f4 Rows.trackSteadyRow.domain false) (Rows.trackSteadySpec.post enc Try.prog Try.f4 false true false false) := by
  refine returnsInHanded_of_change_sized (C := Try.checked) own started (by kernel_rfl) Try.func4
    (ChangeSpec.witness6 (enc := enc) (C := Try.checked) false ⟨#[], #[.int .u32 0, .int .u32 0, .int .u32 0], []⟩ 8 (by kernel_rfl) (by kernel_rfl) (by kernel_rfl) (by kernel_rfl)) ?_
  intro W base args ds gs before hval0 hW _ hsz0 _
  have hsz : (DataW.weightsEach Try.prog (Try.f4.params.toList ++ Rows.trackSteadySpec.plain.varTypes Try.prog) (ds ++ gs)).all (· ≤ reachBytes) = true := hsz0
  have hval : ∀ (j : Nat) t v, Try.f4.params[j]? = some t → args[j]? = some v → Value.okWide Try.prog W .any base t v := hval0
  have hW' := hW
  obtain ⟨p, q, hA0, hV, rfl, hfz, hnd⟩ := hW
  have hA : DataW.TrodAll enc Try.prog W 0 (fun _ => true) true Try.f4.params.toList args.toList ds p := hA0
  rw [Try.params4] at hA hval hsz
  obtain ⟨v0, vs0, d0, ds0, p0, q0, hargs, rfl, rfl, h0, r0⟩ := trodAll_cons hA
  obtain ⟨v1, vs1, d1, ds1, p1, q1, rfl, rfl, rfl, h1, r1⟩ := trodAll_cons r0
  obtain ⟨v2, vs2, d2, ds2, p2, q2, rfl, rfl, rfl, h2, r2⟩ := trodAll_cons r1
  obtain ⟨rfl, rfl, rfl⟩ := trodAll_nil r2
  obtain rfl : args = #[v0, v1, v2] := by cases args; simp_all
  obtain ⟨rfl, rfl⟩ := trodVars_none hV
  obtain ⟨a0, rfl, rfl, rfl, w0⟩ := open_int Try.underlying27 (hval 0 27 v0 rfl rfl) h0
  obtain ⟨a1, rfl, rfl, rfl, w1⟩ := open_int Try.underlying27 (hval 1 27 v1 rfl rfl) h1
  obtain ⟨a2, rfl, rfl, rfl, w2⟩ := open_int Try.underlying27 (hval 2 27 v2 rfl rfl) h2
  clear hA0 hval0 hsz0
  refine (walk a0 a1 a2 W w0 w1 w2).mono fun e W' ⟨he, bel⟩ => ?_
  subst he
  exact ⟨_, rfl, _, _, _, [], _, [], hW', trodAll_mk1 (shut_bool Try.underlying4 _), (trodAll_cons_mk (shut_int Try.underlying27 w0) (trodAll_cons_mk (shut_int Try.underlying27 w1) (trodAll_cons_mk (shut_int Try.underlying27 w2) trodAll_mk0))), rfl, bel.frame _, fun h => by cases h⟩

/-- The statement. -/
theorem proved : Rows.TrackSteadySaid :=
  OpenClaim.holds_of_wide 4 Try.f4 rfl rfl rfl rfl rfl rfl rfl ⟨rfl, rfl, rfl, rfl, rfl⟩ rfl rfl rfl rfl rfl (by kernel_rfl) Try.func4 (by kernel_rfl)
    (of_decide_eq_true (by kernel_rfl)) (by unfold Func.isWrapper; first | (rw [if_pos (by decide +kernel)]; kernel_rfl) | (rw [if_neg (by decide +kernel)]; exact ⟨rfl, rfl⟩))
    (fun os started H enc _ => lifted os started H enc)
end Go.Proofs.Ytfaedodmmplgcaa.trackSteady
