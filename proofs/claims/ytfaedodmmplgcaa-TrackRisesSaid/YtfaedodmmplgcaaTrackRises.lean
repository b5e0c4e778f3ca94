
/- Of a greater metric what is tracked is not less, nor of a greater capacity: for every four uint32 (reduced below 2^30) the law returns true. No condition. -/
import Derived.Test.YtfaedodmmplgcaaTrack
import Derived.Test.YtfaedodmmplgcaaMem
namespace Go.Proofs.Ytfaedodmmplgcaa.trackRises
open Go.ChangeShapes Go.WideShapes Go.ChangeAt Go.RowKit
open NumM NumA Track
set_option linter.unusedVariables false

/-- n is the least number of which t times is no less than x -/
structure Up (x t n : Int) : Prop where
  ge : x ≤ n * t
  lt : (n - 1) * t < x
theorem prod_bd {d m : Int} (h0 : 0 ≤ d) (h1 : d ≤ 2147483648) (h2 : 0 ≤ m) (h3 : m ≤ 2147483648) : 0 ≤ d * m ∧ d * m ≤ 4611686018427387904 := by
  have g := Int.mul_nonneg h0 h2
  have k : d * m ≤ 2147483648 * 2147483648 := Int.mul_le_mul h1 h3 h2 (by omega)
  omega
theorem want_up (d m t : Int) (w : World) (h0 : 0 ≤ d) (h1 : d ≤ 2147483648) (h2 : 0 ≤ m) (h3 : m ≤ 2147483648) (h4 : 1 ≤ t) (h5 : t ≤ 1073741824) :
    Calls Try.prog 6 #[.int .i64 d, .int .i64 m, .int .i64 t] w fun e w' => ∃ n, e = .returned (.tuple #[.int .i64 n, .int .i64 0]) ∧ Up (d * m) t n ∧ w = w' := by
  obtain ⟨b1, b2⟩ := prod_bd h0 h1 h2 h3
  have ho : outB (d * m) = false := outB_of_in (by omega)
  have hv : trackV d m t = upQ (d * m) t := by unfold trackV; rw [if_neg (by omega), ho]; rfl
  have he : trackE d m t = 0 := by unfold trackE; rw [if_neg (by omega), err_no ho]
  have h := want_any d m t w (by omega) (by omega)
  rw [hv, he] at h
  exact h.mono fun _ _ h => ⟨_, h.1, ⟨up_ge h4, up_lt h4⟩, h.2⟩
theorem up_le {x y t n k : Int} (h : Up x t n) (h' : Up y t k) (hxy : x ≤ y) (ht : 1 ≤ t) : n ≤ k := by
  have g : (n - 1) * t < k * t := by have := h.lt; have := h'.ge; omega
  have := Int.lt_of_mul_lt_mul_right g (by omega)
  omega

theorem walk (a0 a1 a2 a3 : Int) (w : World) (w0 : (Lit.int .u32 a0).wf = true) (w1 : (Lit.int .u32 a1).wf = true) (w2 : (Lit.int .u32 a2).wf = true) (w3 : (Lit.int .u32 a3).wf = true) :
    Calls Try.prog 5 #[.int .u32 a0, .int .u32 a1, .int .u32 a2, .int .u32 a3] w fun e w' => e = .returned (.bool true) ∧ Below w.heap.size w w' := by
  obtain ⟨ha, ha'⟩ := bounds_u32 w0
  obtain ⟨hb, hb'⟩ := bounds_u32 w1
  obtain ⟨hc, hc'⟩ := bounds_u32 w2
  obtain ⟨hd, hd'⟩ := bounds_u32 w3
  clear w0 w1 w2 w3
  have m1 : a0 % 1073741824 * (a1 % 1073741824) ≤ a0 % 1073741824 * (a1 % 1073741824 + a3 % 1073741824) := Int.mul_le_mul_of_nonneg_left (by omega) (by omega)
  have m2 : a0 % 1073741824 * (a1 % 1073741824) ≤ (a0 % 1073741824 + a3 % 1073741824) * (a1 % 1073741824) := Int.mul_le_mul_of_nonneg_right (by omega) (by omega)
  go_enter Try.func5, Try.ntmps5
  go_wp2_with fail
  refine (want_up _ _ _ _ (by omega) (by omega) (by omega) (by omega) (by omega) (by omega)).mono ?_; rintro e w' ⟨n, rfl, h1, rfl⟩
  have H1 := Lib.hid h1; clear h1
  go_wp2_with fail
  refine (want_up _ _ _ _ (by omega) (by omega) (by omega) (by omega) (by omega) (by omega)).mono ?_; rintro e w' ⟨k, rfl, h2, rfl⟩
  have H2 := Lib.hid h2; clear h2
  go_wp2_with fail
  refine (want_up _ _ _ _ (by omega) (by omega) (by omega) (by omega) (by omega) (by omega)).mono ?_; rintro e w' ⟨j, rfl, h3, rfl⟩
  have g1 := up_le H1.out H2.out m1 (by omega)
  have g2 := up_le H1.out h3 m2 (by omega)
  clear H1 H2 h3 m1 m2
  go_wp2_with (first | (go_at_call 10; refine (lives_any _).mono ?_; rintro e w' ⟨rfl, rfl⟩))
  all_goals
    go_ret
    exact ⟨rfl, Below.refl _ _⟩

/-! The row's step, by the frame. -/
theorem own : ownKnob Try.prog.godebug = none := by kernel_rfl
theorem laidOut : laidOutB Try.prog = true := by kernel_rfl
set_option maxRecDepth 100000 in
theorem lifted (os : Os) (started : os.Started) (H : Type) (enc : TypeId × Value → H) :
    ReturnsInHanded {} Try.checked os 5 .any (Rows.trackRisesSpec.pre6 enc Try.prog Try.f5 Rows.trackRisesRow.domain false) (Rows.trackRisesSpec.post enc Try.prog Try.f5 false true false false) := by
  refine returnsInHanded_of_change_sized (C := Try.checked) own started (by kernel_rfl) Try.func5
    (ChangeSpec.witness6 (enc := enc) (C := Try.checked) false ⟨#[], #[.int .u32 0, .int .u32 0, .int .u32 0, .int .u32 0], []⟩ 8 (by kernel_rfl) (by kernel_rfl) (by kernel_rfl) (by kernel_rfl)) ?_
  intro W base args ds gs before hval0 hW _ hsz0 _
  have hsz : (DataW.weightsEach Try.prog (Try.f5.params.toList ++ Rows.trackRisesSpec.plain.varTypes Try.prog) (ds ++ gs)).all (· ≤ reachBytes) = true := hsz0
  have hval : ∀ (j : Nat) t v, Try.f5.params[j]? = some t → args[j]? = some v → Value.okWide Try.prog W .any base t v := hval0
  have hW' := hW
  obtain ⟨p, q, hA0, hV, rfl, hfz, hnd⟩ := hW
  have hA : DataW.TrodAll enc Try.prog W 0 (fun _ => true) true Try.f5.params.toList args.toList ds p := hA0
  rw [Try.params5] at hA hval hsz
  obtain ⟨v0, vs0, d0, ds0, p0, q0, hargs, rfl, rfl, h0, r0⟩ := trodAll_cons hA
  obtain ⟨v1, vs1, d1, ds1, p1, q1, rfl, rfl, rfl, h1, r1⟩ := trodAll_cons r0
  obtain ⟨v2, vs2, d2, ds2, p2, q2, rfl, rfl, rfl, h2, r2⟩ := trodAll_cons r1
  obtain ⟨v3, vs3, d3, ds3, p3, q3, rfl, rfl, rfl, h3, r3⟩ := trodAll_cons r2
  obtain ⟨rfl, rfl, rfl⟩ := trodAll_nil r3
  obtain rfl : args = #[v0, v1, v2, v3] := by cases args; simp_all
  obtain ⟨rfl, rfl⟩ := trodVars_none hV
  obtain ⟨a0, rfl, rfl, rfl, w0⟩ := open_int Try.underlying27 (hval 0 27 v0 rfl rfl) h0
  obtain ⟨a1, rfl, rfl, rfl, w1⟩ := open_int Try.underlying27 (hval 1 27 v1 rfl rfl) h1
  obtain ⟨a2, rfl, rfl, rfl, w2⟩ := open_int Try.underlying27 (hval 2 27 v2 rfl rfl) h2
  obtain ⟨a3, rfl, rfl, rfl, w3⟩ := open_int Try.underlying27 (hval 3 27 v3 rfl rfl) h3
  clear hA0 hval0 hsz0
  refine (walk a0 a1 a2 a3 W w0 w1 w2 w3).mono fun e W' ⟨he, bel⟩ => ?_
  subst he
  exact ⟨_, rfl, _, _, _, [], _, [], hW', trodAll_mk1 (shut_bool Try.underlying4 _), (trodAll_cons_mk (shut_int Try.underlying27 w0) (trodAll_cons_mk (shut_int Try.underlying27 w1) (trodAll_cons_mk (shut_int Try.underlying27 w2) (trodAll_cons_mk (shut_int Try.underlying27 w3) trodAll_mk0)))), rfl, bel.frame _, fun h => by cases h⟩

/-- The statement. -/
theorem proved : Rows.TrackRisesSaid :=
  OpenClaim.holds_of_wide 5 Try.f5 rfl rfl rfl rfl rfl rfl rfl ⟨rfl, rfl, rfl, rfl, rfl⟩ rfl rfl rfl rfl rfl (by kernel_rfl) Try.func5 (by kernel_rfl)
    (of_decide_eq_true (by kernel_rfl)) (by unfold Func.isWrapper; first | (rw [if_pos (by decide +kernel)]; kernel_rfl) | (rw [if_neg (by decide +kernel)]; exact ⟨rfl, rfl⟩))
    (fun os started H enc _ => lifted os started H enc)
end Go.Proofs.Ytfaedodmmplgcaa.trackRises
