/- Parts of a whole below 2^52 and of the rest are together at least the whole, and less than 2 more, and a part is the least number that is no less: for every input the law returns true. No condition. -/
import Derived.Test.YteglmjongdpagaaNumL
import Derived.Test.YteglmjongdpagaaNumK
namespace Go.Proofs.Yteglmjongdpagaa.numParts
open Go.ChangeShapes Go.WideShapes Go.ChangeAt Go.RowKit
open NumM NumA
set_option linter.unusedVariables false

theorem own : ownKnob Try.prog.godebug = none := by kernel_rfl

/-- q is the least whole number of which 100 times is no less than m -/
def Cent (m q : Int) : Prop := m ≤ 100 * q ∧ 100 * q < m + 100

theorem cent_up {m : Int} : Cent m (upQ m 100) := by
  have a1 := up_ge (a := m) (b := 100) (by omega)
  have a2 := up_lt (a := m) (b := 100) (by omega)
  constructor <;> omega

theorem prod_bd {n p : Int} (h0 : 0 ≤ n) (h1 : n ≤ 4503599627370495) (h2 : 0 ≤ p) (h3 : p ≤ 100) : 0 ≤ n * p ∧ n * p ≤ 450359962737049500 := by
  have g := Int.mul_nonneg h0 h2
  have k : n * p ≤ 4503599627370495 * 100 := Int.mul_le_mul h1 h3 h2 (by omega)
  omega

theorem part_cent (n p : Int) (w : World) (h0 : 0 ≤ n) (h1 : n ≤ 4503599627370495) (h2 : 0 ≤ p) (h3 : p ≤ 100) :
    Calls Try.prog 14 #[.int .i64 n, .int .i64 p] w fun e w' => ∃ q, e = .returned (.tuple #[.int .i64 q, .int .i64 0]) ∧ Cent (n * p) q ∧ w = w' := by
  obtain ⟨b1, b2⟩ := prod_bd h0 h1 h2 h3
  have ho : outB (n * p) = false := outB_of_in (by omega)
  have hv : partV n p = upQ (n * p) 100 := by unfold partV; rw [if_neg (by omega), ho]; rfl
  have he : partE n p = 0 := by unfold partE; rw [if_neg (by omega), err_no ho]
  have h := part_any n p w (by omega) (by omega)
  rw [hv, he] at h
  exact h.mono fun _ _ h => ⟨_, h.1, cent_up, h.2⟩
theorem part_rest (n p : Int) (w : World) (h0 : 0 ≤ n) (h1 : n ≤ 4503599627370495) (h2 : 0 ≤ p) (h3 : p ≤ 100) :
    Calls Try.prog 14 #[.int .i64 n, .int .i64 (100 - p)] w fun e w' => ∃ q, e = .returned (.tuple #[.int .i64 q, .int .i64 0]) ∧ Cent (100 * n - n * p) q ∧ w = w' := by
  have h := part_cent n (100 - p) w h0 h1 (by omega) (by omega)
  have e : n * (100 - p) = 100 * n - n * p := by rw [Int.mul_sub, Int.mul_comm n 100]
  rw [e] at h
  exact h

theorem walk (a0 : Int) (a1 : Int) (w0 : (Lit.int .i64 a0).wf = true) (w1 : (Lit.int .u8 a1).wf = true) (w : World) :
    Calls Try.prog 6 #[.int .i64 a0, .int .u8 a1] w fun e w' => e = .returned (.bool true) ∧ Grown w w' := by
  obtain ⟨u1, u2⟩ := and_bd a0 4503599627370495 (by omega) (by omega)
  obtain ⟨v1, v2⟩ := bounds_u8 w1
  clear w0 w1
  obtain ⟨b1, b2⟩ := prod_bd u1 u2 (show 0 ≤ a1 % 101 by omega) (show a1 % 101 ≤ 100 by omega)
  go_enter Try.func6, Try.ntmps6
  go_wp2_with fail
  refine (part_cent _ _ _ u1 u2 (by omega) (by omega)).mono ?_
  rintro e w' ⟨q, rfl, ⟨h1, h2⟩, rfl⟩
  go_wp2_with fail
  refine (part_rest _ _ _ u1 u2 (by omega) (by omega)).mono ?_
  rintro e w' ⟨r, rfl, ⟨h3, h4⟩, rfl⟩
  go_wp2_with ((go_at_call 18; refine (lives_any _).mono ?_; rintro e w' ⟨rfl, hg⟩))
  all_goals
    go_ret
    exact ⟨rfl, by assumption⟩

/-! The row's step, by the frame. -/
set_option maxRecDepth 100000 in
theorem lifted (os : Os) (started : os.Started) (H : Type) (enc : TypeId × Value → H) :
    ReturnsInHanded {} Try.checked os 6 .any (Rows.numPartsSpec.pre6 enc Try.prog Try.f6 Rows.numPartsRow.domain false) (Rows.numPartsSpec.post enc Try.prog Try.f6 false true false false) := by
  refine returnsInHanded_of_change (C := Try.checked) own started (by kernel_rfl) Try.func6
    (ChangeSpec.witness6 (enc := enc) (C := Try.checked) false ⟨#[], #[.int .i64 0, .int .u8 0], []⟩ 8 (by kernel_rfl) (by kernel_rfl) (by kernel_rfl) (by kernel_rfl)) ?_
  intro W base args ds gs before hval0 hW hcnd _
  have hval : ∀ (j : Nat) t v, Try.f6.params[j]? = some t → args[j]? = some v → Value.okWide Try.prog W .any base t v := hval0
  have hW' := hW
  obtain ⟨p, q, hA0, hV, rfl, hfz, hnd⟩ := hW
  have hA : DataW.TrodAll enc Try.prog W 0 (fun _ => true) true Try.f6.params.toList args.toList ds p := hA0
  rw [Try.params6] at hA hval
  obtain ⟨v0, vs0, d0, ds0, p0, q0, hargs, rfl, rfl, h0, r0⟩ := trodAll_cons hA
  obtain ⟨v1, vs1, d1, ds1, p1, q1, rfl, rfl, rfl, h1, r1⟩ := trodAll_cons r0
  obtain ⟨rfl, rfl, rfl⟩ := trodAll_nil r1
  obtain rfl : args = #[v0, v1] := by cases args; simp_all
  obtain ⟨rfl, rfl⟩ := trodVars_none hV
  obtain ⟨a0, rfl, rfl, rfl, w0⟩ := open_int Try.underlying2 (hval 0 2 v0 rfl rfl) h0
  obtain ⟨a1, rfl, rfl, rfl, w1⟩ := open_int Try.underlying5 (hval 1 5 v1 rfl rfl) h1
  clear hA0 hval0
  simp only [List.append_nil] at hW'
  refine (walk a0 a1 w0 w1 W).mono fun e W' ⟨he, hg⟩ => ?_
  subst he
  exact ⟨_, rfl, post_of_same (pa := []) (pv := []) hW' (fun _ _ _ => (trodAll_cons_mk (shut_bool Try.underlying4 _) trodAll_mk0)) (fun sp _ => (trodAll_cons_mk (shut_int Try.underlying2 w0) (trodAll_cons_mk (shut_int Try.underlying5 w1) trodAll_mk0))) (fun _ _ => rfl) rfl
    (hg.frame _) hg.2.1 (ok_one (by kernel_rfl) rfl (okWide_bool_mk Try.underlying4 _))⟩

theorem over : Rows.numPartsRow.holds Try.pinned (OpenSpec.ofChange Rows.numPartsSpec) :=
  OpenClaim.holds_of_wide 6 Try.f6 rfl rfl rfl rfl rfl rfl rfl ⟨rfl, rfl, rfl, rfl, rfl⟩ rfl rfl rfl rfl rfl (by kernel_rfl) Try.func6 (by kernel_rfl)
    (of_decide_eq_true (by kernel_rfl)) (by unfold Func.isWrapper; first | (rw [if_pos (by decide +kernel)]; kernel_rfl) | (rw [if_neg (by decide +kernel)]; exact ⟨rfl, rfl⟩))
    (fun os started H enc _ => lifted os started H enc)

/-- The statement. -/
theorem proved : Rows.NumPartsSaid :=
  over
end Go.Proofs.Yteglmjongdpagaa.numParts
