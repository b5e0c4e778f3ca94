/- A quotient, up, of numbers below 2^40 by numbers from 1 to 2^20, is the least number by which the divisor comes to the number at least: for every input the law returns true. No condition. -/
import Derived.Test.YteglmjongdpagaaNumL
import Derived.Test.YteglmjongdpagaaNumK
namespace Go.Proofs.Yteglmjongdpagaa.numUp
open Go.ChangeShapes Go.WideShapes Go.ChangeAt Go.RowKit
open NumM NumA
set_option linter.unusedVariables false

theorem own : ownKnob Try.prog.godebug = none := by kernel_rfl

def Least (A B q : Int) : Prop := A ≤ q * B ∧ (q - 1) * B < A ∧ -4398046511104 ≤ q * B ∧ q * B ≤ 4398046511104 ∧ -4398046511104 ≤ (q - 1) * B ∧ (q - 1) * B ≤ 4398046511104 ∧ -4398046511104 ≤ q ∧ q ≤ 4398046511104

theorem least_up {A B : Int} (h1 : -1099511627776 < A) (h2 : A < 1099511627776) (h3 : 1 ≤ B) (h4 : B ≤ 1048576) : Least A B (upQ A B) := by
  have a1 := up_ge (a := A) h3
  have a2 := up_lt (a := A) h3
  have e : (upQ A B - 1) * B = upQ A B * B - B := by rw [Int.sub_mul, Int.one_mul]
  have hq : -4398046511104 ≤ upQ A B ∧ upQ A B ≤ 4398046511104 := by
    unfold upQ
    by_cases h : 0 ≤ -A
    · have g1 := Int.ediv_le_self B h
      have g2 := Int.ediv_nonneg h (show 0 ≤ B by omega)
      omega
    · have g1 : (-A) * B ≤ -A := by
        have := Int.mul_le_mul_of_nonpos_left (a := -A) (show -A ≤ 0 by omega) h3
        rw [Int.mul_one] at this; exact this
      have g2 := Int.le_ediv_of_mul_le (show 0 < B by omega) g1
      have g3 : (-A) / B < 0 := Int.ediv_neg_of_neg_of_pos (by omega) (by omega)
      omega
  refine ⟨a1, a2, ?_, ?_, ?_, ?_, hq.1, hq.2⟩ <;> omega

theorem up_least (A B : Int) (w : World) (h1 : -1099511627776 < A) (h2 : A < 1099511627776) (h3 : 1 ≤ B) (h4 : B ≤ 1048576) :
    Calls Try.prog 12 #[.int .i64 A, .int .i64 B] w fun e w' => ∃ q, e = .returned (.tuple #[.int .i64 q, .int .i64 0]) ∧ Least A B q ∧ w = w' :=
  (up_any A B w h3 (by omega) (by omega)).mono fun _ _ h => ⟨_, h.1, least_up h1 h2 h3 h4, h.2⟩

theorem tmod_bd (a : Int) : -1099511627776 < a.tmod 1099511627776 ∧ a.tmod 1099511627776 < 1099511627776 :=
  ⟨Int.lt_tmod_of_pos a (by omega), Int.tmod_lt_of_pos a (by omega)⟩

theorem walk (a0 : Int) (a1 : Int) (w0 : (Lit.int .i64 a0).wf = true) (w1 : (Lit.int .i64 a1).wf = true) (w : World) :
    Calls Try.prog 7 #[.int .i64 a0, .int .i64 a1] w fun e w' => e = .returned (.bool true) ∧ Grown w w' := by
  obtain ⟨t1, t2⟩ := tmod_bd a0
  obtain ⟨u1, u2⟩ := and_bd a1 1048575 (by omega) (by omega)
  clear w0 w1
  go_enter Try.func7, Try.ntmps7
  go_wp2_with (first
    | (go_at_call 12; refine (up_least _ _ _ (by omega) (by omega) (by omega) (by omega)).mono ?_; rintro e w' ⟨q, rfl, ⟨h1, h2, h3, h4, h5, h6, h7, h8⟩, rfl⟩)
    | (go_at_call 18; refine (lives_any _).mono ?_; rintro e w' ⟨rfl, hg⟩))
  go_ret
  exact ⟨rfl, by assumption⟩

/-! The row's step, by the frame. -/
set_option maxRecDepth 100000 in
theorem lifted (os : Os) (started : os.Started) (H : Type) (enc : TypeId × Value → H) :
    ReturnsInHanded {} Try.checked os 7 .any (Rows.numUpSpec.pre6 enc Try.prog Try.f7 Rows.numUpRow.domain false) (Rows.numUpSpec.post enc Try.prog Try.f7 false true false false) := by
  refine returnsInHanded_of_change (C := Try.checked) own started (by kernel_rfl) Try.func7
    (ChangeSpec.witness6 (enc := enc) (C := Try.checked) false ⟨#[], #[.int .i64 0, .int .i64 0], []⟩ 8 (by kernel_rfl) (by kernel_rfl) (by kernel_rfl) (by kernel_rfl)) ?_
  intro W base args ds gs before hval0 hW hcnd _
  have hval : ∀ (j : Nat) t v, Try.f7.params[j]? = some t → args[j]? = some v → Value.okWide Try.prog W .any base t v := hval0
  have hW' := hW
  obtain ⟨p, q, hA0, hV, rfl, hfz, hnd⟩ := hW
  have hA : DataW.TrodAll enc Try.prog W 0 (fun _ => true) true Try.f7.params.toList args.toList ds p := hA0
  rw [Try.params7] at hA hval
  obtain ⟨v0, vs0, d0, ds0, p0, q0, hargs, rfl, rfl, h0, r0⟩ := trodAll_cons hA
  obtain ⟨v1, vs1, d1, ds1, p1, q1, rfl, rfl, rfl, h1, r1⟩ := trodAll_cons r0
  obtain ⟨rfl, rfl, rfl⟩ := trodAll_nil r1
  obtain rfl : args = #[v0, v1] := by cases args; simp_all
  obtain ⟨rfl, rfl⟩ := trodVars_none hV
  obtain ⟨a0, rfl, rfl, rfl, w0⟩ := open_int Try.underlying2 (hval 0 2 v0 rfl rfl) h0
  obtain ⟨a1, rfl, rfl, rfl, w1⟩ := open_int Try.underlying2 (hval 1 2 v1 rfl rfl) h1
  clear hA0 hval0
  simp only [List.append_nil] at hW'
  refine (walk a0 a1 w0 w1 W).mono fun e W' ⟨he, hg⟩ => ?_
  subst he
  exact ⟨_, rfl, post_of_same (pa := []) (pv := []) hW' (fun _ _ _ => (trodAll_cons_mk (shut_bool Try.underlying4 _) trodAll_mk0)) (fun sp _ => (trodAll_cons_mk (shut_int Try.underlying2 w0) (trodAll_cons_mk (shut_int Try.underlying2 w1) trodAll_mk0))) (fun _ _ => rfl) rfl
    (hg.frame _) hg.2.1 (ok_one (by kernel_rfl) rfl (okWide_bool_mk Try.underlying4 _))⟩

theorem over : Rows.numUpRow.holds Try.pinned (OpenSpec.ofChange Rows.numUpSpec) :=
  OpenClaim.holds_of_wide 7 Try.f7 rfl rfl rfl rfl rfl rfl rfl ⟨rfl, rfl, rfl, rfl, rfl⟩ rfl rfl rfl rfl rfl (by kernel_rfl) Try.func7 (by kernel_rfl)
    (of_decide_eq_true (by kernel_rfl)) (by unfold Func.isWrapper; first | (rw [if_pos (by decide +kernel)]; kernel_rfl) | (rw [if_neg (by decide +kernel)]; exact ⟨rfl, rfl⟩))
    (fun os started H enc _ => lifted os started H enc)

/-- The statement. -/
theorem proved : Rows.NumUpSaid :=
  over
end Go.Proofs.Yteglmjongdpagaa.numUp
