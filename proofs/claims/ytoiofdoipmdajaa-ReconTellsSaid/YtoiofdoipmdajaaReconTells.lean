
/- Whether what is told may be, and what comes of it, is the document's: the law returns true. -/
import Derived.Test.YtoiofdoipmdajaaRcL
import Derived.Test.YtoiofdoipmdajaaRcG
import Derived.Test.YtoiofdoipmdajaaArgT
namespace Go.Proofs.Ytoiofdoipmdajaa.reconTells
open Go.RowKit
open Go.ChangeShapes Go.WideShapes Go.ChangeAt
open Mem Arr Lst Rec Inst Grown Sums Opens St0 Tld Evs RcE RcF RcG RcH RcL ArgT ArgI
set_option linter.unusedVariables false
set_option linter.unusedSimpArgs false
theorem list_same (T : Nat → Td) (L : Nat → Ins) (n m : Nat) : (if mayT T n && mayB L m then refEv T L n m else []) = (if mayT T n && mayB L m then evA T L n m else []) := by
  cases h1 : mayT T n with
  | false => rfl
  | true =>
    cases h2 : mayB L m with
    | false => rfl
    | true => exact (ev_same h1 h2).symm
theorem len_all (T : Nat → Td) (L : Nat → Ins) (n m : Nat) (hn : n ≤ 300) (hm : m ≤ 300) : (if mayT T n && mayB L m then evA T L n m else []).length ≤ 1000000 := by
  split
  · have e1 := len_c T L (Both.mgA T L n m)
    have e2 := len_g L (Both.mgA T L n m)
    have e3 : (Both.mgA T L n m).length ≤ n + m := mg_len _ _ _
    unfold evA
    rw [List.length_append]
    omega
  · exact Nat.zero_le _
set_option maxHeartbeats 8000000 in
set_option maxRecDepth 100000 in
theorem walk (A0 : Option Addr) (n0 c0 : Nat) (T : Nat → Td) (A1 : Option Addr) (n1 c1 : Nat) (L : Nat → Ins) (w : World) (b0 : Tolds w w.heap.size A0 n0 T ∧ (∀ i, i < n0 → TdOk (T i)) ∧ (A0 = none → c0 = 0) ∧ n0 ≤ c0 ∧ c0 ≤ maxLen) (b1 : Insts w w.heap.size A1 n1 L ∧ (∀ i, i < n1 → InsOk (L i)) ∧ (A1 = none → c1 = 0) ∧ n1 ≤ c1 ∧ c1 ≤ maxLen) :
    Calls Try.prog 3 #[.slice A0 n0 c0, .slice A1 n1 c1] w fun e w' => e = .returned (.bool true) ∧ Below w.heap.size w w' := by
  have HT := Lib.hid (fun p : Grown w => (show Tolds p.w1 p.w1.heap.size A0 n0 T from b0.1.later p.below))
  have HL := Lib.hid (fun p : Grown w => (show Insts p.w1 p.w1.heap.size A1 n1 L from b1.1.later p.below))
  have hn0 : n0 ≤ 9223372036854775807 := by have h1 := b0.2.2.2.1; have h2 := b0.2.2.2.2; unfold maxLen at h2; omega
  have hn1 : n1 ≤ 9223372036854775807 := by have h1 := b1.2.2.2.1; have h2 := b1.2.2.2.2; unfold maxLen at h2; omega
  clear b0 b1
  by_cases g0 : 300 < n0
  · have d0 : decide ((300 : Int) < (n0 : Int)) = true := decide_eq_true (by omega)
    go_enter Try.func3, Try.ntmps3
    go_wp2_with fail
    refine (lives_any _).mono ?_
    rintro _ u ⟨rfl, b⟩
    go_wp2
    go_ret
    exact ⟨rfl, b⟩
  · have d0 : decide ((300 : Int) < (n0 : Int)) = false := decide_eq_false (by omega)
    by_cases g1 : 300 < n1
    · have d1 : decide ((300 : Int) < (n1 : Int)) = true := decide_eq_true (by omega)
      go_enter Try.func3, Try.ntmps3
      go_wp2_with fail
      refine (lives_any _).mono ?_
      rintro _ u ⟨rfl, b⟩
      go_wp2
      go_ret
      exact ⟨rfl, b⟩
    · have d1 : decide ((300 : Int) < (n1 : Int)) = false := decide_eq_false (by omega)
      have LL := len_all T L n0 n1 (by omega) (by omega)
      have LS := list_same T L n0 n1
      have EV := fun p : Grown w => events_any A0 n0 c0 T A1 n1 c1 L p.w1 (HT.out p) (HL.out p) (by omega) (by omega)
      have RV := fun p : Grown w => refEvents_any A0 n0 c0 T A1 n1 c1 L p.w1 (HT.out p) (HL.out p) (by omega) (by omega)
      rw [LS] at RV
      obtain ⟨E, hE⟩ : ∃ E, (if mayT T n0 && mayB L n1 then evA T L n0 n1 else []) = E := ⟨_, rfl⟩
      obtain ⟨er, her⟩ : ∃ er : Int, (if mayT T n0 && mayB L n1 then 0 else 2) = er := ⟨_, rfl⟩
      rw [hE] at EV RV LL
      rw [her] at EV RV
      obtain ⟨mt, hmt⟩ : ∃ v, mayT T n0 = v := ⟨_, rfl⟩
      have M1 := Lib.hid (fun p : Grown w => RcE.mayT_is A0 n0 c0 T mt hmt p.w1 (HT.out p) hn0)
      have M2 := Lib.hid (fun p : Grown w => RcF.refMayT_is A0 n0 c0 T mt hmt p.w1 (HT.out p) hn0)
      replace EV := Lib.hid EV
      replace RV := Lib.hid RV
      clear LS hE her hmt HT HL
      go_enter Try.func3, Try.ntmps3
      go_wp2_with fail
      refine (EV.out ⟨w, Below.refl _ _⟩).mono ?_
      rintro _ u1 ⟨⟨va, rfl, oa⟩, b1⟩
      obtain ⟨Aa, ca, rfl, _⟩ := Row.Own.shape oa.out
      go_wp2_with fail
      refine (RV.out ⟨u1, b1⟩).mono ?_
      rintro _ u2 ⟨⟨vb, rfl, ob⟩, b2⟩
      obtain ⟨Ab, cb, rfl, _⟩ := Row.Own.shape ob.out
      have q2 := bTrans b1 b2
      go_wp2_with fail
      refine (M1.out ⟨u2, q2⟩).mono ?_
      rintro _ u3 ⟨rfl, b3⟩
      have q3 := bTrans q2 b3
      go_wp2_with fail
      refine (M2.out ⟨u3, q3⟩).mono ?_
      rintro _ u4 ⟨rfl, b4⟩
      have q4 := bTrans b3 b4
      go_wp2_with fail
      refine (events_yes Aa Ab ca cb E _ (Row.Own.recs (RcL.own_later oa.out (bTrans b2 q4))) (Row.Own.recs (RcL.own_later ob.out q4)) LL).mono ?_
      rintro _ u5 ⟨rfl, b5⟩
      go_wp2_with fail
      refine (lives_any _).mono ?_
      rintro _ u6 ⟨rfl, b6⟩
      go_wp2
      go_ret
      exact ⟨rfl, bTrans (bTrans (bTrans q2 q4) b5) b6⟩

/-! The row's step, by the frame. -/
theorem own : ownKnob Try.prog.godebug = none := by kernel_rfl
theorem laidOut : laidOutB Try.prog = true := by kernel_rfl
set_option maxRecDepth 100000 in
theorem lifted (os : Os) (started : os.Started) (H : Type) (enc : TypeId × Value → H) :
    ReturnsInHanded {} Try.checked os 3 .any (Rows.reconTellsSpec.pre6 enc Try.prog Try.f3 Rows.reconTellsRow.domain false) (Rows.reconTellsSpec.post enc Try.prog Try.f3 false true false false) := by
  refine returnsInHanded_of_change_sized (C := Try.checked) own started (by kernel_rfl) Try.func3
    (ChangeSpec.witness6 (enc := enc) (C := Try.checked) false ⟨#[], #[.slice none 0 0, .slice none 0 0], []⟩ 8 (by kernel_rfl) (by kernel_rfl) (by kernel_rfl) (by kernel_rfl)) ?_
  intro W base args ds gs before hval0 hW _ hsz0 _
  have hsz : (DataW.weightsEach Try.prog (Try.f3.params.toList ++ Rows.reconTellsSpec.plain.varTypes Try.prog) (ds ++ gs)).all (· ≤ reachBytes) = true := hsz0
  have hval : ∀ (j : Nat) t v, Try.f3.params[j]? = some t → args[j]? = some v → Value.okWide Try.prog W .any base t v := hval0
  have hW' := hW
  obtain ⟨p, q, hA0, hV, rfl, hfz, hnd⟩ := hW
  have hA : DataW.TrodAll enc Try.prog W 0 (fun _ => true) true Try.f3.params.toList args.toList ds p := hA0
  rw [Try.params3] at hA hval hsz
  obtain ⟨v0, vs0, d0, ds0, p0, q0, hargs, rfl, rfl, h0, r0⟩ := trodAll_cons hA
  obtain ⟨v1, vs1, d1, ds1, p1, q1, rfl, rfl, rfl, h1, r1⟩ := trodAll_cons r0
  obtain ⟨rfl, rfl, rfl⟩ := trodAll_nil r1
  obtain rfl : args = #[v0, v1] := by cases args; simp_all
  obtain ⟨rfl, rfl⟩ := trodVars_none hV
  obtain ⟨A0, n0, c0, rfl⟩ := okWide_slice Try.underlying22 (hval 0 22 v0 rfl rfl)
  have k0 := h0
  have lt0 : ∀ x ∈ p0, x.block < W.heap.size := by obtain ⟨m, hm⟩ := k0; exact DataW.trod_lt m _ _ _ hm
  obtain ⟨T0, b0⟩ := tolds_arg h0
  obtain ⟨A1, n1, c1, rfl⟩ := okWide_slice Try.underlying23 (hval 1 23 v1 rfl rfl)
  have k1 := h1
  have lt1 : ∀ x ∈ p1, x.block < W.heap.size := by obtain ⟨m, hm⟩ := k1; exact DataW.trod_lt m _ _ _ hm
  obtain ⟨L1, b1⟩ := insts_arg h1
  clear hA0 hval0 hsz0
  refine (walk A0 n0 c0 T0 A1 n1 c1 L1 W b0 b1).mono fun e W' ⟨he, bel⟩ => ?_
  subst he
  exact ⟨_, rfl, _, _, _, [], _, [], hW', trodAll_mk1 (shut_bool Try.underlying4 _), (trodAll_cons_mk (Below.trod laidOut (by kernel_rfl) (of_decide_eq_true (by kernel_rfl)) k0 bel lt0) (trodAll_cons_mk (Below.trod laidOut (by kernel_rfl) (of_decide_eq_true (by kernel_rfl)) k1 bel lt1) trodAll_mk0)), rfl, bel.frame _, fun h => by cases h⟩

/-- The statement. -/
theorem proved : Rows.ReconTellsSaid :=
  OpenClaim.holds_of_wide 3 Try.f3 rfl rfl rfl rfl rfl rfl rfl ⟨rfl, rfl, rfl, rfl, rfl⟩ rfl rfl rfl rfl rfl (by kernel_rfl) Try.func3 (by kernel_rfl)
    (of_decide_eq_true (by kernel_rfl)) (by unfold Func.isWrapper; first | (rw [if_pos (by decide +kernel)]; kernel_rfl) | (rw [if_neg (by decide +kernel)]; exact ⟨rfl, rfl⟩))
    (fun os started H enc _ => lifted os started H enc)
end Go.Proofs.Ytoiofdoipmdajaa.reconTells
