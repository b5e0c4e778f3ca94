
/- The next ticks of any plans, and what is due, are the document's; what is handed in stays; what is answered is new memory: for every list of plans, every list of ticks and every tick the law returns true. No condition. -/
import Derived.Test.YtekehomeicfadaaSchedL
namespace Go.Proofs.Ytekehomeicfadaa.schedTells
open Go.ChangeShapes Go.WideShapes Go.ChangeAt Go.RowKit
open Mem Arr Lst Rec Sched
set_option linter.unusedVariables false

set_option maxHeartbeats 4000000 in
theorem walk (A0 : Option Addr) (n0 c0 : Nat) (P E D : Nat → Int) (A1 : Option Addr) (n1 c1 : Nat) (N : Nat → Int) (a2 : Int) (w : World) (b0 : PlanArg w A0 n0 c0 P E D) (b1 : IntsArg .u64 8 w A1 n1 c1 N) (w2 : (Lit.int .u64 a2).wf = true) :
    Calls Try.prog 3 #[.slice A0 n0 c0, .slice A1 n1 c1, .int .u64 a2] w fun e w' => e = .returned (.bool true) ∧ Below w.heap.size w w' := by
  have hn : n0 ≤ 9223372036854775807 := by have := b0.le; have := b0.cap; omega
  have hn1 : n1 ≤ 9223372036854775807 := by have := b1.le; have := b1.cap; omega
  obtain ⟨hnow, _⟩ := bounds_u64 w2
  by_cases h1 : 100 < n0
  · clear b0 b1 w2
    go_enter Try.func3, Try.ntmps3
    go_wp2_with (first
      | (go_at_call 6; refine (lives_any _).mono ?_; rintro e wn ⟨rfl, bn⟩; (first | (have gn := kept_hid bn (by assumption)) | (have gn := new_hid bn) | skip); (first | (have Bn : Below w.heap.size w _ := bTrans (by assumption) bn) | (have Bn : Below w.heap.size w _ := bTrans (bDrew (by assumption)) bn) | (have Bn : Below w.heap.size w _ := bTrans (bDrewN _ (by assumption)) bn) | (have Bn : Below w.heap.size w _ := bTrans (bAlloc (by assumption) _) bn) | (have Bn : Below w.heap.size w _ := bTrans (bAlloc (bDrew (by assumption)) _) bn) | (have Bn : Below w.heap.size w _ := bTrans (bDrew (bAlloc (by assumption) _)) bn) | (have Bn : Below w.heap.size w _ := bTrans (Below.refl _ _) bn) | (have Bn : Below w.heap.size w _ := bTrans (bDrew (Below.refl _ _)) bn) | (have Bn : Below w.heap.size w _ := bTrans (bAlloc (Below.refl _ _) _) bn) | (have Bn : Below w.heap.size w _ := bTrans (bAlloc (bAlloc (Below.refl _ _) _) _) bn))))
    go_ret
    exact ⟨rfl, by assumption⟩
  · by_cases h2 : 100 < n1
    · clear b0 b1 w2
      go_enter Try.func3, Try.ntmps3
      go_wp2_with (first
      | (go_at_call 6; refine (lives_any _).mono ?_; rintro e wn ⟨rfl, bn⟩; (first | (have gn := kept_hid bn (by assumption)) | (have gn := new_hid bn) | skip); (first | (have Bn : Below w.heap.size w _ := bTrans (by assumption) bn) | (have Bn : Below w.heap.size w _ := bTrans (bDrew (by assumption)) bn) | (have Bn : Below w.heap.size w _ := bTrans (bDrewN _ (by assumption)) bn) | (have Bn : Below w.heap.size w _ := bTrans (bAlloc (by assumption) _) bn) | (have Bn : Below w.heap.size w _ := bTrans (bAlloc (bDrew (by assumption)) _) bn) | (have Bn : Below w.heap.size w _ := bTrans (bDrew (bAlloc (by assumption) _)) bn) | (have Bn : Below w.heap.size w _ := bTrans (Below.refl _ _) bn) | (have Bn : Below w.heap.size w _ := bTrans (bDrew (Below.refl _ _)) bn) | (have Bn : Below w.heap.size w _ := bTrans (bAlloc (Below.refl _ _) _) bn) | (have Bn : Below w.heap.size w _ := bTrans (bAlloc (bAlloc (Below.refl _ _) _) _) bn))))
      go_ret
      exact ⟨rfl, by assumption⟩
    · obtain ⟨i0, hi, hz0, hz1, hz2⟩ := info_parts infoTick
      have hp : ∀ i, i < n0 → 0 ≤ P i ∧ 0 ≤ E i := fun i hi => ⟨(b0.inP i hi).1, (b0.inE i hi).1⟩
      have HP := Lib.hid hp
      have H := Lib.hid b0.plans
      have HR : Hid (Reads w w.heap.size A1 n1 (tickV N)) := Lib.hid b1.rd
      have HL := Lib.hid b1.nil_
      have h1' : n0 ≤ 100 := by omega
      have h2' : n1 ≤ 100 := by omega
      clear b0 b1 w2 hp h1 h2
      go_enter Try.func3, Try.ntmps3
      go_wp2_with (at_builtin; refine append_list rfl _ _ 23 rfl w.heap.size 24 i0 (.int .u64 0) 8 Try.underlying23 hi hz0 hz1 hz2 rfl _ 0 (tickV N) (by rfl) (own_nil _ _ _ _) w.heap.size A1 n1 c1 (tickV N) rfl HR.out (fun _ _ => rfl) HL.out (by unfold maxLen; omega) (by omega) (by omega) ?_; intro v1 w1 hown hgrow)
      have hb1 := below_grown (Below.refl w.heap.size w) (own_nil w w.heap.size 24 (tickV N)) hgrow
      rw [Nat.zero_add] at hown
      have hown1 : Own w1 w.heap.size 24 v1 n1 (tickV N) := hown.congr (fun i _ => by simp)
      clear hown hgrow
      obtain ⟨A2, c2, rfl, hr1, hl1, -, -⟩ := hown1.reads'
      have HL1 := Lib.hid hl1
      clear hown1 hl1
      go_wp2_with fail
      refine (due_any _ _ _ _ _ _ _ _ _ _ _ _ (H.out.later hb1) hn hnow HP.out hr1 HL1.out (by omega)).mono ?_; rintro e w2 ⟨va, rfl, oa, b2⟩
      have B2 := b2
      clear b2
      go_wp2_with fail
      refine (refDue_any _ _ _ _ _ _ _ _ _ _ _ _ (H.out.later (bTrans hb1 B2)) hn hnow HP.out (HR.out.later (bTrans hb1 B2)) HL.out (by omega)).mono ?_; rintro e w3 ⟨vb, rfl, ob, b3⟩
      have B3 := bTrans B2 b3
      have oa3 := oa.later b3 (Nat.le_refl _)
      obtain ⟨Aa, ca, rfl, -, -, -, -⟩ := oa3.shape
      obtain ⟨Ab, cb, rfl, rb, -, -, -⟩ := ob.reads'
      clear B2 b3 oa ob
      go_wp2_with fail
      refine (same_true _ _ _ _ _ _ _ _ _ oa3.reads rb rfl (fun _ _ => rfl) (by omega)).mono ?_; rintro e w4 ⟨rfl, b4⟩
      have B4 := bTrans B3 b4
      have oa4 := oa3.later b4 (Nat.le_refl _)
      clear B3 b4 oa3 rb
      go_wp2_with fail
      refine (begin_any _ _ _ _ _ _ _ _ (H.out.later (bTrans hb1 B4)) hn hnow HP.out).mono ?_; rintro e w5 ⟨vc, rfl, oc, b5⟩
      have B5 := bTrans B4 b5
      have oa5 := oa4.later b5 (Nat.le_refl _)
      have rc := oc.reads'
      clear B4 b5 oa4 oc
      go_wp2_with fail
      refine (refBegin_any _ _ _ _ _ _ _ _ (H.out.later (bTrans hb1 B5)) hn hnow HP.out).mono ?_; rintro e w6 ⟨vd, rfl, od, b6⟩
      have B6 := bTrans B5 b6
      have oa6 := oa5.later b6 (Nat.le_refl _)
      have rc6 := rc.later b6
      have rd := od.reads'
      clear B5 b6 oa5 od rc
      obtain ⟨Ac, cc, rfl, rc, -, -, -⟩ := rc6
      obtain ⟨Ad, cd, rfl, rd, -, -, -⟩ := rd
      have hbn : beginN P E n0 a2 ≤ 17592186044415 := by unfold beginN; split <;> omega
      go_wp2_with fail
      refine (same_true _ _ _ _ _ _ _ _ _ rc rd rfl (fun _ _ => rfl) hbn).mono ?_; rintro e w7 ⟨rfl, b7⟩
      have B7 := bTrans B6 b7
      have oa7 := oa6.later b7 (Nat.le_refl _)
      clear B6 b7 oa6 rc rd hbn
      go_wp2
      have st : Own w7 w1.heap.size 24 (.slice Aa n1 ca) n1 (Sched.part 0 (fun _ => 77) (dueN P E N n0 n1 a2)) := oa7.congr (fun i _ => by unfold Sched.part tickV; rw [if_neg (by omega)])
      clear oa7
      go_loopw [14] (fun i wr => ∃ k : Nat, k ≤ n1 ∧ i = .int .i64 k ∧ Own wr w1.heap.size 24 (.slice Aa n1 ca) n1 (Sched.part k (fun _ => 77) (dueN P E N n0 n1 a2)) ∧ Below w1.heap.size w1 wr) (fun i _ => n1 - (intOf i).toNat)
      case atStart => exact ⟨0, by omega, rfl, st, B7⟩
      case round =>
        obtain ⟨k, hk, rfl, hown, hbr⟩ := hrel
        by_cases hlt : k < n1
        · obtain ⟨g, cap, e, hg1, hg2, hcap, hcm⟩ := hown.form (by omega)
          injection e with e1 e2 e3
          subst e1
          subst e3
          have hc3 := hown.cell hlt
          have hf3 := hown.free k
          go_wp2
          go_roundw
          case rel => exact ⟨k + 1, by omega, by go_num, (hown.stored _).congr (fun i hi => part_step k (fun _ => 77) _ i), bSet hbr hg1 _⟩
          case measure => simp [intOf]; omega
        · go_wp2_with fail
          refine (same_true _ _ _ _ _ _ _ _ _ (hr1.later hbr) (HR.out.later (bTrans hb1 hbr)) rfl (fun _ _ => rfl) (by omega)).mono ?_; rintro e w8 ⟨rfl, b8⟩
          have B8 := bTrans (bTrans hb1 hbr) b8
          clear b8 hbr hb1
          go_wp2_with (first
      | (go_at_call 6; refine (lives_any _).mono ?_; rintro e wn ⟨rfl, bn⟩; (first | (have gn := kept_hid bn (by assumption)) | (have gn := new_hid bn) | skip); (first | (have Bn : Below w.heap.size w _ := bTrans (by assumption) bn) | (have Bn : Below w.heap.size w _ := bTrans (bDrew (by assumption)) bn) | (have Bn : Below w.heap.size w _ := bTrans (bDrewN _ (by assumption)) bn) | (have Bn : Below w.heap.size w _ := bTrans (bAlloc (by assumption) _) bn) | (have Bn : Below w.heap.size w _ := bTrans (bAlloc (bDrew (by assumption)) _) bn) | (have Bn : Below w.heap.size w _ := bTrans (bDrew (bAlloc (by assumption) _)) bn) | (have Bn : Below w.heap.size w _ := bTrans (Below.refl _ _) bn) | (have Bn : Below w.heap.size w _ := bTrans (bDrew (Below.refl _ _)) bn) | (have Bn : Below w.heap.size w _ := bTrans (bAlloc (Below.refl _ _) _) bn) | (have Bn : Below w.heap.size w _ := bTrans (bAlloc (bAlloc (Below.refl _ _) _) _) bn))))
          go_ret
          exact ⟨rfl, by assumption⟩

/-! The row's step, by the frame. -/
theorem own : ownKnob Try.prog.godebug = none := by kernel_rfl
theorem laidOut : laidOutB Try.prog = true := by kernel_rfl
set_option maxRecDepth 100000 in
theorem lifted (os : Os) (started : os.Started) (H : Type) (enc : TypeId × Value → H) :
    ReturnsInHanded {} Try.checked os 3 .any (Rows.schedTellsSpec.pre6 enc Try.prog Try.f3 Rows.schedTellsRow.domain false) (Rows.schedTellsSpec.post enc Try.prog Try.f3 false true false false) := by
  refine returnsInHanded_of_change_sized (C := Try.checked) own started (by kernel_rfl) Try.func3
    (ChangeSpec.witness6 (enc := enc) (C := Try.checked) false ⟨#[], #[.slice none 0 0, .slice none 0 0, .int .u64 0], []⟩ 8 (by kernel_rfl) (by kernel_rfl) (by kernel_rfl) (by kernel_rfl)) ?_
  intro W base args ds gs before hval0 hW _ hsz0 _
  have hsz : (DataW.weightsEach Try.prog (Try.f3.params.toList ++ Rows.schedTellsSpec.plain.varTypes Try.prog) (ds ++ gs)).all (· ≤ reachBytes) = true := hsz0
  have hval : ∀ (j : Nat) t v, Try.f3.params[j]? = some t → args[j]? = some v → Value.okWide Try.prog W .any base t v := hval0
  have hW' := hW
  obtain ⟨p, q, hA0, hV, rfl, hfz, hnd⟩ := hW
  have hA : DataW.TrodAll enc Try.prog W 0 (fun _ => true) true Try.f3.params.toList args.toList ds p := hA0
  rw [Try.params3] at hA hval hsz
  obtain ⟨v0, vs0, d0, ds0, p0, q0, hargs, rfl, rfl, h0, r0⟩ := trodAll_cons hA
  obtain ⟨v1, vs1, d1, ds1, p1, q1, rfl, rfl, rfl, h1, r1⟩ := trodAll_cons r0
  obtain ⟨v2, vs2, d2, ds2, p2, q2, rfl, rfl, rfl, h2, r2⟩ := trodAll_cons r1
  obtain ⟨rfl, rfl, rfl⟩ := trodAll_nil r2
  obtain rfl : args = #[v0, v1, v2] := by cases args; simp_all
  obtain ⟨rfl, rfl⟩ := trodVars_none hV
  obtain ⟨A0, n0, c0, rfl⟩ := okWide_slice Try.underlying22 (hval 0 22 v0 rfl rfl)
  have k0 := h0
  have lt0 : ∀ x ∈ p0, x.block < W.heap.size := by obtain ⟨m, hm⟩ := k0; exact DataW.trod_lt m _ _ _ hm
  obtain ⟨P0, E0, D0, b0⟩ := plans_arg h0
  obtain ⟨A1, n1, c1, rfl⟩ := okWide_slice Try.underlying23 (hval 1 23 v1 rfl rfl)
  have k1 := h1
  have lt1 : ∀ x ∈ p1, x.block < W.heap.size := by obtain ⟨m, hm⟩ := k1; exact DataW.trod_lt m _ _ _ hm
  obtain ⟨N1, b1⟩ := ticks_arg h1
  obtain ⟨a2, rfl, rfl, rfl, w2⟩ := open_int Try.underlying24 (hval 2 24 v2 rfl rfl) h2
  clear hA0 hval0 hsz0
  refine (walk A0 n0 c0 P0 E0 D0 A1 n1 c1 N1 a2 W b0 b1 w2).mono fun e W' ⟨he, bel⟩ => ?_
  subst he
  exact ⟨_, rfl, _, _, _, [], _, [], hW', trodAll_mk1 (shut_bool Try.underlying4 _), (trodAll_cons_mk (Below.trod laidOut (by kernel_rfl) (of_decide_eq_true (by kernel_rfl)) k0 bel lt0) (trodAll_cons_mk (Below.trod laidOut (by kernel_rfl) (of_decide_eq_true (by kernel_rfl)) k1 bel lt1) (trodAll_cons_mk (shut_int Try.underlying24 w2) trodAll_mk0))), rfl, bel.frame _, fun h => by cases h⟩

/-- The statement. -/
theorem proved : Rows.SchedTellsSaid :=
  OpenClaim.holds_of_wide 3 Try.f3 rfl rfl rfl rfl rfl rfl rfl ⟨rfl, rfl, rfl, rfl, rfl⟩ rfl rfl rfl rfl rfl (by kernel_rfl) Try.func3 (by kernel_rfl)
    (of_decide_eq_true (by kernel_rfl)) (by unfold Func.isWrapper; first | (rw [if_pos (by decide +kernel)]; kernel_rfl) | (rw [if_neg (by decide +kernel)]; exact ⟨rfl, rfl⟩))
    (fun os started H enc _ => lifted os started H enc)
end Go.Proofs.Ytekehomeicfadaa.schedTells
