
/- Behind Due no next tick is at most now, and nothing is due any more: for every list of plans, every list of ticks and every tick the law returns true. No condition. -/
import Derived.Test.YtekehomeicfadaaSchedL
namespace Go.Proofs.Ytekehomeicfadaa.schedBehind
open Go.ChangeShapes Go.WideShapes Go.ChangeAt Go.RowKit
open Mem Arr Lst Rec Sched
set_option linter.unusedVariables false

theorem behind_far {p e now : Int} (hp : 0 ≤ p) (he : 0 ≤ e) : behindV p e now = 0 ∨ now < behindV p e now := by
  unfold behindV
  split
  · exact .inr (by omega)
  · split
    · exact .inl rfl
    · split
      · exact .inl rfl
      · right
        have := above (p := p) (now := now) (show 1 ≤ e by omega)
        rw [Int.mul_comm] at this; exact this
theorem after_far {P E N : Nat → Int} {n m : Nat} {now : Int} (hok : 0 < n → dueOK P E n m now = true) (hpe : ∀ i, i < n → 0 ≤ P i ∧ 0 ≤ E i) (hN : ∀ i, i < n → 0 ≤ N i) : ∀ i, i < n → dueN P E N n m now i = 0 ∨ now < dueN P E N n m now i := by
  intro i hi
  unfold dueN afterV
  rw [if_pos (hok (by omega))]
  split
  · exact behind_far (hpe i hi).1 (hpe i hi).2
  · have h : ¬ dueB N now i = true := ‹_›
    unfold dueB at h
    simp at h
    have := hN i hi
    omega
theorem any_no {N : Nat → Int} {now : Int} {n : Nat} (h : ∀ i, i < n → N i = 0 ∨ now < N i) : anyB N now n = false := by
  induction n with
  | zero => rfl
  | succ n ih =>
    unfold anyB
    rw [if_neg, ih (fun i hi => h i (by omega))]
    have := h n (by omega)
    unfold dueB; simp; omega
theorem still {P E N : Nat → Int} {n m : Nat} {now : Int} (h : ∀ i, i < n → N i = 0 ∨ now < N i) : dueI P E N n m now = false ∧ ∀ i, i < n → dueN P E N n m now i = N i := by
  refine ⟨?_, fun i hi => ?_⟩
  · unfold dueI; split
    · exact any_no h
    · rfl
  · unfold dueN; split
    · unfold afterV
      rw [if_neg]
      have := h i hi
      unfold dueB; simp; omega
    · rfl

set_option maxHeartbeats 4000000 in
theorem walk (A0 : Option Addr) (n0 c0 : Nat) (P E D : Nat → Int) (A1 : Option Addr) (n1 c1 : Nat) (N : Nat → Int) (a2 : Int) (w : World) (b0 : PlanArg w A0 n0 c0 P E D) (b1 : IntsArg .u64 8 w A1 n1 c1 N) (w2 : (Lit.int .u64 a2).wf = true) :
    Calls Try.prog 5 #[.slice A0 n0 c0, .slice A1 n1 c1, .int .u64 a2] w fun e w' => e = .returned (.bool true) ∧ Below w.heap.size w w' := by
  have hn : n0 ≤ 9223372036854775807 := by have := b0.le; have := b0.cap; omega
  have hn1 : n1 ≤ 9223372036854775807 := by have := b1.le; have := b1.cap; omega
  obtain ⟨hnow, _⟩ := bounds_u64 w2
  by_cases h1 : 100 < n0
  · clear b0 b1 w2
    go_enter Try.func5, Try.ntmps5
    go_wp2_with (first
      | (go_at_call 6; refine (lives_any _).mono ?_; rintro e wn ⟨rfl, bn⟩; (first | (have gn := kept_hid bn (by assumption)) | (have gn := new_hid bn) | skip); (first | (have Bn : Below w.heap.size w _ := bTrans (by assumption) bn) | (have Bn : Below w.heap.size w _ := bTrans (bDrew (by assumption)) bn) | (have Bn : Below w.heap.size w _ := bTrans (bDrewN _ (by assumption)) bn) | (have Bn : Below w.heap.size w _ := bTrans (bAlloc (by assumption) _) bn) | (have Bn : Below w.heap.size w _ := bTrans (bAlloc (bDrew (by assumption)) _) bn) | (have Bn : Below w.heap.size w _ := bTrans (bDrew (bAlloc (by assumption) _)) bn) | (have Bn : Below w.heap.size w _ := bTrans (Below.refl _ _) bn) | (have Bn : Below w.heap.size w _ := bTrans (bDrew (Below.refl _ _)) bn) | (have Bn : Below w.heap.size w _ := bTrans (bAlloc (Below.refl _ _) _) bn) | (have Bn : Below w.heap.size w _ := bTrans (bAlloc (bAlloc (Below.refl _ _) _) _) bn))))
    go_ret
    exact ⟨rfl, by assumption⟩
  · by_cases h2 : n1 = n0
    · subst h2
      have hp : ∀ i, i < n1 → 0 ≤ P i ∧ 0 ≤ E i := fun i hi => ⟨(b0.inP i hi).1, (b0.inE i hi).1⟩
      have hN : ∀ i, i < n1 → 0 ≤ N i := fun i hi => (bounds_u64 (b1.wf i hi)).1
      have HP := Lib.hid hp
      have HNN := Lib.hid hN
      have H := Lib.hid b0.plans
      have HR : Hid (Reads w w.heap.size A1 n1 (tickV N)) := Lib.hid b1.rd
      have HL := Lib.hid b1.nil_
      have h1' : n1 ≤ 100 := by omega
      clear b0 b1 w2 hp hN h1
      by_cases hb : beginN P E n1 a2 = n1
      · have hok : 0 < n1 → dueOK P E n1 n1 a2 = true := by
          intro h
          unfold beginN at hb
          split at hb
          · unfold dueOK; rw [decide_eq_true rfl]; simpa using ‹mayB P E n1 a2 = true›
          · omega
        have far := after_far hok HP.out HNN.out
        have st := still (P := P) (E := E) (m := n1) far
        have FAR := Lib.hid far
        have HB := Lib.hid hb
        obtain ⟨dv, hdv⟩ : ∃ dv, dueD P E D (dueN P E N n1 n1 a2) n1 n1 a2 = dv := ⟨_, rfl⟩
        have ST := Lib.hid (And.intro hdv st.1)
        have ST2 := Lib.hid st.2
        clear hok far st hb hdv
        go_enter Try.func5, Try.ntmps5
        go_wp2_with fail
        refine (begin_any _ _ _ _ _ _ _ _ H.out hn hnow HP.out).mono ?_; rintro e w1 ⟨v0, rfl, o0, B1⟩
        rw [HB.out] at o0
        obtain ⟨A4, c4, rfl, -, -, -, -⟩ := o0.shape
        clear o0
        go_wp2_with fail
        refine (due_any _ _ _ _ _ _ _ _ _ _ _ _ (H.out.later B1) hn hnow HP.out (HR.out.later B1) HL.out (by omega)).mono ?_; rintro e w2 ⟨va, rfl, oa, b2⟩
        have B2 := bTrans B1 b2
        obtain ⟨Aa, ca, rfl, ra, hla, -, -⟩ := oa.reads'
        have RA := Lib.hid ra
        have HLA := Lib.hid hla
        clear B1 b2 oa ra hla
        go_wp2
        go_loopw [10] (fun i wr => ∃ k : Nat, k ≤ n1 ∧ i = .int .i64 k ∧ Below w2.heap.size w2 wr) (fun i _ => n1 - (intOf i).toNat)
        case atStart => exact ⟨0, by omega, rfl, Below.refl _ _⟩
        case round =>
          obtain ⟨k, hk, rfl, hbr⟩ := hrel
          by_cases hlt : k < n1
          · obtain ⟨b, off, rfl, _⟩ := reads_form RA.out (by omega)
            obtain ⟨_, d0⟩ := reads_at RA.out hbr rfl hlt
            have hf := FAR.out k hlt
            unfold tickV at d0
            generalize dueN P E N n1 n1 a2 k = x at d0 hf
            by_cases hz : x = 0
            · have z : (x != 0) = false := by simp [hz]
              clear hz hf
              go_wp2
              go_roundw
              case rel => exact ⟨k + 1, by omega, by go_num, hbr⟩
              case measure => simp [intOf]; omega
            · have z : (x != 0) = true := by simp [hz]
              have z2 : a2 < x := by omega
              clear hz hf
              go_wp2
              go_roundw
              case rel => exact ⟨k + 1, by omega, by go_num, hbr⟩
              case measure => simp [intOf]; omega
          · go_wp2_with fail
            refine (due_is _ _ _ _ _ _ _ _ _ _ _ _ _ _ (H.out.later (bTrans B2 hbr)) hn hnow HP.out (RA.out.later hbr) HLA.out (by omega) ST).mono ?_; rintro e w3 ⟨vb, rfl, ob, b3⟩
            obtain ⟨Ab, cb, rfl, rb, -, -, -⟩ := ob.reads'
            have B3 := bTrans hbr b3
            clear hbr b3 ob
            go_wp2_with fail
            refine (same_true _ _ _ _ _ _ _ _ _ (RA.out.later B3) rb rfl (fun i hi => (ST2.out i hi).symm) (by omega)).mono ?_; rintro e w4 ⟨rfl, b4⟩
            have B4 := bTrans B2 (bTrans B3 b4)
            clear B3 b4 B2
            go_wp2_with (first
      | (go_at_call 6; refine (lives_any _).mono ?_; rintro e wn ⟨rfl, bn⟩; (first | (have gn := kept_hid bn (by assumption)) | (have gn := new_hid bn) | skip); (first | (have Bn : Below w.heap.size w _ := bTrans (by assumption) bn) | (have Bn : Below w.heap.size w _ := bTrans (bDrew (by assumption)) bn) | (have Bn : Below w.heap.size w _ := bTrans (bDrewN _ (by assumption)) bn) | (have Bn : Below w.heap.size w _ := bTrans (bAlloc (by assumption) _) bn) | (have Bn : Below w.heap.size w _ := bTrans (bAlloc (bDrew (by assumption)) _) bn) | (have Bn : Below w.heap.size w _ := bTrans (bDrew (bAlloc (by assumption) _)) bn) | (have Bn : Below w.heap.size w _ := bTrans (Below.refl _ _) bn) | (have Bn : Below w.heap.size w _ := bTrans (bDrew (Below.refl _ _)) bn) | (have Bn : Below w.heap.size w _ := bTrans (bAlloc (Below.refl _ _) _) bn) | (have Bn : Below w.heap.size w _ := bTrans (bAlloc (bAlloc (Below.refl _ _) _) _) bn))))
            go_ret
            exact ⟨rfl, by assumption⟩
      · have z : ((beginN P E n1 a2 : Int) != (n1 : Int)) = true := by simp; omega
        have Z := Lib.hid z
        generalize hbb : beginN P E n1 a2 = bn at *
        have HBB := Lib.hid hbb
        clear hb hbb z
        have z := Z.out
        go_enter Try.func5, Try.ntmps5
        go_wp2_with fail
        refine (begin_any _ _ _ _ _ _ _ _ H.out hn hnow HP.out).mono ?_; rintro e w1 ⟨v0, rfl, o0, B1⟩
        rw [HBB.out] at o0
        obtain ⟨A4, c4, rfl, -, -, -, -⟩ := o0.shape
        clear o0
        go_wp2_with (first
      | (go_at_call 6; refine (lives_any _).mono ?_; rintro e wn ⟨rfl, bn⟩; (first | (have gn := kept_hid bn (by assumption)) | (have gn := new_hid bn) | skip); (first | (have Bn : Below w.heap.size w _ := bTrans (by assumption) bn) | (have Bn : Below w.heap.size w _ := bTrans (bDrew (by assumption)) bn) | (have Bn : Below w.heap.size w _ := bTrans (bDrewN _ (by assumption)) bn) | (have Bn : Below w.heap.size w _ := bTrans (bAlloc (by assumption) _) bn) | (have Bn : Below w.heap.size w _ := bTrans (bAlloc (bDrew (by assumption)) _) bn) | (have Bn : Below w.heap.size w _ := bTrans (bDrew (bAlloc (by assumption) _)) bn) | (have Bn : Below w.heap.size w _ := bTrans (Below.refl _ _) bn) | (have Bn : Below w.heap.size w _ := bTrans (bDrew (Below.refl _ _)) bn) | (have Bn : Below w.heap.size w _ := bTrans (bAlloc (Below.refl _ _) _) bn) | (have Bn : Below w.heap.size w _ := bTrans (bAlloc (bAlloc (Below.refl _ _) _) _) bn))))
        go_ret
        exact ⟨rfl, by assumption⟩
    · have z : ((n1 : Int) != (n0 : Int)) = true := by simp; omega
      have h1' : n0 ≤ 100 := by omega
      clear b0 b1 w2 h2 h1
      go_enter Try.func5, Try.ntmps5
      go_wp2_with (first
      | (go_at_call 6; refine (lives_any _).mono ?_; rintro e wn ⟨rfl, bn⟩; (first | (have gn := kept_hid bn (by assumption)) | (have gn := new_hid bn) | skip); (first | (have Bn : Below w.heap.size w _ := bTrans (by assumption) bn) | (have Bn : Below w.heap.size w _ := bTrans (bDrew (by assumption)) bn) | (have Bn : Below w.heap.size w _ := bTrans (bDrewN _ (by assumption)) bn) | (have Bn : Below w.heap.size w _ := bTrans (bAlloc (by assumption) _) bn) | (have Bn : Below w.heap.size w _ := bTrans (bAlloc (bDrew (by assumption)) _) bn) | (have Bn : Below w.heap.size w _ := bTrans (bDrew (bAlloc (by assumption) _)) bn) | (have Bn : Below w.heap.size w _ := bTrans (Below.refl _ _) bn) | (have Bn : Below w.heap.size w _ := bTrans (bDrew (Below.refl _ _)) bn) | (have Bn : Below w.heap.size w _ := bTrans (bAlloc (Below.refl _ _) _) bn) | (have Bn : Below w.heap.size w _ := bTrans (bAlloc (bAlloc (Below.refl _ _) _) _) bn))))
      go_ret
      exact ⟨rfl, by assumption⟩

/-! The row's step, by the frame. -/
theorem own : ownKnob Try.prog.godebug = none := by kernel_rfl
theorem laidOut : laidOutB Try.prog = true := by kernel_rfl
set_option maxRecDepth 100000 in
theorem lifted (os : Os) (started : os.Started) (H : Type) (enc : TypeId × Value → H) :
    ReturnsInHanded {} Try.checked os 5 .any (Rows.schedBehindSpec.pre6 enc Try.prog Try.f5 Rows.schedBehindRow.domain false) (Rows.schedBehindSpec.post enc Try.prog Try.f5 false true false false) := by
  refine returnsInHanded_of_change_sized (C := Try.checked) own started (by kernel_rfl) Try.func5
    (ChangeSpec.witness6 (enc := enc) (C := Try.checked) false ⟨#[], #[.slice none 0 0, .slice none 0 0, .int .u64 0], []⟩ 8 (by kernel_rfl) (by kernel_rfl) (by kernel_rfl) (by kernel_rfl)) ?_
  intro W base args ds gs before hval0 hW _ hsz0 _
  have hsz : (DataW.weightsEach Try.prog (Try.f5.params.toList ++ Rows.schedBehindSpec.plain.varTypes Try.prog) (ds ++ gs)).all (· ≤ reachBytes) = true := hsz0
  have hval : ∀ (j : Nat) t v, Try.f5.params[j]? = some t → args[j]? = some v → Value.okWide Try.prog W .any base t v := hval0
  have hW' := hW
  obtain ⟨p, q, hA0, hV, rfl, hfz, hnd⟩ := hW
  have hA : DataW.TrodAll enc Try.prog W 0 (fun _ => true) true Try.f5.params.toList args.toList ds p := hA0
  rw [Try.params5] at hA hval hsz
  obtain ⟨v0, vs0, d0, ds0, p0, q0, hargs, rfl, rfl, h0, r0⟩ := trodAll_cons hA
  obtain ⟨v1, vs1, d1, ds1, p1, q1, rfl, rfl, rfl, h1, r1⟩ := trodAll_cons r0
  obtain ⟨v2, vs2, d2, ds2, p2, q2, rfl, rfl, rfl, h2, r2⟩ := trodAll_cons r1
  obtain ⟨rfl, rfl, rfl⟩ := trodAll_nil r2
  obtain rfl : args = #[v0, v1, v2] := by cases args; simp_all
  obtain ⟨rfl, rfl⟩ := trodVars_none hV
  obtain ⟨A0, n0, c0, rfl⟩ := okWide_slice Try.underlying22 (hval 0 22 v0 rfl rfl)
  have k0 := h0
  have lt0 : ∀ x ∈ p0, x.block < W.heap.size := by obtain ⟨m, hm⟩ := k0; exact DataW.trod_lt m _ _ _ hm
  obtain ⟨P0, E0, D0, b0⟩ := plans_arg h0
  obtain ⟨A1, n1, c1, rfl⟩ := okWide_slice Try.underlying23 (hval 1 23 v1 rfl rfl)
  have k1 := h1
  have lt1 : ∀ x ∈ p1, x.block < W.heap.size := by obtain ⟨m, hm⟩ := k1; exact DataW.trod_lt m _ _ _ hm
  obtain ⟨N1, b1⟩ := ticks_arg h1
  obtain ⟨a2, rfl, rfl, rfl, w2⟩ := open_int Try.underlying24 (hval 2 24 v2 rfl rfl) h2
  clear hA0 hval0 hsz0
  refine (walk A0 n0 c0 P0 E0 D0 A1 n1 c1 N1 a2 W b0 b1 w2).mono fun e W' ⟨he, bel⟩ => ?_
  subst he
  exact ⟨_, rfl, _, _, _, [], _, [], hW', trodAll_mk1 (shut_bool Try.underlying4 _), (trodAll_cons_mk (Below.trod laidOut (by kernel_rfl) (of_decide_eq_true (by kernel_rfl)) k0 bel lt0) (trodAll_cons_mk (Below.trod laidOut (by kernel_rfl) (of_decide_eq_true (by kernel_rfl)) k1 bel lt1) (trodAll_cons_mk (shut_int Try.underlying24 w2) trodAll_mk0))), rfl, bel.frame _, fun h => by cases h⟩

/-- The statement. -/
theorem proved : Rows.SchedBehindSaid :=
  OpenClaim.holds_of_wide 5 Try.f5 rfl rfl rfl rfl rfl rfl rfl ⟨rfl, rfl, rfl, rfl, rfl⟩ rfl rfl rfl rfl rfl (by kernel_rfl) Try.func5 (by kernel_rfl)
    (of_decide_eq_true (by kernel_rfl)) (by unfold Func.isWrapper; first | (rw [if_pos (by decide +kernel)]; kernel_rfl) | (rw [if_neg (by decide +kernel)]; exact ⟨rfl, rfl⟩))
    (fun os started H enc _ => lifted os started H enc)
end Go.Proofs.Ytekehomeicfadaa.schedBehind
