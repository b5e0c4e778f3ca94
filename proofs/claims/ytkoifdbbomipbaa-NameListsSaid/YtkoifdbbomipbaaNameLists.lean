
/- Whether all of a list are names, and the list, sorted, with each one's place, are what the document says; what is handed in stays: for every list of texts the law returns true. No condition on the input. -/
import Derived.Test.YtkoifdbbomipbaaNameV
namespace Go.Proofs.Ytkoifdbbomipbaa.nameLists
open Go.ChangeShapes Go.WideShapes Go.ChangeAt Go.RowKit
open Mem Arr Lst Name Ins Srt Mrg
set_option linter.unusedVariables false
set_option linter.unusedSimpArgs false

theorem all_is (A : Option Addr) (n c : Nat) (S : Nat → ByteArray) (v : Int) (hv : Hid (allE S n = v)) (w : World) (h : Reads w w.heap.size A n (textV S)) (hn : n ≤ 8796093022208) :
    Calls Try.prog 14 #[.slice A n c] w fun e w' => e = .returned (.int .i64 v) ∧ Below w.heap.size w w' := by
  have := all_any A n c S w h hn; rw [hv.out] at this; exact this
theorem refAll_is (A : Option Addr) (n c : Nat) (S : Nat → ByteArray) (v : Int) (hv : Hid (allE S n = v)) (w : World) (h : Reads w w.heap.size A n (textV S)) (hn : n ≤ 8796093022208) :
    Calls Try.prog 17 #[.slice A n c] w fun e w' => e = .returned (.int .i64 v) ∧ Below w.heap.size w w' := by
  have := refAll_any A n c S w h hn; rw [hv.out] at this; exact this
set_option maxHeartbeats 2000000 in
theorem walk (A : Option Addr) (n c : Nat) (S : Nat → ByteArray) (w : World) (h : TextArg w A n c S) :
    Calls Try.prog 4 #[.slice A n c] w fun e w' => e = .returned (.bool true) ∧ Below w.heap.size w w' := by
  by_cases h60 : 60 < n
  · clear h
    go_enter Try.func4, Try.ntmps4
    go_wp2_with fail
    refine (lives_any _).mono ?_
    rintro e w1 ⟨rfl, b1⟩
    go_wp2
    go_ret
    exact ⟨rfl, b1⟩
  · have hn : n ≤ 60 := by omega
    have HR := Lib.hid h.rd
    have HS := Lib.hid h.sz
    have HNL := Lib.hid h.nil_
    obtain ⟨is, his, zs0, zs1, zs2⟩ := info_parts infoStr
    clear h h60
    obtain ⟨V, hV⟩ : ∃ V, allE S n = V := ⟨_, rfl⟩
    have HV := Lib.hid hV
    clear hV
    go_enter Try.func4, Try.ntmps4
    go_wp2_with (at_builtin; refine append_list rfl _ _ 26 rfl w.heap.size 9 is (.string emptyT) 16 Try.underlying26 his zs0 zs1 zs2 rfl _ 0 (textV S) (by rfl) (own_nil _ _ _ _) w.heap.size A n c (textV S) rfl HR.out (fun _ _ => rfl) HNL.out (by unfold maxLen; omega) (by omega) (Nat.le_refl _) ?_; intro v1 w1 own1 gr1)
    have b1 := Lst.below_grown (Below.refl _ _) (own_nil w w.heap.size 9 (textV S)) gr1
    have o1 : Lst.Own w1 w.heap.size 9 v1 n (textV S) := by
      have := own1
      rw [Nat.zero_add] at this
      exact Own.congr this (fun i _ => by simp)
    clear own1 gr1
    obtain ⟨A1, c1, rfl, -, -, -, -⟩ := o1.shape
    have RO := Lib.hid o1.reads
    have B1 := Lib.hid b1
    clear o1 b1
    go_wp2_with fail
    refine (sortN_any A1 n c1 S w1 RO.out (by omega)).mono ?_
    rintro e w2 ⟨va, vp, P, rfl, oa, op, b2, pl⟩
    have PL := Lib.hid pl
    have OA := Lib.hid oa
    have OP := Lib.hid op
    have B2 := Lib.hid b2
    clear oa op b2 pl
    go_wp2_with fail
    refine (refSort_any A n c S w2 (HR.out.later (bTrans B1.out B2.out)) hn HS.out).mono ?_
    rintro e w3 ⟨vb, vq, Q, rfl, ob, oq, b3, ql⟩
    have EQ : Hid (∀ i, i < n → P i = Q i) := Lib.hid (PL.out.one ql)
    have OB := Lib.hid ob
    have OQ := Lib.hid oq
    have B3 := Lib.hid b3
    clear ob oq b3 ql
    go_wp2_with fail
    refine (all_is A1 n c1 S V HV w3 ((RO.out.later B2.out).later B3.out) (by omega)).mono ?_
    rintro e w4 ⟨rfl, b4⟩
    have B4 := Lib.hid b4
    clear b4
    obtain ⟨Aa, ca, rfl, ra, -, -, -⟩ := OA.out.reads'
    obtain ⟨Ap, cp, rfl, rp, -, -, -⟩ := OP.out.reads'
    obtain ⟨Ab, cb, rfl, rb, -, -, -⟩ := OB.out.reads'
    obtain ⟨Aq, cq, rfl, rq, -, -, -⟩ := OQ.out.reads'
    have RA := Lib.hid ((ra.later B3.out).later B4.out)
    have RP := Lib.hid ((rp.later B3.out).later B4.out)
    have RB := Lib.hid (rb.later B4.out)
    have RQ := Lib.hid (rq.later B4.out)
    clear ra rp rb rq
    go_wp2_with fail
    refine (texts_true _ _ _ (fun i => .string (S (P i))) (fun i => S (P i)) (fun _ => rfl) _ _ _ _ _ RA.out RB.out rfl (fun i hi => by rw [EQ.out i hi]) (by omega)).mono ?_
    rintro e w5 ⟨rfl, b5⟩
    have B5 := Lib.hid b5
    clear b5
    go_wp2_with fail
    refine (ints_true _ _ _ (intsV P) P (fun _ => rfl) _ _ _ _ _ (RP.out.later B5.out) (RQ.out.later B5.out) rfl (fun i hi => by unfold intsV; rw [EQ.out i hi]) (by omega)).mono ?_
    rintro e w6 ⟨rfl, b6⟩
    have B6 := Lib.hid b6
    clear b6
    have K3 := Lib.hid (bTrans B1.out B2.out)
    have K4 := Lib.hid (bTrans K3.out B3.out)
    have K5 := Lib.hid (bTrans K4.out B4.out)
    have K6 := Lib.hid (bTrans K5.out B5.out)
    have K7 := Lib.hid (bTrans K6.out B6.out)
    go_wp2_with fail
    refine (refAll_is A n c S V HV w6 (HR.out.later K7.out) (by omega)).mono ?_
    rintro e w7 ⟨rfl, b7⟩
    have B7 := Lib.hid b7
    clear b7
    have K8 := Lib.hid (bTrans K7.out B7.out)
    have M7 := Lib.hid (bTrans (bTrans (bTrans (bTrans B3.out B4.out) B5.out) B6.out) B7.out)
    have OA7 := Lib.hid (OA.out.later M7.out (Nat.le_refl _))
    have RO2 := Lib.hid (RO.out.later B2.out)
    have zV : (V == V) = true := by simp
    by_cases h0 : n = 0
    · have z0 : n ≤ 0 := by omega
      have z1 : ¬ 0 < n := by omega
      clear h0
      go_wp2
      go_loopw [10] (fun iv wr => iv = .int .i64 0 ∧ wr = w7) (fun _ _ => 0)
      case atStart => exact ⟨rfl, rfl⟩
      case round =>
        obtain ⟨rfl, rfl⟩ := hrel
        have OWR := Lib.hid (RO2.out.later M7.out)
        have RL := Lib.hid (HR.out.later K8.out)
        have BB := K8
        go_wp2_with fail
        refine (texts_true _ _ _ (textV S) S (fun _ => rfl) _ _ _ _ _ OWR.out RL.out rfl (fun _ _ => rfl) (by omega)).mono ?_
        rintro e w8 ⟨rfl, b8⟩
        go_wp2_with fail
        refine (lives_any _).mono ?_
        rintro e w9 ⟨rfl, b9⟩
        go_wp2
        go_ret
        exact ⟨rfl, bTrans (bTrans BB.out b8) b9⟩
    · obtain ⟨ga, ca2, ea, ga1, ga2, -, -⟩ := OA.out.form (by omega)
      injection ea with ea _ eac
      subst ea eac
      have hga : ga < w7.heap.size := Nat.lt_of_lt_of_le ga2 M7.out.size
      have hwg : w.heap.size ≤ ga := Nat.le_trans B1.out.size ga1
      go_wp2
      go_loopw [10] (fun iv wr => ∃ (k : Nat) (f : Nat → Value), k ≤ n ∧ iv = .int .i64 k ∧ Hid (Lst.Own wr w1.heap.size 9 (.slice (some ⟨ga, 0, none⟩) n ca) n f) ∧ Hid (Chg ga w7 wr)) (fun iv _ => n - (intOf iv).toNat)
      case atStart => exact ⟨0, _, by omega, rfl, OA7, Lib.hid (Chg.refl _ _)⟩
      case round =>
        obtain ⟨k, f, hk, rfl, OK, CK⟩ := hrel
        by_cases hlt : k < n
        · have ck : wr.cell? ⟨ga, k, none⟩ = some (f k) := OK.out.cell hlt
          have fk : wr.frozen? ⟨ga, k, none⟩ = false := OK.out.free _
          have ON := Lib.hid (OK.out.stored (k := k) (.string ⟨#[111, 116, 104, 101, 114]⟩))
          have CN := Lib.hid (CK.out.set k (.string ⟨#[111, 116, 104, 101, 114]⟩))
          clear OK CK
          go_wp2
          go_roundw
          case rel => exact ⟨k + 1, _, by omega, by go_num, ON, CN⟩
          case measure => simp [intOf]; omega
        · have KB : Below w.heap.size w wr := CK.out.below K8.out hwg
          have OWR : Hid (Reads wr wr.heap.size A1 n (textV S)) := Lib.hid (Recs.more (CK.out.reads (Recs.more (Recs.below RO.out (bTrans B2.out M7.out)) ga1)) (by rw [CK.out.size]; omega))
          have RL : Hid (Reads wr wr.heap.size A n (textV S)) := Lib.hid (HR.out.later KB)
          have BB := Lib.hid KB
          clear OK CK KB
          go_wp2_with fail
          refine (texts_true _ _ _ (textV S) S (fun _ => rfl) _ _ _ _ _ OWR.out RL.out rfl (fun _ _ => rfl) (by omega)).mono ?_
          rintro e w8 ⟨rfl, b8⟩
          go_wp2_with fail
          refine (lives_any _).mono ?_
          rintro e w9 ⟨rfl, b9⟩
          go_wp2
          go_ret
          exact ⟨rfl, bTrans (bTrans BB.out b8) b9⟩

/-! The row's step, by the frame. -/
theorem own : ownKnob Try.prog.godebug = none := by kernel_rfl
theorem laidOut : laidOutB Try.prog = true := by kernel_rfl
set_option maxRecDepth 100000 in
theorem lifted (os : Os) (started : os.Started) (H : Type) (enc : TypeId × Value → H) :
    ReturnsInHanded {} Try.checked os 4 .any (Rows.nameListsSpec.pre6 enc Try.prog Try.f4 Rows.nameListsRow.domain false) (Rows.nameListsSpec.post enc Try.prog Try.f4 false true false false) := by
  refine returnsInHanded_of_change_sized (C := Try.checked) own started (by kernel_rfl) Try.func4
    (ChangeSpec.witness6 (enc := enc) (C := Try.checked) false ⟨#[], #[.slice none 0 0], []⟩ 8 (by kernel_rfl) (by kernel_rfl) (by kernel_rfl) (by kernel_rfl)) ?_
  intro W base args ds gs before hval0 hW _ hsz0 _
  have hsz : (DataW.weightsEach Try.prog (Try.f4.params.toList ++ Rows.nameListsSpec.plain.varTypes Try.prog) (ds ++ gs)).all (· ≤ reachBytes) = true := hsz0
  have hval : ∀ (j : Nat) t v, Try.f4.params[j]? = some t → args[j]? = some v → Value.okWide Try.prog W .any base t v := hval0
  have hW' := hW
  obtain ⟨p, q, hA0, hV, rfl, hfz, hnd⟩ := hW
  have hA : DataW.TrodAll enc Try.prog W 0 (fun _ => true) true Try.f4.params.toList args.toList ds p := hA0
  rw [Try.params4] at hA hval hsz
  obtain ⟨v0, vs0, d0, ds0, p0, q0, hargs, rfl, rfl, h0, r0⟩ := trodAll_cons hA
  obtain ⟨rfl, rfl, rfl⟩ := trodAll_nil r0
  obtain rfl : args = #[v0] := by cases args; simp_all
  obtain ⟨rfl, rfl⟩ := trodVars_none hV
  obtain ⟨A0, n0, c0, rfl⟩ := okWide_slice Try.underlying26 (hval 0 26 v0 rfl rfl)
  have k0 := h0
  have lt0 : ∀ x ∈ p0, x.block < W.heap.size := by obtain ⟨m, hm⟩ := k0; exact DataW.trod_lt m _ _ _ hm
  obtain ⟨S0, b0⟩ := texts_arg Try.underlying26 Try.underlying9 (by kernel_rfl) (by kernel_rfl) hsz (j := 0) rfl rfl h0
  clear hA0 hval0 hsz0
  refine (walk A0 n0 c0 S0 W b0).mono fun e W' ⟨he, bel⟩ => ?_
  subst he
  exact ⟨_, rfl, _, _, _, [], _, [], hW', trodAll_mk1 (shut_bool Try.underlying4 _), (trodAll_cons_mk (Below.trod laidOut (by kernel_rfl) (of_decide_eq_true (by kernel_rfl)) k0 bel lt0) trodAll_mk0), rfl, bel.frame _, fun h => by cases h⟩

/-- The statement. -/
theorem proved : Rows.NameListsSaid :=
  OpenClaim.holds_of_wide 4 Try.f4 rfl rfl rfl rfl rfl rfl rfl ⟨rfl, rfl, rfl, rfl, rfl⟩ rfl rfl rfl rfl rfl (by kernel_rfl) Try.func4 (by kernel_rfl)
    (of_decide_eq_true (by kernel_rfl)) (by unfold Func.isWrapper; first | (rw [if_pos (by decide +kernel)]; kernel_rfl) | (rw [if_neg (by decide +kernel)]; exact ⟨rfl, rfl⟩))
    (fun os started H enc _ => lifted os started H enc)
end Go.Proofs.Ytkoifdbbomipbaa.nameLists
