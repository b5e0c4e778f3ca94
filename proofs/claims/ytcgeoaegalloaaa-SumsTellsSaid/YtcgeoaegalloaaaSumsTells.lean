
/- Whether any instances may be, what is there of a version, and the load of pools are what the document says: for every list of instances and of open requests, every version and every count of pools the law returns true. No condition. -/
import Derived.Test.YtcgeoaegalloaaaLdC
import Derived.Test.YtcgeoaegalloaaaSumE
import Derived.Test.YtcgeoaegalloaaaArgI
namespace Go.Proofs.Ytcgeoaegalloaaa.sumsTells
open Go.ChangeShapes Go.WideShapes Go.ChangeAt Go.RowKit
open Mem Arr Lst Rec Inst Grown Sums Opens ArgI Thg St0
set_option linter.unusedVariables false
theorem insts_arg {H : Type} {enc : TypeId × Value → H} {w : World} {A : Option Addr} {n c : Nat} {d : DataW H} {p : List MemPlace} (h : DataW.Trod enc Try.prog w 0 (fun _ => true) true 22 (.slice A n c) d p) :
    ∃ L : Nat → Ins, Insts w w.heap.size A n L ∧ (∀ i, i < n → InsOk (L i)) ∧ (A = none → c = 0) ∧ n ≤ c ∧ c ≤ maxLen := insts_in ⟨d, p, h⟩
theorem opns_arg {H : Type} {enc : TypeId × Value → H} {w : World} {A : Option Addr} {n c : Nat} {d : DataW H} {p : List MemPlace} (h : DataW.Trod enc Try.prog w 0 (fun _ => true) true 23 (.slice A n c) d p) :
    ∃ O : Nat → Opn, Opns w w.heap.size A n O ∧ (∀ i, i < n → OpnOk (O i)) ∧ (A = none → c = 0) ∧ n ≤ c ∧ c ≤ maxLen := opns_in ⟨d, p, h⟩
section
set_option maxHeartbeats 1000000 in
theorem great_any (A : Option Addr) (n c : Nat) (C : Option Addr) (m d : Nat) (w : World) : Calls Try.prog 6 #[.slice A n c, .slice C m d] w fun e w' => e = .returned (.bool (decide (5000 < n ∨ 5000 < m))) ∧ Below w.heap.size w w' := by
  by_cases h1 : 5000 < n
  · have HV : Hid (decide (5000 < n ∨ 5000 < m) = true) := Lib.hid (decide_eq_true (by omega))
    go_enter Try.func6, Try.ntmps6
    go_wp2
    go_ret
    exact ⟨ret_bool (by first | exact HV.out.symm | rfl | (simp; omega) | (rw [HV.out]; simp; omega)), Below.refl _ _⟩
  · by_cases h2 : 5000 < m
    · have HV : Hid (decide (5000 < n ∨ 5000 < m) = true) := Lib.hid (decide_eq_true (by omega))
      go_enter Try.func6, Try.ntmps6
      go_wp2
      go_ret
      exact ⟨ret_bool (by first | exact HV.out.symm | rfl | (simp; omega) | (rw [HV.out]; simp; omega)), Below.refl _ _⟩
    · have HV : Hid (decide (5000 < n ∨ 5000 < m) = false) := Lib.hid (decide_eq_false (by omega))
      go_enter Try.func6, Try.ntmps6
      go_wp2
      go_ret
      exact ⟨ret_bool (by first | exact HV.out.symm | rfl | (simp; omega) | (rw [HV.out]; simp; omega)), Below.refl _ _⟩
theorem great_is (A : Option Addr) (n c : Nat) (C : Option Addr) (m d : Nat) (v : Bool) (hv : decide (5000 < n ∨ 5000 < m) = v) (w : World) : Calls Try.prog 6 #[.slice A n c, .slice C m d] w fun e w' => e = .returned (.bool v) ∧ Below w.heap.size w w' := by
  have := great_any A n c C m d w; rw [hv] at this; exact this
theorem refOf_is (A : Option Addr) (n c : Nat) (L : Nat → Ins) (C : Option Addr) (m d : Nat) (O : Nat → Opn) (v : Int) (s : Sm) (hs : ofS v L n O m = s) (w : World) (h : Insts w w.heap.size A n L) (hO : Opns w w.heap.size C m O) (hn : n ≤ 9223372036854775807) (hmax : m ≤ 9223372036854775807) :
    Calls Try.prog 13 #[.slice A n c, .slice C m d, .int .u32 v] w fun e w' => e = .returned (.agg #[.int .i64 s.live, .int .i64 s.liveD, .int .i64 s.com, .int .i64 s.comD, .int .i64 s.warm, .int .i64 s.many]) ∧ Below w.heap.size w w' := by
  have := refOf_any A n c L C m d O v w h hO hn hmax
  rw [hs] at this; exact this
theorem Ints.at {w : World} {A : Option Addr} {n : Nat} {f : Nat → Int} (h : Ints w A n f) (hn : 0 < n) : ∃ g, A = some ⟨g, 0, none⟩ ∧ g < w.heap.size ∧ ∀ i, i < n → w.cell? ⟨g, i, none⟩ = some (.int .i64 (f i)) := h.2 hn
set_option maxHeartbeats 8000000 in
set_option maxRecDepth 100000 in
theorem walk (A0 : Option Addr) (n0 c0 : Nat) (L : Nat → Ins) (A1 : Option Addr) (n1 c1 : Nat) (O : Nat → Opn) (v P : Int) (w : World) (b0 : Insts w w.heap.size A0 n0 L ∧ (∀ i, i < n0 → InsOk (L i)) ∧ (A0 = none → c0 = 0) ∧ n0 ≤ c0 ∧ c0 ≤ maxLen) (b1 : Opns w w.heap.size A1 n1 O ∧ (∀ i, i < n1 → OpnOk (O i)) ∧ (A1 = none → c1 = 0) ∧ n1 ≤ c1 ∧ c1 ≤ maxLen) (w2 : (Lit.int .u32 v).wf = true) (w3 : (Lit.int .i64 P).wf = true) :
    Calls Try.prog 3 #[.slice A0 n0 c0, .slice A1 n1 c1, .int .u32 v, .int .i64 P] w fun e w' => e = .returned (.bool true) ∧ Below w.heap.size w w' := by
  obtain ⟨iL, iK, i0, i1, i2⟩ := b0
  obtain ⟨oL, oK, o0, o1, o2⟩ := b1
  have hn : n0 ≤ 9223372036854775807 := by unfold maxLen at i2; omega
  have hn2 : n1 ≤ 9223372036854775807 := by unfold maxLen at o2; omega
  have HI := Lib.hid (fun p : Grown w => (show Insts p.w1 p.w1.heap.size A0 n0 L from iL.later p.below))
  have HO := Lib.hid (fun p : Grown w => (show Opns p.w1 p.w1.heap.size A1 n1 O from oL.later p.below))
  clear iL oL iK oK i0 i1 i2 o0 o1 o2
  rcases hg : decide (5000 < n0 ∨ 5000 < n1) with _ | _
  · have G := Lib.hid (fun p : Grown w => great_is A0 n0 c0 A1 n1 c1 false hg p.w1)
    clear hg
    obtain ⟨s, hs⟩ : ∃ s, ofS v L n0 O n1 = s := ⟨_, rfl⟩
    obtain ⟨s0, hs0⟩ : ∃ s, ofS 0 L n0 O n1 = s := ⟨_, rfl⟩
    obtain ⟨b, hb⟩ : ∃ b, mayB L n0 = b := ⟨_, rfl⟩
    have L1 := Lib.hid (fun p : Grown w => load_any A0 n0 c0 L A1 n1 c1 O v P p.w1 (HI.out p) (HO.out p) hn hn2)
    have L2 := Lib.hid (fun p : Grown w => refLoad_any A0 n0 c0 L A1 n1 c1 O v P p.w1 (HI.out p) (HO.out p) hn hn2)
    have hN : loadN L n0 P ≤ 64 := by
      unfold loadN
      split
      · rename_i h
        unfold loadOk at h
        have := of_decide_eq_true (Bool.and_eq_true_iff.1 h).2
        omega
      · omega
    obtain ⟨N, hNe⟩ : ∃ N, loadN L n0 P = N := ⟨_, rfl⟩
    obtain ⟨f, hf⟩ : ∃ f, loadL v P (thsL L n0 O n1) = f := ⟨_, rfl⟩
    rw [hNe, hf] at L1 L2
    rw [hNe] at hN
    replace hs := Lib.hid hs
    replace hs0 := Lib.hid hs0
    replace hb := Lib.hid hb
    clear hNe hf
    go_enter Try.func3, Try.ntmps3
    go_wp2_with fail
    refine (call_grown (p := (⟨w, Below.refl _ _⟩ : Grown w)) (G.out _)).mono ?_
    rintro _ _ ⟨rfl, p, rfl⟩
    go_wp2_with fail
    refine (L1.out p).mono ?_
    rintro _ u1 ⟨⟨P1, k1, rfl, T1⟩, bu1⟩
    obtain ⟨p1, rfl⟩ : ∃ q : Grown w, u1 = q.w1 := ⟨⟨u1, bTrans p.below bu1⟩, rfl⟩
    clear bu1
    go_wp2_with fail
    refine (L2.out p1).mono ?_
    rintro _ u2 ⟨⟨P2, k2, rfl, T2⟩, bu2⟩
    obtain ⟨p2, rfl⟩ : ∃ q : Grown w, u2 = q.w1 := ⟨⟨u2, bTrans p1.below bu2⟩, rfl⟩
    have T1' := Ints.kept T1 bu2
    clear bu2 T1
    obtain ⟨X, hX⟩ : ∃ X, X = p2.w1 := ⟨_, rfl⟩
    rw [← hX] at T1' T2
    obtain ⟨q0, hq0⟩ : ∃ q : Grown X, p2.w1 = q.w1 := ⟨⟨p2.w1, by rw [hX]; exact Below.refl _ _⟩, rfl⟩
    have UP := Lib.hid (fun q : Grown X => (⟨⟨q.w1, bTrans p2.below (by rw [← hX]; exact q.below)⟩, rfl⟩ : ∃ q' : Grown w, q.w1 = q'.w1))
    rw [hq0]
    have T3 := Lib.hid (fun q : Grown X => Ints.kept T1' q.below)
    have T4 := Lib.hid (fun q : Grown X => Ints.kept T2 q.below)
    clear hq0 T1' T2
    replace hX := Lib.hid hX
    have XI : ∀ p : Grown X, Insts p.w1 p.w1.heap.size A0 n0 L := fun p => by obtain ⟨q', e⟩ := UP.out p; rw [e]; exact HI.out q'
    have XO : ∀ p : Grown X, Opns p.w1 p.w1.heap.size A1 n1 O := fun p => by obtain ⟨q', e⟩ := UP.out p; rw [e]; exact HO.out q'
    have M1 := Lib.hid (fun p : Grown X => Thg.mayL_is A0 n0 c0 L b hb.out p.w1 (XI p) hn)
    have M2 := Lib.hid (fun p : Grown X => refMayL_is A0 n0 c0 L b hb.out p.w1 (XI p) hn)
    have S1 := Lib.hid (fun p : Grown X => of_is A0 n0 c0 L A1 n1 c1 O v s hs.out p.w1 (XI p) (XO p) hn hn2)
    have S2 := Lib.hid (fun p : Grown X => refOf_is A0 n0 c0 L A1 n1 c1 O v s hs.out p.w1 (XI p) (XO p) hn hn2)
    have S3 := Lib.hid (fun p : Grown X => of_is A0 n0 c0 L A1 n1 c1 O 0 s0 hs0.out p.w1 (XI p) (XO p) hn hn2)
    have S4 := Lib.hid (fun p : Grown X => refOf_is A0 n0 c0 L A1 n1 c1 O 0 s0 hs0.out p.w1 (XI p) (XO p) hn hn2)
    clear XI XO HI HO hs hs0 hb
    have CL := Lib.hid (fun q : Grown X => lives_any q.w1)
    clear L1 L2 G
    go_wp2_with fail
    refine (call_grown (p := q0) (M1.out q0)).mono ?_
    rintro _ _ ⟨rfl, q1, rfl⟩
    go_wp2_with fail
    refine (call_grown (p := q1) (M2.out q1)).mono ?_
    rintro _ _ ⟨rfl, q2, rfl⟩
    go_wp2_with fail
    refine (call_grown (p := q2) (S1.out q2)).mono ?_
    rintro _ _ ⟨rfl, q3, rfl⟩
    go_wp2_with fail
    refine (call_grown (p := q3) (S2.out q3)).mono ?_
    rintro _ _ ⟨rfl, q4, rfl⟩
    go_wp2_with fail
    refine (call_grown (p := q4) (S3.out q4)).mono ?_
    rintro _ _ ⟨rfl, q5, rfl⟩
    go_wp2_with fail
    refine (call_grown (p := q5) (S4.out q5)).mono ?_
    rintro _ _ ⟨rfl, q6, rfl⟩
    go_wp2_with fail
    clear M1 M2 S1 S2 S3 S4 UP
    go_loopw [11] (fun i wr => ∃ k : Nat, k ≤ N ∧ i = .int .i64 k ∧ ∃ q : Grown X, wr = q.w1) (fun i _ => N - (intOf i).toNat)
    case atStart => exact ⟨0, by omega, rfl, q6, rfl⟩
    case round =>
      obtain ⟨k, hk, rfl, q, rfl⟩ := hrel
      by_cases hlt : k < N
      · obtain ⟨g1, rfl, hg1, hc1⟩ := Ints.at (T3.out q) (by omega)
        obtain ⟨g2, rfl, hg2, hc2⟩ := Ints.at (T4.out q) (by omega)
        have e1 := hc1 k hlt
        have e2 := hc2 k hlt
        have n0 : decide ((k : Int) < 0) = false := decide_eq_false (by omega)
        have n1 : decide (k < N) = true := decide_eq_true hlt
        clear hc1 hc2
        go_upto_region 10 with fail
        go_region
        go_wp2
        go_roundw
        case rel => exact ⟨k + 1, by omega, by go_num, ⟨q.w1.drew, bDrew q.below⟩, rfl⟩
        case measure => simp [intOf]; omega
      · go_wp2_with fail
        refine (call_grown (p := q) (CL.out q)).mono ?_
        rintro _ _ ⟨rfl, q7, rfl⟩
        go_wp2
        go_ret
        exact ⟨rfl, bTrans p2.below (by rw [← hX.out]; exact q7.below)⟩
  · have G := Lib.hid (fun p : Grown w => great_is A0 n0 c0 A1 n1 c1 true hg p.w1)
    clear hg
    go_enter Try.func3, Try.ntmps3
    go_wp2_with fail
    refine (call_grown (p := (⟨w, Below.refl _ _⟩ : Grown w)) (G.out _)).mono ?_
    rintro _ _ ⟨rfl, p, rfl⟩
    go_wp2_with fail
    refine (call_grown (p := p) (lives_any _)).mono ?_
    rintro _ _ ⟨rfl, p, rfl⟩
    go_wp2
    go_ret
    exact ⟨rfl, p.below⟩
end

/-! The row's step, by the frame. -/
theorem own : ownKnob Try.prog.godebug = none := by kernel_rfl
theorem laidOut : laidOutB Try.prog = true := by kernel_rfl
set_option maxRecDepth 100000 in
theorem lifted (os : Os) (started : os.Started) (H : Type) (enc : TypeId × Value → H) :
    ReturnsInHanded {} Try.checked os 3 .any (Rows.sumsTellsSpec.pre6 enc Try.prog Try.f3 Rows.sumsTellsRow.domain false) (Rows.sumsTellsSpec.post enc Try.prog Try.f3 false true false false) := by
  refine returnsInHanded_of_change_sized (C := Try.checked) own started (by kernel_rfl) Try.func3
    (ChangeSpec.witness6 (enc := enc) (C := Try.checked) false ⟨#[], #[.slice none 0 0, .slice none 0 0, .int .u32 0, .int .i64 0], []⟩ 8 (by kernel_rfl) (by kernel_rfl) (by kernel_rfl) (by kernel_rfl)) ?_
  intro W base args ds gs before hval0 hW _ hsz0 _
  have hsz : (DataW.weightsEach Try.prog (Try.f3.params.toList ++ Rows.sumsTellsSpec.plain.varTypes Try.prog) (ds ++ gs)).all (· ≤ reachBytes) = true := hsz0
  have hval : ∀ (j : Nat) t v, Try.f3.params[j]? = some t → args[j]? = some v → Value.okWide Try.prog W .any base t v := hval0
  have hW' := hW
  obtain ⟨p, q, hA0, hV, rfl, hfz, hnd⟩ := hW
  have hA : DataW.TrodAll enc Try.prog W 0 (fun _ => true) true Try.f3.params.toList args.toList ds p := hA0
  rw [Try.params3] at hA hval hsz
  obtain ⟨v0, vs0, d0, ds0, p0, q0, hargs, rfl, rfl, h0, r0⟩ := trodAll_cons hA
  obtain ⟨v1, vs1, d1, ds1, p1, q1, rfl, rfl, rfl, h1, r1⟩ := trodAll_cons r0
  obtain ⟨v2, vs2, d2, ds2, p2, q2, rfl, rfl, rfl, h2, r2⟩ := trodAll_cons r1
  obtain ⟨v3, vs3, d3, ds3, p3, q3, rfl, rfl, rfl, h3, r3⟩ := trodAll_cons r2
  obtain ⟨rfl, rfl, rfl⟩ := trodAll_nil r3
  obtain rfl : args = #[v0, v1, v2, v3] := by cases args; simp_all
  obtain ⟨rfl, rfl⟩ := trodVars_none hV
  obtain ⟨A0, n0, c0, rfl⟩ := okWide_slice Try.underlying22 (hval 0 22 v0 rfl rfl)
  have k0 := h0
  have lt0 : ∀ x ∈ p0, x.block < W.heap.size := by obtain ⟨m, hm⟩ := k0; exact DataW.trod_lt m _ _ _ hm
  obtain ⟨L0, b0⟩ := insts_arg h0
  obtain ⟨A1, n1, c1, rfl⟩ := okWide_slice Try.underlying23 (hval 1 23 v1 rfl rfl)
  have k1 := h1
  have lt1 : ∀ x ∈ p1, x.block < W.heap.size := by obtain ⟨m, hm⟩ := k1; exact DataW.trod_lt m _ _ _ hm
  obtain ⟨O1, b1⟩ := opns_arg h1
  obtain ⟨a2, rfl, rfl, rfl, w2⟩ := open_int Try.underlying24 (hval 2 24 v2 rfl rfl) h2
  obtain ⟨a3, rfl, rfl, rfl, w3⟩ := open_int Try.underlying3 (hval 3 3 v3 rfl rfl) h3
  clear hA0 hval0 hsz0
  refine (walk A0 n0 c0 L0 A1 n1 c1 O1 a2 a3 W b0 b1 w2 w3).mono fun e W' ⟨he, bel⟩ => ?_
  subst he
  exact ⟨_, rfl, _, _, _, [], _, [], hW', trodAll_mk1 (shut_bool Try.underlying4 _), (trodAll_cons_mk (Below.trod laidOut (by kernel_rfl) (of_decide_eq_true (by kernel_rfl)) k0 bel lt0) (trodAll_cons_mk (Below.trod laidOut (by kernel_rfl) (of_decide_eq_true (by kernel_rfl)) k1 bel lt1) (trodAll_cons_mk (shut_int Try.underlying24 w2) (trodAll_cons_mk (shut_int Try.underlying3 w3) trodAll_mk0)))), rfl, bel.frame _, fun h => by cases h⟩

/-- The statement. -/
theorem proved : Rows.SumsTellsSaid :=
  OpenClaim.holds_of_wide 3 Try.f3 rfl rfl rfl rfl rfl rfl rfl ⟨rfl, rfl, rfl, rfl, rfl⟩ rfl rfl rfl rfl rfl (by kernel_rfl) Try.func3 (by kernel_rfl)
    (of_decide_eq_true (by kernel_rfl)) (by unfold Func.isWrapper; first | (rw [if_pos (by decide +kernel)]; kernel_rfl) | (rw [if_neg (by decide +kernel)]; exact ⟨rfl, rfl⟩))
    (fun os started H enc _ => lifted os started H enc)
end Go.Proofs.Ytcgeoaegalloaaa.sumsTells
