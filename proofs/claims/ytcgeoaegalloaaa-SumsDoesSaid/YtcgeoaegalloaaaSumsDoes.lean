
/- What is found, added, set, dropped is what the document says; what is handed in stays: the law returns true. -/
import Derived.Test.YtcgeoaegalloaaaSdF
import Derived.Test.YtcgeoaegalloaaaSdG
import Derived.Test.YtcgeoaegalloaaaSumE
import Derived.Test.YtcgeoaegalloaaaArgI
namespace Go.Proofs.Ytcgeoaegalloaaa.sumsDoes
open Go.ChangeShapes Go.WideShapes Go.ChangeAt Go.RowKit
open Mem Arr Lst Rec Inst Grown Sums Opens ArgI Thg St0 Fnd Cat
set_option linter.unusedVariables false
set_option linter.unusedSimpArgs false
theorem insts_arg {H : Type} {enc : TypeId × Value → H} {w : World} {A : Option Addr} {n c : Nat} {d : DataW H} {p : List MemPlace} (h : DataW.Trod enc Try.prog w 0 (fun _ => true) true 22 (.slice A n c) d p) :
    ∃ L : Nat → Ins, Insts w w.heap.size A n L ∧ (∀ i, i < n → InsOk (L i)) ∧ (A = none → c = 0) ∧ n ≤ c ∧ c ≤ maxLen := insts_in ⟨d, p, h⟩
section
set_option maxHeartbeats 1000000 in
theorem great_any (A : Option Addr) (n c : Nat) (C : Option Addr) (m d : Nat) (w : World) : Calls Try.prog 6 #[.slice A n c, .slice C m d] w fun e w' => e = .returned (.bool (decide (5000 < n ∨ 5000 < m))) ∧ Below w.heap.size w w' := by
  by_cases h1 : 5000 < n
  · have HV : Hid (decide (5000 < n ∨ 5000 < m) = true) := Lib.hid (decide_eq_true (by omega))
    go_enter Try.func6, Try.ntmps6
    go_wp2
    go_ret
    exact ⟨ret_bool (by first | exact HV.out.symm | rfl | (simp; omega) | (rw [HV.out]; simp; omega)), Below.refl _ _⟩
  · by_cases h2 : 5000 < m
    · have HV : Hid (decide (5000 < n ∨ 5000 < m) = true) := Lib.hid (decide_eq_true (by omega))
      go_enter Try.func6, Try.ntmps6
      go_wp2
      go_ret
      exact ⟨ret_bool (by first | exact HV.out.symm | rfl | (simp; omega) | (rw [HV.out]; simp; omega)), Below.refl _ _⟩
    · have HV : Hid (decide (5000 < n ∨ 5000 < m) = false) := Lib.hid (decide_eq_false (by omega))
      go_enter Try.func6, Try.ntmps6
      go_wp2
      go_ret
      exact ⟨ret_bool (by first | exact HV.out.symm | rfl | (simp; omega) | (rw [HV.out]; simp; omega)), Below.refl _ _⟩
theorem great_is (A : Option Addr) (n c : Nat) (C : Option Addr) (m d : Nat) (v : Bool) (hv : decide (5000 < n ∨ 5000 < m) = v) (w : World) : Calls Try.prog 6 #[.slice A n c, .slice C m d] w fun e w' => e = .returned (.bool v) ∧ Below w.heap.size w w' := by
  have := great_any A n c C m d w; rw [hv] at this; exact this
end
attribute [local go_sem ↓] exec_ins Go.wp_at_zero Go.wp_at_succ
attribute [local go_sem ↓ high] run_eqIns run_neqIns run_guardIns
theorem not_of {A : Option Addr} {n c base B g : Nat} (h : ∀ a, A = some a → ∃ g', a = ⟨g', 0, none⟩ ∧ base ≤ g' ∧ g' < B) (hg : B ≤ g) : NotOf (.slice A n c) g := fun g' n' c' e => by
  injection e with e1
  obtain ⟨g2, e2, _, h2⟩ := h _ e1
  injection e2 with e3
  omega
set_option maxHeartbeats 8000000 in
set_option maxRecDepth 100000 in
theorem walk (A : Option Addr) (n c : Nat) (L : Nat → Ins) (x : Ins) (id : Int) (w : World) (b0 : Insts w w.heap.size A n L ∧ (∀ i, i < n → InsOk (L i)) ∧ (A = none → c = 0) ∧ n ≤ c ∧ c ≤ maxLen) (b1 : InsOk x) (w2 : (Lit.int .u64 id).wf = true) :
    Calls Try.prog 4 #[.slice A n c, x.val, .int .u64 id] w fun e w' => e = .returned (.bool true) ∧ Below w.heap.size w w' := by
  obtain ⟨iL, iK, i0, i1, i2⟩ := b0
  have hn : n ≤ 9223372036854775807 := by unfold maxLen at i2; omega
  have hc : c ≤ 9223372036854775807 := by unfold maxLen at i2; omega
  have H0 := heap_alloc_new w (.cells x.cells 36)
  have B0 := bAlloc (Below.refl _ w) (.cells x.cells 36)
  have HI := Lib.hid (fun p : Grown w => (show Insts p.w1 p.w1.heap.size A n L from iL.later p.below))
  have HZ := Lib.hid i0
  clear iL iK i0 w2 b1
  obtain ⟨io, ho, hz0, hz1, hz2⟩ := info_parts infoInst
  rcases hg : decide (5000 < n ∨ 5000 < 0) with _ | _
  · have G := Lib.hid (fun W => great_is A n c none 0 0 false hg W)
    have h5 : n ≤ 5000 := by have := of_decide_eq_false hg; omega
    clear hg
    go_enter Try.func4, Try.ntmps4
    go_wp2_with fail
    refine (G.out _).mono ?_
    rintro _ u ⟨rfl, bu⟩
    have BU := bTrans B0 bu
    have HX := kept_lt bu H0
    have IA := Lib.hid (HI.out ⟨u, BU⟩)
    have I0 := run_ins (range_row HX)
    clear bu G B0
    go_upto_region 5 with (at_builtin; refine Row.append_rows rfl _ _ 22 rfl u.heap.size 36 io Inst.none_.val 12 72 (by omega) Try.underlying22 ho hz0 hz1 hz2 rfl _ 0 (insV L) (by rfl) (Row.own_nil _ _ _ _ _) u.heap.size A n c (insV L) rfl IA.out (fun i j _ hj => insV_one L i j hj) HZ.out (by unfold maxLen; omega) (by omega) (Nat.le_refl _) ?_; intro v1 w1 own1 grow1)
    have b1 := Row.below_grown (Below.refl _ _) (Row.own_nil _ _ 36 12 (insV L)) grow1
    have own1 := own1.congr (U := insV L) (by omega) (fun i j _ _ => by rw [if_neg (by omega)]; rfl)
    rw [Nat.zero_add] at own1
    obtain ⟨P1, k1, rfl, l1, m1, z1, g1⟩ := own1.shape
    have hf : P1 = none ∨ ∃ b off, P1 = some ⟨b, off, none⟩ := by
      cases P1 with
      | none => exact .inl rfl
      | some a => obtain ⟨g, rfl, _⟩ := g1 a rfl; exact .inr ⟨g, 0, rfl⟩
    have hz : P1 = none → k1 = 0 := fun e => (z1 e).2
    have OI := Lib.hid (fun p : Grown w1 => (show Insts p.w1 p.w1.heap.size P1 n L from Recs.later own1.recs p.below))
    have BW := bTrans BU b1
    have HX0 := kept_lt b1 HX
    replace own1 := Lib.hid own1
    clear grow1 b1 BU HX H0 I0 IA z1 g1 hz0 hz1 hz2 ho
    have I0 := run_ins (range_row HX0)
    go_wp2_with fail
    refine (add_all P1 n k1 L x w1 (OI.out ⟨w1, (Below.refl _ _)⟩) hn hz l1 m1 hf).mono ?_
    rintro _ u1 ⟨va, ma, Va, ea, rfl, oa, ra, ha⟩
    obtain ⟨Aa, ca, rfl, la, xa, za, ga⟩ := oa.out.shape
    have Ja := Lib.hid (fun p : Grown u1 => (show Insts p.w1 p.w1.heap.size Aa ma Va from Recs.later oa.out.recs p.below))
    replace ga := Lib.hid ga
    clear za
    have HX1 := kept_lt ha HX0
    have D1 := bTrans (Below.refl _ _) ha
    have I1 := run_ins (range_row HX1)
    go_wp2_with fail
    refine (refAdd_all A n c L x u1 (HI.out ⟨u1, bTrans BW D1⟩) hn HZ.out).mono ?_
    rintro _ u2 ⟨vb, mb, Vb, eb, rfl, ob, rb, hb⟩
    obtain ⟨Ab, cb, rfl, lb, xb, zb, gb⟩ := ob.out.shape
    have Jb := Lib.hid (fun p : Grown u2 => (show Insts p.w1 p.w1.heap.size Ab mb Vb from Recs.later ob.out.recs p.below))
    replace gb := Lib.hid gb
    clear zb
    obtain ⟨e1, e2, e3⟩ := AddR.agree ra.out rb.out
    subst e1
    subst e2
    have Ea := Lib.hid e3
    have Ma := AddR.len ra.out
    clear e3
    have HX2 := kept_lt hb HX1
    have D2 := bTrans D1 hb
    have I2 := run_ins (range_row HX2)
    go_wp2_with fail
    refine (set_all P1 n k1 L x u2 (OI.out ⟨u2, D2⟩) hn hz).mono ?_
    rintro _ u3 ⟨vc, mc, Vc, ec, rfl, oc, rc, qc⟩
    obtain ⟨Ac, cc, rfl, lc, xc, zc, gc⟩ := oc.out.shape
    have Jc := Lib.hid (fun p : Grown u3 => (show Insts p.w1 p.w1.heap.size Ac mc Vc from Recs.later oc.out.recs p.below))
    replace gc := Lib.hid gc
    clear zc
    have HX3 := kept_lt qc HX2
    have D3 := bTrans D2 qc
    have I3 := run_ins (range_row HX3)
    go_wp2_with fail
    refine (refSet_all A n c L x u3 (HI.out ⟨u3, bTrans BW D3⟩) hn HZ.out).mono ?_
    rintro _ u4 ⟨vd, md, Vd, ed, rfl, od, rd, hd⟩
    obtain ⟨Ad, cd, rfl, ld, xd, zd, gd⟩ := od.out.shape
    have Jd := Lib.hid (fun p : Grown u4 => (show Insts p.w1 p.w1.heap.size Ad md Vd from Recs.later od.out.recs p.below))
    replace gd := Lib.hid gd
    clear zd
    obtain ⟨e1, e2, e3⟩ := SetR.agree rc.out rd.out
    subst e1
    subst e2
    have Ec := Lib.hid e3
    have Mc := SetR.len rc.out
    clear e3
    have HX4 := kept_lt hd HX3
    have D4 := bTrans D3 hd
    have I4 := run_ins (range_row HX4)
    go_wp2_with fail
    refine (drop_all P1 n k1 L id u4 (OI.out ⟨u4, D4⟩) hn l1 m1).mono ?_
    rintro _ u5 ⟨vm, mm, Vm, em, rfl, om, rm, hm⟩
    obtain ⟨Am, cm, rfl, lm, xm, zm, gm⟩ := om.out.shape
    have Jm := Lib.hid (fun p : Grown u5 => (show Insts p.w1 p.w1.heap.size Am mm Vm from Recs.later om.out.recs p.below))
    replace gm := Lib.hid gm
    clear zm
    have HX5 := kept_lt hm HX4
    have D5 := bTrans D4 hm
    have I5 := run_ins (range_row HX5)
    go_wp2_with fail
    refine (refDrop_all A n c L id u5 (HI.out ⟨u5, bTrans BW D5⟩) hn i1 hc).mono ?_
    rintro _ u6 ⟨vn, mn, Vn, en, rfl, on, rn, q6⟩
    obtain ⟨An, cn, rfl, ln, xn, zn, gn⟩ := on.out.shape
    have Jn := Lib.hid (fun p : Grown u6 => (show Insts p.w1 p.w1.heap.size An mn Vn from Recs.later on.out.recs p.below))
    replace gn := Lib.hid gn
    clear zn
    obtain ⟨e1, e2, e3⟩ := DropR.agree rm.out rn.out
    subst e1
    subst e2
    have Em := Lib.hid e3
    have Mm := DropR.len rm.out
    clear e3
    have HX6 := kept_lt q6 HX5
    have D6 := bTrans D5 q6
    go_wp2_with fail
    refine (find_any P1 n k1 L id u6 (OI.out ⟨u6, D6⟩) hn).mono ?_
    rintro _ u7 ⟨rfl, q7⟩
    have D7 := bTrans D6 q7
    go_wp2_with ((with_reducible refine Fnd.at_store 36 ?_); (refine store_ins rfl _ _ rfl (fndV L n id) _ _ rfl rfl rfl ?_))
    have H7 := heap_alloc_new u7 (.cells (fndV L n id).cells 36)
    have B7 := bAlloc (Below.refl _ u7) (.cells (fndV L n id).cells 36)
    have D8 := bTrans D7 B7
    refine (refFind_any A n c L id _ (HI.out ⟨_, bTrans BW D8⟩) hn).mono ?_
    rintro _ u8 ⟨rfl, q8⟩
    have H8 := kept_lt q8 H7
    have D9 := bTrans D8 q8
    have B9 := bTrans B7 q8
    have z8 : u7.heap.size < u8.heap.size := by have := q8.size; simp at this; omega
    clear H7 I0 I1 I2 I3 I4 I5
    have H9 := heap_alloc_new u8 (.cells (fndV L n id).cells 36)
    have H8' := kept_lt (bAlloc (Below.refl _ u8) (.cells (fndV L n id).cells 36)) H8
    go_wp2_with ((with_reducible refine Fnd.at_store 36 ?_); (refine store_ins rfl _ _ rfl (fndV L n id) _ _ rfl rfl rfl ?_))
    have G8 := bAlloc (Below.refl _ u8) (.cells (fndV L n id).cells 36)
    have G6 := bTrans q7 (bTrans B9 G8)
    have G5 := bTrans q6 G6
    have G4 := bTrans hm G5
    have G3 := bTrans hd G4
    have G2 := bTrans qc G3
    have G1 := bTrans hb G2
    have DW := bTrans D9 G8
    refine (same_yes Aa Ab ma ca cb Va Vb _ (Ja.out ⟨_, G1⟩) (Jb.out ⟨_, G2⟩) (by omega) Ea.out).mono ?_
    rintro _ v1 ⟨rfl, s1⟩
    have K1 := kept_lt s1 H8'
    have L1 := kept_lt s1 H9
    clear H8' H9
    go_wp2_with fail
    refine (same_yes Ac Ad mc cc cd Vc Vd _ (Jc.out ⟨_, bTrans G3 s1⟩) (Jd.out ⟨_, bTrans G4 s1⟩) (by omega) Ec.out).mono ?_
    rintro _ v2 ⟨rfl, s2⟩
    have K2 := kept_lt s2 K1
    have L2 := kept_lt s2 L1
    replace s2 := bTrans s1 s2
    clear K1 L1
    go_wp2_with fail
    refine (same_yes Am An mm cm cn Vm Vn _ (Jm.out ⟨_, bTrans G5 s2⟩) (Jn.out ⟨_, bTrans G6 s2⟩) (by omega) Em.out).mono ?_
    rintro _ v3 ⟨rfl, s3⟩
    have K3 := run_ins (range_row (kept_lt s3 K2))
    have L3 := run_ins (range_row (kept_lt s3 L2))
    replace s3 := bTrans s2 s3
    clear K2 L2 HX0 HX1 HX2 HX3 HX4 HX5 HX6
    go_wp2_with fail
    have DV := bTrans DW s3
    refine (spoil_any (.slice Aa ma ca) ma Va w1.heap.size v3 (Row.Own.later oa.out (bTrans G1 s3) (Nat.le_refl _)) (by omega)).mono ?_
    rintro _ y1 ⟨rfl, t1, n1⟩
    have T1 := t1.out w1 DV (Nat.le_refl _)
    have z12 : u1.heap.size ≤ u2.heap.size := hb.size
    have z23 : u2.heap.size ≤ u3.heap.size := qc.size
    have z34 : u3.heap.size ≤ u4.heap.size := hd.size
    have z01 : w1.heap.size ≤ u1.heap.size := ha.size
    have oc1 := own_else (Row.Own.later oc.out (bTrans G3 s3) (Nat.le_refl _)) (w' := y1) (fun g n' c' _ hg _ => n1.out g (not_of ga.out (by omega)))
    go_wp2_with fail
    refine (spoil_any (.slice Ac mc cc) mc Vc u2.heap.size y1 oc1 (by omega)).mono ?_
    rintro _ y2 ⟨rfl, t2, n2⟩
    have T2 := t2.out w1 T1 (by omega)
    have om1 := own_else (Row.Own.later om.out (bTrans G5 s3) (Nat.le_refl _)) (w' := y2) (fun g n' c' _ hg _ => (n2.out g (not_of gc.out (by omega))).trans (n1.out g (not_of ga.out (by omega))))
    go_wp2_with fail
    refine (spoil_any (.slice Am mm cm) mm Vm u4.heap.size y2 om1 (by omega)).mono ?_
    rintro _ y3 ⟨rfl, t3, n3⟩
    have T3 := t3.out w1 T2 (by omega)
    go_wp2_with fail
    refine (same_yes P1 A n k1 c L L y3 (OI.out ⟨y3, T3⟩) (HI.out ⟨y3, bTrans BW T3⟩) (by omega) (fun _ _ => rfl)).mono ?_
    rintro _ y4 ⟨rfl, r4⟩
    go_wp2_with fail
    refine (lives_any _).mono ?_
    rintro _ y5 ⟨rfl, r5⟩
    go_wp2
    go_ret
    exact ⟨rfl, bTrans (bTrans (bTrans BW T3) r4) r5⟩
  · have G := Lib.hid (fun W => great_is A n c none 0 0 true hg W)
    clear hg
    go_enter Try.func4, Try.ntmps4
    go_wp2_with fail
    refine (G.out _).mono ?_
    rintro _ u ⟨rfl, bu⟩
    go_wp2_with fail
    refine (lives_any _).mono ?_
    rintro _ u2 ⟨rfl, bu2⟩
    go_wp2
    go_ret
    exact ⟨rfl, bTrans (bTrans B0 bu) bu2⟩

/-! The row's step, by the frame. -/
theorem own : ownKnob Try.prog.godebug = none := by kernel_rfl
theorem laidOut : laidOutB Try.prog = true := by kernel_rfl
set_option maxRecDepth 100000 in
theorem lifted (os : Os) (started : os.Started) (H : Type) (enc : TypeId × Value → H) :
    ReturnsInHanded {} Try.checked os 4 .any (Rows.sumsDoesSpec.pre6 enc Try.prog Try.f4 Rows.sumsDoesRow.domain false) (Rows.sumsDoesSpec.post enc Try.prog Try.f4 false true false false) := by
  refine returnsInHanded_of_change_sized (C := Try.checked) own started (by kernel_rfl) Try.func4
    (ChangeSpec.witness6 (enc := enc) (C := Try.checked) false ⟨#[], #[.slice none 0 0, Inst.none_.val, .int .u64 0], []⟩ 8 (by kernel_rfl) (by kernel_rfl) (by kernel_rfl) (by kernel_rfl)) ?_
  intro W base args ds gs before hval0 hW _ hsz0 _
  have hsz : (DataW.weightsEach Try.prog (Try.f4.params.toList ++ Rows.sumsDoesSpec.plain.varTypes Try.prog) (ds ++ gs)).all (· ≤ reachBytes) = true := hsz0
  have hval : ∀ (j : Nat) t v, Try.f4.params[j]? = some t → args[j]? = some v → Value.okWide Try.prog W .any base t v := hval0
  have hW' := hW
  obtain ⟨p, q, hA0, hV, rfl, hfz, hnd⟩ := hW
  have hA : DataW.TrodAll enc Try.prog W 0 (fun _ => true) true Try.f4.params.toList args.toList ds p := hA0
  rw [Try.params4] at hA hval hsz
  obtain ⟨v0, vs0, d0, ds0, p0, q0, hargs, rfl, rfl, h0, r0⟩ := trodAll_cons hA
  obtain ⟨v1, vs1, d1, ds1, p1, q1, rfl, rfl, rfl, h1, r1⟩ := trodAll_cons r0
  obtain ⟨v2, vs2, d2, ds2, p2, q2, rfl, rfl, rfl, h2, r2⟩ := trodAll_cons r1
  obtain ⟨rfl, rfl, rfl⟩ := trodAll_nil r2
  obtain rfl : args = #[v0, v1, v2] := by cases args; simp_all
  obtain ⟨rfl, rfl⟩ := trodVars_none hV
  obtain ⟨A0, n0, c0, rfl⟩ := okWide_slice Try.underlying22 (hval 0 22 v0 rfl rfl)
  have k0 := h0
  have lt0 : ∀ x ∈ p0, x.block < W.heap.size := by obtain ⟨m, hm⟩ := k0; exact DataW.trod_lt m _ _ _ hm
  obtain ⟨L0, b0⟩ := insts_arg h0
  have k1 := h1
  have lt1 : ∀ x ∈ p1, x.block < W.heap.size := by obtain ⟨m, hm⟩ := k1; exact DataW.trod_lt m _ _ _ hm
  obtain ⟨x1, rfl, b1⟩ := ins_arg (hval 1 36 v1 rfl rfl) h1
  obtain ⟨a2, rfl, rfl, rfl, w2⟩ := open_int Try.underlying34 (hval 2 34 v2 rfl rfl) h2
  clear hA0 hval0 hsz0
  refine (walk A0 n0 c0 L0 x1 a2 W b0 b1 w2).mono fun e W' ⟨he, bel⟩ => ?_
  subst he
  exact ⟨_, rfl, _, _, _, [], _, [], hW', trodAll_mk1 (shut_bool Try.underlying4 _), (trodAll_cons_mk (Below.trod laidOut (by kernel_rfl) (of_decide_eq_true (by kernel_rfl)) k0 bel lt0) (trodAll_cons_mk (Below.trod laidOut (by kernel_rfl) (of_decide_eq_true (by kernel_rfl)) k1 bel lt1) (trodAll_cons_mk (shut_int Try.underlying34 w2) trodAll_mk0))), rfl, bel.frame _, fun h => by cases h⟩

/-- The statement. -/
theorem proved : Rows.SumsDoesSaid :=
  OpenClaim.holds_of_wide 4 Try.f4 rfl rfl rfl rfl rfl rfl rfl ⟨rfl, rfl, rfl, rfl, rfl⟩ rfl rfl rfl rfl rfl (by kernel_rfl) Try.func4 (by kernel_rfl)
    (of_decide_eq_true (by kernel_rfl)) (by unfold Func.isWrapper; first | (rw [if_pos (by decide +kernel)]; kernel_rfl) | (rw [if_neg (by decide +kernel)]; exact ⟨rfl, rfl⟩))
    (fun os started H enc _ => lifted os started H enc)
end Go.Proofs.Ytcgeoaegalloaaa.sumsDoes
