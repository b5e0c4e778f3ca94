
/- Which pools are open, what is refused and told, of which market is asked, and when the next one may be open, is the document's: for every configuration, every list of quotes, every pool, tick, span, price and score the law returns true. No condition. -/
import Derived.Test.YtgaeelhbdgpobaaBlackM
import Derived.Deep.RegionHeld3
namespace Go.Proofs.Ytgaeelhbdgpobaa.blackTells
open Go.ChangeShapes Go.WideShapes Go.ChangeAt Go.RowKit Go.Deep
open Mem Arr Lst Rec Black
set_option linter.unusedVariables false
attribute [local go_sem ↓] exec_cfg Go.wp_at_zero Go.wp_at_succ
attribute [local go_sem] run_cfg

theorem infoQ : (Try.prog.info? 34).map (·.size) = some 3 := by kernel_rfl
theorem zeroOne : (#[.int .i64 0, .int .i64 0, .int .u64 0] : Array Value).all (·.oneCell') = true := by simp [Value.oneCell']
theorem reads_later {w w' : World} {A : Option Addr} {n : Nat} {f : Nat → Value} (h : Reads w w.heap.size A n f) (hb : Below w.heap.size w w') : Reads w' w'.heap.size A n f := Recs.later h hb
set_option maxRecDepth 100000 in
set_option maxHeartbeats 4000000 in
theorem walk (cf : Cfg) (M : Nat → Bool) (A : Option Addr) (n c : Nat) (P S U : Nat → Int) (pool now span price score : Int) (spot : Bool) (w : World) (hM : Pools w w.heap.size cf.pA cf.pN M ∧ cf.pN ≤ 9223372036854775807) (h : QuoteArg w A n c P S U) (h2 : (Lit.int .i64 pool).wf = true) (h3 : (Lit.int .u64 now).wf = true) (h4 : (Lit.int .u64 span).wf = true) (h5 : (Lit.int .i64 price).wf = true) (h6 : (Lit.int .i64 score).wf = true) :
    Calls Try.prog 3 #[cf.val, .slice A n c, .int .i64 pool, .int .u64 now, .int .u64 span, .int .i64 price, .int .i64 score, .bool spot] w fun e w' => e = .returned (.bool true) ∧ Below w.heap.size w w' := by
  obtain ⟨n0, n1⟩ := bounds_u64 h3
  obtain ⟨s0, s1⟩ := bounds_u64 h4
  have hc := h.cap
  have hle := h.le
  obtain ⟨HP, hp⟩ := hM
  have HP := Lib.hid HP
  clear h2 h3 h4 h5 h6
  have KB : (w.alloc (.cells cf.cells 27)).heap[w.heap.size]? = some (.cells cf.cells 27 (0, 0)) := heap_alloc_new _ _
  have f0 := cf.f0
  by_cases hpn : 200 < cf.pN
  · go_enter Try.func3, Try.ntmps3
    go_wp2_with fail
    refine (lives_any _).mono ?_
    rintro e w9 ⟨rfl, b9⟩
    go_wp2
    go_ret
    exact ⟨rfl, bTrans (bAlloc (Below.refl _ _) _) b9⟩
  by_cases hn : 200 < n
  · go_enter Try.func3, Try.ntmps3
    go_wp2_with fail
    refine (lives_any _).mono ?_
    rintro e w9 ⟨rfl, b9⟩
    go_wp2
    go_ret
    exact ⟨rfl, bTrans (bAlloc (Below.refl _ _) _) b9⟩
  have HN := Lib.hid h.none_
  have B0 : Below w.heap.size w (w.alloc (.cells cf.cells 27)) := bAlloc (Below.refl _ _) _
  have HA := Lib.hid (Recs.later h.quotes B0)
  have HP := Lib.hid (HP.out.later B0)
  have HB0 := Lib.hid B0
  clear h B0
  obtain ⟨i0, hi, hz0, hz1, hz2⟩ := info_parts infoQuote
  go_enter Try.func3, Try.ntmps3
  go_wp2_with (at_builtin; refine Row.append_rows rfl _ _ 28 rfl (w.alloc (.cells cf.cells 27)).heap.size 34 i0 (.agg #[.int .i64 0, .int .i64 0, .int .u64 0]) 3 24 (by omega) Try.underlying28 hi hz0 hz1 hz2 rfl _ 0 (quoteV P S U) (by rfl) (Row.own_nil _ _ _ _ _) (w.alloc (.cells cf.cells 27)).heap.size A n c (quoteV P S U) rfl HA.out (fun _ _ _ _ => quote_one _ _ _ _ _) HN.out (by unfold maxLen; omega) (by omega) (Nat.le_refl _) ?_; intro v1 w1 own1 grow1)
  have b1 := Row.below_grown (Below.refl _ _) (Row.own_nil _ _ 34 3 (quoteV P S U)) grow1
  clear grow1 hi hz0 hz1 hz2
  have own1 := own1.congr (U := quoteV P S U) (by omega) (fun i j _ _ => by rw [if_neg (by omega)]; rfl)
  rw [Nat.zero_add] at own1
  obtain ⟨A1, c1, rfl, l1, m1, z1, -⟩ := own1.shape
  have HO := Lib.hid (Row.Own.recs own1)
  have HZ : Hid (A1 = none → c1 = 0) := Lib.hid (fun e => (z1 e).2)
  clear own1 z1
  have HA := Lib.hid (Recs.later HA.out b1)
  have HP := Lib.hid (HP.out.later b1)
  have KB := Lib.hid (kept_box b1 KB)
  have HB := Lib.hid (bTrans HB0.out b1)
  clear b1 HB0
  go_wp2_with fail
  refine (refuse_own A1 n c1 P S U pool now span w1 HO.out HZ.out (by omega) n0 s0).mono ?_
  rintro e w2 ⟨v2, rfl, own2, b2⟩
  obtain ⟨A2, c2, rfl, l2, m2, -, z2⟩ := own2.shape
  have T2 := th_of own2
  have Q2 := Lib.hid (Row.Own.recs own2)
  have Z2 := Lib.hid z2
  clear z2 own2
  go_wp2_with fail
  refine (tell_own A1 n c1 P S U pool price score w2 (Recs.later HO.out b2) HZ.out (by omega)).mono ?_
  rintro e w3 ⟨v3, rfl, own3, b3⟩
  obtain ⟨A3, c3, rfl, l3, m3, -, z3⟩ := own3.shape
  have T3 := th_of own3
  have Q3 := Lib.hid (Row.Own.recs own3)
  have Z3 := Lib.hid z3
  clear z3 own3
  have T2 := th_later T2 (fun g e => by obtain ⟨g', e1, _, e2⟩ := Z2.out _ e; injection e1 with e1; subst e1; exact e2) b3
  have B13 := bTrans b2 b3
  go_wp2_with fail
  refine (refRefuse_own A n c P S U pool now span w3 (Recs.later HA.out B13) HN.out (by omega) n0 s0).mono ?_
  rintro e w4 ⟨v4, rfl, own4, b4⟩
  obtain ⟨A4, c4, rfl, l4, m4, -, -⟩ := own4.shape
  go_wp2_with fail
  refine (quotes_same A2 n c2 P S _ A4 c4 w4 (Recs.later Q2.out (bTrans b3 b4)) (Row.Own.recs own4) (by omega)).mono ?_
  rintro e w5 ⟨rfl, b5⟩
  clear own4
  have B15 := bTrans B13 (bTrans b4 b5)
  go_wp2_with fail
  refine (refTell_own A n c P S U pool price score w5 (Recs.later HA.out B15) HN.out (by omega)).mono ?_
  rintro e w6 ⟨v6, rfl, own6, b6⟩
  obtain ⟨A6, c6, rfl, l6, m6, -, -⟩ := own6.shape
  go_wp2_with fail
  refine (quotes_same A3 n c3 _ _ U A6 c6 w6 (Recs.later Q3.out (bTrans (bTrans b4 b5) b6)) (Row.Own.recs own6) (by omega)).mono ?_
  rintro e w7 ⟨rfl, b7⟩
  clear own6
  have B37 := bTrans (bTrans b4 b5) (bTrans b6 b7)
  have B17 := bTrans B13 B37
  have lt2 : ∀ g, A2 = some ⟨g, 0, none⟩ → g < w3.heap.size := fun g e => by obtain ⟨g', e1, _, e2⟩ := Z2.out _ e; injection e1 with e1; subst e1; have := b3.size; omega
  have lt3 : ∀ g, A3 = some ⟨g, 0, none⟩ → g < w3.heap.size := fun g e => by obtain ⟨g', e1, _, e2⟩ := Z3.out _ e; injection e1 with e1; subst e1; exact e2
  have T2 := th_later T2 lt2 B37
  have T3 := th_later T3 lt3 B37
  have G2 : Hid (∀ a, A2 = some a → ∃ g, a = ⟨g, 0, none⟩ ∧ w1.heap.size ≤ g) := Lib.hid (fun a e => by obtain ⟨g, e1, e2, _⟩ := Z2.out a e; exact ⟨g, e1, e2⟩)
  have G3 : Hid (∀ a, A3 = some a → ∃ g, a = ⟨g, 0, none⟩ ∧ w1.heap.size ≤ g) := Lib.hid (fun a e => by obtain ⟨g, e1, e2, _⟩ := Z3.out a e; exact ⟨g, e1, by have := b2.size; omega⟩)
  have N2 : Hid (0 < n → ∃ g, A2 = some ⟨g, 0, none⟩) := Lib.hid (fun h0 => by obtain ⟨b, off, e⟩ := quotes_at Q2.out h0; obtain ⟨g, e1, _⟩ := G2.out _ e; exact ⟨g, e.trans (by rw [e1])⟩)
  have N3 : Hid (0 < n → ∃ g, A3 = some ⟨g, 0, none⟩) := Lib.hid (fun h0 => by obtain ⟨b, off, e⟩ := quotes_at Q3.out h0; obtain ⟨g, e1, _⟩ := G3.out _ e; exact ⟨g, e.trans (by rw [e1])⟩)
  have X2 := Lib.hid T2
  have X3 := Lib.hid T3
  have XB := Lib.hid B17
  clear T2 T3 B17 B37 b7 b6 b5 b4 b3 b2 B13 B15 Q2 Q3 Z2 Z3 lt2 lt3
  go_wp2_with fail
  go_loopw [20] (fun i wr => ∃ k : Nat, k ≤ n ∧ i = .int .i64 k ∧ Th wr A2 n ∧ Th wr A3 n ∧ Below w1.heap.size w1 wr) (fun i _ => n - (intOf i).toNat)
  case atStart => exact ⟨0, by omega, rfl, X2.out, X3.out, XB.out⟩
  case round =>
    obtain ⟨k, hk, rfl, t2, t3, hb⟩ := hrel
    have t2 := Lib.hid t2
    have t3 := Lib.hid t3
    by_cases hlt : k < n
    · obtain ⟨g2, rfl⟩ := N2.out (by omega)
      obtain ⟨_, e1, hg2⟩ := G2.out _ rfl
      injection e1 with e1
      subst e1
      have TT := Lib.hid (th_at t2.out hlt)
      go_wp2_with (refine wpList_store_mid rfl _ _ _ rfl g2 (k * 3) #[.int .i64 0, .int .i64 0, .int .u64 0] rfl rfl TT.out (infoQ.trans rfl) zeroOne ?_)
      go_roundw
      case rel => exact ⟨k + 1, by omega, by go_num, th_set t2.out _ _ _, th_set t3.out _ _ _, below_cells hb hg2 _ _⟩
      case measure => simp [intOf]; omega
    · obtain ⟨wo, rfl⟩ : ∃ wo : World, wo = wr := ⟨_, rfl⟩
      clear t2
      go_wp2_with fail
      go_loopw [21] (fun i wr => ∃ k : Nat, k ≤ n ∧ i = .int .i64 k ∧ Th wr A3 n ∧ Below w1.heap.size w1 wr) (fun i _ => n - (intOf i).toNat)
      case atStart => exact ⟨0, by omega, rfl, t3.out, hb⟩
      case round =>
        clear t3 hb
        obtain ⟨k', hk', rfl, t3, hb⟩ := hrel
        have t3 := Lib.hid t3
        by_cases hlt' : k' < n
        · obtain ⟨g3, rfl⟩ := N3.out (by omega)
          obtain ⟨_, e1, hg3⟩ := G3.out _ rfl
          injection e1 with e1
          subst e1
          have TT := Lib.hid (th_at t3.out hlt')
          go_wp2_with (refine wpList_store_mid rfl _ _ _ rfl g3 (k' * 3) #[.int .i64 0, .int .i64 0, .int .u64 0] rfl rfl TT.out (infoQ.trans rfl) zeroOne ?_)
          go_roundw
          case rel => exact ⟨k' + 1, by omega, by go_num, th_set t3.out _ _ _, below_cells hb hg3 _ _⟩
          case measure => simp [intOf]; omega
        · have HL : (opens n cf.pN P U M spot now).length ≤ 200 := by
            have := sel_len (pickB n P U M spot now) (min cf.pN n)
            unfold opens; omega
          have HLl : (opens n cf.pN P U M spot now).length ≤ 17592186044415 := by omega
          have KB := Lib.hid (kept_box hb KB.out)
          have HO := Lib.hid (Recs.later HO.out hb)
          have HA := Lib.hid (Recs.later HA.out hb)
          have HP := Lib.hid (HP.out.later hb)
          have HB := Lib.hid (bTrans HB.out hb)
          clear t3 hb X2 X3 XB N2 N3 G2 G3
          go_wp2_with (first | (refine load_cfg rfl _ rfl _ rfl cf _ _ KB.out ?_))
          refine (class_any cf A1 n c1 P S U M spot now wr HO.out HP.out (by omega)).mono ?_
          rintro e w4 ⟨rfl, b4⟩
          have KB := Lib.hid (kept_box b4 KB.out)
          go_wp2_with (first | (refine load_cfg rfl _ rfl _ rfl cf _ _ KB.out ?_))
          refine (refClass_any cf A n c P S U M spot now w4 (Recs.later HA.out b4) (HP.out.later b4) (by omega)).mono ?_
          rintro e w5 ⟨rfl, b5⟩
          have b45 := bTrans b4 b5
          go_wp2_with fail
          refine (next_any A1 n c1 P S U now w5 (Recs.later HO.out b45) (by omega)).mono ?_
          rintro e w6 ⟨rfl, b6⟩
          have b46 := bTrans b45 b6
          go_wp2_with fail
          refine (refNext_any A n c P S U now w6 (Recs.later HA.out b46) (by omega)).mono ?_
          rintro e w7 ⟨rfl, b7⟩
          have b47 := bTrans b46 b7
          have KB := Lib.hid (kept_box (bTrans b5 (bTrans b6 b7)) KB.out)
          have HO := Lib.hid (Recs.later HO.out b47)
          have HA := Lib.hid (Recs.later HA.out b47)
          have HP := Lib.hid (HP.out.later b47)
          have HB := Lib.hid (bTrans HB.out b47)
          clear b4 b5 b6 b7 b45 b46 b47
          have S0 : RecOK w7 w.heap.size 20 ∧ recIn w7 w.heap.size = cf.cells := rec_of KB.out rfl
          generalize classV n cf.pN P U M cf.fallback spot now = cv
          generalize nx U now n = nv
          cases ho : openB n P U pool now
          all_goals
            have HS := Lib.hid ho
            clear ho
            go_wp2_with fail
            go_region_held3 (fun w' => (RecOK w' w.heap.size 20 ∧ recIn w' w.heap.size = cf.cells) ∧ Below w7.heap.size w7 w') (first | exact ⟨rec_kept Bn S0, Bn⟩ | exact ⟨S0, Below.refl _ _⟩ | exact ⟨rec_drew S0, bDrew (Below.refl _ _)⟩) (first
              | (go_at_call 9; refine (quotes_same A1 n c1 P S U A c _ (Recs.later HO.out (by first | assumption | exact bDrew (Below.refl _ _) | exact Below.refl _ _ | exact bDrewN _ (Below.refl _ _))) (Recs.later HA.out (by first | assumption | exact bDrew (Below.refl _ _) | exact Below.refl _ _ | exact bDrewN _ (Below.refl _ _))) (by omega)).mono ?_; rintro e wn ⟨rfl, bn⟩; have Bn : Below w7.heap.size w7 wn := bTrans (by first | assumption | exact bDrew (Below.refl _ _) | exact Below.refl _ _ | exact bDrewN _ (Below.refl _ _)) bn)
              | (go_at_call 16; refine (open_is A1 n c1 P S U pool now _ _ (Recs.later HO.out (by first | assumption | exact bDrew (Below.refl _ _) | exact Below.refl _ _ | exact bDrewN _ (Below.refl _ _))) (by omega) HS).mono ?_; rintro e wn ⟨rfl, rfl⟩)
              | (go_at_call 17; refine (refOpen_is A n c P S U pool now _ _ (Recs.later HA.out (by first | assumption | exact bDrew (Below.refl _ _) | exact Below.refl _ _ | exact bDrewN _ (Below.refl _ _))) (by omega) HS).mono ?_; rintro e wn ⟨rfl, rfl⟩)
              | (go_at_call 19; refine (opens_any cf A1 n c1 P S U M spot now _ (Recs.later HO.out (by first | assumption | exact bDrew (Below.refl _ _) | exact Below.refl _ _ | exact bDrewN _ (Below.refl _ _))) (HP.out.later (by first | assumption | exact bDrew (Below.refl _ _) | exact Below.refl _ _ | exact bDrewN _ (Below.refl _ _))) (by omega)).mono ?_; rintro e wn ⟨v, rfl, own, bn⟩; have Bn : Below w7.heap.size w7 wn := bTrans (by first | assumption | exact bDrew (Below.refl _ _) | exact Below.refl _ _ | exact bDrewN _ (Below.refl _ _)) bn; obtain ⟨A8, c8, rfl, r8, -⟩ := Own.reads' own; clear own)
              | (go_at_call 20; refine (refOpens_any cf A n c P S U M spot now _ (Recs.later HA.out (by first | assumption | exact bDrew (Below.refl _ _) | exact Below.refl _ _ | exact bDrewN _ (Below.refl _ _))) (HP.out.later (by first | assumption | exact bDrew (Below.refl _ _) | exact Below.refl _ _ | exact bDrewN _ (Below.refl _ _))) (by omega)).mono ?_; rintro e wn ⟨v, rfl, own, bn⟩; have Bn : Below w7.heap.size w7 wn := bTrans (by first | assumption | exact bDrew (Below.refl _ _) | exact Below.refl _ _ | exact bDrewN _ (Below.refl _ _)) bn; obtain ⟨A8, c8, rfl, r8, -⟩ := Own.reads' own; clear own)
              | (go_at_call 18; refine (ints_same _ _ _ (opens n cf.pN P U M spot now) _ _ _ (by first | assumption | exact reads_later (by assumption) (by assumption)) (by first | assumption | exact reads_later (by assumption) (by assumption)) HLl).mono ?_; rintro e wn ⟨rfl, bn⟩; have Bn : Below w7.heap.size w7 wn := bTrans (by first | assumption | exact bDrew (Below.refl _ _) | exact Below.refl _ _ | exact bDrewN _ (Below.refl _ _)) bn)
              | (go_at_call 6; refine (lives_any _).mono ?_; rintro e wn ⟨rfl, bn⟩; have Bn : Below w7.heap.size w7 wn := bTrans (by first | assumption | exact bDrew (Below.refl _ _) | exact Below.refl _ _ | exact bDrewN _ (Below.refl _ _)) bn))
            all_goals
              go_wp2
              go_ret
              exact ⟨rfl, bTrans HB.out Bn⟩


/-! The row's step, by the frame. -/
theorem own : ownKnob Try.prog.godebug = none := by kernel_rfl
theorem laidOut : laidOutB Try.prog = true := by kernel_rfl
set_option maxRecDepth 100000 in
theorem lifted (os : Os) (started : os.Started) (H : Type) (enc : TypeId × Value → H) :
    ReturnsInHanded {} Try.checked os 3 .any (Rows.blackTellsSpec.pre6 enc Try.prog Try.f3 Rows.blackTellsRow.domain false) (Rows.blackTellsSpec.post enc Try.prog Try.f3 false true false false) := by
  refine returnsInHanded_of_change_sized (C := Try.checked) own started (by kernel_rfl) Try.func3
    (ChangeSpec.witness6 (enc := enc) (C := Try.checked) false ⟨#[], #[.agg #[.slice none 0 0, .int .u8 0, .int .i64 0, .bool false, .int .i64 0, .int .i64 0, .int .i64 0, .int .i64 0, .int .i64 0, .int .i64 0, .int .u64 0, .int .u64 0, .int .u64 0, .int .u64 0, .int .u64 0, .int .u64 0, .bool false, .int .i64 0, .slice none 0 0, .slice none 0 0], .slice none 0 0, .int .i64 0, .int .u64 0, .int .u64 0, .int .i64 0, .int .i64 0, .bool false], []⟩ 8 (by kernel_rfl) (by kernel_rfl) (by kernel_rfl) (by kernel_rfl)) ?_
  intro W base args ds gs before hval0 hW _ hsz0 _
  have hsz : (DataW.weightsEach Try.prog (Try.f3.params.toList ++ Rows.blackTellsSpec.plain.varTypes Try.prog) (ds ++ gs)).all (· ≤ reachBytes) = true := hsz0
  have hval : ∀ (j : Nat) t v, Try.f3.params[j]? = some t → args[j]? = some v → Value.okWide Try.prog W .any base t v := hval0
  have hW' := hW
  obtain ⟨p, q, hA0, hV, rfl, hfz, hnd⟩ := hW
  have hA : DataW.TrodAll enc Try.prog W 0 (fun _ => true) true Try.f3.params.toList args.toList ds p := hA0
  rw [Try.params3] at hA hval hsz
  obtain ⟨v0, vs0, d0, ds0, p0, q0, hargs, rfl, rfl, h0, r0⟩ := trodAll_cons hA
  obtain ⟨v1, vs1, d1, ds1, p1, q1, rfl, rfl, rfl, h1, r1⟩ := trodAll_cons r0
  obtain ⟨v2, vs2, d2, ds2, p2, q2, rfl, rfl, rfl, h2, r2⟩ := trodAll_cons r1
  obtain ⟨v3, vs3, d3, ds3, p3, q3, rfl, rfl, rfl, h3, r3⟩ := trodAll_cons r2
  obtain ⟨v4, vs4, d4, ds4, p4, q4, rfl, rfl, rfl, h4, r4⟩ := trodAll_cons r3
  obtain ⟨v5, vs5, d5, ds5, p5, q5, rfl, rfl, rfl, h5, r5⟩ := trodAll_cons r4
  obtain ⟨v6, vs6, d6, ds6, p6, q6, rfl, rfl, rfl, h6, r6⟩ := trodAll_cons r5
  obtain ⟨v7, vs7, d7, ds7, p7, q7, rfl, rfl, rfl, h7, r7⟩ := trodAll_cons r6
  obtain ⟨rfl, rfl, rfl⟩ := trodAll_nil r7
  obtain rfl : args = #[v0, v1, v2, v3, v4, v5, v6, v7] := by cases args; simp_all
  obtain ⟨rfl, rfl⟩ := trodVars_none hV
  have k0 := h0
  have lt0 : ∀ x ∈ p0, x.block < W.heap.size := by obtain ⟨m, hm⟩ := k0; exact DataW.trod_lt m _ _ _ hm
  obtain ⟨c0, M0, rfl, b0⟩ := cfg14_arg (hval 0 27 v0 rfl rfl) h0
  obtain ⟨A1, n1, c1, rfl⟩ := okWide_slice Try.underlying28 (hval 1 28 v1 rfl rfl)
  have k1 := h1
  have lt1 : ∀ x ∈ p1, x.block < W.heap.size := by obtain ⟨m, hm⟩ := k1; exact DataW.trod_lt m _ _ _ hm
  obtain ⟨P1, S1, U1, b1⟩ := quotes_arg h1
  obtain ⟨a2, rfl, rfl, rfl, w2⟩ := open_int Try.underlying3 (hval 2 3 v2 rfl rfl) h2
  obtain ⟨a3, rfl, rfl, rfl, w3⟩ := open_int Try.underlying23 (hval 3 23 v3 rfl rfl) h3
  obtain ⟨a4, rfl, rfl, rfl, w4⟩ := open_int Try.underlying23 (hval 4 23 v4 rfl rfl) h4
  obtain ⟨a5, rfl, rfl, rfl, w5⟩ := open_int Try.underlying2 (hval 5 2 v5 rfl rfl) h5
  obtain ⟨a6, rfl, rfl, rfl, w6⟩ := open_int Try.underlying2 (hval 6 2 v6 rfl rfl) h6
  obtain ⟨a7, rfl, rfl, rfl⟩ := open_bool Try.underlying4 (hval 7 4 v7 rfl rfl) h7
  clear hA0 hval0 hsz0
  refine (walk c0 M0 A1 n1 c1 P1 S1 U1 a2 a3 a4 a5 a6 a7 W b0 b1 w2 w3 w4 w5 w6).mono fun e W' ⟨he, bel⟩ => ?_
  subst he
  exact ⟨_, rfl, _, _, _, [], _, [], hW', trodAll_mk1 (shut_bool Try.underlying4 _), (trodAll_cons_mk (Below.trod laidOut (by kernel_rfl) (of_decide_eq_true (by kernel_rfl)) k0 bel lt0) (trodAll_cons_mk (Below.trod laidOut (by kernel_rfl) (of_decide_eq_true (by kernel_rfl)) k1 bel lt1) (trodAll_cons_mk (shut_int Try.underlying3 w2) (trodAll_cons_mk (shut_int Try.underlying23 w3) (trodAll_cons_mk (shut_int Try.underlying23 w4) (trodAll_cons_mk (shut_int Try.underlying2 w5) (trodAll_cons_mk (shut_int Try.underlying2 w6) (trodAll_cons_mk (shut_bool Try.underlying4 a7) trodAll_mk0)))))))), rfl, bel.frame _, fun h => by cases h⟩

/-- The statement. -/
theorem proved : Rows.BlackTellsSaid :=
  OpenClaim.holds_of_wide 3 Try.f3 rfl rfl rfl rfl rfl rfl rfl ⟨rfl, rfl, rfl, rfl, rfl⟩ rfl rfl rfl rfl rfl (by kernel_rfl) Try.func3 (by kernel_rfl)
    (of_decide_eq_true (by kernel_rfl)) (by unfold Func.isWrapper; first | (rw [if_pos (by decide +kernel)]; kernel_rfl) | (rw [if_neg (by decide +kernel)]; exact ⟨rfl, rfl⟩))
    (fun os started H enc _ => lifted os started H enc)
end Go.Proofs.Ytgaeelhbdgpobaa.blackTells
