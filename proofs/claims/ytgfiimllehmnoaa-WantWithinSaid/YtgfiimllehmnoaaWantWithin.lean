
/- What is wanted is from Min to Max, if it is another one than ahead, or Min and Max hold ahead; ahead of the end of a cooldown no metric changes it: for every configuration, capacity, ticks and list of metrics the law returns true. No condition. -/
import Derived.Test.YtgfiimllehmnoaaWantL
import Derived.Test.YtgfiimllehmnoaaList
import Derived.Test.YtgfiimllehmnoaaStairS
namespace Go.Proofs.Ytgfiimllehmnoaa.wantWithin
open Go.ChangeShapes Go.WideShapes Go.ChangeAt Go.RowKit
open NumM NumA Mem Arr Rec Want Lst
set_option linter.unusedVariables false

/-- what a walk is told of the configuration that came in -/
def Cfg24 (w : World) (c : Cfg) : Prop := CfgOk c ∧ (∃ F G, Stair.BandArg w c.bA c.bN c.bC F G) ∧ c.lN ≤ 9223372036854775807
theorem cfg24_arg {H : Type} {enc : TypeId × Value → H} {w : World} {r : Reach} {b0 : Nat} {v : Value} {d : DataW H} {p : List MemPlace} (hv : Value.okWide Try.prog w r b0 27 v) (h : DataW.Trod enc Try.prog w 0 (fun _ => true) true 27 v d p) : ∃ c : Cfg, v = c.val ∧ Cfg24 w c := by
  obtain ⟨c, e, hok, _, ⟨_, _, hb⟩, ⟨_, _, hl⟩⟩ := cfg_arg hv h
  refine ⟨c, e, hok, Stair.bands_arg hb, ?_⟩
  obtain ⟨_, _, _, h1, h2, _⟩ := recs_of (sz := 3) Try.underlying25 (by kernel_rfl) (by omega) hl
  unfold maxLen at h2; omega
theorem longs_arg {H : Type} {enc : TypeId × Value → H} {w : World} {A : Option Addr} {n c : Nat} {d : DataW H} {p : List MemPlace} (h : DataW.Trod enc Try.prog w 0 (fun _ => true) true 28 (.slice A n c) d p) : ∃ f : Nat → Int, IntsArg .i64 8 w A n c f :=
  ints_arg Try.underlying28 Try.underlying2 (by kernel_rfl) h
/-- what holds of an answer, where Min is at most Max and the capacity is between them -/
def Fine (c : Cfg) (d u now n t f : Int) : Prop :=
  (f ≠ 0 ∧ n = 0 ∧ t = 0) ∨ (f = 0 ∧ 0 ≤ now ∧ now ≤ 1099511693312 ∧ 0 ≤ c.cool ∧ c.cool ≤ 65536 ∧ c.min ≤ n ∧ n ≤ c.max ∧ (n = d ∧ t = u ∨ ¬ now < u ∧ n ≠ d ∧ t = now + c.cool))
theorem fol_err (F G : Nat → Int) (c : Cfg) (d m : Int) : True := trivial
theorem fine_of {F G : Nat → Int} {c : Cfg} {d u now m n t f : Int} (hc : 0 ≤ c.cool) (hn : 0 ≤ now) (h1 : c.min ≤ c.max) (h2 : c.min ≤ d) (h3 : d ≤ c.max) (h : Met F G c d u now m n t f) : Fine c d u now n t f := by
  rcases h with ⟨_, rfl, rfl, rfl⟩ | ⟨hb, hs, rfl, rfl, rfl⟩ | ⟨_, _, he, rfl, rfl, rfl⟩ | ⟨hb, hs, _, rfl, rfl, h⟩
  · exact .inl ⟨by omega, rfl, rfl⟩
  · unfold badM at hb
    exact .inr ⟨rfl, hn, by omega, hc, by omega, h2, h3, .inl ⟨rfl, rfl⟩⟩
  · exact .inl ⟨he, rfl, rfl⟩
  · unfold badM at hb
    unfold staysM at hs
    have g : c.min ≤ clampV (folV F G c d m) c.min c.max ∧ clampV (folV F G c d m) c.min c.max ≤ c.max := by
      unfold clampV; split
      · omega
      · split <;> omega
    refine .inr ⟨rfl, hn, by omega, hc, by omega, g.1, g.2, ?_⟩
    rcases h with ⟨ha, hb'⟩ | ⟨ha, hb'⟩
    · exact .inr ⟨by omega, ha, hb'⟩
    · exact .inl ⟨ha, hb'⟩

set_option maxRecDepth 100000 in
attribute [local go_sem ↓] exec_cfg Go.wp_at_zero Go.wp_at_succ
attribute [local go_sem] run_cfg
set_option maxRecDepth 100000 in
set_option maxHeartbeats 8000000 in
theorem walk (c : Cfg) (a1 a2 a3 : Int) (A4 : Option Addr) (n4 c4 : Nat) (M : Nat → Int) (w : World) (b0 : Cfg24 w c) (w1 : (Lit.int .i64 a1).wf = true) (w2 : (Lit.int .u64 a2).wf = true) (w3 : (Lit.int .u64 a3).wf = true) (b4 : IntsArg .i64 8 w A4 n4 c4 M) :
    Calls Try.prog 3 #[c.val, .int .i64 a1, .int .u64 a2, .int .u64 a3, .slice A4 n4 c4] w fun e w' => e = .returned (.bool true) ∧ Below w.heap.size w w' := by
  obtain ⟨ok, ⟨F, G, hb⟩, hl⟩ := b0
  have hbn : c.bN ≤ 9223372036854775807 := by have := hb.le; have := hb.cap; omega
  have hn4 : n4 ≤ 9223372036854775807 := by have := b4.le; have := b4.cap; omega
  obtain ⟨hd1, hd2⟩ := bounds_i64 w1
  obtain ⟨hu1, hu2⟩ := bounds_u64 w2
  obtain ⟨hw1, hw2⟩ := bounds_u64 w3
  obtain ⟨hc1, hc2⟩ := bounds_u64 ok.cool
  have HB := Lib.hid hb.bands
  have HR := Lib.hid b4.rd
  have f4 := c.f4
  have f5 := c.f5
  have f15 := c.f15
  clear ok hb b4 w1 w2 w3
  by_cases hg : 100 < c.bN ∨ 100 < c.lN
  · have HG : Hid (decide (100 < c.bN ∨ 100 < c.lN) = true) := Lib.hid (decide_eq_true hg)
    clear hg
    go_enter Try.func3, Try.ntmps3
    go_wp2_with (first
      | (refine load_cfg rfl _ rfl _ rfl c _ _ (heap_alloc_new _ _) ?_)
      | (go_at_call 5; refine (great_any c _ _ hbn hl HG).mono ?_; rintro e wn ⟨rfl, bn⟩; (first | (have gn := kept_hid bn (by assumption)) | (have gn := new_hid bn) | skip); (first | (have Bn : Below w.heap.size w _ := bTrans (by assumption) bn) | (have Bn : Below w.heap.size w _ := bTrans (bDrew (by assumption)) bn) | (have Bn : Below w.heap.size w _ := bTrans (bDrewN _ (by assumption)) bn) | (have Bn : Below w.heap.size w _ := bTrans (bAlloc (by assumption) _) bn) | (have Bn : Below w.heap.size w _ := bTrans (bAlloc (bDrew (by assumption)) _) bn) | (have Bn : Below w.heap.size w _ := bTrans (bDrew (bAlloc (by assumption) _)) bn) | (have Bn : Below w.heap.size w _ := bTrans (Below.refl _ _) bn) | (have Bn : Below w.heap.size w _ := bTrans (bDrew (Below.refl _ _)) bn) | (have Bn : Below w.heap.size w _ := bTrans (bAlloc (Below.refl _ _) _) bn) | (have Bn : Below w.heap.size w _ := bTrans (bAlloc (bAlloc (Below.refl _ _) _) _) bn) | (have Bn : Below w.heap.size w _ := bTrans (bDrewN _ (bAlloc (Below.refl _ _) _)) bn)))
      | (go_at_call 6; refine (lives_any _).mono ?_; rintro e wn ⟨rfl, bn⟩; (first | (have gn := kept_hid bn (by assumption)) | (have gn := new_hid bn) | skip); (first | (have Bn : Below w.heap.size w _ := bTrans (by assumption) bn) | (have Bn : Below w.heap.size w _ := bTrans (bDrew (by assumption)) bn) | (have Bn : Below w.heap.size w _ := bTrans (bDrewN _ (by assumption)) bn) | (have Bn : Below w.heap.size w _ := bTrans (bAlloc (by assumption) _) bn) | (have Bn : Below w.heap.size w _ := bTrans (bAlloc (bDrew (by assumption)) _) bn) | (have Bn : Below w.heap.size w _ := bTrans (bDrew (bAlloc (by assumption) _)) bn) | (have Bn : Below w.heap.size w _ := bTrans (Below.refl _ _) bn) | (have Bn : Below w.heap.size w _ := bTrans (bDrew (Below.refl _ _)) bn) | (have Bn : Below w.heap.size w _ := bTrans (bAlloc (Below.refl _ _) _) bn) | (have Bn : Below w.heap.size w _ := bTrans (bAlloc (bAlloc (Below.refl _ _) _) _) bn) | (have Bn : Below w.heap.size w _ := bTrans (bDrewN _ (bAlloc (Below.refl _ _) _)) bn))))
    go_ret
    exact ⟨rfl, by assumption⟩
  · have HG : Hid (decide (100 < c.bN ∨ 100 < c.lN) = false) := Lib.hid (decide_eq_false hg)
    clear hg
    by_cases hok : 0 ≤ c.min ∧ c.min ≤ c.max ∧ c.max ≤ 65536 ∧ c.min ≤ a1 ∧ a1 ≤ c.max
    · obtain ⟨k1, k2, k3, k4, k5⟩ := hok
      go_enter Try.func3, Try.ntmps3
      go_wp2_with (first | (refine load_cfg rfl _ rfl _ rfl c _ _ (heap_alloc_new _ _) ?_) | (go_at_call 5; refine (great_any c _ _ hbn hl HG).mono ?_; rintro e w1 ⟨rfl, b1⟩; have g4 := (box_cell b1 4).trans c.f4; have g5 := (box_cell b1 5).trans c.f5))
      have B1 : Below (w.alloc (.cells c.cells 27)).heap.size (w.alloc (.cells c.cells 27)) w1 := b1
      clear b1 g4 g5
      go_loopw [1, 3, 11, 12] (fun dv nv ev iv wr => ∃ (k : Nat) (d nw e : Int), k ≤ n4 ∧ iv = .int .i64 k ∧ dv = .int .i64 d ∧ nv = .int .u64 nw ∧ ev = .int .u64 e ∧ c.min ≤ d ∧ d ≤ c.max ∧ 0 ≤ nw ∧ nw ≤ 18446744073709551615 ∧ 0 ≤ e ∧ Below (w.alloc (.cells c.cells 27)).heap.size (w.alloc (.cells c.cells 27)) wr) (fun _ _ _ i _ => n4 - (intOf i).toNat)
      case atStart => exact ⟨0, a1, a3, a2, by omega, rfl, rfl, rfl, rfl, k4, k5, hw1, hw2, hu1, B1⟩
      case round =>
        obtain ⟨k, d, nw, e, hk, rfl, rfl, rfl, rfl, d1, d2, e1, e2, e3, hbr⟩ := hrel
        have Bw : Below w.heap.size w wr := bTrans (later1 _) hbr
        by_cases hgo : k < n4 ∧ k < 40
        · obtain ⟨hlt, hlt2⟩ := hgo
          obtain ⟨b, off, rfl, _⟩ := reads_form HR.out (by omega)
          obtain ⟨_, m0⟩ := reads_at HR.out Bw rfl hlt
          have cl1 : (k : Int) < (n4 : Int) := by omega
          have cl2 : (0 : Int) ≤ (k : Int) := by omega
          have S0 : RecOK wr w.heap.size 20 ∧ recIn wr w.heap.size = c.cells := rec_kept hbr (rec_of (heap_alloc_new w (.cells c.cells 27)) rfl)
          go_wp2
          go_region_held3 (fun w' => (RecOK w' w.heap.size 20 ∧ recIn w' w.heap.size = c.cells) ∧ w'.cell? ⟨b, off + k, none⟩ = some (.int .i64 (M k))) (first | exact ⟨S0, m0⟩ | exact ⟨rec_kept bn S0, (bcell bn).1 _ _ (by assumption) |>.trans m0⟩)
            (first | (go_at_call 7; refine (metric_any c F G _ _ _ _ _ (HB.out.later (bDrew Bw)) hbn e3 e1 hc1).mono ?_; rintro x wn ⟨n, t, f, rfl, hM, bn⟩))
          have B2 := bTrans (bDrew hbr) bn
          have h4 := (box_cell B2 4).trans c.f4
          have h5 := (box_cell B2 5).trans c.f5
          have h15 := (box_cell B2 15).trans c.f15
          have fn := fine_of hc1 e1 k2 d1 d2 hM
          clear hM S0 bn hbr Bw m0
          rcases fn with ⟨q1, rfl, rfl⟩ | ⟨rfl, q1, q2, q3, q4, q5, q6, q7⟩
          · have z : (f != 0) = true := by simpa using q1
            clear q1
            go_wp2
            go_roundw
            case rel => exact ⟨k + 1, d, nw, e, by omega, by go_num, rfl, rfl, rfl, d1, d2, e1, e2, e3, B2⟩
            case measure => simp [intOf]; omega
          · rcases q7 with ⟨rfl, rfl⟩ | ⟨q7, q8, rfl⟩
            · by_cases hlt3 : nw < t
              · go_wp2
                go_roundw
                case rel => exact ⟨k + 1, n, nw + 1, t, by omega, by go_num, rfl, rfl, rfl, d1, d2, by omega, by omega, e3, B2⟩
                case measure => simp [intOf]; omega
              · have hge : t ≤ nw := by omega
                clear hlt3
                go_wp2
                go_roundw
                case rel => exact ⟨k + 1, n, nw + 1, t, by omega, by go_num, rfl, rfl, rfl, d1, d2, by omega, by omega, e3, B2⟩
                case measure => simp [intOf]; omega
            · have z1 : (n != d) = true := by simpa using q8
              have z2 : (n == d) = false := by simpa using q8
              have hge : e ≤ nw := by omega
              clear q7 q8
              go_wp2
              go_roundw
              case rel => exact ⟨k + 1, n, nw + 1, nw + c.cool, by omega, by go_num, rfl, rfl, rfl, q5, q6, by omega, by omega, by omega, B2⟩
              case measure => simp [intOf]; omega
        · have Bn : Below w.heap.size w wr := Bw
          clear Bw hbr
          by_cases hlt : k < n4
          · have h40 : 40 ≤ k := by omega
            clear hgo
            go_wp2_with (first
                | (go_at_call 6; refine (lives_any _).mono ?_; rintro e wn ⟨rfl, bn⟩; (first | (have gn := kept_hid bn (by assumption)) | (have gn := new_hid bn) | skip); (first | (have Bn : Below w.heap.size w _ := bTrans (by assumption) bn) | (have Bn : Below w.heap.size w _ := bTrans (bDrew (by assumption)) bn) | (have Bn : Below w.heap.size w _ := bTrans (bDrewN _ (by assumption)) bn) | (have Bn : Below w.heap.size w _ := bTrans (bAlloc (by assumption) _) bn) | (have Bn : Below w.heap.size w _ := bTrans (bAlloc (bDrew (by assumption)) _) bn) | (have Bn : Below w.heap.size w _ := bTrans (bDrew (bAlloc (by assumption) _)) bn) | (have Bn : Below w.heap.size w _ := bTrans (Below.refl _ _) bn) | (have Bn : Below w.heap.size w _ := bTrans (bDrew (Below.refl _ _)) bn) | (have Bn : Below w.heap.size w _ := bTrans (bAlloc (Below.refl _ _) _) bn) | (have Bn : Below w.heap.size w _ := bTrans (bAlloc (bAlloc (Below.refl _ _) _) _) bn) | (have Bn : Below w.heap.size w _ := bTrans (bDrewN _ (bAlloc (Below.refl _ _) _)) bn))))
            go_ret
            exact ⟨rfl, by assumption⟩
          · clear hgo
            go_wp2_with (first
                | (go_at_call 6; refine (lives_any _).mono ?_; rintro e wn ⟨rfl, bn⟩; (first | (have gn := kept_hid bn (by assumption)) | (have gn := new_hid bn) | skip); (first | (have Bn : Below w.heap.size w _ := bTrans (by assumption) bn) | (have Bn : Below w.heap.size w _ := bTrans (bDrew (by assumption)) bn) | (have Bn : Below w.heap.size w _ := bTrans (bDrewN _ (by assumption)) bn) | (have Bn : Below w.heap.size w _ := bTrans (bAlloc (by assumption) _) bn) | (have Bn : Below w.heap.size w _ := bTrans (bAlloc (bDrew (by assumption)) _) bn) | (have Bn : Below w.heap.size w _ := bTrans (bDrew (bAlloc (by assumption) _)) bn) | (have Bn : Below w.heap.size w _ := bTrans (Below.refl _ _) bn) | (have Bn : Below w.heap.size w _ := bTrans (bDrew (Below.refl _ _)) bn) | (have Bn : Below w.heap.size w _ := bTrans (bAlloc (Below.refl _ _) _) bn) | (have Bn : Below w.heap.size w _ := bTrans (bAlloc (bAlloc (Below.refl _ _) _) _) bn) | (have Bn : Below w.heap.size w _ := bTrans (bDrewN _ (bAlloc (Below.refl _ _) _)) bn))))
            go_ret
            exact ⟨rfl, by assumption⟩
    · have hbad : c.min < 0 ∨ (0 ≤ c.min ∧ c.max < c.min) ∨ (0 ≤ c.min ∧ c.min ≤ c.max ∧ 65536 < c.max) ∨ (0 ≤ c.min ∧ c.min ≤ c.max ∧ c.max ≤ 65536 ∧ a1 < c.min) ∨ (0 ≤ c.min ∧ c.min ≤ c.max ∧ c.max ≤ 65536 ∧ c.min ≤ a1 ∧ c.max < a1) := by omega
      clear hok
      rcases hbad with x1 | ⟨x1, x2⟩ | ⟨x1, x2, x3⟩ | ⟨x1, x2, x3, x4⟩ | ⟨x1, x2, x3, x4, x5⟩
      all_goals
        go_enter Try.func3, Try.ntmps3
        go_wp2_with (first | (refine load_cfg rfl _ rfl _ rfl c _ _ (heap_alloc_new _ _) ?_) | (go_at_call 5; refine (great_any c _ _ hbn hl HG).mono ?_; rintro e w1 ⟨rfl, b1⟩; have g4 := (box_cell b1 4).trans c.f4; have g5 := (box_cell b1 5).trans c.f5; have Bn : Below w.heap.size w _ := bTrans (later1 _) b1) | (go_at_call 6; refine (lives_any _).mono ?_; rintro e wn ⟨rfl, bn⟩; (first | (have gn := kept_hid bn (by assumption)) | (have gn := new_hid bn) | skip); (first | (have Bn : Below w.heap.size w _ := bTrans (by assumption) bn) | (have Bn : Below w.heap.size w _ := bTrans (bDrew (by assumption)) bn) | (have Bn : Below w.heap.size w _ := bTrans (bDrewN _ (by assumption)) bn) | (have Bn : Below w.heap.size w _ := bTrans (bAlloc (by assumption) _) bn) | (have Bn : Below w.heap.size w _ := bTrans (bAlloc (bDrew (by assumption)) _) bn) | (have Bn : Below w.heap.size w _ := bTrans (bDrew (bAlloc (by assumption) _)) bn) | (have Bn : Below w.heap.size w _ := bTrans (Below.refl _ _) bn) | (have Bn : Below w.heap.size w _ := bTrans (bDrew (Below.refl _ _)) bn) | (have Bn : Below w.heap.size w _ := bTrans (bAlloc (Below.refl _ _) _) bn) | (have Bn : Below w.heap.size w _ := bTrans (bAlloc (bAlloc (Below.refl _ _) _) _) bn) | (have Bn : Below w.heap.size w _ := bTrans (bDrewN _ (bAlloc (Below.refl _ _) _)) bn))))
        go_ret
        exact ⟨rfl, by assumption⟩

/-! The row's step, by the frame. -/
theorem own : ownKnob Try.prog.godebug = none := by kernel_rfl
theorem laidOut : laidOutB Try.prog = true := by kernel_rfl
set_option maxRecDepth 100000 in
theorem lifted (os : Os) (started : os.Started) (H : Type) (enc : TypeId × Value → H) :
    ReturnsInHanded {} Try.checked os 3 .any (Rows.wantWithinSpec.pre6 enc Try.prog Try.f3 Rows.wantWithinRow.domain false) (Rows.wantWithinSpec.post enc Try.prog Try.f3 false true false false) := by
  refine returnsInHanded_of_change_sized (C := Try.checked) own started (by kernel_rfl) Try.func3
    (ChangeSpec.witness6 (enc := enc) (C := Try.checked) false ⟨#[], #[.agg #[.slice none 0 0, .int .u8 0, .int .i64 0, .bool false, .int .i64 0, .int .i64 0, .int .i64 0, .int .i64 0, .int .i64 0, .int .i64 0, .int .u64 0, .int .u64 0, .int .u64 0, .int .u64 0, .int .u64 0, .int .u64 0, .bool false, .int .i64 0, .slice none 0 0, .slice none 0 0], .int .i64 0, .int .u64 0, .int .u64 0, .slice none 0 0], []⟩ 8 (by kernel_rfl) (by kernel_rfl) (by kernel_rfl) (by kernel_rfl)) ?_
  intro W base args ds gs before hval0 hW _ hsz0 _
  have hsz : (DataW.weightsEach Try.prog (Try.f3.params.toList ++ Rows.wantWithinSpec.plain.varTypes Try.prog) (ds ++ gs)).all (· ≤ reachBytes) = true := hsz0
  have hval : ∀ (j : Nat) t v, Try.f3.params[j]? = some t → args[j]? = some v → Value.okWide Try.prog W .any base t v := hval0
  have hW' := hW
  obtain ⟨p, q, hA0, hV, rfl, hfz, hnd⟩ := hW
  have hA : DataW.TrodAll enc Try.prog W 0 (fun _ => true) true Try.f3.params.toList args.toList ds p := hA0
  rw [Try.params3] at hA hval hsz
  obtain ⟨v0, vs0, d0, ds0, p0, q0, hargs, rfl, rfl, h0, r0⟩ := trodAll_cons hA
  obtain ⟨v1, vs1, d1, ds1, p1, q1, rfl, rfl, rfl, h1, r1⟩ := trodAll_cons r0
  obtain ⟨v2, vs2, d2, ds2, p2, q2, rfl, rfl, rfl, h2, r2⟩ := trodAll_cons r1
  obtain ⟨v3, vs3, d3, ds3, p3, q3, rfl, rfl, rfl, h3, r3⟩ := trodAll_cons r2
  obtain ⟨v4, vs4, d4, ds4, p4, q4, rfl, rfl, rfl, h4, r4⟩ := trodAll_cons r3
  obtain ⟨rfl, rfl, rfl⟩ := trodAll_nil r4
  obtain rfl : args = #[v0, v1, v2, v3, v4] := by cases args; simp_all
  obtain ⟨rfl, rfl⟩ := trodVars_none hV
  have k0 := h0
  have lt0 : ∀ x ∈ p0, x.block < W.heap.size := by obtain ⟨m, hm⟩ := k0; exact DataW.trod_lt m _ _ _ hm
  obtain ⟨c0, rfl, b0⟩ := cfg24_arg (hval 0 27 v0 rfl rfl) h0
  obtain ⟨a1, rfl, rfl, rfl, w1⟩ := open_int Try.underlying2 (hval 1 2 v1 rfl rfl) h1
  obtain ⟨a2, rfl, rfl, rfl, w2⟩ := open_int Try.underlying23 (hval 2 23 v2 rfl rfl) h2
  obtain ⟨a3, rfl, rfl, rfl, w3⟩ := open_int Try.underlying23 (hval 3 23 v3 rfl rfl) h3
  obtain ⟨A4, n4, c4, rfl⟩ := okWide_slice Try.underlying28 (hval 4 28 v4 rfl rfl)
  have k4 := h4
  have lt4 : ∀ x ∈ p4, x.block < W.heap.size := by obtain ⟨m, hm⟩ := k4; exact DataW.trod_lt m _ _ _ hm
  obtain ⟨M4, b4⟩ := longs_arg h4
  clear hA0 hval0 hsz0
  refine (walk c0 a1 a2 a3 A4 n4 c4 M4 W b0 w1 w2 w3 b4).mono fun e W' ⟨he, bel⟩ => ?_
  subst he
  exact ⟨_, rfl, _, _, _, [], _, [], hW', trodAll_mk1 (shut_bool Try.underlying4 _), (trodAll_cons_mk (Below.trod laidOut (by kernel_rfl) (of_decide_eq_true (by kernel_rfl)) k0 bel lt0) (trodAll_cons_mk (shut_int Try.underlying2 w1) (trodAll_cons_mk (shut_int Try.underlying23 w2) (trodAll_cons_mk (shut_int Try.underlying23 w3) (trodAll_cons_mk (Below.trod laidOut (by kernel_rfl) (of_decide_eq_true (by kernel_rfl)) k4 bel lt4) trodAll_mk0))))), rfl, bel.frame _, fun h => by cases h⟩

/-- The statement. -/
theorem proved : Rows.WantWithinSaid :=
  OpenClaim.holds_of_wide 3 Try.f3 rfl rfl rfl rfl rfl rfl rfl ⟨rfl, rfl, rfl, rfl, rfl⟩ rfl rfl rfl rfl rfl (by kernel_rfl) Try.func3 (by kernel_rfl)
    (of_decide_eq_true (by kernel_rfl)) (by unfold Func.isWrapper; first | (rw [if_pos (by decide +kernel)]; kernel_rfl) | (rw [if_neg (by decide +kernel)]; exact ⟨rfl, rfl⟩))
    (fun os started H enc _ => lifted os started H enc)
end Go.Proofs.Ytgfiimllehmnoaa.wantWithin
