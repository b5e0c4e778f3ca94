
/- Where the Adds rise, a greater metric never comes to less: for every list of bands and every three uint16 the law returns true. No condition. -/
import Derived.Test.YtbjkcnfkbfhibaaStairS
namespace Go.Proofs.Ytbjkcnfkbfhibaa.stairRises
open Go.ChangeShapes Go.WideShapes Go.ChangeAt Go.RowKit
open NumM NumA Mem Arr Stair
set_option linter.unusedVariables false

def Risen (G : Nat → Int) (k : Nat) : Prop := ∀ j, 0 < j → j < k → G (j - 1) ≤ G j
theorem risen_step {G : Nat → Int} {k : Nat} (h : Risen G k) (hk : 0 < k → G (k - 1) ≤ G k) : Risen G (k + 1) := by
  intro j h0 hj
  rcases Nat.lt_succ_iff_lt_or_eq.1 hj with h1 | rfl
  · exact h j h0 h1
  · exact hk h0
theorem risen_le {G : Nat → Int} {n : Nat} (h : Risen G n) : ∀ j, j < n → ∀ i, i ≤ j → G i ≤ G j := by
  intro j
  induction j with
  | zero => intro _ i hi; obtain rfl : i = 0 := by omega
            exact Int.le_refl _
  | succ j ih =>
    intro hj i hi
    rcases Nat.lt_or_ge j i with h1 | h1
    · obtain rfl : i = j + 1 := by omega
      exact Int.le_refl _
    · have a := ih (by omega) i h1
      have b := h (j + 1) (by omega) hj
      simp at b
      omega
theorem cnt_mono {F : Nat → Int} {a b : Int} (h : a ≤ b) (n : Nat) : cnt F a n ≤ cnt F b n := by
  induction n with
  | zero => exact Nat.le_refl _
  | succ n ih =>
    unfold cnt
    have := cnt_bd F a n
    split <;> split <;> omega
theorem sum_rises {F G : Nat → Int} {n : Nat} {d m k : Int} (hd : 0 ≤ d) (hk : 0 ≤ k) (hr : Risen G n) (h0 : 0 < n → 0 ≤ G 0) : sumW F G n d m 1000 ≤ sumW F G n d (m + k) 1000 ∧ d ≤ sumW F G n d m 1000 := by
  unfold sumW bandK
  split
  · have c1 := cnt_mono (F := F) (show m - 1000 ≤ m + k - 1000 by omega) n
    have c2 := cnt_bd F (m + k - 1000) n
    generalize cnt F (m - 1000) n = a at *
    generalize cnt F (m + k - 1000) n = b at *
    by_cases ha : a = 0
    · rw [if_pos ha]
      by_cases hb : b = 0
      · rw [if_pos hb]; omega
      · rw [if_neg hb]
        have g1 := risen_le hr (b - 1) (by omega) 0 (by omega)
        have g2 := h0 (by omega)
        rw [if_pos (by omega)]; omega
    · rw [if_neg ha, if_neg (show ¬ b = 0 by omega)]
      have g1 := risen_le hr (b - 1) (by omega) (a - 1) (by omega)
      have g2 := risen_le hr (a - 1) (by omega) 0 (by omega)
      have g3 := h0 (by omega)
      rw [if_pos (by omega), if_pos (by omega)]; omega
  · omega

set_option maxHeartbeats 2000000 in
theorem walk (A0 : Option Addr) (n0 c0 : Nat) (F G : Nat → Int) (a1 a2 a3 : Int) (w : World) (b0 : BandArg w A0 n0 c0 F G) (w1 : (Lit.int .u16 a1).wf = true) (w2 : (Lit.int .u16 a2).wf = true) (w3 : (Lit.int .u16 a3).wf = true) :
    Calls Try.prog 4 #[.slice A0 n0 c0, .int .u16 a1, .int .u16 a2, .int .u16 a3] w fun e w' => e = .returned (.bool true) ∧ Below w.heap.size w w' := by
  have hn : n0 ≤ 9223372036854775807 := by have := b0.le; have := b0.cap; omega
  have H := Lib.hid b0.bands
  have HG := Lib.hid b0.inG
  obtain ⟨_, _⟩ := bounds_u16 w1
  obtain ⟨_, _⟩ := bounds_u16 w2
  obtain ⟨_, _⟩ := bounds_u16 w3
  clear b0 w1 w2 w3
  go_enter Try.func4, Try.ntmps4
  go_wp2
  go_loopw [12] (fun i wr => ∃ k : Nat, (k ≤ n0 ∨ k = 1) ∧ i = .int .i64 (k : Int) ∧ 1 ≤ k ∧ Hid (Risen G k) ∧ Below w.heap.size w wr) (fun i _ => n0 - (intOf i).toNat)
  case atStart => exact ⟨1, by omega, rfl, by omega, Lib.hid (fun j h0 hj => by omega), Below.refl _ _⟩
  case round =>
    obtain ⟨k, hk, rfl, hk1, hr, hb⟩ := hrel
    by_cases hlt : k < n0
    · obtain ⟨b, off, rfl⟩ := bands_at H.out (by omega)
      obtain ⟨hbl, d0, d1⟩ := band_cells H.out hb rfl hlt
      obtain ⟨_, e0, e1⟩ := band_cells H.out hb rfl (k := k - 1) (by omega)
      have cl1 : (k : Int) < (n0 : Int) := by omega
      have cl2 : (1 : Int) ≤ (k : Int) := by omega
      by_cases hg : G k < G (k - 1)
      · have x1 : decide (G k < G (k - 1)) = true := decide_eq_true hg
        clear hg
        go_wp2
        go_quiet (fail)
        go_wp2_with (first
      | (go_at_call 6; refine (lives_any _).mono ?_; rintro e wn ⟨rfl, bn⟩; (first | (have gn := kept_hid bn (by assumption)) | (have gn := new_hid bn) | skip); (first | (have Bn : Below w.heap.size w _ := bTrans (by assumption) bn) | (have Bn : Below w.heap.size w _ := bTrans (bDrew (by assumption)) bn) | (have Bn : Below w.heap.size w _ := bTrans (bDrewN _ (by assumption)) bn) | (have Bn : Below w.heap.size w _ := bTrans (bAlloc (by assumption) _) bn) | (have Bn : Below w.heap.size w _ := bTrans (bAlloc (bDrew (by assumption)) _) bn) | (have Bn : Below w.heap.size w _ := bTrans (bDrew (bAlloc (by assumption) _)) bn) | (have Bn : Below w.heap.size w _ := bTrans (Below.refl _ _) bn) | (have Bn : Below w.heap.size w _ := bTrans (bDrew (Below.refl _ _)) bn) | (have Bn : Below w.heap.size w _ := bTrans (bAlloc (Below.refl _ _) _) bn) | (have Bn : Below w.heap.size w _ := bTrans (bAlloc (bAlloc (Below.refl _ _) _) _) bn))))
        go_ret
        exact ⟨rfl, by assumption⟩
      · have x1 : decide (G k < G (k - 1)) = false := decide_eq_false hg
        have HK : Hid (Risen G (k + 1)) := Lib.hid (risen_step hr.out (fun _ => by omega))
        clear hg hr
        go_wp2
        go_quiet (fail)
        go_wp2
        go_roundw
        case rel => exact ⟨k + 1, by omega, by go_num, by omega, HK, bDrewN _ hb⟩
        case measure => simp [intOf]; omega
    · have hr' : Hid (Risen G n0) := Lib.hid (fun j h0 hj => hr.out j h0 (by omega))
      have nlt : ¬ ((k : Int) < (n0 : Int)) := by omega
      have fin : ∀ (hz : 0 < n0 → 0 ≤ G 0), True := fun _ => trivial
      clear fin
      rcases hm : mayB F G n0 with _ | _
      · have W1 : Hid (wantV F G n0 a1 a2 1000 = 0 ∧ wantE F G n0 a1 a2 1000 = 2) := Lib.hid ⟨if_pos (.inl hm), if_pos (.inl hm)⟩
        have W2 : Hid (wantV F G n0 a1 (a2 + a3) 1000 = 0 ∧ wantE F G n0 a1 (a2 + a3) 1000 = 2) := Lib.hid ⟨if_pos (.inl hm), if_pos (.inl hm)⟩
        clear hm
        by_cases hz : 0 < n0
        · obtain ⟨b, off, rfl⟩ := bands_at H.out (by omega)
          obtain ⟨hbl, d0, d1⟩ := band_cells H.out hb rfl hz
          rw [Nat.zero_mul, Nat.add_zero] at d0 d1
          have z0 : (0 : Int) < (n0 : Int) := by omega
          by_cases hg : G 0 < 0
          · go_wp2_with (first | (go_at_call 6; refine (lives_any _).mono ?_; rintro e wn ⟨rfl, bn⟩; (first | (have gn := kept_hid bn (by assumption)) | (have gn := new_hid bn) | skip); (first | (have Bn : Below w.heap.size w _ := bTrans (by assumption) bn) | (have Bn : Below w.heap.size w _ := bTrans (bDrew (by assumption)) bn) | (have Bn : Below w.heap.size w _ := bTrans (bDrewN _ (by assumption)) bn) | (have Bn : Below w.heap.size w _ := bTrans (bAlloc (by assumption) _) bn) | (have Bn : Below w.heap.size w _ := bTrans (bAlloc (bDrew (by assumption)) _) bn) | (have Bn : Below w.heap.size w _ := bTrans (bDrew (bAlloc (by assumption) _)) bn) | (have Bn : Below w.heap.size w _ := bTrans (Below.refl _ _) bn) | (have Bn : Below w.heap.size w _ := bTrans (bDrew (Below.refl _ _)) bn) | (have Bn : Below w.heap.size w _ := bTrans (bAlloc (Below.refl _ _) _) bn) | (have Bn : Below w.heap.size w _ := bTrans (bAlloc (bAlloc (Below.refl _ _) _) _) bn))))
            go_ret
            exact ⟨rfl, by assumption⟩
          · have hg' : 0 ≤ G 0 := by omega
            clear hg
            go_wp2_with fail
            refine (want_is _ _ _ _ _ _ _ _ _ _ _ (H.out.later hb) hn W1).mono ?_; rintro e w1 ⟨rfl, b1⟩
            have B1 := bTrans hb b1
            go_wp2_with fail
            refine (want_is _ _ _ _ _ _ _ _ _ _ _ (H.out.later B1) hn W2).mono ?_; rintro e w2 ⟨rfl, b2⟩
            have B2 := bTrans B1 b2
            clear b1 B1 b2
            go_wp2_with (first
      | (go_at_call 6; refine (lives_any _).mono ?_; rintro e wn ⟨rfl, bn⟩; (first | (have gn := kept_hid bn (by assumption)) | (have gn := new_hid bn) | skip); (first | (have Bn : Below w.heap.size w _ := bTrans (by assumption) bn) | (have Bn : Below w.heap.size w _ := bTrans (bDrew (by assumption)) bn) | (have Bn : Below w.heap.size w _ := bTrans (bDrewN _ (by assumption)) bn) | (have Bn : Below w.heap.size w _ := bTrans (bAlloc (by assumption) _) bn) | (have Bn : Below w.heap.size w _ := bTrans (bAlloc (bDrew (by assumption)) _) bn) | (have Bn : Below w.heap.size w _ := bTrans (bDrew (bAlloc (by assumption) _)) bn) | (have Bn : Below w.heap.size w _ := bTrans (Below.refl _ _) bn) | (have Bn : Below w.heap.size w _ := bTrans (bDrew (Below.refl _ _)) bn) | (have Bn : Below w.heap.size w _ := bTrans (bAlloc (Below.refl _ _) _) bn) | (have Bn : Below w.heap.size w _ := bTrans (bAlloc (bAlloc (Below.refl _ _) _) _) bn))))
            go_ret
            exact ⟨rfl, by assumption⟩
        · have z0 : ¬ (0 : Int) < (n0 : Int) := by omega
          have z1 : (n0 : Int) ≤ 0 := by omega
          go_wp2_with fail
          refine (want_is _ _ _ _ _ _ _ _ _ _ _ (H.out.later hb) hn W1).mono ?_; rintro e w1 ⟨rfl, b1⟩
          have B1 := bTrans hb b1
          go_wp2_with fail
          refine (want_is _ _ _ _ _ _ _ _ _ _ _ (H.out.later B1) hn W2).mono ?_; rintro e w2 ⟨rfl, b2⟩
          have B2 := bTrans B1 b2
          clear b1 B1 b2
          go_wp2_with (first
      | (go_at_call 6; refine (lives_any _).mono ?_; rintro e wn ⟨rfl, bn⟩; (first | (have gn := kept_hid bn (by assumption)) | (have gn := new_hid bn) | skip); (first | (have Bn : Below w.heap.size w _ := bTrans (by assumption) bn) | (have Bn : Below w.heap.size w _ := bTrans (bDrew (by assumption)) bn) | (have Bn : Below w.heap.size w _ := bTrans (bDrewN _ (by assumption)) bn) | (have Bn : Below w.heap.size w _ := bTrans (bAlloc (by assumption) _) bn) | (have Bn : Below w.heap.size w _ := bTrans (bAlloc (bDrew (by assumption)) _) bn) | (have Bn : Below w.heap.size w _ := bTrans (bDrew (bAlloc (by assumption) _)) bn) | (have Bn : Below w.heap.size w _ := bTrans (Below.refl _ _) bn) | (have Bn : Below w.heap.size w _ := bTrans (bDrew (Below.refl _ _)) bn) | (have Bn : Below w.heap.size w _ := bTrans (bAlloc (Below.refl _ _) _) bn) | (have Bn : Below w.heap.size w _ := bTrans (bAlloc (bAlloc (Below.refl _ _) _) _) bn))))
          go_ret
          exact ⟨rfl, by assumption⟩
      · have no1 : ¬ (mayB F G n0 = false ∨ outW a1 a2 1000) := by
          rintro (h | h)
          · rw [hm] at h; cases h
          · unfold outW at h; omega
        have no2 : ¬ (mayB F G n0 = false ∨ outW a1 (a2 + a3) 1000) := by
          rintro (h | h)
          · rw [hm] at h; cases h
          · unfold outW at h; omega
        have HS : Hid ((0 < n0 → 0 ≤ G 0) → sumW F G n0 a1 a2 1000 ≤ sumW F G n0 a1 (a2 + a3) 1000 ∧ a1 ≤ sumW F G n0 a1 a2 1000) := Lib.hid (fun hz => sum_rises (by omega) (by omega) hr'.out hz)
        generalize hx : sumW F G n0 a1 a2 1000 = x at *
        generalize hy : sumW F G n0 a1 (a2 + a3) 1000 = y at *
        have W1 : Hid (wantV F G n0 a1 a2 1000 = x ∧ wantE F G n0 a1 a2 1000 = 0) := Lib.hid ⟨(if_neg no1).trans hx, if_neg no1⟩
        have W2 : Hid (wantV F G n0 a1 (a2 + a3) 1000 = y ∧ wantE F G n0 a1 (a2 + a3) 1000 = 0) := Lib.hid ⟨(if_neg no2).trans hy, if_neg no2⟩
        clear hm hx hy no1 no2
        by_cases hz : 0 < n0
        · obtain ⟨b, off, rfl⟩ := bands_at H.out (by omega)
          obtain ⟨hbl, d0, d1⟩ := band_cells H.out hb rfl hz
          rw [Nat.zero_mul, Nat.add_zero] at d0 d1
          have z0 : (0 : Int) < (n0 : Int) := by omega
          by_cases hg : G 0 < 0
          · go_wp2_with (first | (go_at_call 6; refine (lives_any _).mono ?_; rintro e wn ⟨rfl, bn⟩; (first | (have gn := kept_hid bn (by assumption)) | (have gn := new_hid bn) | skip); (first | (have Bn : Below w.heap.size w _ := bTrans (by assumption) bn) | (have Bn : Below w.heap.size w _ := bTrans (bDrew (by assumption)) bn) | (have Bn : Below w.heap.size w _ := bTrans (bDrewN _ (by assumption)) bn) | (have Bn : Below w.heap.size w _ := bTrans (bAlloc (by assumption) _) bn) | (have Bn : Below w.heap.size w _ := bTrans (bAlloc (bDrew (by assumption)) _) bn) | (have Bn : Below w.heap.size w _ := bTrans (bDrew (bAlloc (by assumption) _)) bn) | (have Bn : Below w.heap.size w _ := bTrans (Below.refl _ _) bn) | (have Bn : Below w.heap.size w _ := bTrans (bDrew (Below.refl _ _)) bn) | (have Bn : Below w.heap.size w _ := bTrans (bAlloc (Below.refl _ _) _) bn) | (have Bn : Below w.heap.size w _ := bTrans (bAlloc (bAlloc (Below.refl _ _) _) _) bn))))
            go_ret
            exact ⟨rfl, by assumption⟩
          · have hg' : 0 ≤ G 0 := by omega
            obtain ⟨s1, s2⟩ := HS.out (fun _ => hg')
            clear hg
            go_wp2_with fail
            refine (want_is _ _ _ _ _ _ _ _ _ _ _ (H.out.later hb) hn W1).mono ?_; rintro e w1 ⟨rfl, b1⟩
            have B1 := bTrans hb b1
            go_wp2_with fail
            refine (want_is _ _ _ _ _ _ _ _ _ _ _ (H.out.later B1) hn W2).mono ?_; rintro e w2 ⟨rfl, b2⟩
            have B2 := bTrans B1 b2
            clear b1 B1 b2
            go_wp2_with (first
      | (go_at_call 6; refine (lives_any _).mono ?_; rintro e wn ⟨rfl, bn⟩; (first | (have gn := kept_hid bn (by assumption)) | (have gn := new_hid bn) | skip); (first | (have Bn : Below w.heap.size w _ := bTrans (by assumption) bn) | (have Bn : Below w.heap.size w _ := bTrans (bDrew (by assumption)) bn) | (have Bn : Below w.heap.size w _ := bTrans (bDrewN _ (by assumption)) bn) | (have Bn : Below w.heap.size w _ := bTrans (bAlloc (by assumption) _) bn) | (have Bn : Below w.heap.size w _ := bTrans (bAlloc (bDrew (by assumption)) _) bn) | (have Bn : Below w.heap.size w _ := bTrans (bDrew (bAlloc (by assumption) _)) bn) | (have Bn : Below w.heap.size w _ := bTrans (Below.refl _ _) bn) | (have Bn : Below w.heap.size w _ := bTrans (bDrew (Below.refl _ _)) bn) | (have Bn : Below w.heap.size w _ := bTrans (bAlloc (Below.refl _ _) _) bn) | (have Bn : Below w.heap.size w _ := bTrans (bAlloc (bAlloc (Below.refl _ _) _) _) bn))))
            go_ret
            exact ⟨rfl, by assumption⟩
        · have z0 : ¬ (0 : Int) < (n0 : Int) := by omega
          have z1 : (n0 : Int) ≤ 0 := by omega
          obtain ⟨s1, s2⟩ := HS.out (fun h => absurd h hz)
          go_wp2_with fail
          refine (want_is _ _ _ _ _ _ _ _ _ _ _ (H.out.later hb) hn W1).mono ?_; rintro e w1 ⟨rfl, b1⟩
          have B1 := bTrans hb b1
          go_wp2_with fail
          refine (want_is _ _ _ _ _ _ _ _ _ _ _ (H.out.later B1) hn W2).mono ?_; rintro e w2 ⟨rfl, b2⟩
          have B2 := bTrans B1 b2
          clear b1 B1 b2
          go_wp2_with (first
      | (go_at_call 6; refine (lives_any _).mono ?_; rintro e wn ⟨rfl, bn⟩; (first | (have gn := kept_hid bn (by assumption)) | (have gn := new_hid bn) | skip); (first | (have Bn : Below w.heap.size w _ := bTrans (by assumption) bn) | (have Bn : Below w.heap.size w _ := bTrans (bDrew (by assumption)) bn) | (have Bn : Below w.heap.size w _ := bTrans (bDrewN _ (by assumption)) bn) | (have Bn : Below w.heap.size w _ := bTrans (bAlloc (by assumption) _) bn) | (have Bn : Below w.heap.size w _ := bTrans (bAlloc (bDrew (by assumption)) _) bn) | (have Bn : Below w.heap.size w _ := bTrans (bDrew (bAlloc (by assumption) _)) bn) | (have Bn : Below w.heap.size w _ := bTrans (Below.refl _ _) bn) | (have Bn : Below w.heap.size w _ := bTrans (bDrew (Below.refl _ _)) bn) | (have Bn : Below w.heap.size w _ := bTrans (bAlloc (Below.refl _ _) _) bn) | (have Bn : Below w.heap.size w _ := bTrans (bAlloc (bAlloc (Below.refl _ _) _) _) bn))))
          go_ret
          exact ⟨rfl, by assumption⟩

/-! The row's step, by the frame. -/
theorem own : ownKnob Try.prog.godebug = none := by kernel_rfl
theorem laidOut : laidOutB Try.prog = true := by kernel_rfl
set_option maxRecDepth 100000 in
theorem lifted (os : Os) (started : os.Started) (H : Type) (enc : TypeId × Value → H) :
    ReturnsInHanded {} Try.checked os 4 .any (Rows.stairRisesSpec.pre6 enc Try.prog Try.f4 Rows.stairRisesRow.domain false) (Rows.stairRisesSpec.post enc Try.prog Try.f4 false true false false) := by
  refine returnsInHanded_of_change_sized (C := Try.checked) own started (by kernel_rfl) Try.func4
    (ChangeSpec.witness6 (enc := enc) (C := Try.checked) false ⟨#[], #[.slice none 0 0, .int .u16 0, .int .u16 0, .int .u16 0], []⟩ 8 (by kernel_rfl) (by kernel_rfl) (by kernel_rfl) (by kernel_rfl)) ?_
  intro W base args ds gs before hval0 hW _ hsz0 _
  have hsz : (DataW.weightsEach Try.prog (Try.f4.params.toList ++ Rows.stairRisesSpec.plain.varTypes Try.prog) (ds ++ gs)).all (· ≤ reachBytes) = true := hsz0
  have hval : ∀ (j : Nat) t v, Try.f4.params[j]? = some t → args[j]? = some v → Value.okWide Try.prog W .any base t v := hval0
  have hW' := hW
  obtain ⟨p, q, hA0, hV, rfl, hfz, hnd⟩ := hW
  have hA : DataW.TrodAll enc Try.prog W 0 (fun _ => true) true Try.f4.params.toList args.toList ds p := hA0
  rw [Try.params4] at hA hval hsz
  obtain ⟨v0, vs0, d0, ds0, p0, q0, hargs, rfl, rfl, h0, r0⟩ := trodAll_cons hA
  obtain ⟨v1, vs1, d1, ds1, p1, q1, rfl, rfl, rfl, h1, r1⟩ := trodAll_cons r0
  obtain ⟨v2, vs2, d2, ds2, p2, q2, rfl, rfl, rfl, h2, r2⟩ := trodAll_cons r1
  obtain ⟨v3, vs3, d3, ds3, p3, q3, rfl, rfl, rfl, h3, r3⟩ := trodAll_cons r2
  obtain ⟨rfl, rfl, rfl⟩ := trodAll_nil r3
  obtain rfl : args = #[v0, v1, v2, v3] := by cases args; simp_all
  obtain ⟨rfl, rfl⟩ := trodVars_none hV
  obtain ⟨A0, n0, c0, rfl⟩ := okWide_slice Try.underlying22 (hval 0 22 v0 rfl rfl)
  have k0 := h0
  have lt0 : ∀ x ∈ p0, x.block < W.heap.size := by obtain ⟨m, hm⟩ := k0; exact DataW.trod_lt m _ _ _ hm
  obtain ⟨F0, G0, b0⟩ := bands_arg h0
  obtain ⟨a1, rfl, rfl, rfl, w1⟩ := open_int Try.underlying30 (hval 1 30 v1 rfl rfl) h1
  obtain ⟨a2, rfl, rfl, rfl, w2⟩ := open_int Try.underlying30 (hval 2 30 v2 rfl rfl) h2
  obtain ⟨a3, rfl, rfl, rfl, w3⟩ := open_int Try.underlying30 (hval 3 30 v3 rfl rfl) h3
  clear hA0 hval0 hsz0
  refine (walk A0 n0 c0 F0 G0 a1 a2 a3 W b0 w1 w2 w3).mono fun e W' ⟨he, bel⟩ => ?_
  subst he
  exact ⟨_, rfl, _, _, _, [], _, [], hW', trodAll_mk1 (shut_bool Try.underlying4 _), (trodAll_cons_mk (Below.trod laidOut (by kernel_rfl) (of_decide_eq_true (by kernel_rfl)) k0 bel lt0) (trodAll_cons_mk (shut_int Try.underlying30 w1) (trodAll_cons_mk (shut_int Try.underlying30 w2) (trodAll_cons_mk (shut_int Try.underlying30 w3) trodAll_mk0)))), rfl, bel.frame _, fun h => by cases h⟩

/-- The statement. -/
theorem proved : Rows.StairRisesSaid :=
  OpenClaim.holds_of_wide 4 Try.f4 rfl rfl rfl rfl rfl rfl rfl ⟨rfl, rfl, rfl, rfl, rfl⟩ rfl rfl rfl rfl rfl (by kernel_rfl) Try.func4 (by kernel_rfl)
    (of_decide_eq_true (by kernel_rfl)) (by unfold Func.isWrapper; first | (rw [if_pos (by decide +kernel)]; kernel_rfl) | (rw [if_neg (by decide +kernel)]; exact ⟨rfl, rfl⟩))
    (fun os started H enc _ => lifted os started H enc)
end Go.Proofs.Ytbjkcnfkbfhibaa.stairRises
