
/- The band of what a band begins from is that one; of bands that may not be there is none: for every list of bands the law returns true. No condition. -/
import Derived.Test.YtbjkcnfkbfhibaaStairS
namespace Go.Proofs.Ytbjkcnfkbfhibaa.stairBands
open Go.ChangeShapes Go.WideShapes Go.ChangeAt Go.RowKit
open NumM NumA Mem Arr Stair
set_option linter.unusedVariables false

theorem may_no {F G : Nat → Int} {n k : Nat} (hk : k < n) (h : okAt F G k = false) : mayB F G n = false :=
  decide_eq_false fun hh => by rw [hh.2 k hk] at h; cases h
theorem band_no {F G : Nat → Int} {n : Nat} (h : mayB F G n = false) (dev : Int) : bandI F G n dev = 0 ∧ bandB F G n dev = false := by
  have e : bandK F G n dev = 0 := by unfold bandK; rw [h]; rfl
  exact ⟨by unfold bandI; rw [if_pos e], by unfold bandB; rw [e]; rfl⟩
theorem band_own {F G : Nat → Int} {n k : Nat} (h : mayB F G n = true) (hk : k < n) : bandI F G n (F k) = k ∧ bandB F G n (F k) = true := by
  have e : bandK F G n (F k) = k + 1 := by
    unfold bandK; rw [if_pos h]
    refine (cnt_only h (by omega) (fun _ => by simp) (fun hlt => ?_)).symm
    have := ((may_yes h).2 (k + 1) hlt).2.2.2.2 (by omega)
    simpa using this
  exact ⟨by unfold bandI; rw [e, if_neg (by omega)]; omega, by unfold bandB; rw [e]; exact decide_eq_true (by omega)⟩
theorem band_less {F G : Nat → Int} {n k : Nat} (h : mayB F G n = true) (hk : k < n) : bandI F G n (F k - 1) = (if k = 0 then 0 else (k : Int) - 1) ∧ bandB F G n (F k - 1) = decide (k ≠ 0) := by
  have e : bandK F G n (F k - 1) = k := by
    unfold bandK; rw [if_pos h]
    refine (cnt_only h (by omega) (fun h0 => ?_) (fun hlt => by omega)).symm
    have := ((may_yes h).2 k hk).2.2.2.2 h0
    omega
  exact ⟨by unfold bandI; rw [e], by unfold bandB; rw [e]⟩

set_option maxRecDepth 100000 in
set_option maxHeartbeats 4000000 in
theorem walk (A0 : Option Addr) (n0 c0 : Nat) (F G : Nat → Int) (w : World) (b0 : BandArg w A0 n0 c0 F G) :
    Calls Try.prog 5 #[.slice A0 n0 c0] w fun e w' => e = .returned (.bool true) ∧ Below w.heap.size w w' := by
  have hn : n0 ≤ 9223372036854775807 := by have := b0.le; have := b0.cap; omega
  have H := Lib.hid b0.bands
  clear b0
  by_cases h8 : 8 < n0
  · have HB : Hid (bandI F G n0 0 = 0 ∧ bandB F G n0 0 = false) := Lib.hid (band_no (decide_eq_false (by omega)) 0)
    go_enter Try.func5, Try.ntmps5
    go_wp2_with fail
    refine (band_is _ _ _ _ _ _ _ _ _ H.out hn HB).mono ?_; rintro e w1 ⟨rfl, B1⟩
    go_wp2_with (first
      | (go_at_call 6; refine (lives_any _).mono ?_; rintro e wn ⟨rfl, bn⟩; (first | (have gn := kept_hid bn (by assumption)) | (have gn := new_hid bn) | skip); (first | (have Bn : Below w.heap.size w _ := bTrans (by assumption) bn) | (have Bn : Below w.heap.size w _ := bTrans (bDrew (by assumption)) bn) | (have Bn : Below w.heap.size w _ := bTrans (bDrewN _ (by assumption)) bn) | (have Bn : Below w.heap.size w _ := bTrans (bAlloc (by assumption) _) bn) | (have Bn : Below w.heap.size w _ := bTrans (bAlloc (bDrew (by assumption)) _) bn) | (have Bn : Below w.heap.size w _ := bTrans (bDrew (bAlloc (by assumption) _)) bn) | (have Bn : Below w.heap.size w _ := bTrans (Below.refl _ _) bn) | (have Bn : Below w.heap.size w _ := bTrans (bDrew (Below.refl _ _)) bn) | (have Bn : Below w.heap.size w _ := bTrans (bAlloc (Below.refl _ _) _) bn) | (have Bn : Below w.heap.size w _ := bTrans (bAlloc (bAlloc (Below.refl _ _) _) _) bn))))
    go_ret
    exact ⟨rfl, by assumption⟩
  · have h8' : n0 ≤ 8 := by omega
    clear h8
    go_enter Try.func5, Try.ntmps5
    go_wp2
    go_loopw [5] (fun i wr => ∃ k : Nat, k ≤ n0 ∧ i = .int .i64 (k : Int) ∧ Hid (∀ j, j < k → okAt F G j = true) ∧ Below w.heap.size w wr) (fun i _ => n0 - (intOf i).toNat)
    case atStart => exact ⟨0, by omega, rfl, Lib.hid (fun j hj => absurd hj (by omega)), Below.refl _ _⟩
    case round =>
      obtain ⟨k, hk, rfl, ho, hb⟩ := hrel
      by_cases hlt : k < n0
      · obtain ⟨b, off, rfl⟩ := bands_at H.out (by omega)
        obtain ⟨hbl, d0, d1⟩ := band_cells H.out hb rfl hlt
        have cl1 : (k : Int) < (n0 : Int) := by omega
        have cl2 : (0 : Int) ≤ (k : Int) := by omega
        rcases hok : okAt F G k with _ | _
        · have HB : Hid (bandI F G n0 (F k) = 0 ∧ bandB F G n0 (F k) = false) := Lib.hid (band_no (may_no hlt hok) _)
          have hbad : (k ≠ 0 ∧ F k ≤ F (k - 1)) ∨ ((k = 0 ∨ F (k - 1) < F k) ∧ (F k < -1048576 ∨ (¬ F k < -1048576 ∧ (1048576 < F k ∨ (¬ 1048576 < F k ∧ (G k < -65536 ∨ (¬ G k < -65536 ∧ 65536 < G k))))))) := by
            have := of_decide_eq_false hok
            by_cases hz : k = 0
            · refine .inr ⟨.inl hz, ?_⟩
              omega
            · by_cases hf : F k ≤ F (k - 1)
              · exact .inl ⟨hz, hf⟩
              · refine .inr ⟨.inr (by omega), ?_⟩
                omega
          clear hok ho
          have hz0 : (k = 0 ∧ decide (0 < k) = false) ∨ (k ≠ 0 ∧ decide (0 < k) = true) := by
            by_cases hz : k = 0
            · exact .inl ⟨hz, decide_eq_false (by omega)⟩
            · exact .inr ⟨hz, decide_eq_true (by omega)⟩
          rcases hz0 with ⟨hz, z⟩ | ⟨hz, z⟩
          · rcases hbad with ⟨h0, _⟩ | ⟨_, hx⟩
            · exact absurd hz h0
            · clear hz
              rcases hx with x1 | ⟨x1, x2 | ⟨x2, x3 | ⟨x3, x4⟩⟩⟩
              · have y1 : decide (F k < -1048576) = true := decide_eq_true x1
                clear x1
                go_wp2
                go_quiet (fail)
                have Bq := hb
                go_wp2_with fail
                refine (band_is _ _ _ _ _ _ _ _ _ (H.out.later (bDrewN _ hb)) hn HB).mono ?_; rintro e w1 ⟨rfl, b1⟩
                have B1 := bTrans (bDrewN _ hb) b1
                clear Bq
                go_wp2_with (first
                    | (go_at_call 6; refine (lives_any _).mono ?_; rintro e wn ⟨rfl, bn⟩; (first | (have gn := kept_hid bn (by assumption)) | (have gn := new_hid bn) | skip); (first | (have Bn : Below w.heap.size w _ := bTrans (by assumption) bn) | (have Bn : Below w.heap.size w _ := bTrans (bDrew (by assumption)) bn) | (have Bn : Below w.heap.size w _ := bTrans (bDrewN _ (by assumption)) bn) | (have Bn : Below w.heap.size w _ := bTrans (bAlloc (by assumption) _) bn) | (have Bn : Below w.heap.size w _ := bTrans (bAlloc (bDrew (by assumption)) _) bn) | (have Bn : Below w.heap.size w _ := bTrans (bDrew (bAlloc (by assumption) _)) bn) | (have Bn : Below w.heap.size w _ := bTrans (Below.refl _ _) bn) | (have Bn : Below w.heap.size w _ := bTrans (bDrew (Below.refl _ _)) bn) | (have Bn : Below w.heap.size w _ := bTrans (bAlloc (Below.refl _ _) _) bn) | (have Bn : Below w.heap.size w _ := bTrans (bAlloc (bAlloc (Below.refl _ _) _) _) bn))))
                go_ret
                exact ⟨rfl, by assumption⟩
              · have y1 : decide (F k < -1048576) = false := decide_eq_false x1
                have y2 : decide (1048576 < F k) = true := decide_eq_true x2
                clear x1 x2
                go_wp2
                go_quiet (fail)
                have Bq := hb
                go_wp2_with fail
                refine (band_is _ _ _ _ _ _ _ _ _ (H.out.later (bDrewN _ hb)) hn HB).mono ?_; rintro e w1 ⟨rfl, b1⟩
                have B1 := bTrans (bDrewN _ hb) b1
                clear Bq
                go_wp2_with (first
                    | (go_at_call 6; refine (lives_any _).mono ?_; rintro e wn ⟨rfl, bn⟩; (first | (have gn := kept_hid bn (by assumption)) | (have gn := new_hid bn) | skip); (first | (have Bn : Below w.heap.size w _ := bTrans (by assumption) bn) | (have Bn : Below w.heap.size w _ := bTrans (bDrew (by assumption)) bn) | (have Bn : Below w.heap.size w _ := bTrans (bDrewN _ (by assumption)) bn) | (have Bn : Below w.heap.size w _ := bTrans (bAlloc (by assumption) _) bn) | (have Bn : Below w.heap.size w _ := bTrans (bAlloc (bDrew (by assumption)) _) bn) | (have Bn : Below w.heap.size w _ := bTrans (bDrew (bAlloc (by assumption) _)) bn) | (have Bn : Below w.heap.size w _ := bTrans (Below.refl _ _) bn) | (have Bn : Below w.heap.size w _ := bTrans (bDrew (Below.refl _ _)) bn) | (have Bn : Below w.heap.size w _ := bTrans (bAlloc (Below.refl _ _) _) bn) | (have Bn : Below w.heap.size w _ := bTrans (bAlloc (bAlloc (Below.refl _ _) _) _) bn))))
                go_ret
                exact ⟨rfl, by assumption⟩
              · have y1 : decide (F k < -1048576) = false := decide_eq_false x1
                have y2 : decide (1048576 < F k) = false := decide_eq_false x2
                have y3 : decide (G k < -65536) = true := decide_eq_true x3
                clear x1 x2 x3
                go_wp2
                go_quiet (fail)
                have Bq := hb
                go_wp2_with fail
                refine (band_is _ _ _ _ _ _ _ _ _ (H.out.later (bDrewN _ hb)) hn HB).mono ?_; rintro e w1 ⟨rfl, b1⟩
                have B1 := bTrans (bDrewN _ hb) b1
                clear Bq
                go_wp2_with (first
                    | (go_at_call 6; refine (lives_any _).mono ?_; rintro e wn ⟨rfl, bn⟩; (first | (have gn := kept_hid bn (by assumption)) | (have gn := new_hid bn) | skip); (first | (have Bn : Below w.heap.size w _ := bTrans (by assumption) bn) | (have Bn : Below w.heap.size w _ := bTrans (bDrew (by assumption)) bn) | (have Bn : Below w.heap.size w _ := bTrans (bDrewN _ (by assumption)) bn) | (have Bn : Below w.heap.size w _ := bTrans (bAlloc (by assumption) _) bn) | (have Bn : Below w.heap.size w _ := bTrans (bAlloc (bDrew (by assumption)) _) bn) | (have Bn : Below w.heap.size w _ := bTrans (bDrew (bAlloc (by assumption) _)) bn) | (have Bn : Below w.heap.size w _ := bTrans (Below.refl _ _) bn) | (have Bn : Below w.heap.size w _ := bTrans (bDrew (Below.refl _ _)) bn) | (have Bn : Below w.heap.size w _ := bTrans (bAlloc (Below.refl _ _) _) bn) | (have Bn : Below w.heap.size w _ := bTrans (bAlloc (bAlloc (Below.refl _ _) _) _) bn))))
                go_ret
                exact ⟨rfl, by assumption⟩
              · have y1 : decide (F k < -1048576) = false := decide_eq_false x1
                have y2 : decide (1048576 < F k) = false := decide_eq_false x2
                have y3 : decide (G k < -65536) = false := decide_eq_false x3
                have y4 : decide (65536 < G k) = true := decide_eq_true x4
                clear x1 x2 x3 x4
                go_wp2
                go_quiet (fail)
                have Bq := hb
                go_wp2_with fail
                refine (band_is _ _ _ _ _ _ _ _ _ (H.out.later (bDrewN _ hb)) hn HB).mono ?_; rintro e w1 ⟨rfl, b1⟩
                have B1 := bTrans (bDrewN _ hb) b1
                clear Bq
                go_wp2_with (first
                    | (go_at_call 6; refine (lives_any _).mono ?_; rintro e wn ⟨rfl, bn⟩; (first | (have gn := kept_hid bn (by assumption)) | (have gn := new_hid bn) | skip); (first | (have Bn : Below w.heap.size w _ := bTrans (by assumption) bn) | (have Bn : Below w.heap.size w _ := bTrans (bDrew (by assumption)) bn) | (have Bn : Below w.heap.size w _ := bTrans (bDrewN _ (by assumption)) bn) | (have Bn : Below w.heap.size w _ := bTrans (bAlloc (by assumption) _) bn) | (have Bn : Below w.heap.size w _ := bTrans (bAlloc (bDrew (by assumption)) _) bn) | (have Bn : Below w.heap.size w _ := bTrans (bDrew (bAlloc (by assumption) _)) bn) | (have Bn : Below w.heap.size w _ := bTrans (Below.refl _ _) bn) | (have Bn : Below w.heap.size w _ := bTrans (bDrew (Below.refl _ _)) bn) | (have Bn : Below w.heap.size w _ := bTrans (bAlloc (Below.refl _ _) _) bn) | (have Bn : Below w.heap.size w _ := bTrans (bAlloc (bAlloc (Below.refl _ _) _) _) bn))))
                go_ret
                exact ⟨rfl, by assumption⟩
          · obtain ⟨_, e0, _⟩ := band_cells H.out hb rfl (k := k - 1) (by omega)
            have hk1 : (1 : Int) ≤ (k : Int) := by omega
            rcases hbad with ⟨_, hx⟩ | ⟨h0, hx⟩
            · have y0 : decide (F k ≤ F (k - 1)) = true := decide_eq_true hx
              clear hx hz
              go_wp2
              go_quiet (fail)
              have Bq := hb
              go_wp2_with fail
              refine (band_is _ _ _ _ _ _ _ _ _ (H.out.later (bDrewN _ hb)) hn HB).mono ?_; rintro e w1 ⟨rfl, b1⟩
              have B1 := bTrans (bDrewN _ hb) b1
              clear Bq
              go_wp2_with (first
                  | (go_at_call 6; refine (lives_any _).mono ?_; rintro e wn ⟨rfl, bn⟩; (first | (have gn := kept_hid bn (by assumption)) | (have gn := new_hid bn) | skip); (first | (have Bn : Below w.heap.size w _ := bTrans (by assumption) bn) | (have Bn : Below w.heap.size w _ := bTrans (bDrew (by assumption)) bn) | (have Bn : Below w.heap.size w _ := bTrans (bDrewN _ (by assumption)) bn) | (have Bn : Below w.heap.size w _ := bTrans (bAlloc (by assumption) _) bn) | (have Bn : Below w.heap.size w _ := bTrans (bAlloc (bDrew (by assumption)) _) bn) | (have Bn : Below w.heap.size w _ := bTrans (bDrew (bAlloc (by assumption) _)) bn) | (have Bn : Below w.heap.size w _ := bTrans (Below.refl _ _) bn) | (have Bn : Below w.heap.size w _ := bTrans (bDrew (Below.refl _ _)) bn) | (have Bn : Below w.heap.size w _ := bTrans (bAlloc (Below.refl _ _) _) bn) | (have Bn : Below w.heap.size w _ := bTrans (bAlloc (bAlloc (Below.refl _ _) _) _) bn))))
              go_ret
              exact ⟨rfl, by assumption⟩
            · have y0 : decide (F k ≤ F (k - 1)) = false := decide_eq_false (by omega)
              clear h0 hz
              rcases hx with x1 | ⟨x1, x2 | ⟨x2, x3 | ⟨x3, x4⟩⟩⟩
              · have y1 : decide (F k < -1048576) = true := decide_eq_true x1
                clear x1
                go_wp2
                go_quiet (fail)
                have Bq := hb
                go_wp2_with fail
                refine (band_is _ _ _ _ _ _ _ _ _ (H.out.later (bDrewN _ hb)) hn HB).mono ?_; rintro e w1 ⟨rfl, b1⟩
                have B1 := bTrans (bDrewN _ hb) b1
                clear Bq
                go_wp2_with (first
                    | (go_at_call 6; refine (lives_any _).mono ?_; rintro e wn ⟨rfl, bn⟩; (first | (have gn := kept_hid bn (by assumption)) | (have gn := new_hid bn) | skip); (first | (have Bn : Below w.heap.size w _ := bTrans (by assumption) bn) | (have Bn : Below w.heap.size w _ := bTrans (bDrew (by assumption)) bn) | (have Bn : Below w.heap.size w _ := bTrans (bDrewN _ (by assumption)) bn) | (have Bn : Below w.heap.size w _ := bTrans (bAlloc (by assumption) _) bn) | (have Bn : Below w.heap.size w _ := bTrans (bAlloc (bDrew (by assumption)) _) bn) | (have Bn : Below w.heap.size w _ := bTrans (bDrew (bAlloc (by assumption) _)) bn) | (have Bn : Below w.heap.size w _ := bTrans (Below.refl _ _) bn) | (have Bn : Below w.heap.size w _ := bTrans (bDrew (Below.refl _ _)) bn) | (have Bn : Below w.heap.size w _ := bTrans (bAlloc (Below.refl _ _) _) bn) | (have Bn : Below w.heap.size w _ := bTrans (bAlloc (bAlloc (Below.refl _ _) _) _) bn))))
                go_ret
                exact ⟨rfl, by assumption⟩
              · have y1 : decide (F k < -1048576) = false := decide_eq_false x1
                have y2 : decide (1048576 < F k) = true := decide_eq_true x2
                clear x1 x2
                go_wp2
                go_quiet (fail)
                have Bq := hb
                go_wp2_with fail
                refine (band_is _ _ _ _ _ _ _ _ _ (H.out.later (bDrewN _ hb)) hn HB).mono ?_; rintro e w1 ⟨rfl, b1⟩
                have B1 := bTrans (bDrewN _ hb) b1
                clear Bq
                go_wp2_with (first
                    | (go_at_call 6; refine (lives_any _).mono ?_; rintro e wn ⟨rfl, bn⟩; (first | (have gn := kept_hid bn (by assumption)) | (have gn := new_hid bn) | skip); (first | (have Bn : Below w.heap.size w _ := bTrans (by assumption) bn) | (have Bn : Below w.heap.size w _ := bTrans (bDrew (by assumption)) bn) | (have Bn : Below w.heap.size w _ := bTrans (bDrewN _ (by assumption)) bn) | (have Bn : Below w.heap.size w _ := bTrans (bAlloc (by assumption) _) bn) | (have Bn : Below w.heap.size w _ := bTrans (bAlloc (bDrew (by assumption)) _) bn) | (have Bn : Below w.heap.size w _ := bTrans (bDrew (bAlloc (by assumption) _)) bn) | (have Bn : Below w.heap.size w _ := bTrans (Below.refl _ _) bn) | (have Bn : Below w.heap.size w _ := bTrans (bDrew (Below.refl _ _)) bn) | (have Bn : Below w.heap.size w _ := bTrans (bAlloc (Below.refl _ _) _) bn) | (have Bn : Below w.heap.size w _ := bTrans (bAlloc (bAlloc (Below.refl _ _) _) _) bn))))
                go_ret
                exact ⟨rfl, by assumption⟩
              · have y1 : decide (F k < -1048576) = false := decide_eq_false x1
                have y2 : decide (1048576 < F k) = false := decide_eq_false x2
                have y3 : decide (G k < -65536) = true := decide_eq_true x3
                clear x1 x2 x3
                go_wp2
                go_quiet (fail)
                have Bq := hb
                go_wp2_with fail
                refine (band_is _ _ _ _ _ _ _ _ _ (H.out.later (bDrewN _ hb)) hn HB).mono ?_; rintro e w1 ⟨rfl, b1⟩
                have B1 := bTrans (bDrewN _ hb) b1
                clear Bq
                go_wp2_with (first
                    | (go_at_call 6; refine (lives_any _).mono ?_; rintro e wn ⟨rfl, bn⟩; (first | (have gn := kept_hid bn (by assumption)) | (have gn := new_hid bn) | skip); (first | (have Bn : Below w.heap.size w _ := bTrans (by assumption) bn) | (have Bn : Below w.heap.size w _ := bTrans (bDrew (by assumption)) bn) | (have Bn : Below w.heap.size w _ := bTrans (bDrewN _ (by assumption)) bn) | (have Bn : Below w.heap.size w _ := bTrans (bAlloc (by assumption) _) bn) | (have Bn : Below w.heap.size w _ := bTrans (bAlloc (bDrew (by assumption)) _) bn) | (have Bn : Below w.heap.size w _ := bTrans (bDrew (bAlloc (by assumption) _)) bn) | (have Bn : Below w.heap.size w _ := bTrans (Below.refl _ _) bn) | (have Bn : Below w.heap.size w _ := bTrans (bDrew (Below.refl _ _)) bn) | (have Bn : Below w.heap.size w _ := bTrans (bAlloc (Below.refl _ _) _) bn) | (have Bn : Below w.heap.size w _ := bTrans (bAlloc (bAlloc (Below.refl _ _) _) _) bn))))
                go_ret
                exact ⟨rfl, by assumption⟩
              · have y1 : decide (F k < -1048576) = false := decide_eq_false x1
                have y2 : decide (1048576 < F k) = false := decide_eq_false x2
                have y3 : decide (G k < -65536) = false := decide_eq_false x3
                have y4 : decide (65536 < G k) = true := decide_eq_true x4
                clear x1 x2 x3 x4
                go_wp2
                go_quiet (fail)
                have Bq := hb
                go_wp2_with fail
                refine (band_is _ _ _ _ _ _ _ _ _ (H.out.later (bDrewN _ hb)) hn HB).mono ?_; rintro e w1 ⟨rfl, b1⟩
                have B1 := bTrans (bDrewN _ hb) b1
                clear Bq
                go_wp2_with (first
                    | (go_at_call 6; refine (lives_any _).mono ?_; rintro e wn ⟨rfl, bn⟩; (first | (have gn := kept_hid bn (by assumption)) | (have gn := new_hid bn) | skip); (first | (have Bn : Below w.heap.size w _ := bTrans (by assumption) bn) | (have Bn : Below w.heap.size w _ := bTrans (bDrew (by assumption)) bn) | (have Bn : Below w.heap.size w _ := bTrans (bDrewN _ (by assumption)) bn) | (have Bn : Below w.heap.size w _ := bTrans (bAlloc (by assumption) _) bn) | (have Bn : Below w.heap.size w _ := bTrans (bAlloc (bDrew (by assumption)) _) bn) | (have Bn : Below w.heap.size w _ := bTrans (bDrew (bAlloc (by assumption) _)) bn) | (have Bn : Below w.heap.size w _ := bTrans (Below.refl _ _) bn) | (have Bn : Below w.heap.size w _ := bTrans (bDrew (Below.refl _ _)) bn) | (have Bn : Below w.heap.size w _ := bTrans (bAlloc (Below.refl _ _) _) bn) | (have Bn : Below w.heap.size w _ := bTrans (bAlloc (bAlloc (Below.refl _ _) _) _) bn))))
                go_ret
                exact ⟨rfl, by assumption⟩
        · have HK : Hid (∀ j, j < k + 1 → okAt F G j = true) := Lib.hid (ok_step ho.out hok)
          obtain ⟨q1, q2, q3, q4, q5⟩ := of_decide_eq_true hok
          have y1 : decide (F k < -1048576) = false := decide_eq_false (by omega)
          have y2 : decide (1048576 < F k) = false := decide_eq_false (by omega)
          have y3 : decide (G k < -65536) = false := decide_eq_false (by omega)
          have y4 : decide (65536 < G k) = false := decide_eq_false (by omega)
          clear hok ho
          by_cases hz : k = 0
          · have z : decide (0 < k) = false := decide_eq_false (by omega)
            clear q1 q2 q3 q4 q5 hz
            go_wp2
            go_quiet (fail)
            go_wp2
            go_roundw
            case rel => exact ⟨k + 1, by omega, by go_num, HK, bDrewN _ hb⟩
            case measure => simp [intOf]; omega
          · have z : decide (0 < k) = true := decide_eq_true (by omega)
            obtain ⟨_, e0, _⟩ := band_cells H.out hb rfl (k := k - 1) (by omega)
            have hk1 : (1 : Int) ≤ (k : Int) := by omega
            have y0 : decide (F k ≤ F (k - 1)) = false := decide_eq_false (by have := q5 (by omega); omega)
            clear q1 q2 q3 q4 q5 hz
            go_wp2
            go_quiet (fail)
            go_wp2
            go_roundw
            case rel => exact ⟨k + 1, by omega, by go_num, HK, bDrewN _ hb⟩
            case measure => simp [intOf]; omega
      · have hm : mayB F G n0 = true := decide_eq_true ⟨h8', fun j hj => ho.out j (by omega)⟩
        have M := Lib.hid hm
        clear hm ho
        go_wp2
        clear hlt hk
        go_loopw [8] (fun i wr => ∃ k : Nat, k ≤ n0 ∧ i = .int .i64 (k : Int) ∧ Below w.heap.size w wr) (fun i _ => n0 - (intOf i).toNat)
        case atStart => exact ⟨0, by omega, rfl, hb⟩
        case round =>
          obtain ⟨j, hj, rfl, hb2⟩ := hrel
          by_cases hlt : j < n0
          · obtain ⟨b, off, rfl⟩ := bands_at H.out (by omega)
            obtain ⟨hbl, d0, d1⟩ := band_cells H.out hb2 rfl hlt
            have cl1 : (j : Int) < (n0 : Int) := by omega
            have cl2 : (0 : Int) ≤ (j : Int) := by omega
            obtain ⟨q1, q2, q3, q4, q5⟩ := (may_yes M.out).2 j hlt
            have HO := Lib.hid (band_own M.out hlt)
            have hl := band_less M.out hlt
            by_cases hz : j = 0
            · have HL : Hid (bandI F G n0 (F j - 1) = 0 ∧ bandB F G n0 (F j - 1) = false) := Lib.hid ⟨hl.1.trans (if_pos hz), hl.2.trans (decide_eq_false (by omega))⟩
              have z : decide (0 < j) = false := decide_eq_false (by omega)
              clear hl q5 hz
              go_wp2_with fail
              refine (band_is _ _ _ _ _ _ _ _ _ (H.out.later hb2) hn HO).mono ?_; rintro e w1 ⟨rfl, b1⟩
              have B1 := bTrans hb2 b1
              obtain ⟨_, f0, f1⟩ := band_cells H.out B1 rfl hlt
              clear b1
              go_wp2_with fail
              refine (band_is _ _ _ _ _ _ _ _ _ (H.out.later B1) hn HL).mono ?_; rintro e w2 ⟨rfl, b2⟩
              have B2 := bTrans B1 b2
              go_wp2
              go_roundw
              case rel => exact ⟨j + 1, by omega, by go_num, B2⟩
              case measure => simp [intOf]; omega
            · have HL : Hid (bandI F G n0 (F j - 1) = (j : Int) - 1 ∧ bandB F G n0 (F j - 1) = true) := Lib.hid ⟨hl.1.trans (if_neg hz), hl.2.trans (decide_eq_true hz)⟩
              have z : decide (0 < j) = true := decide_eq_true (by omega)
              have hj1 : (1 : Int) ≤ (j : Int) := by omega
              clear hl q5 hz
              go_wp2_with fail
              refine (band_is _ _ _ _ _ _ _ _ _ (H.out.later hb2) hn HO).mono ?_; rintro e w1 ⟨rfl, b1⟩
              have B1 := bTrans hb2 b1
              obtain ⟨_, f0, f1⟩ := band_cells H.out B1 rfl hlt
              clear b1
              go_wp2_with fail
              refine (band_is _ _ _ _ _ _ _ _ _ (H.out.later B1) hn HL).mono ?_; rintro e w2 ⟨rfl, b2⟩
              have B2 := bTrans B1 b2
              go_wp2
              go_roundw
              case rel => exact ⟨j + 1, by omega, by go_num, B2⟩
              case measure => simp [intOf]; omega
          · go_wp2_with (first
      | (go_at_call 6; refine (lives_any _).mono ?_; rintro e wn ⟨rfl, bn⟩; (first | (have gn := kept_hid bn (by assumption)) | (have gn := new_hid bn) | skip); (first | (have Bn : Below w.heap.size w _ := bTrans (by assumption) bn) | (have Bn : Below w.heap.size w _ := bTrans (bDrew (by assumption)) bn) | (have Bn : Below w.heap.size w _ := bTrans (bDrewN _ (by assumption)) bn) | (have Bn : Below w.heap.size w _ := bTrans (bAlloc (by assumption) _) bn) | (have Bn : Below w.heap.size w _ := bTrans (bAlloc (bDrew (by assumption)) _) bn) | (have Bn : Below w.heap.size w _ := bTrans (bDrew (bAlloc (by assumption) _)) bn) | (have Bn : Below w.heap.size w _ := bTrans (Below.refl _ _) bn) | (have Bn : Below w.heap.size w _ := bTrans (bDrew (Below.refl _ _)) bn) | (have Bn : Below w.heap.size w _ := bTrans (bAlloc (Below.refl _ _) _) bn) | (have Bn : Below w.heap.size w _ := bTrans (bAlloc (bAlloc (Below.refl _ _) _) _) bn))))
            go_ret
            exact ⟨rfl, by assumption⟩

/-! The row's step, by the frame. -/
theorem own : ownKnob Try.prog.godebug = none := by kernel_rfl
theorem laidOut : laidOutB Try.prog = true := by kernel_rfl
set_option maxRecDepth 100000 in
theorem lifted (os : Os) (started : os.Started) (H : Type) (enc : TypeId × Value → H) :
    ReturnsInHanded {} Try.checked os 5 .any (Rows.stairBandsSpec.pre6 enc Try.prog Try.f5 Rows.stairBandsRow.domain false) (Rows.stairBandsSpec.post enc Try.prog Try.f5 false true false false) := by
  refine returnsInHanded_of_change_sized (C := Try.checked) own started (by kernel_rfl) Try.func5
    (ChangeSpec.witness6 (enc := enc) (C := Try.checked) false ⟨#[], #[.slice none 0 0], []⟩ 8 (by kernel_rfl) (by kernel_rfl) (by kernel_rfl) (by kernel_rfl)) ?_
  intro W base args ds gs before hval0 hW _ hsz0 _
  have hsz : (DataW.weightsEach Try.prog (Try.f5.params.toList ++ Rows.stairBandsSpec.plain.varTypes Try.prog) (ds ++ gs)).all (· ≤ reachBytes) = true := hsz0
  have hval : ∀ (j : Nat) t v, Try.f5.params[j]? = some t → args[j]? = some v → Value.okWide Try.prog W .any base t v := hval0
  have hW' := hW
  obtain ⟨p, q, hA0, hV, rfl, hfz, hnd⟩ := hW
  have hA : DataW.TrodAll enc Try.prog W 0 (fun _ => true) true Try.f5.params.toList args.toList ds p := hA0
  rw [Try.params5] at hA hval hsz
  obtain ⟨v0, vs0, d0, ds0, p0, q0, hargs, rfl, rfl, h0, r0⟩ := trodAll_cons hA
  obtain ⟨rfl, rfl, rfl⟩ := trodAll_nil r0
  obtain rfl : args = #[v0] := by cases args; simp_all
  obtain ⟨rfl, rfl⟩ := trodVars_none hV
  obtain ⟨A0, n0, c0, rfl⟩ := okWide_slice Try.underlying22 (hval 0 22 v0 rfl rfl)
  have k0 := h0
  have lt0 : ∀ x ∈ p0, x.block < W.heap.size := by obtain ⟨m, hm⟩ := k0; exact DataW.trod_lt m _ _ _ hm
  obtain ⟨F0, G0, b0⟩ := bands_arg h0
  clear hA0 hval0 hsz0
  refine (walk A0 n0 c0 F0 G0 W b0).mono fun e W' ⟨he, bel⟩ => ?_
  subst he
  exact ⟨_, rfl, _, _, _, [], _, [], hW', trodAll_mk1 (shut_bool Try.underlying4 _), (trodAll_cons_mk (Below.trod laidOut (by kernel_rfl) (of_decide_eq_true (by kernel_rfl)) k0 bel lt0) trodAll_mk0), rfl, bel.frame _, fun h => by cases h⟩

/-- The statement. -/
theorem proved : Rows.StairBandsSaid :=
  OpenClaim.holds_of_wide 5 Try.f5 rfl rfl rfl rfl rfl rfl rfl ⟨rfl, rfl, rfl, rfl, rfl⟩ rfl rfl rfl rfl rfl (by kernel_rfl) Try.func5 (by kernel_rfl)
    (of_decide_eq_true (by kernel_rfl)) (by unfold Func.isWrapper; first | (rw [if_pos (by decide +kernel)]; kernel_rfl) | (rw [if_neg (by decide +kernel)]; exact ⟨rfl, rfl⟩))
    (fun os started H enc _ => lifted os started H enc)
end Go.Proofs.Ytbjkcnfkbfhibaa.stairBands
