
/- Contracts of layer 22: the document's band, and capacity. -/
import Derived.Test.YtbjkcnfkbfhibaaStairR
namespace Go.Proofs.Ytbjkcnfkbfhibaa.Stair
open Go.ChangeShapes Go.WideShapes Go.ChangeAt Go.RowKit
open NumM NumA Mem Arr

theorem refMay_is (A : Option Addr) (n c : Nat) (F G : Nat → Int) (t : Bool) (w : World) (h : Bands w w.heap.size A n F G) (hn : n ≤ 9223372036854775807) (ht : Hid (mayB F G n = t)) :
    Calls Try.prog 15 #[.slice A n c] w fun e w' => e = .returned (.bool t) ∧ Below w.heap.size w w' := by
  have := refMay_any A n c F G w h hn
  rw [ht.out] at this; exact this

theorem refBand_any (A : Option Addr) (n c : Nat) (F G : Nat → Int) (dev : Int) (w : World) (h : Bands w w.heap.size A n F G) (hn : n ≤ 9223372036854775807) :
    Calls Try.prog 8 #[.slice A n c, .int .i64 dev] w fun e w' => e = .returned (.tuple #[.int .i64 (bandI F G n dev), .bool (bandB F G n dev)]) ∧ Below w.heap.size w w' := by
  have H := Lib.hid h
  clear h
  rcases hm : mayB F G n with _ | _
  · have HV : Hid (bandI F G n dev = 0 ∧ bandB F G n dev = false) := Lib.hid (by
      have e : bandK F G n dev = 0 := by unfold bandK; rw [hm]; rfl
      exact ⟨by unfold bandI; rw [if_pos e], by unfold bandB; rw [e]; rfl⟩)
    have M := Lib.hid hm
    clear hm
    go_enter Try.func8, Try.ntmps8
    go_wp2
    refine wp_loop_rounds 1 ?_
    rw [rounds_succ]
    by_cases hz : n = 0
    · have z : decide ((0 : Int) ≤ (n : Int) - 1) = false := decide_eq_false (by omega)
      have z' : (n : Int) - 1 < 0 := by omega
      clear hz
      go_wp2
      go_ret2
      exact ⟨ret_ib HV.out.1.symm HV.out.2.symm, Below.refl _ _⟩
    · have z : decide ((0 : Int) ≤ (n : Int) - 1) = true := decide_eq_true (by omega)
      have z' : 0 ≤ (n : Int) - 1 := by omega
      have z'' : 1 ≤ (n : Int) := by omega
      clear hz
      go_wp2_with (first | (go_at_call 15; refine (refMay_is _ _ _ _ _ _ _ H.out hn M).mono ?_; rintro e w1 ⟨rfl, hb⟩))
      go_ret2
      exact ⟨ret_ib HV.out.1.symm HV.out.2.symm, hb⟩
  · have M := Lib.hid hm
    have h8 := (may_yes hm).1
    clear hm
    go_enter Try.func8, Try.ntmps8
    go_wp2
    go_loopw [6] (fun i wr => ∃ k : Nat, k ≤ n ∧ i = .int .i64 ((k : Int) - 1) ∧ Hid (cnt F dev n = cnt F dev k) ∧ Below w.heap.size w wr) (fun i _ => (intOf i + 1).toNat)
    case atStart => exact ⟨n, by omega, rfl, Lib.hid rfl, Below.refl _ _⟩
    case round =>
      obtain ⟨k, hk, rfl, hc, hb⟩ := hrel
      by_cases hz : k = 0
      · have HV : Hid (bandI F G n dev = 0 ∧ bandB F G n dev = false) := Lib.hid (by
          have e : bandK F G n dev = 0 := by unfold bandK; rw [if_pos M.out, hc.out, hz]; rfl
          exact ⟨by unfold bandI; rw [if_pos e], by unfold bandB; rw [e]; rfl⟩)
        have z : decide ((0 : Int) ≤ (k : Int) - 1) = false := decide_eq_false (by omega)
        have z' : (k : Int) - 1 < 0 := by omega
        clear hz
        go_wp2
        go_ret2
        exact ⟨ret_ib HV.out.1.symm HV.out.2.symm, hb⟩
      · obtain ⟨b, off, rfl⟩ := bands_at H.out (by omega)
        obtain ⟨j, rfl⟩ : ∃ j, k = j + 1 := ⟨k - 1, by omega⟩
        have z : decide ((0 : Int) ≤ (j : Int)) = true := decide_eq_true (by omega)
        have ej : (((j + 1 : Nat) : Int) - 1) = (j : Int) := by omega
        have EJ := Lib.hid ej
        rw [ej]
        clear ej
        by_cases hle : F j ≤ dev
        · have HV : Hid (bandI F G n dev = (j : Int) ∧ bandB F G n dev = true) := Lib.hid (by
            have e : bandK F G n dev = j + 1 := by unfold bandK; rw [if_pos M.out, hc.out]; unfold cnt; rw [if_pos hle]
            exact ⟨by unfold bandI; rw [e, if_neg (by omega)]; omega, by unfold bandB; rw [e]; exact decide_eq_true (by omega)⟩)
          have hd : decide (F j ≤ dev) = true := decide_eq_true hle
          clear hle
          go_wp2_with fail
          refine (refMay_is _ _ _ _ _ _ _ (H.out.later hb) hn M).mono ?_; rintro e w1 ⟨rfl, hb1⟩
          obtain ⟨_, c0, c1⟩ := band_cells H.out (bTrans hb hb1) rfl (k := j) (by omega)
          go_wp2
          go_ret2
          exact ⟨ret_ib HV.out.1.symm HV.out.2.symm, bTrans hb hb1⟩
        · have hc' : Hid (cnt F dev n = cnt F dev j) := Lib.hid (by rw [hc.out]; show (if F j ≤ dev then j + 1 else cnt F dev j) = _; rw [if_neg hle])
          have hd : decide (F j ≤ dev) = false := decide_eq_false hle
          clear hle
          go_wp2_with fail
          refine (refMay_is _ _ _ _ _ _ _ (H.out.later hb) hn M).mono ?_; rintro e w1 ⟨rfl, hb1⟩
          obtain ⟨_, c0, c1⟩ := band_cells H.out (bTrans hb hb1) rfl (k := j) (by omega)
          go_wp2
          go_roundw
          case rel => exact ⟨j, by omega, rfl, hc', bTrans hb hb1⟩
          case measure => simp [intOf]

theorem refBand_is (A : Option Addr) (n c : Nat) (F G : Nat → Int) (dev i : Int) (t : Bool) (w : World) (h : Bands w w.heap.size A n F G) (hn : n ≤ 9223372036854775807) (ht : Hid (bandI F G n dev = i ∧ bandB F G n dev = t)) :
    Calls Try.prog 8 #[.slice A n c, .int .i64 dev] w fun e w' => e = .returned (.tuple #[.int .i64 i, .bool t]) ∧ Below w.heap.size w w' := by
  have := refBand_any A n c F G dev w h hn
  rw [ht.out.1, ht.out.2] at this; exact this

set_option maxHeartbeats 2000000 in
theorem refWant_any (A : Option Addr) (n c : Nat) (F G : Nat → Int) (d m t : Int) (w : World) (h : Bands w w.heap.size A n F G) (hn : n ≤ 9223372036854775807) :
    Calls Try.prog 10 #[.slice A n c, .int .i64 d, .int .i64 m, .int .i64 t] w fun e w' => e = .returned (.tuple #[.int .i64 (wantV F G n d m t), .int .i64 (wantE F G n d m t)]) ∧ Below w.heap.size w w' := by
  have H := Lib.hid h
  clear h
  rcases hm : mayB F G n with _ | _
  · have HV : Hid (wantV F G n d m t = 0 ∧ wantE F G n d m t = 2) := Lib.hid ⟨if_pos (.inl hm), if_pos (.inl hm)⟩
    have M := Lib.hid hm
    clear hm
    go_enter Try.func10, Try.ntmps10
    go_wp2_with (first | (go_at_call 15; refine (refMay_is _ _ _ _ _ _ _ H.out hn M).mono ?_; rintro e w1 ⟨rfl, hb⟩))
    go_ret2
    exact ⟨ret_two HV.out.1.symm HV.out.2.symm, hb⟩
  · have M := Lib.hid hm
    have Y := may_yes hm
    clear hm
    by_cases hd : outW d m t
    · have ho : mayB F G n = false ∨ outW d m t := .inr hd
      have HV : Hid (wantV F G n d m t = 0 ∧ wantE F G n d m t = 2) := Lib.hid ⟨if_pos ho, if_pos ho⟩
      clear Y ho
      have hd' : d < 0 ∨ (0 ≤ d ∧ 65536 < d) ∨ (0 ≤ d ∧ d ≤ 65536 ∧ m < 0) ∨ (0 ≤ d ∧ d ≤ 65536 ∧ 0 ≤ m ∧ 1048576 < m) ∨ (0 ≤ d ∧ d ≤ 65536 ∧ 0 ≤ m ∧ m ≤ 1048576 ∧ t < 0) ∨ (0 ≤ d ∧ d ≤ 65536 ∧ 0 ≤ m ∧ m ≤ 1048576 ∧ 0 ≤ t ∧ 1048576 < t) := by unfold outW at hd; omega
      clear hd
      rcases hd' with h1 | ⟨h1, h2⟩ | ⟨h1, h2, h3⟩ | ⟨h1, h2, h3, h4⟩ | ⟨h1, h2, h3, h4, h5⟩ | ⟨h1, h2, h3, h4, h5, h6⟩
      all_goals
        go_enter Try.func10, Try.ntmps10
        go_wp2_with (first | (go_at_call 15; refine (refMay_is _ _ _ _ _ _ _ H.out hn M).mono ?_; rintro e w1 ⟨rfl, hb⟩))
        go_ret2
        exact ⟨ret_two HV.out.1.symm HV.out.2.symm, hb⟩
    · have hno : ¬ (mayB F G n = false ∨ outW d m t) := by
        rintro (h | h)
        · rw [M.out] at h; cases h
        · exact hd h
      have HV : Hid (wantV F G n d m t = sumW F G n d m t ∧ wantE F G n d m t = 0) := Lib.hid ⟨if_neg hno, if_neg hno⟩
      clear hno
      have hd' : 0 ≤ d ∧ d ≤ 65536 ∧ 0 ≤ m ∧ m ≤ 1048576 ∧ 0 ≤ t ∧ t ≤ 1048576 := by unfold outW at hd; omega
      clear hd
      obtain ⟨_, _, _, _, _, _⟩ := hd'
      by_cases hz : bandK F G n (m - t) = 0
      · have HB : Hid (bandI F G n (m - t) = 0 ∧ bandB F G n (m - t) = false) := Lib.hid ⟨by unfold bandI; rw [if_pos hz], by unfold bandB; rw [hz]; rfl⟩
        have HS : Hid (sumW F G n d m t = d) := Lib.hid (if_pos hz)
        clear hz Y
        go_enter Try.func10, Try.ntmps10
        go_wp2_with (first | (go_at_call 15; refine (refMay_is _ _ _ _ _ _ _ H.out hn M).mono ?_; rintro e w1 ⟨rfl, hb⟩) | (go_at_call 8; refine (refBand_is _ _ _ _ _ _ _ _ _ (H.out.later hb) hn HB).mono ?_; rintro e w2 ⟨rfl, hb2⟩))
        go_ret2
        exact ⟨ret_two (by rw [HV.out.1, HS.out]) HV.out.2.symm, bTrans hb hb2⟩
      · have hk : bandK F G n (m - t) ≤ n := by unfold bandK; rw [if_pos M.out]; exact cnt_bd _ _ _
        obtain ⟨k, ek⟩ : ∃ k : Nat, bandK F G n (m - t) = k + 1 := ⟨bandK F G n (m - t) - 1, by omega⟩
        have hkn : k < n := by omega
        have HB : Hid (bandI F G n (m - t) = (k : Int) ∧ bandB F G n (m - t) = true) := Lib.hid ⟨by unfold bandI; rw [ek, if_neg (by omega)]; omega, by unfold bandB; rw [ek]; exact decide_eq_true (by omega)⟩
        have HS : Hid (sumW F G n d m t = if 0 ≤ d + G k then d + G k else 0) := Lib.hid (by unfold sumW; rw [if_neg hz, ek]; simp)
        obtain ⟨_, _, _, _, _⟩ := Y.2 k hkn
        obtain ⟨b, off, rfl⟩ := bands_at H.out (by omega)
        clear hz Y hk ek
        go_enter Try.func10, Try.ntmps10
        go_wp2_with (first | (go_at_call 15; refine (refMay_is _ _ _ _ _ _ _ H.out hn M).mono ?_; rintro e w1 ⟨rfl, hb⟩) | (go_at_call 8; refine (refBand_is _ _ _ _ _ _ _ _ _ (H.out.later hb) hn HB).mono ?_; rintro e w2 ⟨rfl, hb2⟩; obtain ⟨_, c0, c1⟩ := band_cells H.out (bTrans hb hb2) rfl hkn))
        all_goals
          go_ret2
          refine ⟨ret_two ?_ HV.out.2.symm, bTrans hb hb2⟩
          rw [HV.out.1, HS.out]
          split <;> omega

theorem want_is (A : Option Addr) (n c : Nat) (F G : Nat → Int) (d m t v f : Int) (w : World) (h : Bands w w.heap.size A n F G) (hn : n ≤ 9223372036854775807) (hv : Hid (wantV F G n d m t = v ∧ wantE F G n d m t = f)) :
    Calls Try.prog 9 #[.slice A n c, .int .i64 d, .int .i64 m, .int .i64 t] w fun e w' => e = .returned (.tuple #[.int .i64 v, .int .i64 f]) ∧ Below w.heap.size w w' := by
  have := want_any A n c F G d m t w h hn
  rw [hv.out.1, hv.out.2] at this; exact this
/-- the document's three bands -/
def F3 (i : Nat) : Int := if i = 0 then -20 else if i = 1 then 0 else 10
def G3 (i : Nat) : Int := if i = 0 then -1 else if i = 1 then 0 else 2
theorem three_any (w : World) :
    Calls Try.prog 11 #[] w fun e w' => ∃ A c, e = .returned (.slice A 3 c) ∧ Bands w' w'.heap.size A 3 F3 G3 ∧ Below w.heap.size w w' := by
  go_enter Try.func11, Try.ntmps11
  go_wp2
  go_ret
  refine ⟨_, 3, rfl, ⟨fun e => (by cases e), fun _ => ⟨w.heap.size, 0, rfl, by simp, fun i j hi hj => ?_⟩⟩, bAlloc (Below.refl _ _) _⟩
  rw [cell_of_row _ _ _ _ _ _ (heap_alloc_new w _)]
  rcases (show i = 0 ∨ i = 1 ∨ i = 2 by omega) with rfl | rfl | rfl <;> rcases (show j = 0 ∨ j = 1 by omega) with rfl | rfl <;> rfl

theorem may3 : mayB F3 G3 3 = true := by decide
theorem lives_any (w : World) : Calls Try.prog 6 #[] w fun e w' => e = .returned (.bool true) ∧ Below w.heap.size w w' := by
  have W1 : Hid (wantV F3 G3 3 5 65 50 = 7 ∧ wantE F3 G3 3 5 65 50 = 0) := by
    have hno : ¬ (mayB F3 G3 3 = false ∨ outW 5 65 50) := by
      rintro (h | h)
      · rw [may3] at h; cases h
      · unfold outW at h; omega
    exact Lib.hid ⟨(if_neg hno).trans (by decide), if_neg hno⟩
  have W2 : Hid (wantV F3 G3 3 0 30 50 = 0 ∧ wantE F3 G3 3 0 30 50 = 0) := by
    have hno : ¬ (mayB F3 G3 3 = false ∨ outW 0 30 50) := by
      rintro (h | h)
      · rw [may3] at h; cases h
      · unfold outW at h; omega
    exact Lib.hid ⟨(if_neg hno).trans (by decide), if_neg hno⟩
  have B1 : Hid (bandI F3 G3 3 (-21) = 0 ∧ bandB F3 G3 3 (-21) = false) := Lib.hid (by decide)
  have B2 : Hid (bandI F3 G3 3 9 = 1 ∧ bandB F3 G3 3 9 = true) := Lib.hid (by decide)
  go_enter Try.func6, Try.ntmps6
  go_wp2_with fail
  refine (three_any _).mono ?_; rintro e w1 ⟨A1, c1, rfl, d1, b1⟩
  go_wp2_with fail
  refine (band_is _ _ _ _ _ _ _ _ _ d1 (by omega) B1).mono ?_; rintro e w2 ⟨rfl, b2⟩
  go_wp2_with fail
  refine (three_any _).mono ?_; rintro e w3 ⟨A2, c2, rfl, d2, b3⟩
  go_wp2_with fail
  refine (band_is _ _ _ _ _ _ _ _ _ d2 (by omega) B2).mono ?_; rintro e w4 ⟨rfl, b4⟩
  go_wp2_with fail
  refine (three_any _).mono ?_; rintro e w5 ⟨A3, c3, rfl, d3, b5⟩
  go_wp2_with fail
  refine (want_is _ _ _ _ _ _ _ _ _ _ _ d3 (by omega) W1).mono ?_; rintro e w6 ⟨rfl, b6⟩
  go_wp2_with fail
  refine (three_any _).mono ?_; rintro e w7 ⟨A4, c4, rfl, d4, b7⟩
  go_wp2_with fail
  refine (want_is _ _ _ _ _ _ _ _ _ _ _ d4 (by omega) W2).mono ?_; rintro e w8 ⟨rfl, b8⟩
  go_wp2_with fail
  go_ret
  exact ⟨rfl, bTrans (bTrans (bTrans (bTrans (bTrans (bTrans (bTrans b1 b2) b3) b4) b5) b6) b7) b8⟩

/-- what a walk is told of a list of bands that came in -/
structure BandArg (w : World) (A : Option Addr) (n c : Nat) (F G : Nat → Int) : Prop where
  bands : Bands w w.heap.size A n F G
  le : n ≤ c
  cap : c ≤ 9223372036854775807
  inF : ∀ i, i < n → -9223372036854775808 ≤ F i ∧ F i ≤ 9223372036854775807
  inG : ∀ i, i < n → -9223372036854775808 ≤ G i ∧ G i ≤ 9223372036854775807
theorem bands_arg {H : Type} {enc : TypeId × Value → H} {w : World} {A : Option Addr} {n c : Nat} {d : DataW H} {p : List MemPlace} (h : DataW.Trod enc Try.prog w 0 (fun _ => true) true 22 (.slice A n c) d p) : ∃ F G, BandArg w A n c F G := by
  obtain ⟨V, hr, _, hl, hm, he⟩ := recs_of (sz := 2) Try.underlying22 (by kernel_rfl) (by omega) h
  have hF : ∀ i, i < n → V i 0 = .int .i64 (intV (V i 0)) ∧ (Lit.int .i64 (intV (V i 0))).wf = true := fun i hi => elem_int (he i hi) Try.underlying32 (by kernel_rfl) 0 rfl (by omega) Try.underlying2
  have hG : ∀ i, i < n → V i 1 = .int .i64 (intV (V i 1)) ∧ (Lit.int .i64 (intV (V i 1))).wf = true := fun i hi => elem_int (he i hi) Try.underlying32 (by kernel_rfl) 1 rfl (by omega) Try.underlying2
  refine ⟨fun i => intV (V i 0), fun i => intV (V i 1), ⟨⟨hr.1, fun h0 => ?_⟩, hl, by unfold maxLen at hm; omega, fun i hi => bounds_i64 (hF i hi).2, fun i hi => bounds_i64 (hG i hi).2⟩⟩
  obtain ⟨b, off, e, hlt, hc⟩ := hr.2 h0
  refine ⟨b, off, e, hlt, fun i j hi hj => ?_⟩
  rw [hc i j hi hj]
  rcases (show j = 0 ∨ j = 1 by omega) with rfl | rfl
  · rw [(hF i hi).1]; rfl
  · rw [(hG i hi).1]; rfl
end Go.Proofs.Ytbjkcnfkbfhibaa.Stair
