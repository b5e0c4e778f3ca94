
/- Contracts of layer 13: the document's answers. -/
import Derived.Test.YtinkeeifndmalaaSplitB
namespace Go.Proofs.Ytinkeeifndmalaa.Split
open Go.ChangeShapes Go.WideShapes Go.ChangeAt Go.RowKit
open NumM NumA Mem

theorem refMay_any (c : Cfg) (n : Int) (w : World) :
    Calls Try.prog 21 #[c.val, .int .i64 n] w fun e w' => e = .returned (.bool (reckB c.base c.percent n)) ∧ Below w.heap.size w w' := by
  have f6 := c.f6
  have f7 := c.f7
  rcases hr : reckB c.base c.percent n with _ | _
  · have h : n < 0 ∨ (0 ≤ n ∧ 65536 < n) ∨ (0 ≤ n ∧ n ≤ 65536 ∧ c.base < 0) ∨ (0 ≤ n ∧ n ≤ 65536 ∧ 0 ≤ c.base ∧ 65536 < c.base) ∨ (0 ≤ n ∧ n ≤ 65536 ∧ 0 ≤ c.base ∧ c.base ≤ 65536 ∧ c.percent < 0) ∨ (0 ≤ n ∧ n ≤ 65536 ∧ 0 ≤ c.base ∧ c.base ≤ 65536 ∧ 0 ≤ c.percent ∧ 100 < c.percent) := by
      unfold reckB at hr; have := of_decide_eq_false hr; omega
    clear hr
    rcases h with h1 | ⟨h1, h2⟩ | ⟨h1, h2, h3⟩ | ⟨h1, h2, h3, h4⟩ | ⟨h1, h2, h3, h4, h5⟩ | ⟨h1, h2, h3, h4, h5, h6⟩
    all_goals
      go_enter Try.func21, Try.ntmps21
      go_wp2
      go_ret
      refine ⟨by first | rfl | exact ret_bool (decide_eq_false (by omega)), ?_⟩
      repeat (first | exact Below.refl _ _ | refine bAlloc ?_ _)
  · obtain ⟨_, _, _, _, _, _⟩ := reck_yes hr
    clear hr
    go_enter Try.func21, Try.ntmps21
    go_wp2
    go_ret
    refine ⟨by first | rfl | exact ret_bool (decide_eq_true (by omega)), ?_⟩
    repeat (first | exact Below.refl _ _ | refine bAlloc ?_ _)
theorem refMay_is (c : Cfg) (n : Int) (t : Bool) (ht : Hid (reckB c.base c.percent n = t)) (w : World) :
    Calls Try.prog 21 #[c.val, .int .i64 n] w fun e w' => e = .returned (.bool t) ∧ Below w.heap.size w w' := by
  have h := refMay_any c n w
  rw [ht.out] at h; exact h
theorem refFloor_any (c : Cfg) (n : Int) (w : World) :
    Calls Try.prog 13 #[c.val, .int .i64 n] w fun e w' => e = .returned (.int .i64 (floorV c.base c.percent n)) ∧ Below w.heap.size w w' := by
  rcases hr : reckB c.base c.percent n with _ | _
  · have HV : Hid (floorV c.base c.percent n = 0) := Lib.hid (by unfold floorV; rw [hr]; rfl)
    have R := Lib.hid (fun w => refMay_is c n false (Lib.hid hr) w)
    clear hr
    go_enter Try.func13, Try.ntmps13
    go_wp2_with (first | (refine load_cfg rfl _ rfl _ rfl c _ _ (heap_alloc_new _ _) ?_) | (go_at_call 21; refine (R.out _).mono ?_; rintro e w1 ⟨rfl, hb⟩))
    go_ret
    refine ⟨ret_int HV.out.symm, ?_⟩
    refine bTrans ?_ hb
    repeat (first | exact Below.refl _ _ | refine bAlloc ?_ _)
  · have HV : Hid (floorV c.base c.percent n = if n ≤ c.base then n else c.base) := Lib.hid (by unfold floorV; rw [hr]; rfl)
    have R := Lib.hid (fun w => refMay_is c n true (Lib.hid hr) w)
    have f6 := c.f6
    clear hr
    by_cases hlt : c.base < n
    all_goals
      go_enter Try.func13, Try.ntmps13
      go_wp2_with (first | (refine load_cfg rfl _ rfl _ rfl c _ _ (heap_alloc_new _ _) ?_) | (go_at_call 21; refine (R.out _).mono ?_; rintro e w1 ⟨rfl, hb⟩; obtain ⟨hc, hf⟩ := bcell hb))
      go_ret
      refine ⟨ret_int ?_, ?_⟩
      · rw [HV.out]
        first | rw [if_neg (by omega)] | rw [if_pos (by omega)]
      · refine bTrans ?_ hb
        repeat (first | exact Below.refl _ _ | refine bAlloc ?_ _)
theorem refFloor_is (c : Cfg) (n v : Int) (w : World) (hv : Hid (floorV c.base c.percent n = v)) :
    Calls Try.prog 13 #[c.val, .int .i64 n] w fun e w' => e = .returned (.int .i64 v) ∧ Below w.heap.size w w' := by
  have h := refFloor_any c n w
  rw [hv.out] at h; exact h
theorem refPart_is (n p v : Int) (w : World) (ha : 0 ≤ n) (ha' : n ≤ 65536) (hp : 0 ≤ p) (hp' : p ≤ 100) (hv : Hid (upQ (n * p) 100 = v)) :
    Calls Try.prog 22 #[.int .i64 n, .int .i64 p] w fun e w' => e = .returned (.tuple #[.int .i64 v, .int .i64 0]) ∧ w = w' := by
  have h := refPart_any n p w (by omega) (by omega)
  have g := part_small ha ha' hp hp'
  rw [g.1, g.2.1, hv.out] at h; exact h

theorem refWant_any (c : Cfg) (n : Int) (w : World) :
    Calls Try.prog 9 #[c.val, .int .i64 n] w fun e w' => e = .returned (.tuple #[.int .i64 (demV c.base c.percent n), .int .i64 (spoV c.base c.percent n)]) ∧ Below w.heap.size w w' := by
  rcases hr : reckB c.base c.percent n with _ | _
  · have HV : Hid (demV c.base c.percent n = 0 ∧ spoV c.base c.percent n = 0) := Lib.hid (by unfold demV spoV; rw [hr]; exact ⟨rfl, rfl⟩)
    have R := Lib.hid (fun w => refMay_is c n false (Lib.hid hr) w)
    clear hr
    go_enter Try.func9, Try.ntmps9
    go_wp2_with (first | (refine load_cfg rfl _ rfl _ rfl c _ _ (heap_alloc_new _ _) ?_) | (go_at_call 21; refine (R.out _).mono ?_; rintro e w1 ⟨rfl, hb⟩))
    go_ret2
    refine ⟨ret_two HV.out.1.symm HV.out.2.symm, ?_⟩
    refine bTrans ?_ hb
    repeat (first | exact Below.refl _ _ | refine bAlloc ?_ _)
  · have HV : Hid (demV c.base c.percent n = floorV c.base c.percent n + aboveV c.base c.percent n ∧ spoV c.base c.percent n = n - floorV c.base c.percent n - aboveV c.base c.percent n) := Lib.hid (by unfold demV spoV; rw [hr]; exact ⟨rfl, rfl⟩)
    have R := Lib.hid (fun w => refMay_is c n true (Lib.hid hr) w)
    have f7 := c.f7
    have h1 := reck_yes hr
    have h2 := floor_le hr
    have h3 := floor_bd c.base c.percent n
    have h4 := above_bd hr
    have HA : Hid (upQ ((n - floorV c.base c.percent n) * c.percent) 100 = aboveV c.base c.percent n) := Lib.hid rfl
    generalize hf : floorV c.base c.percent n = f at *
    generalize ha : aboveV c.base c.percent n = a at *
    have HF := Lib.hid hf
    clear hr hf ha
    obtain ⟨_, _, _, _, _, _⟩ := h1
    obtain ⟨_, _⟩ := h2
    obtain ⟨_, _⟩ := h3
    obtain ⟨_, _⟩ := h4
    go_enter Try.func9, Try.ntmps9
    go_wp2_with (first
      | (refine load_cfg rfl _ rfl _ rfl c _ _ (heap_alloc_new _ _) ?_)
      | (refine load_cfg rfl _ rfl _ rfl c _ _ (kept_box (by assumption) (heap_alloc_new _ _)) ?_)
      | (go_at_call 21; refine (R.out _).mono ?_; rintro e w1 ⟨rfl, hb⟩)
      | (go_at_call 13; refine (refFloor_is _ _ _ _ HF).mono ?_; rintro e w2 ⟨rfl, hb2⟩; obtain ⟨hc, hf⟩ := bcell hb; obtain ⟨hc2, hf2⟩ := bcell hb2; have hs : w.heap.size < w1.heap.size := bLt hb)
      | (go_at_call 22; refine (refPart_is _ _ _ _ (by omega) (by omega) (by omega) (by omega) HA).mono ?_; rintro e w3 ⟨rfl, rfl⟩))
    go_ret2
    refine ⟨ret_two HV.out.1.symm HV.out.2.symm, ?_⟩
    refine bTrans (bTrans ?_ hb) hb2
    repeat (first | exact Below.refl _ _ | refine bAlloc ?_ _)
theorem refWant_is (c : Cfg) (n u v : Int) (w : World) (hv : Hid (demV c.base c.percent n = u ∧ spoV c.base c.percent n = v)) :
    Calls Try.prog 9 #[c.val, .int .i64 n] w fun e w' => e = .returned (.tuple #[.int .i64 u, .int .i64 v]) ∧ Below w.heap.size w w' := by
  have h := refWant_any c n w
  rw [hv.out.1, hv.out.2] at h; exact h

theorem refAdd_is (a b v f : Int) (w : World) (ha : -9223372036854775808 ≤ a) (ha' : a ≤ 9223372036854775807) (hb : -9223372036854775808 ≤ b) (hb' : b ≤ 9223372036854775807) (hv : Hid (val (a + b) = v ∧ err (a + b) = f)) :
    Calls Try.prog 26 #[.int .i64 a, .int .i64 b] w fun e w' => e = .returned (.tuple #[.int .i64 v, .int .i64 f]) ∧ w = w' := by
  have h := refAdd_any a b w ha ha' hb hb'
  rw [hv.out.1, hv.out.2] at h; exact h
theorem refExcess_any (n live wt : Int) (w : World) (hl : -9223372036854775808 ≤ live) (hl' : live ≤ 9223372036854775807) (hw : wt ≤ 9223372036854775807) :
    Calls Try.prog 18 #[.int .i64 n, .int .i64 live, .int .i64 wt] w fun e w' => e = .returned (.bool (excessB n live wt)) ∧ w = w' := by
  by_cases hc : 0 ≤ n ∧ n ≤ 65536 ∧ 1 ≤ wt
  · obtain ⟨_, _, _⟩ := hc
    rcases ho : outB (n + wt) with _ | _
    · have h1 := outB_no ho
      have H : Hid (val (n + wt) = n + wt ∧ err (n + wt) = 0) := Lib.hid ⟨val_no ho, err_no ho⟩
      have HV : Hid (excessB n live wt = decide (n + wt ≤ live)) := Lib.hid (by
        unfold excessB; by_cases h : n + wt ≤ live
        · rw [decide_eq_true h]; exact decide_eq_true (by omega)
        · rw [decide_eq_false h]; exact decide_eq_false (by omega))
      clear ho h1
      go_enter Try.func18, Try.ntmps18
      go_wp2_with (first | (go_at_call 26; refine (refAdd_is _ _ _ _ _ (by omega) (by omega) (by omega) hw H).mono ?_; rintro e w3 ⟨rfl, rfl⟩))
      go_ret
      exact ⟨ret_bool HV.out.symm, rfl⟩
    · have h1 := outB_yes ho
      have H : Hid (val (n + wt) = 0 ∧ err (n + wt) = 11) := Lib.hid ⟨val_yes ho, err_yes ho⟩
      have HV : Hid (excessB n live wt = false) := Lib.hid (by unfold excessB; exact decide_eq_false (by omega))
      clear ho h1
      go_enter Try.func18, Try.ntmps18
      go_wp2_with (first | (go_at_call 26; refine (refAdd_is _ _ _ _ _ (by omega) (by omega) (by omega) hw H).mono ?_; rintro e w3 ⟨rfl, rfl⟩))
      go_ret
      exact ⟨ret_bool HV.out.symm, rfl⟩
  · have HV : Hid (excessB n live wt = false) := Lib.hid (by unfold excessB; exact decide_eq_false (by omega))
    rcases (show n < 0 ∨ (0 ≤ n ∧ 65536 < n) ∨ (0 ≤ n ∧ n ≤ 65536 ∧ wt < 1) by omega) with h | ⟨h, h'⟩ | ⟨h, h', h''⟩ <;> clear hc
    all_goals
      go_enter Try.func18, Try.ntmps18
      go_wp2
      go_ret
      exact ⟨ret_bool HV.out.symm, rfl⟩

/-- with a percentage of 0 the floor is all that is wanted on demand -/
theorem dem_zero {b n : Int} (h : reckB b 0 n = true) : demV b 0 n = floorV b 0 n := by
  unfold demV aboveV; rw [if_pos h, Int.mul_zero]; unfold upQ; omega
theorem dem_bd {b p n : Int} (h : reckB b p n = true) : 0 ≤ demV b p n ∧ demV b p n ≤ n ∧ floorV b p n ≤ demV b p n := by
  have h1 := above_bd h
  have h2 := floor_bd b p n
  unfold demV; rw [if_pos h]; omega

set_option maxHeartbeats 1600000 in
theorem refNext_any (c : Cfg) (n d s : Int) (w : World) :
    Calls Try.prog 11 #[c.val, .int .i64 n, .int .i64 d, .int .i64 s] w fun e w' => e = .returned (.tuple #[.bool (isSpotB c.base c.percent n d s), .bool (okB c.base c.percent n d s)]) ∧ Below w.heap.size w w' := by
  rcases hr : reckB c.base c.percent n with _ | _
  · have HV : Hid (isSpotB c.base c.percent n d s = false ∧ okB c.base c.percent n d s = false) := Lib.hid (by unfold isSpotB okB; rw [hr]; exact ⟨rfl, rfl⟩)
    have R := Lib.hid (fun w => refMay_is c n false (Lib.hid hr) w)
    clear hr
    go_enter Try.func11, Try.ntmps11
    go_wp2_with (first | (refine load_cfg rfl _ rfl _ rfl c _ _ (heap_alloc_new _ _) ?_) | (go_at_call 21; refine (R.out _).mono ?_; rintro e w1 ⟨rfl, hb⟩))
    go_ret2
    refine ⟨ret_bb HV.out.1.symm HV.out.2.symm, ?_⟩
    refine bTrans ?_ hb
    repeat (first | exact Below.refl _ _ | refine bAlloc ?_ _)
  · have R := Lib.hid (fun w => refMay_is c n true (Lib.hid hr) w)
    have hn := reck_yes hr
    obtain ⟨_, _, _, _, _, _⟩ := hn
    by_cases hm : 0 ≤ d ∧ d ≤ 1099511627776 ∧ 0 ≤ s ∧ s ≤ 1099511627776 ∧ d + s < n
    · have hok : okB c.base c.percent n d s = true := by unfold okB mayB; rw [hr]; simp; omega
      have hsp : isSpotB c.base c.percent n d s = decide (demV c.base c.percent n ≤ d) := by unfold isSpotB; rw [hok]; rfl
      have hb := dem_bd hr
      have hz : c.percent = 0 → demV c.base c.percent n = floorV c.base c.percent n := by
        intro h; rw [h] at hr ⊢; exact dem_zero hr
      have HV : Hid (isSpotB c.base c.percent n d s = decide (demV c.base c.percent n ≤ d) ∧ okB c.base c.percent n d s = true) := Lib.hid ⟨hsp, hok⟩
      have f7 := c.f7
      generalize hu : demV c.base c.percent n = u at *
      generalize hf : floorV c.base c.percent n = f at *
      obtain ⟨v, hv⟩ : ∃ v, spoV c.base c.percent n = v := ⟨_, rfl⟩
      have HW : Hid (demV c.base c.percent n = u ∧ spoV c.base c.percent n = v) := Lib.hid ⟨hu, hv⟩
      have HF := Lib.hid hf
      clear hok hsp hu hv hf hr
      obtain ⟨_, _, _⟩ := hb
      obtain ⟨_, _, _, _, _⟩ := hm
      by_cases hd : u ≤ d
      · clear hz
        have hq : u < n := by omega
        go_enter Try.func11, Try.ntmps11
        go_wp2_with (first
          | (refine load_cfg rfl _ rfl _ rfl c _ _ (heap_alloc_new _ _) ?_)
          | (refine load_cfg rfl _ rfl _ rfl c _ _ (kept_box (by assumption) (heap_alloc_new _ _)) ?_)
          | (go_at_call 21; refine (R.out _).mono ?_; rintro e w1 ⟨rfl, hb⟩)
          | (go_at_call 9; refine (refWant_is _ _ _ _ _ HW).mono ?_; rintro e w3 ⟨rfl, hb3⟩))
        go_ret2
        refine ⟨ret_bb (by rw [HV.out.1]; exact (decide_eq_true hd).symm) HV.out.2.symm, ?_⟩
        refine bTrans (bTrans ?_ hb) hb3
        repeat (first | exact Below.refl _ _ | refine bAlloc ?_ _)
      · by_cases hp : c.percent = 0
        · have hfd : ¬ f ≤ d := by have := hz hp; omega
          have f7' : c.cells[7]? = some (.int .i64 0) := by rw [f7, hp]
          clear hz f7 hp
          go_enter Try.func11, Try.ntmps11
          go_wp2_with (first
            | (refine load_cfg rfl _ rfl _ rfl c _ _ (heap_alloc_new _ _) ?_)
            | (refine load_cfg rfl _ rfl _ rfl c _ _ (kept_box (by assumption) (heap_alloc_new _ _)) ?_)
            | (refine load_cfg rfl _ rfl _ rfl c _ _ (kept_box (by assumption) (kept_box (by assumption) (heap_alloc_new _ _))) ?_)
            | (go_at_call 21; refine (R.out _).mono ?_; rintro e w1 ⟨rfl, hb⟩)
            | (go_at_call 9; refine (refWant_is _ _ _ _ _ HW).mono ?_; rintro e w3 ⟨rfl, hb3⟩; obtain ⟨hc, _⟩ := bcell hb; obtain ⟨hc2, _⟩ := bcell hb3; have hs : w.heap.size < w1.heap.size := bLt hb)
            | (go_at_call 13; refine (refFloor_is _ _ _ _ HF).mono ?_; rintro e w2 ⟨rfl, hb2⟩))
          go_ret2
          refine ⟨ret_bb (by rw [HV.out.1]; exact (decide_eq_false (by omega)).trans (decide_eq_false (by omega)).symm) HV.out.2.symm, ?_⟩
          refine bTrans (bTrans (bTrans ?_ hb) hb3) hb2
          repeat (first | exact Below.refl _ _ | refine bAlloc ?_ _)
        · have hp' : (c.percent == 0) = false := by simpa using hp
          clear hz hp
          go_enter Try.func11, Try.ntmps11
          go_wp2_with (first
            | (refine load_cfg rfl _ rfl _ rfl c _ _ (heap_alloc_new _ _) ?_)
            | (refine load_cfg rfl _ rfl _ rfl c _ _ (kept_box (by assumption) (heap_alloc_new _ _)) ?_)
            | (go_at_call 21; refine (R.out _).mono ?_; rintro e w1 ⟨rfl, hb⟩)
            | (go_at_call 9; refine (refWant_is _ _ _ _ _ HW).mono ?_; rintro e w3 ⟨rfl, hb3⟩; obtain ⟨hc, _⟩ := bcell hb; obtain ⟨hc2, _⟩ := bcell hb3; have hs : w.heap.size < w1.heap.size := bLt hb))
          go_ret2
          refine ⟨ret_bb (by rw [HV.out.1]; exact (decide_eq_false (by omega)).symm) HV.out.2.symm, ?_⟩
          refine bTrans (bTrans ?_ hb) hb3
          repeat (first | exact Below.refl _ _ | refine bAlloc ?_ _)
    · have HV : Hid (isSpotB c.base c.percent n d s = false ∧ okB c.base c.percent n d s = false) := Lib.hid (by
        have h : okB c.base c.percent n d s = false := by unfold okB mayB; rw [hr]; simp; omega
        exact ⟨by unfold isSpotB; rw [h]; rfl, h⟩)
      have hm' : d < 0 ∨ (0 ≤ d ∧ s < 0) ∨ (0 ≤ d ∧ 0 ≤ s ∧ 1099511627776 < d) ∨ (0 ≤ d ∧ 0 ≤ s ∧ d ≤ 1099511627776 ∧ 1099511627776 < s) ∨ (0 ≤ d ∧ 0 ≤ s ∧ d ≤ 1099511627776 ∧ s ≤ 1099511627776 ∧ n ≤ d + s) := by omega
      clear hr hm
      rcases hm' with h1 | ⟨h1, h2⟩ | ⟨h1, h2, h3⟩ | ⟨h1, h2, h3, h4⟩ | ⟨h1, h2, h3, h4, h5⟩
      all_goals
        go_enter Try.func11, Try.ntmps11
        go_wp2_with (first
          | (refine load_cfg rfl _ rfl _ rfl c _ _ (heap_alloc_new _ _) ?_)
          | (go_at_call 21; refine (R.out _).mono ?_; rintro e w1 ⟨rfl, hb⟩))
        go_ret2
        refine ⟨ret_bb HV.out.1.symm HV.out.2.symm, ?_⟩
        refine bTrans ?_ hb
        repeat (first | exact Below.refl _ _ | refine bAlloc ?_ _)

theorem refLeast_any (c : Cfg) (n l : Int) (w : World) :
    Calls Try.prog 15 #[c.val, .int .i64 n, .int .i64 l] w fun e w' => e = .returned (.int .i64 (leastV c.base c.percent n l)) ∧ Below w.heap.size w w' := by
  rcases hr : reckB c.base c.percent n with _ | _
  · have HV : Hid (leastV c.base c.percent n l = 0) := Lib.hid (by
      have h : floorV c.base c.percent n = 0 := by unfold floorV; rw [hr]; rfl
      unfold leastV; rw [h, Int.zero_mul]; split <;> rfl)
    have R := Lib.hid (fun w => refMay_is c n false (Lib.hid hr) w)
    clear hr
    go_enter Try.func15, Try.ntmps15
    go_wp2_with (first | (refine load_cfg rfl _ rfl _ rfl c _ _ (heap_alloc_new _ _) ?_) | (go_at_call 21; refine (R.out _).mono ?_; rintro e w1 ⟨rfl, hb⟩))
    go_ret
    refine ⟨ret_int HV.out.symm, ?_⟩
    refine bTrans ?_ hb
    repeat (first | exact Below.refl _ _ | refine bAlloc ?_ _)
  · have R := Lib.hid (fun w => refMay_is c n true (Lib.hid hr) w)
    by_cases hl : 0 ≤ l ∧ l ≤ 100
    · have HV : Hid (leastV c.base c.percent n l = upQ (floorV c.base c.percent n * l) 100) := Lib.hid (by unfold leastV; rw [if_pos hl])
      obtain ⟨_, _⟩ := hl
      have h3 := floor_bd c.base c.percent n
      generalize hf : floorV c.base c.percent n = f at *
      generalize ha : upQ (f * l) 100 = a at *
      have HF := Lib.hid hf
      have HA := Lib.hid ha
      clear hf ha hr
      obtain ⟨_, _⟩ := h3
      go_enter Try.func15, Try.ntmps15
      go_wp2_with (first
        | (refine load_cfg rfl _ rfl _ rfl c _ _ (heap_alloc_new _ _) ?_)
        | (refine load_cfg rfl _ rfl _ rfl c _ _ (kept_box (by assumption) (heap_alloc_new _ _)) ?_)
        | (go_at_call 21; refine (R.out _).mono ?_; rintro e w1 ⟨rfl, hb⟩)
        | (go_at_call 13; refine (refFloor_is _ _ _ _ HF).mono ?_; rintro e w2 ⟨rfl, hb2⟩)
        | (go_at_call 22; refine (refPart_is _ _ _ _ (by omega) (by omega) (by omega) (by omega) HA).mono ?_; rintro e w3 ⟨rfl, rfl⟩))
      go_ret
      refine ⟨ret_int HV.out.symm, ?_⟩
      refine bTrans (bTrans ?_ hb) hb2
      repeat (first | exact Below.refl _ _ | refine bAlloc ?_ _)
    · have HV : Hid (leastV c.base c.percent n l = 0) := Lib.hid (by unfold leastV; rw [if_neg hl])
      clear hr
      rcases (show l < 0 ∨ (0 ≤ l ∧ 100 < l) by omega) with h | ⟨h, h'⟩ <;> clear hl
      all_goals
        go_enter Try.func15, Try.ntmps15
        go_wp2_with (first
          | (refine load_cfg rfl _ rfl _ rfl c _ _ (heap_alloc_new _ _) ?_)
          | (go_at_call 21; refine (R.out _).mono ?_; rintro e w1 ⟨rfl, hb⟩))
        go_ret
        refine ⟨ret_int HV.out.symm, ?_⟩
        refine bTrans ?_ hb
        repeat (first | exact Below.refl _ _ | refine bAlloc ?_ _)
end Go.Proofs.Ytinkeeifndmalaa.Split
