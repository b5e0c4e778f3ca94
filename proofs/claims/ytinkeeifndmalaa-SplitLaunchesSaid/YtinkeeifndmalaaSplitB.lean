
/- Contracts of layer 13: what is next, the least, excess; the program's. -/
import Derived.Test.YtinkeeifndmalaaSplit
namespace Go.Proofs.Ytinkeeifndmalaa.Split
open Go.ChangeShapes Go.WideShapes Go.ChangeAt Go.RowKit
open NumM NumA Mem

theorem ret_bb {p q r s : Bool} (h : p = q) (h' : r = s) : Ending.returned (.tuple #[.bool p, .bool r]) = .returned (.tuple #[.bool q, .bool s]) := by rw [h, h']
theorem may_is (a x b y c z : Int) (w : World) (t : Bool) (ht : Hid ((mayB a x && mayB b y && mayB c z) = t)) :
    Calls Try.prog 23 #[.agg #[.int .i64 a, .int .i64 x, .int .i64 b, .int .i64 y, .int .i64 c, .int .i64 z]] w fun e w' => e = .returned (.bool t) ∧ Below w.heap.size w w' := by
  have h := may_any a x b y c z w
  rw [ht.out] at h; exact h
theorem want_is (c : Cfg) (n u v : Int) (w : World) (hv : Hid (demV c.base c.percent n = u ∧ spoV c.base c.percent n = v)) :
    Calls Try.prog 8 #[c.val, .int .i64 n] w fun e w' => e = .returned (.tuple #[.int .i64 u, .int .i64 v]) ∧ Below w.heap.size w w' := by
  have h := want_any c n w
  rw [hv.out.1, hv.out.2] at h; exact h

set_option maxHeartbeats 800000 in
theorem next_any (c : Cfg) (n d s : Int) (w : World) :
    Calls Try.prog 10 #[c.val, .int .i64 n, .int .i64 d, .int .i64 s] w fun e w' => e = .returned (.tuple #[.bool (isSpotB c.base c.percent n d s), .bool (okB c.base c.percent n d s)]) ∧ Below w.heap.size w w' := by
  rcases hr : reckB c.base c.percent n with _ | _
  · have HV : Hid (isSpotB c.base c.percent n d s = false ∧ okB c.base c.percent n d s = false) := Lib.hid (by unfold isSpotB okB; rw [hr]; exact ⟨rfl, rfl⟩)
    have R := Lib.hid (fun w => reckons_is c n false (Lib.hid hr) w)
    clear hr
    go_enter Try.func10, Try.ntmps10
    go_wp2_with (first | (refine load_cfg rfl _ rfl _ rfl c _ _ (heap_alloc_new _ _) ?_) | (go_at_call 19; refine (R.out _).mono ?_; rintro e w1 ⟨rfl, hb⟩))
    go_ret2
    refine ⟨ret_bb HV.out.1.symm HV.out.2.symm, ?_⟩
    refine bTrans ?_ hb
    repeat (first | exact Below.refl _ _ | refine bAlloc ?_ _)
  · have R := Lib.hid (fun w => reckons_is c n true (Lib.hid hr) w)
    rcases hm : (mayB d 1099511627776 && mayB s 1099511627776) with _ | _
    · have HV : Hid (isSpotB c.base c.percent n d s = false ∧ okB c.base c.percent n d s = false) := Lib.hid (by unfold isSpotB okB; rw [hr, hm]; exact ⟨rfl, rfl⟩)
      have M : Hid ((mayB d 1099511627776 && mayB s 1099511627776 && mayB 0 0) = false) := Lib.hid (by rw [hm]; rfl)
      clear hr hm
      go_enter Try.func10, Try.ntmps10
      go_wp2_with (first | (refine load_cfg rfl _ rfl _ rfl c _ _ (heap_alloc_new _ _) ?_) | (go_at_call 19; refine (R.out _).mono ?_; rintro e w1 ⟨rfl, hb⟩) | (go_at_call 23; refine (may_is _ _ _ _ _ _ _ _ M).mono ?_; rintro e w2 ⟨rfl, hb2⟩))
      go_ret2
      refine ⟨ret_bb HV.out.1.symm HV.out.2.symm, ?_⟩
      refine bTrans (bTrans ?_ hb) hb2
      repeat (first | exact Below.refl _ _ | refine bAlloc ?_ _)
    · have M : Hid ((mayB d 1099511627776 && mayB s 1099511627776 && mayB 0 0) = true) := Lib.hid (by rw [hm]; rfl)
      have hd : 0 ≤ d ∧ d ≤ 1099511627776 ∧ 0 ≤ s ∧ s ≤ 1099511627776 := by
        unfold mayB at hm; simp at hm; omega
      obtain ⟨_, _, _, _⟩ := hd
      have hn := reck_yes hr
      obtain ⟨_, _, _, _, _, _⟩ := hn
      by_cases hlt : d + s < n
      · have HV : Hid (isSpotB c.base c.percent n d s = decide (demV c.base c.percent n ≤ d) ∧ okB c.base c.percent n d s = true) := Lib.hid (by
          have h : okB c.base c.percent n d s = true := by unfold okB; rw [hr, hm, decide_eq_true hlt]; rfl
          exact ⟨by unfold isSpotB; rw [h]; rfl, h⟩)
        generalize hu : demV c.base c.percent n = u at *
        obtain ⟨v, hv⟩ : ∃ v, spoV c.base c.percent n = v := ⟨_, rfl⟩
        have HW : Hid (demV c.base c.percent n = u ∧ spoV c.base c.percent n = v) := Lib.hid ⟨hu, hv⟩
        clear hr hm hu hv
        go_enter Try.func10, Try.ntmps10
        go_wp2_with (first
          | (refine load_cfg rfl _ rfl _ rfl c _ _ (heap_alloc_new _ _) ?_)
          | (refine load_cfg rfl _ rfl _ rfl c _ _ (kept_box (by assumption) (kept_box (by assumption) (heap_alloc_new _ _))) ?_)
          | (go_at_call 19; refine (R.out _).mono ?_; rintro e w1 ⟨rfl, hb⟩)
          | (go_at_call 23; refine (may_is _ _ _ _ _ _ _ _ M).mono ?_; rintro e w2 ⟨rfl, hb2⟩)
          | (go_at_call 8; refine (want_is _ _ _ _ _ HW).mono ?_; rintro e w3 ⟨rfl, hb3⟩))
        go_ret2
        refine ⟨ret_bb HV.out.1.symm HV.out.2.symm, ?_⟩
        refine bTrans (bTrans (bTrans ?_ hb) hb2) hb3
        repeat (first | exact Below.refl _ _ | refine bAlloc ?_ _)
      · have HV : Hid (isSpotB c.base c.percent n d s = false ∧ okB c.base c.percent n d s = false) := Lib.hid (by
          have h : okB c.base c.percent n d s = false := by unfold okB; rw [decide_eq_false hlt]; simp
          exact ⟨by unfold isSpotB; rw [h]; rfl, h⟩)
        clear hr hm
        go_enter Try.func10, Try.ntmps10
        go_wp2_with (first
          | (refine load_cfg rfl _ rfl _ rfl c _ _ (heap_alloc_new _ _) ?_)
          | (go_at_call 19; refine (R.out _).mono ?_; rintro e w1 ⟨rfl, hb⟩)
          | (go_at_call 23; refine (may_is _ _ _ _ _ _ _ _ M).mono ?_; rintro e w2 ⟨rfl, hb2⟩))
        go_ret2
        refine ⟨ret_bb HV.out.1.symm HV.out.2.symm, ?_⟩
        refine bTrans (bTrans ?_ hb) hb2
        repeat (first | exact Below.refl _ _ | refine bAlloc ?_ _)

theorem least_any (c : Cfg) (n l : Int) (w : World) :
    Calls Try.prog 14 #[c.val, .int .i64 n, .int .i64 l] w fun e w' => e = .returned (.int .i64 (leastV c.base c.percent n l)) ∧ Below w.heap.size w w' := by
  by_cases hl : 0 ≤ l ∧ l ≤ 100
  · have HV : Hid (leastV c.base c.percent n l = upQ (floorV c.base c.percent n * l) 100) := Lib.hid (by unfold leastV; rw [if_pos hl])
    obtain ⟨_, _⟩ := hl
    have h3 := floor_bd c.base c.percent n
    generalize hf : floorV c.base c.percent n = f at *
    generalize ha : upQ (f * l) 100 = a at *
    have HF := Lib.hid hf
    have HA := Lib.hid ha
    clear hf ha
    obtain ⟨_, _⟩ := h3
    go_enter Try.func14, Try.ntmps14
    go_wp2_with (first
      | (refine load_cfg rfl _ rfl _ rfl c _ _ (heap_alloc_new _ _) ?_)
      | (go_at_call 12; refine (floor_is _ _ _ _ HF).mono ?_; rintro e w2 ⟨rfl, hb2⟩)
      | (go_at_call 20; refine (part_is _ _ _ _ (by omega) (by omega) (by omega) (by omega) HA).mono ?_; rintro e w3 ⟨rfl, rfl⟩))
    go_ret
    refine ⟨ret_int HV.out.symm, ?_⟩
    refine bTrans ?_ hb2
    repeat (first | exact Below.refl _ _ | refine bAlloc ?_ _)
  · have HV : Hid (leastV c.base c.percent n l = 0) := Lib.hid (by unfold leastV; rw [if_neg hl])
    rcases (show l < 0 ∨ (0 ≤ l ∧ 100 < l) by omega) with h | ⟨h, h'⟩ <;> clear hl
    all_goals
      go_enter Try.func14, Try.ntmps14
      go_wp2
      go_ret
      refine ⟨ret_int HV.out.symm, ?_⟩
      repeat (first | exact Below.refl _ _ | refine bAlloc ?_ _)

theorem add_is (a b v f : Int) (w : World) (ha : -9223372036854775808 ≤ a) (ha' : a ≤ 9223372036854775807) (hb : -9223372036854775808 ≤ b) (hb' : b ≤ 9223372036854775807) (hv : Hid (val (a + b) = v ∧ err (a + b) = f)) :
    Calls Try.prog 25 #[.int .i64 a, .int .i64 b] w fun e w' => e = .returned (.tuple #[.int .i64 v, .int .i64 f]) ∧ w = w' := by
  have h := add_any a b w ha ha' hb hb'
  rw [hv.out.1, hv.out.2] at h; exact h
theorem excess_any (n live wt : Int) (w : World) (hl : -9223372036854775808 ≤ live) (hl' : live ≤ 9223372036854775807) (hw : wt ≤ 9223372036854775807) :
    Calls Try.prog 17 #[.int .i64 n, .int .i64 live, .int .i64 wt] w fun e w' => e = .returned (.bool (excessB n live wt)) ∧ w = w' := by
  by_cases hc : 0 ≤ n ∧ n ≤ 65536 ∧ 1 ≤ wt
  · obtain ⟨_, _, _⟩ := hc
    rcases ho : outB (live + -wt) with _ | _
    · have h1 := outB_no ho
      have H : Hid (val (live + -wt) = live - wt ∧ err (live + -wt) = 0) := Lib.hid ⟨(val_no ho).trans (by omega), err_no ho⟩
      have HV : Hid (excessB n live wt = decide (n ≤ live - wt)) := Lib.hid (by
        unfold excessB; by_cases h : n ≤ live - wt
        · rw [decide_eq_true h]; exact decide_eq_true (by omega)
        · rw [decide_eq_false h]; exact decide_eq_false (by omega))
      clear ho h1
      go_enter Try.func17, Try.ntmps17
      go_wp2_with (first | (go_at_call 25; refine (add_is _ _ _ _ _ hl hl' (by omega) (by omega) H).mono ?_; rintro e w3 ⟨rfl, rfl⟩))
      go_ret
      exact ⟨ret_bool HV.out.symm, rfl⟩
    · have h1 := outB_yes ho
      have H : Hid (val (live + -wt) = 0 ∧ err (live + -wt) = 11) := Lib.hid ⟨val_yes ho, err_yes ho⟩
      have HV : Hid (excessB n live wt = false) := Lib.hid (by unfold excessB; exact decide_eq_false (by omega))
      clear ho h1
      go_enter Try.func17, Try.ntmps17
      go_wp2_with (first | (go_at_call 25; refine (add_is _ _ _ _ _ hl hl' (by omega) (by omega) H).mono ?_; rintro e w3 ⟨rfl, rfl⟩))
      go_ret
      exact ⟨ret_bool HV.out.symm, rfl⟩
  · have HV : Hid (excessB n live wt = false) := Lib.hid (by unfold excessB; exact decide_eq_false (by omega))
    rcases (show n < 0 ∨ (0 ≤ n ∧ 65536 < n) ∨ (0 ≤ n ∧ n ≤ 65536 ∧ wt < 1) by omega) with h | ⟨h, h'⟩ | ⟨h, h', h''⟩ <;> clear hc
    all_goals
      go_enter Try.func17, Try.ntmps17
      go_wp2
      go_ret
      exact ⟨ret_bool HV.out.symm, rfl⟩
end Go.Proofs.Ytinkeeifndmalaa.Split
