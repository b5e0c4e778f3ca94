
/- What becomes of an instance: the document's whole answer. -/
import Derived.Test.YtmbafedpbmldmaaIdE
namespace Go.Proofs.Ytmbafedpbmldmaa.Does
open Go.RowKit Go.ChangeShapes Go.WideShapes Go.ChangeAt
open Mem Arr Lst Rec Inst Grown Opens St0
attribute [local go_sem] Oper.semAt_some
theorem leaves_e (x : Ins) (now : Int) (c : Cfg) : (leavesA x now c).e = 0 := by unfold leavesA; split <;> rfl
def refA (x : Ins) (what now at_ : Int) (c : Cfg) : Ans :=
  if mayDoB x what now at_ c = false then ⟨x, 0, 2⟩
  else if what = 1 then readyA x now c
  else if what = 2 then noticeA x now at_ c
  else if what = 3 then (if x.st ≠ 3 then ⟨x, 0, 12⟩ else ⟨{ x with risk := true }, 0, 0⟩)
  else if what = 4 then beatA x now c
  else if what = 5 then (if x.st = 2 then ⟨toX x 3 0, 0, 0⟩ else oneA x 5 6 0 2)
  else if what = 6 then (if x.st = 2 then ⟨toX x 6 0, 2, 0⟩ else oneA x 5 6 0 2)
  else if what = 7 then oneA x 7 8 0 0
  else if what = 8 then tickA x now c
  else if what = 9 then oneA x 3 4 (now + c.drain) 0
  else if what = 11 then oneA x 8 9 (now + c.deadline) 4
  else if x.st = 8 ∨ x.st = 7 ∨ x.st = 1 ∨ x.st = 2 ∨ x.st = 9 then ⟨toX x 6 0, 2, 0⟩ else ⟨x, 0, 12⟩
theorem mayDo_yes {x : Ins} {what now at_ : Int} {c : Cfg} (h : mayDoB x what now at_ c = true) : okB x = true ∧ 1 ≤ what ∧ what ≤ 11 ∧ now ≤ 1099511627776 ∧ at_ ≤ 1099511627776 ∧ c.hookIn ≤ 65536 ∧ c.hookOut ≤ 65536 ∧ c.drain ≤ 65536 ∧ c.deadline ≤ 65536 := by
  unfold mayDoB at h
  simp only [Bool.and_eq_true, decide_eq_true_eq] at h
  obtain ⟨⟨⟨h1, h2, h3, h4⟩, h5⟩, h6, h7, h8, h9⟩ := h
  exact ⟨h5, h6, h7, h8, h9, h1, h2, h3, h4⟩
theorem refMay_is (x : Ins) (v : Bool) (hv : okB x = v) (w : World) : Calls Try.prog 10 #[x.val] w fun e w' => e = .returned (.bool v) ∧ Below w.heap.size w w' := by
  have := refMay_any x w; rw [hv] at this; exact this
set_option maxHeartbeats 4000000 in
theorem tick_any (x : Ins) (now : Int) (c : Cfg) (h : InC now c) (w : World) : Calls Try.prog 27 #[x.val, .int .u64 now, c.val] w fun e w' => e = .returned (tickA x now c).val ∧ Below w.heap.size w w' := by
  have HL := Lib.hid (fun W => leaves_any x now c h W)
  have HC := (Bx.new3 w x c).2
  have HX := (Bx.new3 w x c).1
  have d5 := cell_row HX.x x.f5
  have d6 := cell_row HX.x x.f6
  have f5 := x.f5
  have f6 := x.f6
  by_cases q1 : x.st = 3
  · have s3 : (x.st == 3) = true := by simp [q1]
    have z3 : (x.st != 3) = false := by simp [q1]
    have HV : Hid (tickA x now c = ⟨x, 0, 0⟩) := Lib.hid (by simp [tickA, q1])
    clear q1
    go_enter Try.func27, Try.ntmps27
    go_wp2_with (first | (refine load_cfg rfl _ rfl _ rfl c _ _ HC ?_) | ((with_reducible refine at_load' 25 ?_); (refine load_ins rfl _ rfl _ _ rfl (x) (range_row HX.x) ?_)) | ((with_reducible refine at_store 25 ?_); (refine store_whole rfl 25 _ _ rfl (w.heap.size + 1 + 1) (x).cells _ _ rfl rfl HX.z (sizeInst.trans rfl) rfl (x).one ?_)))
    refine bodyPost_ret (v := Ans.val ⟨x, 0, 0⟩) (results_row_tmp2 (fn := Try.f27) (p := 6) (u := 7) (v := 8) rfl _ _ (w.heap.size + 1 + 1) _ (x).cells _ rfl (row_at HX.z) Try.underlying25 rfl (sizeInst.trans rfl)) rfl ?_
    exact ⟨by rw [HV.out], below_row _ HX.b (by have := HX.lt; omega)⟩
  · have s3 : (x.st == 3) = false := by simp [q1]
    have z3 : (x.st != 3) = true := by simp [q1]
    by_cases q2 : x.st = 8
    · have s8 : (x.st == 8) = true := by simp [q2]
      have z8 : (x.st != 8) = false := by simp [q2]
      have HV : Hid (tickA x now c = ⟨x, 0, 0⟩) := Lib.hid (by simp [tickA, q2])
      clear q1 q2
      go_enter Try.func27, Try.ntmps27
      go_wp2_with (first | (refine load_cfg rfl _ rfl _ rfl c _ _ HC ?_) | ((with_reducible refine at_load' 25 ?_); (refine load_ins rfl _ rfl _ _ rfl (x) (range_row HX.x) ?_)) | ((with_reducible refine at_store 25 ?_); (refine store_whole rfl 25 _ _ rfl (w.heap.size + 1 + 1) (x).cells _ _ rfl rfl HX.z (sizeInst.trans rfl) rfl (x).one ?_)))
      refine bodyPost_ret (v := Ans.val ⟨x, 0, 0⟩) (results_row_tmp2 (fn := Try.f27) (p := 6) (u := 7) (v := 8) rfl _ _ (w.heap.size + 1 + 1) _ (x).cells _ rfl (row_at HX.z) Try.underlying25 rfl (sizeInst.trans rfl)) rfl ?_
      exact ⟨by rw [HV.out], below_row _ HX.b (by have := HX.lt; omega)⟩
    · have s8 : (x.st == 8) = false := by simp [q2]
      have z8 : (x.st != 8) = true := by simp [q2]
      by_cases q3 : x.st = 6
      · have s6 : (x.st == 6) = true := by simp [q3]
        have z6 : (x.st != 6) = false := by simp [q3]
        have HV : Hid (tickA x now c = ⟨x, 0, 0⟩) := Lib.hid (by simp [tickA, q3])
        clear q1 q2 q3
        go_enter Try.func27, Try.ntmps27
        go_wp2_with (first | (refine load_cfg rfl _ rfl _ rfl c _ _ HC ?_) | ((with_reducible refine at_load' 25 ?_); (refine load_ins rfl _ rfl _ _ rfl (x) (range_row HX.x) ?_)) | ((with_reducible refine at_store 25 ?_); (refine store_whole rfl 25 _ _ rfl (w.heap.size + 1 + 1) (x).cells _ _ rfl rfl HX.z (sizeInst.trans rfl) rfl (x).one ?_)))
        refine bodyPost_ret (v := Ans.val ⟨x, 0, 0⟩) (results_row_tmp2 (fn := Try.f27) (p := 6) (u := 7) (v := 8) rfl _ _ (w.heap.size + 1 + 1) _ (x).cells _ rfl (row_at HX.z) Try.underlying25 rfl (sizeInst.trans rfl)) rfl ?_
        exact ⟨by rw [HV.out], below_row _ HX.b (by have := HX.lt; omega)⟩
      · have s6 : (x.st == 6) = false := by simp [q3]
        have z6 : (x.st != 6) = true := by simp [q3]
        by_cases q4 : now < x.due
        · have k0 := decide_eq_true q4
          have HV : Hid (tickA x now c = ⟨x, 0, 0⟩) := Lib.hid (by simp [tickA, q4])
          clear q4 q1 q2 q3
          go_enter Try.func27, Try.ntmps27
          go_wp2_with (first | (refine load_cfg rfl _ rfl _ rfl c _ _ HC ?_) | ((with_reducible refine at_load' 25 ?_); (refine load_ins rfl _ rfl _ _ rfl (x) (range_row HX.x) ?_)) | ((with_reducible refine at_store 25 ?_); (refine store_whole rfl 25 _ _ rfl (w.heap.size + 1 + 1) (x).cells _ _ rfl rfl HX.z (sizeInst.trans rfl) rfl (x).one ?_)))
          refine bodyPost_ret (v := Ans.val ⟨x, 0, 0⟩) (results_row_tmp2 (fn := Try.f27) (p := 6) (u := 7) (v := 8) rfl _ _ (w.heap.size + 1 + 1) _ (x).cells _ rfl (row_at HX.z) Try.underlying25 rfl (sizeInst.trans rfl)) rfl ?_
          exact ⟨by rw [HV.out], below_row _ HX.b (by have := HX.lt; omega)⟩
        · have k0 := decide_eq_false q4
          by_cases q5 : x.st = 4
          · have s4 : (x.st == 4) = true := by simp [q5]
            have z4 : (x.st != 4) = false := by simp [q5]
            have HV : Hid (tickA x now c = ⟨(leavesA x now c).x, (leavesA x now c).ask, 0⟩) := Lib.hid (by unfold tickA; rw [if_neg (by omega), if_pos q5, ← leaves_e x now c])
            clear q1 q2 q3 q4 q5
            go_enter Try.func27, Try.ntmps27
            go_wp2_with (first | (refine load_cfg rfl _ rfl _ rfl c _ _ HC ?_) | ((with_reducible refine at_load' 25 ?_); (refine load_ins rfl _ rfl _ _ rfl (x) (range_row HX.x) ?_)))
            refine (HL.out _).mono ?_
            rintro _ u ⟨rfl, bu⟩
            obtain ⟨y, ey⟩ : ∃ y, (leavesA x now c).x = y := ⟨_, rfl⟩
            obtain ⟨k, ek⟩ : ∃ k, (leavesA x now c).ask = k := ⟨_, rfl⟩
            rw [ey, ek] at HV
            rw [ey, ek]
            have HU := HX.call bu
            clear bu HL
            have HW := HU.call (bAlloc (Below.refl _ u) (.cells y.cells 25 (0, 0)))
            have RY := range_row (heap_alloc_new u (.cells y.cells 25 (0, 0)))
            go_wp2_with (first | ((with_reducible refine at_store 25 ?_); (first | (refine store_inp rfl _ _ rfl y _ _ rfl rfl rfl ?_) | (refine store_whole rfl 25 _ _ rfl (w.heap.size + 1 + 1) y.cells _ _ rfl rfl HW.z (sizeInst.trans rfl) rfl y.one ?_))) | ((with_reducible refine at_load' 25 ?_); (refine load_ins rfl _ rfl _ _ rfl y RY ?_)))
            refine bodyPost_ret (v := Ans.val ⟨y, k, 0⟩) (results_row_tmp2 (fn := Try.f27) (p := 6) (u := 7) (v := 8) rfl _ _ (w.heap.size + 1 + 1) _ (y).cells _ rfl (row_at HW.z) Try.underlying25 rfl (sizeInst.trans rfl)) rfl ?_
            exact ⟨by rw [HV.out], below_row _ HW.b (by have := HW.lt; omega)⟩
          · have s4 : (x.st == 4) = false := by simp [q5]
            have z4 : (x.st != 4) = true := by simp [q5]
            have HV : Hid (tickA x now c = ⟨toX x 6 0, 2, 0⟩) := Lib.hid (by unfold tickA; rw [if_neg (by omega), if_neg q5])
            clear q1 q2 q3 q4 q5
            go_enter Try.func27, Try.ntmps27
            go_wp2_with (first | (refine load_cfg rfl _ rfl _ rfl c _ _ HC ?_) | ((with_reducible refine at_load' 25 ?_); (refine load_ins rfl _ rfl _ _ rfl (x) (range_row HX.x) ?_)))
            refine (to_any x 6 0 _).mono ?_
            rintro _ u ⟨rfl, bu⟩
            have HU := HX.call bu
            clear bu
            go_wp2_with ((with_reducible refine at_store 25 ?_); (refine store_whole rfl 25 _ _ rfl (w.heap.size + 1 + 1) (toX x 6 0).cells _ _ rfl rfl HU.z (sizeInst.trans rfl) rfl (toX x 6 0).one ?_))
            refine bodyPost_ret (v := Ans.val ⟨toX x 6 0, 2, 0⟩) (results_row_tmp2 (fn := Try.f27) (p := 6) (u := 7) (v := 8) rfl _ _ (w.heap.size + 1 + 1) _ (toX x 6 0).cells _ rfl (row_at HU.z) Try.underlying25 rfl (sizeInst.trans rfl)) rfl ?_
            exact ⟨by rw [HV.out], below_row _ HU.b (by have := HU.lt; omega)⟩
set_option maxHeartbeats 8000000 in
set_option maxRecDepth 100000 in
theorem ref_any (x : Ins) (what now at_ : Int) (c : Cfg) (h : In0 now at_ c) (w : World) : Calls Try.prog 8 #[x.val, .int .u8 what, .int .u64 now, .int .u64 at_, c.val] w fun e w' => e = .returned (refA x what now at_ c).val ∧ Below w.heap.size w w' := by
  have HC0 := (Bx.new3 w x c).2
  have H0 := (Bx.new3 w x c).1
  rcases hm : mayDoB x what now at_ c with _ | _
  · have HV : Hid (refA x what now at_ c = ⟨x, 0, 2⟩) := Lib.hid (by unfold refA; rw [if_pos hm])
    rcases ok : okB x with _ | _
    · skip
      have MM := Lib.hid (fun W => refMay_is x false ok W)
      clear ok
      go_enter Try.func8, Try.ntmps8
      go_wp2_with ((with_reducible refine at_load' 25 ?_); (refine load_ins rfl _ rfl _ _ rfl x (range_row H0.x) ?_))
      refine (MM.out _).mono ?_
      rintro _ v ⟨rfl, bv⟩
      have HX := H0.call bv
      have HC := kept_box bv HC0
      have c10 := cell_row HC c.f10
      have c11 := cell_row HC c.f11
      have c12 := cell_row HC c.f12
      have c14 := cell_row HC c.f14
      have d5 := cell_row HX.x x.f5
      have d9 := cell_row HX.x x.f9
      have fr := free_row HX.x
      clear H0 HC0 MM bv
      go_wp2_with (first | (refine load_cfg rfl _ rfl _ rfl c _ _ HC ?_) | ((with_reducible refine at_load' 25 ?_); (refine load_ins rfl _ rfl _ _ rfl (x) (range_row HX.x) ?_)) | ((with_reducible refine at_store 25 ?_); (refine store_whole rfl 25 _ _ rfl (w.heap.size + 1 + 1) (x).cells _ _ rfl rfl HX.z (sizeInst.trans rfl) rfl (x).one ?_)))
      refine bodyPost_ret (v := Ans.val ⟨x, 0, 2⟩) (results_row_tmp2 (fn := Try.f8) (p := 10) (u := 11) (v := 12) rfl _ _ (w.heap.size + 1 + 1) _ (x).cells _ rfl (row_at HX.z) Try.underlying25 rfl (sizeInst.trans rfl)) rfl ?_
      exact ⟨by rw [HV.out], below_row _ HX.b (by have := HX.lt; omega)⟩
    by_cases all : mayDoB x what now at_ c = true
    · rw [hm] at all; cases all
    clear all
    by_cases m0 : what < 1
    · have k0 := decide_eq_true m0
      clear hm m0
      have MM := Lib.hid (fun W => refMay_is x true ok W)
      clear ok
      go_enter Try.func8, Try.ntmps8
      go_wp2_with ((with_reducible refine at_load' 25 ?_); (refine load_ins rfl _ rfl _ _ rfl x (range_row H0.x) ?_))
      refine (MM.out _).mono ?_
      rintro _ v ⟨rfl, bv⟩
      have HX := H0.call bv
      have HC := kept_box bv HC0
      have c10 := cell_row HC c.f10
      have c11 := cell_row HC c.f11
      have c12 := cell_row HC c.f12
      have c14 := cell_row HC c.f14
      have d5 := cell_row HX.x x.f5
      have d9 := cell_row HX.x x.f9
      have fr := free_row HX.x
      clear H0 HC0 MM bv
      go_wp2_with (first | (refine load_cfg rfl _ rfl _ rfl c _ _ HC ?_) | ((with_reducible refine at_load' 25 ?_); (refine load_ins rfl _ rfl _ _ rfl (x) (range_row HX.x) ?_)) | ((with_reducible refine at_store 25 ?_); (refine store_whole rfl 25 _ _ rfl (w.heap.size + 1 + 1) (x).cells _ _ rfl rfl HX.z (sizeInst.trans rfl) rfl (x).one ?_)))
      refine bodyPost_ret (v := Ans.val ⟨x, 0, 2⟩) (results_row_tmp2 (fn := Try.f8) (p := 10) (u := 11) (v := 12) rfl _ _ (w.heap.size + 1 + 1) _ (x).cells _ rfl (row_at HX.z) Try.underlying25 rfl (sizeInst.trans rfl)) rfl ?_
      exact ⟨by rw [HV.out], below_row _ HX.b (by have := HX.lt; omega)⟩
    have k0 := decide_eq_false m0
    by_cases m1 : 11 < what
    · have k1 := decide_eq_true m1
      clear hm m0 m1
      have MM := Lib.hid (fun W => refMay_is x true ok W)
      clear ok
      go_enter Try.func8, Try.ntmps8
      go_wp2_with ((with_reducible refine at_load' 25 ?_); (refine load_ins rfl _ rfl _ _ rfl x (range_row H0.x) ?_))
      refine (MM.out _).mono ?_
      rintro _ v ⟨rfl, bv⟩
      have HX := H0.call bv
      have HC := kept_box bv HC0
      have c10 := cell_row HC c.f10
      have c11 := cell_row HC c.f11
      have c12 := cell_row HC c.f12
      have c14 := cell_row HC c.f14
      have d5 := cell_row HX.x x.f5
      have d9 := cell_row HX.x x.f9
      have fr := free_row HX.x
      clear H0 HC0 MM bv
      go_wp2_with (first | (refine load_cfg rfl _ rfl _ rfl c _ _ HC ?_) | ((with_reducible refine at_load' 25 ?_); (refine load_ins rfl _ rfl _ _ rfl (x) (range_row HX.x) ?_)) | ((with_reducible refine at_store 25 ?_); (refine store_whole rfl 25 _ _ rfl (w.heap.size + 1 + 1) (x).cells _ _ rfl rfl HX.z (sizeInst.trans rfl) rfl (x).one ?_)))
      refine bodyPost_ret (v := Ans.val ⟨x, 0, 2⟩) (results_row_tmp2 (fn := Try.f8) (p := 10) (u := 11) (v := 12) rfl _ _ (w.heap.size + 1 + 1) _ (x).cells _ rfl (row_at HX.z) Try.underlying25 rfl (sizeInst.trans rfl)) rfl ?_
      exact ⟨by rw [HV.out], below_row _ HX.b (by have := HX.lt; omega)⟩
    have k1 := decide_eq_false m1
    by_cases m2 : 1099511627776 < now
    · have k2 := decide_eq_true m2
      clear hm m0 m1 m2
      have MM := Lib.hid (fun W => refMay_is x true ok W)
      clear ok
      go_enter Try.func8, Try.ntmps8
      go_wp2_with ((with_reducible refine at_load' 25 ?_); (refine load_ins rfl _ rfl _ _ rfl x (range_row H0.x) ?_))
      refine (MM.out _).mono ?_
      rintro _ v ⟨rfl, bv⟩
      have HX := H0.call bv
      have HC := kept_box bv HC0
      have c10 := cell_row HC c.f10
      have c11 := cell_row HC c.f11
      have c12 := cell_row HC c.f12
      have c14 := cell_row HC c.f14
      have d5 := cell_row HX.x x.f5
      have d9 := cell_row HX.x x.f9
      have fr := free_row HX.x
      clear H0 HC0 MM bv
      go_wp2_with (first | (refine load_cfg rfl _ rfl _ rfl c _ _ HC ?_) | ((with_reducible refine at_load' 25 ?_); (refine load_ins rfl _ rfl _ _ rfl (x) (range_row HX.x) ?_)) | ((with_reducible refine at_store 25 ?_); (refine store_whole rfl 25 _ _ rfl (w.heap.size + 1 + 1) (x).cells _ _ rfl rfl HX.z (sizeInst.trans rfl) rfl (x).one ?_)))
      refine bodyPost_ret (v := Ans.val ⟨x, 0, 2⟩) (results_row_tmp2 (fn := Try.f8) (p := 10) (u := 11) (v := 12) rfl _ _ (w.heap.size + 1 + 1) _ (x).cells _ rfl (row_at HX.z) Try.underlying25 rfl (sizeInst.trans rfl)) rfl ?_
      exact ⟨by rw [HV.out], below_row _ HX.b (by have := HX.lt; omega)⟩
    have k2 := decide_eq_false m2
    by_cases m3 : 1099511627776 < at_
    · have k3 := decide_eq_true m3
      clear hm m0 m1 m2 m3
      have MM := Lib.hid (fun W => refMay_is x true ok W)
      clear ok
      go_enter Try.func8, Try.ntmps8
      go_wp2_with ((with_reducible refine at_load' 25 ?_); (refine load_ins rfl _ rfl _ _ rfl x (range_row H0.x) ?_))
      refine (MM.out _).mono ?_
      rintro _ v ⟨rfl, bv⟩
      have HX := H0.call bv
      have HC := kept_box bv HC0
      have c10 := cell_row HC c.f10
      have c11 := cell_row HC c.f11
      have c12 := cell_row HC c.f12
      have c14 := cell_row HC c.f14
      have d5 := cell_row HX.x x.f5
      have d9 := cell_row HX.x x.f9
      have fr := free_row HX.x
      clear H0 HC0 MM bv
      go_wp2_with (first | (refine load_cfg rfl _ rfl _ rfl c _ _ HC ?_) | ((with_reducible refine at_load' 25 ?_); (refine load_ins rfl _ rfl _ _ rfl (x) (range_row HX.x) ?_)) | ((with_reducible refine at_store 25 ?_); (refine store_whole rfl 25 _ _ rfl (w.heap.size + 1 + 1) (x).cells _ _ rfl rfl HX.z (sizeInst.trans rfl) rfl (x).one ?_)))
      refine bodyPost_ret (v := Ans.val ⟨x, 0, 2⟩) (results_row_tmp2 (fn := Try.f8) (p := 10) (u := 11) (v := 12) rfl _ _ (w.heap.size + 1 + 1) _ (x).cells _ rfl (row_at HX.z) Try.underlying25 rfl (sizeInst.trans rfl)) rfl ?_
      exact ⟨by rw [HV.out], below_row _ HX.b (by have := HX.lt; omega)⟩
    have k3 := decide_eq_false m3
    by_cases m4 : 65536 < c.hookIn
    · have k4 := decide_eq_true m4
      clear hm m0 m1 m2 m3 m4
      have MM := Lib.hid (fun W => refMay_is x true ok W)
      clear ok
      go_enter Try.func8, Try.ntmps8
      go_wp2_with ((with_reducible refine at_load' 25 ?_); (refine load_ins rfl _ rfl _ _ rfl x (range_row H0.x) ?_))
      refine (MM.out _).mono ?_
      rintro _ v ⟨rfl, bv⟩
      have HX := H0.call bv
      have HC := kept_box bv HC0
      have c10 := cell_row HC c.f10
      have c11 := cell_row HC c.f11
      have c12 := cell_row HC c.f12
      have c14 := cell_row HC c.f14
      have d5 := cell_row HX.x x.f5
      have d9 := cell_row HX.x x.f9
      have fr := free_row HX.x
      clear H0 HC0 MM bv
      go_wp2_with (first | (refine load_cfg rfl _ rfl _ rfl c _ _ HC ?_) | ((with_reducible refine at_load' 25 ?_); (refine load_ins rfl _ rfl _ _ rfl (x) (range_row HX.x) ?_)) | ((with_reducible refine at_store 25 ?_); (refine store_whole rfl 25 _ _ rfl (w.heap.size + 1 + 1) (x).cells _ _ rfl rfl HX.z (sizeInst.trans rfl) rfl (x).one ?_)))
      refine bodyPost_ret (v := Ans.val ⟨x, 0, 2⟩) (results_row_tmp2 (fn := Try.f8) (p := 10) (u := 11) (v := 12) rfl _ _ (w.heap.size + 1 + 1) _ (x).cells _ rfl (row_at HX.z) Try.underlying25 rfl (sizeInst.trans rfl)) rfl ?_
      exact ⟨by rw [HV.out], below_row _ HX.b (by have := HX.lt; omega)⟩
    have k4 := decide_eq_false m4
    by_cases m5 : 65536 < c.hookOut
    · have k5 := decide_eq_true m5
      clear hm m0 m1 m2 m3 m4 m5
      have MM := Lib.hid (fun W => refMay_is x true ok W)
      clear ok
      go_enter Try.func8, Try.ntmps8
      go_wp2_with ((with_reducible refine at_load' 25 ?_); (refine load_ins rfl _ rfl _ _ rfl x (range_row H0.x) ?_))
      refine (MM.out _).mono ?_
      rintro _ v ⟨rfl, bv⟩
      have HX := H0.call bv
      have HC := kept_box bv HC0
      have c10 := cell_row HC c.f10
      have c11 := cell_row HC c.f11
      have c12 := cell_row HC c.f12
      have c14 := cell_row HC c.f14
      have d5 := cell_row HX.x x.f5
      have d9 := cell_row HX.x x.f9
      have fr := free_row HX.x
      clear H0 HC0 MM bv
      go_wp2_with (first | (refine load_cfg rfl _ rfl _ rfl c _ _ HC ?_) | ((with_reducible refine at_load' 25 ?_); (refine load_ins rfl _ rfl _ _ rfl (x) (range_row HX.x) ?_)) | ((with_reducible refine at_store 25 ?_); (refine store_whole rfl 25 _ _ rfl (w.heap.size + 1 + 1) (x).cells _ _ rfl rfl HX.z (sizeInst.trans rfl) rfl (x).one ?_)))
      refine bodyPost_ret (v := Ans.val ⟨x, 0, 2⟩) (results_row_tmp2 (fn := Try.f8) (p := 10) (u := 11) (v := 12) rfl _ _ (w.heap.size + 1 + 1) _ (x).cells _ rfl (row_at HX.z) Try.underlying25 rfl (sizeInst.trans rfl)) rfl ?_
      exact ⟨by rw [HV.out], below_row _ HX.b (by have := HX.lt; omega)⟩
    have k5 := decide_eq_false m5
    by_cases m6 : 65536 < c.drain
    · have k6 := decide_eq_true m6
      clear hm m0 m1 m2 m3 m4 m5 m6
      have MM := Lib.hid (fun W => refMay_is x true ok W)
      clear ok
      go_enter Try.func8, Try.ntmps8
      go_wp2_with ((with_reducible refine at_load' 25 ?_); (refine load_ins rfl _ rfl _ _ rfl x (range_row H0.x) ?_))
      refine (MM.out _).mono ?_
      rintro _ v ⟨rfl, bv⟩
      have HX := H0.call bv
      have HC := kept_box bv HC0
      have c10 := cell_row HC c.f10
      have c11 := cell_row HC c.f11
      have c12 := cell_row HC c.f12
      have c14 := cell_row HC c.f14
      have d5 := cell_row HX.x x.f5
      have d9 := cell_row HX.x x.f9
      have fr := free_row HX.x
      clear H0 HC0 MM bv
      go_wp2_with (first | (refine load_cfg rfl _ rfl _ rfl c _ _ HC ?_) | ((with_reducible refine at_load' 25 ?_); (refine load_ins rfl _ rfl _ _ rfl (x) (range_row HX.x) ?_)) | ((with_reducible refine at_store 25 ?_); (refine store_whole rfl 25 _ _ rfl (w.heap.size + 1 + 1) (x).cells _ _ rfl rfl HX.z (sizeInst.trans rfl) rfl (x).one ?_)))
      refine bodyPost_ret (v := Ans.val ⟨x, 0, 2⟩) (results_row_tmp2 (fn := Try.f8) (p := 10) (u := 11) (v := 12) rfl _ _ (w.heap.size + 1 + 1) _ (x).cells _ rfl (row_at HX.z) Try.underlying25 rfl (sizeInst.trans rfl)) rfl ?_
      exact ⟨by rw [HV.out], below_row _ HX.b (by have := HX.lt; omega)⟩
    have k6 := decide_eq_false m6
    by_cases m7 : 65536 < c.deadline
    · have k7 := decide_eq_true m7
      clear hm m0 m1 m2 m3 m4 m5 m6 m7
      have MM := Lib.hid (fun W => refMay_is x true ok W)
      clear ok
      go_enter Try.func8, Try.ntmps8
      go_wp2_with ((with_reducible refine at_load' 25 ?_); (refine load_ins rfl _ rfl _ _ rfl x (range_row H0.x) ?_))
      refine (MM.out _).mono ?_
      rintro _ v ⟨rfl, bv⟩
      have HX := H0.call bv
      have HC := kept_box bv HC0
      have c10 := cell_row HC c.f10
      have c11 := cell_row HC c.f11
      have c12 := cell_row HC c.f12
      have c14 := cell_row HC c.f14
      have d5 := cell_row HX.x x.f5
      have d9 := cell_row HX.x x.f9
      have fr := free_row HX.x
      clear H0 HC0 MM bv
      go_wp2_with (first | (refine load_cfg rfl _ rfl _ rfl c _ _ HC ?_) | ((with_reducible refine at_load' 25 ?_); (refine load_ins rfl _ rfl _ _ rfl (x) (range_row HX.x) ?_)) | ((with_reducible refine at_store 25 ?_); (refine store_whole rfl 25 _ _ rfl (w.heap.size + 1 + 1) (x).cells _ _ rfl rfl HX.z (sizeInst.trans rfl) rfl (x).one ?_)))
      refine bodyPost_ret (v := Ans.val ⟨x, 0, 2⟩) (results_row_tmp2 (fn := Try.f8) (p := 10) (u := 11) (v := 12) rfl _ _ (w.heap.size + 1 + 1) _ (x).cells _ rfl (row_at HX.z) Try.underlying25 rfl (sizeInst.trans rfl)) rfl ?_
      exact ⟨by rw [HV.out], below_row _ HX.b (by have := HX.lt; omega)⟩
    have k7 := decide_eq_false m7
    exfalso
    unfold mayDoB at hm
    rw [ok, Bool.and_true, decide_eq_true (by omega), decide_eq_true (by omega)] at hm
    cases hm
  have hc := mayDo_in h hm
  obtain ⟨ok, y0, y1, y2, y3, y4, y5, y6, y7⟩ := mayDo_yes hm
  have HM : Hid (mayDoB x what now at_ c = true) := Lib.hid hm
  clear hm
  have k0 : decide (what < 1) = false := decide_eq_false (by omega)
  have k1 : decide (11 < what) = false := decide_eq_false (by omega)
  have k2 : decide (1099511627776 < now) = false := decide_eq_false (by omega)
  have k3 : decide (1099511627776 < at_) = false := decide_eq_false (by omega)
  have k4 : decide (65536 < c.hookIn) = false := decide_eq_false (by omega)
  have k5 : decide (65536 < c.hookOut) = false := decide_eq_false (by omega)
  have k6 : decide (65536 < c.drain) = false := decide_eq_false (by omega)
  have k7 : decide (65536 < c.deadline) = false := decide_eq_false (by omega)
  have w10 : IntKind.u64.wrap (now + c.drain) = now + c.drain := IntWalk.u64_in _ (by have := hc.n0; have := hc.d0; omega)
  have w14 : IntKind.u64.wrap (now + c.deadline) = now + c.deadline := IntWalk.u64_in _ (by have := hc.n0; have := hc.e0; omega)
  clear y2 y3 y4 y5 y6 y7
  rcases (by omega : what = 1 ∨ what = 2 ∨ what = 3 ∨ what = 4 ∨ what = 5 ∨ what = 6 ∨ what = 7 ∨ what = 8 ∨ what = 9 ∨ what = 11 ∨ what = 10) with qw | qw | qw | qw | qw | qw | qw | qw | qw | qw | qw
  · skip
    have e1 : (what == 1) = true := by simp [qw]
    have e2 : (what == 2) = false := by simp; omega
    have e3 : (what == 3) = false := by simp; omega
    have e4 : (what == 4) = false := by simp; omega
    have e5 : (what == 5) = false := by simp; omega
    have e6 : (what == 6) = false := by simp; omega
    have e7 : (what == 7) = false := by simp; omega
    have e8 : (what == 8) = false := by simp; omega
    have e9 : (what == 9) = false := by simp; omega
    have e11 : (what == 11) = false := by simp; omega
    have HV : Hid (refA x what now at_ c = ⟨(readyA x now c).x, (readyA x now c).ask, (readyA x now c).e⟩) := Lib.hid (by unfold refA; rw [if_neg (by rw [HM.out]; simp), if_pos qw])
    clear qw y0 y1 HM 
    have MM := Lib.hid (fun W => refMay_is x true ok W)
    clear ok
    go_enter Try.func8, Try.ntmps8
    go_wp2_with ((with_reducible refine at_load' 25 ?_); (refine load_ins rfl _ rfl _ _ rfl x (range_row H0.x) ?_))
    refine (MM.out _).mono ?_
    rintro _ v ⟨rfl, bv⟩
    have HX := H0.call bv
    have HC := kept_box bv HC0
    have c10 := cell_row HC c.f10
    have c11 := cell_row HC c.f11
    have c12 := cell_row HC c.f12
    have c14 := cell_row HC c.f14
    have d5 := cell_row HX.x x.f5
    have d9 := cell_row HX.x x.f9
    have fr := free_row HX.x
    clear H0 HC0 MM bv
    go_wp2_with (first | (refine load_cfg rfl _ rfl _ rfl c _ _ HC ?_) | ((with_reducible refine at_load' 25 ?_); (refine load_ins rfl _ rfl _ _ rfl (x) (range_row HX.x) ?_)))
    refine (ready_any x now c hc _).mono ?_
    rintro _ u ⟨rfl, bu⟩
    have HU := HX.call bu
    clear bu
    go_wp2_with ((with_reducible refine at_store 25 ?_); (refine store_whole rfl 25 _ _ rfl (w.heap.size + 1 + 1) ((readyA x now c).x).cells _ _ rfl rfl HU.z (sizeInst.trans rfl) rfl ((readyA x now c).x).one ?_))
    refine bodyPost_ret (v := Ans.val ⟨(readyA x now c).x, (readyA x now c).ask, (readyA x now c).e⟩) (results_row_tmp2 (fn := Try.f8) (p := 10) (u := 11) (v := 12) rfl _ _ (w.heap.size + 1 + 1) _ ((readyA x now c).x).cells _ rfl (row_at HU.z) Try.underlying25 rfl (sizeInst.trans rfl)) rfl ?_
    exact ⟨by rw [HV.out], below_row _ HU.b (by have := HU.lt; omega)⟩
  · skip
    have e1 : (what == 1) = false := by simp; omega
    have e2 : (what == 2) = true := by simp [qw]
    have e3 : (what == 3) = false := by simp; omega
    have e4 : (what == 4) = false := by simp; omega
    have e5 : (what == 5) = false := by simp; omega
    have e6 : (what == 6) = false := by simp; omega
    have e7 : (what == 7) = false := by simp; omega
    have e8 : (what == 8) = false := by simp; omega
    have e9 : (what == 9) = false := by simp; omega
    have e11 : (what == 11) = false := by simp; omega
    have HV : Hid (refA x what now at_ c = ⟨(noticeA x now at_ c).x, (noticeA x now at_ c).ask, (noticeA x now at_ c).e⟩) := Lib.hid (by unfold refA; rw [if_neg (by rw [HM.out]; simp), if_neg (by omega), if_pos qw])
    clear qw y0 y1 HM 
    have MM := Lib.hid (fun W => refMay_is x true ok W)
    clear ok
    go_enter Try.func8, Try.ntmps8
    go_wp2_with ((with_reducible refine at_load' 25 ?_); (refine load_ins rfl _ rfl _ _ rfl x (range_row H0.x) ?_))
    refine (MM.out _).mono ?_
    rintro _ v ⟨rfl, bv⟩
    have HX := H0.call bv
    have HC := kept_box bv HC0
    have c10 := cell_row HC c.f10
    have c11 := cell_row HC c.f11
    have c12 := cell_row HC c.f12
    have c14 := cell_row HC c.f14
    have d5 := cell_row HX.x x.f5
    have d9 := cell_row HX.x x.f9
    have fr := free_row HX.x
    clear H0 HC0 MM bv
    go_wp2_with (first | (refine load_cfg rfl _ rfl _ rfl c _ _ HC ?_) | ((with_reducible refine at_load' 25 ?_); (refine load_ins rfl _ rfl _ _ rfl (x) (range_row HX.x) ?_)))
    refine (notice_any x now at_ c hc _).mono ?_
    rintro _ u ⟨rfl, bu⟩
    have HU := HX.call bu
    clear bu
    go_wp2_with ((with_reducible refine at_store 25 ?_); (refine store_whole rfl 25 _ _ rfl (w.heap.size + 1 + 1) ((noticeA x now at_ c).x).cells _ _ rfl rfl HU.z (sizeInst.trans rfl) rfl ((noticeA x now at_ c).x).one ?_))
    refine bodyPost_ret (v := Ans.val ⟨(noticeA x now at_ c).x, (noticeA x now at_ c).ask, (noticeA x now at_ c).e⟩) (results_row_tmp2 (fn := Try.f8) (p := 10) (u := 11) (v := 12) rfl _ _ (w.heap.size + 1 + 1) _ ((noticeA x now at_ c).x).cells _ rfl (row_at HU.z) Try.underlying25 rfl (sizeInst.trans rfl)) rfl ?_
    exact ⟨by rw [HV.out], below_row _ HU.b (by have := HU.lt; omega)⟩
  · skip
    have e1 : (what == 1) = false := by simp; omega
    have e2 : (what == 2) = false := by simp; omega
    have e3 : (what == 3) = true := by simp [qw]
    have e4 : (what == 4) = false := by simp; omega
    have e5 : (what == 5) = false := by simp; omega
    have e6 : (what == 6) = false := by simp; omega
    have e7 : (what == 7) = false := by simp; omega
    have e8 : (what == 8) = false := by simp; omega
    have e9 : (what == 9) = false := by simp; omega
    have e11 : (what == 11) = false := by simp; omega
    by_cases q1 : x.st = 3
    · have s3 : (x.st == 3) = true := by simp [q1]
      have z3 : (x.st != 3) = false := by simp [q1]
      have HV : Hid (refA x what now at_ c = ⟨{ x with risk := true }, 0, 0⟩) := Lib.hid (by unfold refA; rw [if_neg (by rw [HM.out]; simp), if_neg (by omega), if_neg (by omega), if_pos qw, if_neg (by omega)])
      clear qw y0 y1 HM q1
      have MM := Lib.hid (fun W => refMay_is x true ok W)
      clear ok
      go_enter Try.func8, Try.ntmps8
      go_wp2_with ((with_reducible refine at_load' 25 ?_); (refine load_ins rfl _ rfl _ _ rfl x (range_row H0.x) ?_))
      refine (MM.out _).mono ?_
      rintro _ v ⟨rfl, bv⟩
      have HX := H0.call bv
      have HC := kept_box bv HC0
      have c10 := cell_row HC c.f10
      have c11 := cell_row HC c.f11
      have c12 := cell_row HC c.f12
      have c14 := cell_row HC c.f14
      have d5 := cell_row HX.x x.f5
      have d9 := cell_row HX.x x.f9
      have fr := free_row HX.x
      clear H0 HC0 MM bv
      have HS := HX.set (k := 9) (y := { x with risk := true }) (v := .bool true) rfl
      go_wp2_with (first | (refine load_cfg rfl _ rfl _ rfl c _ _ HC ?_) | ((with_reducible refine at_load' 25 ?_); (refine load_ins rfl _ rfl _ _ rfl ({ x with risk := true }) (range_row HS.x) ?_)) | ((with_reducible refine at_store 25 ?_); (refine store_whole rfl 25 _ _ rfl (w.heap.size + 1 + 1) ({ x with risk := true }).cells _ _ rfl rfl HS.z (sizeInst.trans rfl) rfl ({ x with risk := true }).one ?_)))
      refine bodyPost_ret (v := Ans.val ⟨{ x with risk := true }, 0, 0⟩) (results_row_tmp2 (fn := Try.f8) (p := 10) (u := 11) (v := 12) rfl _ _ (w.heap.size + 1 + 1) _ ({ x with risk := true }).cells _ rfl (row_at HS.z) Try.underlying25 rfl (sizeInst.trans rfl)) rfl ?_
      exact ⟨by rw [HV.out], below_row _ HS.b (by have := HS.lt; omega)⟩
    · have s3 : (x.st == 3) = false := by simp [q1]
      have z3 : (x.st != 3) = true := by simp [q1]
      have HV : Hid (refA x what now at_ c = ⟨x, 0, 12⟩) := Lib.hid (by unfold refA; rw [if_neg (by rw [HM.out]; simp), if_neg (by omega), if_neg (by omega), if_pos qw, if_pos q1])
      clear qw y0 y1 HM q1
      have MM := Lib.hid (fun W => refMay_is x true ok W)
      clear ok
      go_enter Try.func8, Try.ntmps8
      go_wp2_with ((with_reducible refine at_load' 25 ?_); (refine load_ins rfl _ rfl _ _ rfl x (range_row H0.x) ?_))
      refine (MM.out _).mono ?_
      rintro _ v ⟨rfl, bv⟩
      have HX := H0.call bv
      have HC := kept_box bv HC0
      have c10 := cell_row HC c.f10
      have c11 := cell_row HC c.f11
      have c12 := cell_row HC c.f12
      have c14 := cell_row HC c.f14
      have d5 := cell_row HX.x x.f5
      have d9 := cell_row HX.x x.f9
      have fr := free_row HX.x
      clear H0 HC0 MM bv
      go_wp2_with (first | (refine load_cfg rfl _ rfl _ rfl c _ _ HC ?_) | ((with_reducible refine at_load' 25 ?_); (refine load_ins rfl _ rfl _ _ rfl (x) (range_row HX.x) ?_)) | ((with_reducible refine at_store 25 ?_); (refine store_whole rfl 25 _ _ rfl (w.heap.size + 1 + 1) (x).cells _ _ rfl rfl HX.z (sizeInst.trans rfl) rfl (x).one ?_)))
      refine bodyPost_ret (v := Ans.val ⟨x, 0, 12⟩) (results_row_tmp2 (fn := Try.f8) (p := 10) (u := 11) (v := 12) rfl _ _ (w.heap.size + 1 + 1) _ (x).cells _ rfl (row_at HX.z) Try.underlying25 rfl (sizeInst.trans rfl)) rfl ?_
      exact ⟨by rw [HV.out], below_row _ HX.b (by have := HX.lt; omega)⟩
  · skip
    have e1 : (what == 1) = false := by simp; omega
    have e2 : (what == 2) = false := by simp; omega
    have e3 : (what == 3) = false := by simp; omega
    have e4 : (what == 4) = true := by simp [qw]
    have e5 : (what == 5) = false := by simp; omega
    have e6 : (what == 6) = false := by simp; omega
    have e7 : (what == 7) = false := by simp; omega
    have e8 : (what == 8) = false := by simp; omega
    have e9 : (what == 9) = false := by simp; omega
    have e11 : (what == 11) = false := by simp; omega
    have HV : Hid (refA x what now at_ c = ⟨(beatA x now c).x, (beatA x now c).ask, (beatA x now c).e⟩) := Lib.hid (by unfold refA; rw [if_neg (by rw [HM.out]; simp), if_neg (by omega), if_neg (by omega), if_neg (by omega), if_pos qw])
    clear qw y0 y1 HM 
    have MM := Lib.hid (fun W => refMay_is x true ok W)
    clear ok
    go_enter Try.func8, Try.ntmps8
    go_wp2_with ((with_reducible refine at_load' 25 ?_); (refine load_ins rfl _ rfl _ _ rfl x (range_row H0.x) ?_))
    refine (MM.out _).mono ?_
    rintro _ v ⟨rfl, bv⟩
    have HX := H0.call bv
    have HC := kept_box bv HC0
    have c10 := cell_row HC c.f10
    have c11 := cell_row HC c.f11
    have c12 := cell_row HC c.f12
    have c14 := cell_row HC c.f14
    have d5 := cell_row HX.x x.f5
    have d9 := cell_row HX.x x.f9
    have fr := free_row HX.x
    clear H0 HC0 MM bv
    go_wp2_with (first | (refine load_cfg rfl _ rfl _ rfl c _ _ HC ?_) | ((with_reducible refine at_load' 25 ?_); (refine load_ins rfl _ rfl _ _ rfl (x) (range_row HX.x) ?_)))
    refine (beat_any x now c hc _).mono ?_
    rintro _ u ⟨rfl, bu⟩
    have HU := HX.call bu
    clear bu
    go_wp2_with ((with_reducible refine at_store 25 ?_); (refine store_whole rfl 25 _ _ rfl (w.heap.size + 1 + 1) ((beatA x now c).x).cells _ _ rfl rfl HU.z (sizeInst.trans rfl) rfl ((beatA x now c).x).one ?_))
    refine bodyPost_ret (v := Ans.val ⟨(beatA x now c).x, (beatA x now c).ask, (beatA x now c).e⟩) (results_row_tmp2 (fn := Try.f8) (p := 10) (u := 11) (v := 12) rfl _ _ (w.heap.size + 1 + 1) _ ((beatA x now c).x).cells _ rfl (row_at HU.z) Try.underlying25 rfl (sizeInst.trans rfl)) rfl ?_
    exact ⟨by rw [HV.out], below_row _ HU.b (by have := HU.lt; omega)⟩
  · skip
    have e1 : (what == 1) = false := by simp; omega
    have e2 : (what == 2) = false := by simp; omega
    have e3 : (what == 3) = false := by simp; omega
    have e4 : (what == 4) = false := by simp; omega
    have e5 : (what == 5) = true := by simp [qw]
    have e6 : (what == 6) = false := by simp; omega
    have e7 : (what == 7) = false := by simp; omega
    have e8 : (what == 8) = false := by simp; omega
    have e9 : (what == 9) = false := by simp; omega
    have e11 : (what == 11) = false := by simp; omega
    by_cases q1 : x.st = 2
    · have s2 : (x.st == 2) = true := by simp [q1]
      have z2 : (x.st != 2) = false := by simp [q1]
      have HV : Hid (refA x what now at_ c = ⟨toX x 3 0, 0, 0⟩) := Lib.hid (by unfold refA; rw [if_neg (by rw [HM.out]; simp), if_neg (by omega), if_neg (by omega), if_neg (by omega), if_neg (by omega), if_pos qw, if_pos q1])
      clear qw y0 y1 HM q1
      have MM := Lib.hid (fun W => refMay_is x true ok W)
      clear ok
      go_enter Try.func8, Try.ntmps8
      go_wp2_with ((with_reducible refine at_load' 25 ?_); (refine load_ins rfl _ rfl _ _ rfl x (range_row H0.x) ?_))
      refine (MM.out _).mono ?_
      rintro _ v ⟨rfl, bv⟩
      have HX := H0.call bv
      have HC := kept_box bv HC0
      have c10 := cell_row HC c.f10
      have c11 := cell_row HC c.f11
      have c12 := cell_row HC c.f12
      have c14 := cell_row HC c.f14
      have d5 := cell_row HX.x x.f5
      have d9 := cell_row HX.x x.f9
      have fr := free_row HX.x
      clear H0 HC0 MM bv
      go_wp2_with (first | (refine load_cfg rfl _ rfl _ rfl c _ _ HC ?_) | ((with_reducible refine at_load' 25 ?_); (refine load_ins rfl _ rfl _ _ rfl (x) (range_row HX.x) ?_)))
      refine (to_any x 3 0 _).mono ?_
      rintro _ u ⟨rfl, bu⟩
      have HU := HX.call bu
      clear bu
      go_wp2_with ((with_reducible refine at_store 25 ?_); (refine store_whole rfl 25 _ _ rfl (w.heap.size + 1 + 1) (toX x 3 0).cells _ _ rfl rfl HU.z (sizeInst.trans rfl) rfl (toX x 3 0).one ?_))
      refine bodyPost_ret (v := Ans.val ⟨toX x 3 0, 0, 0⟩) (results_row_tmp2 (fn := Try.f8) (p := 10) (u := 11) (v := 12) rfl _ _ (w.heap.size + 1 + 1) _ (toX x 3 0).cells _ rfl (row_at HU.z) Try.underlying25 rfl (sizeInst.trans rfl)) rfl ?_
      exact ⟨by rw [HV.out], below_row _ HU.b (by have := HU.lt; omega)⟩
    · have s2 : (x.st == 2) = false := by simp [q1]
      have z2 : (x.st != 2) = true := by simp [q1]
      have HV : Hid (refA x what now at_ c = ⟨(oneA x 5 6 0 2).x, (oneA x 5 6 0 2).ask, (oneA x 5 6 0 2).e⟩) := Lib.hid (by unfold refA; rw [if_neg (by rw [HM.out]; simp), if_neg (by omega), if_neg (by omega), if_neg (by omega), if_neg (by omega), if_pos qw, if_neg q1])
      clear qw y0 y1 HM q1
      have MM := Lib.hid (fun W => refMay_is x true ok W)
      clear ok
      go_enter Try.func8, Try.ntmps8
      go_wp2_with ((with_reducible refine at_load' 25 ?_); (refine load_ins rfl _ rfl _ _ rfl x (range_row H0.x) ?_))
      refine (MM.out _).mono ?_
      rintro _ v ⟨rfl, bv⟩
      have HX := H0.call bv
      have HC := kept_box bv HC0
      have c10 := cell_row HC c.f10
      have c11 := cell_row HC c.f11
      have c12 := cell_row HC c.f12
      have c14 := cell_row HC c.f14
      have d5 := cell_row HX.x x.f5
      have d9 := cell_row HX.x x.f9
      have fr := free_row HX.x
      clear H0 HC0 MM bv
      go_wp2_with (first | (refine load_cfg rfl _ rfl _ rfl c _ _ HC ?_) | ((with_reducible refine at_load' 25 ?_); (refine load_ins rfl _ rfl _ _ rfl (x) (range_row HX.x) ?_)))
      refine (one_any x 5 6 0 2 _).mono ?_
      rintro _ u ⟨rfl, bu⟩
      have HU := HX.call bu
      clear bu
      go_wp2_with ((with_reducible refine at_store 25 ?_); (refine store_whole rfl 25 _ _ rfl (w.heap.size + 1 + 1) ((oneA x 5 6 0 2).x).cells _ _ rfl rfl HU.z (sizeInst.trans rfl) rfl ((oneA x 5 6 0 2).x).one ?_))
      refine bodyPost_ret (v := Ans.val ⟨(oneA x 5 6 0 2).x, (oneA x 5 6 0 2).ask, (oneA x 5 6 0 2).e⟩) (results_row_tmp2 (fn := Try.f8) (p := 10) (u := 11) (v := 12) rfl _ _ (w.heap.size + 1 + 1) _ ((oneA x 5 6 0 2).x).cells _ rfl (row_at HU.z) Try.underlying25 rfl (sizeInst.trans rfl)) rfl ?_
      exact ⟨by rw [HV.out], below_row _ HU.b (by have := HU.lt; omega)⟩
  · skip
    have e1 : (what == 1) = false := by simp; omega
    have e2 : (what == 2) = false := by simp; omega
    have e3 : (what == 3) = false := by simp; omega
    have e4 : (what == 4) = false := by simp; omega
    have e5 : (what == 5) = false := by simp; omega
    have e6 : (what == 6) = true := by simp [qw]
    have e7 : (what == 7) = false := by simp; omega
    have e8 : (what == 8) = false := by simp; omega
    have e9 : (what == 9) = false := by simp; omega
    have e11 : (what == 11) = false := by simp; omega
    by_cases q1 : x.st = 2
    · have s2 : (x.st == 2) = true := by simp [q1]
      have z2 : (x.st != 2) = false := by simp [q1]
      have HV : Hid (refA x what now at_ c = ⟨toX x 6 0, 2, 0⟩) := Lib.hid (by unfold refA; rw [if_neg (by rw [HM.out]; simp), if_neg (by omega), if_neg (by omega), if_neg (by omega), if_neg (by omega), if_neg (by omega), if_pos qw, if_pos q1])
      clear qw y0 y1 HM q1
      have MM := Lib.hid (fun W => refMay_is x true ok W)
      clear ok
      go_enter Try.func8, Try.ntmps8
      go_wp2_with ((with_reducible refine at_load' 25 ?_); (refine load_ins rfl _ rfl _ _ rfl x (range_row H0.x) ?_))
      refine (MM.out _).mono ?_
      rintro _ v ⟨rfl, bv⟩
      have HX := H0.call bv
      have HC := kept_box bv HC0
      have c10 := cell_row HC c.f10
      have c11 := cell_row HC c.f11
      have c12 := cell_row HC c.f12
      have c14 := cell_row HC c.f14
      have d5 := cell_row HX.x x.f5
      have d9 := cell_row HX.x x.f9
      have fr := free_row HX.x
      clear H0 HC0 MM bv
      go_wp2_with (first | (refine load_cfg rfl _ rfl _ rfl c _ _ HC ?_) | ((with_reducible refine at_load' 25 ?_); (refine load_ins rfl _ rfl _ _ rfl (x) (range_row HX.x) ?_)))
      refine (to_any x 6 0 _).mono ?_
      rintro _ u ⟨rfl, bu⟩
      have HU := HX.call bu
      clear bu
      go_wp2_with ((with_reducible refine at_store 25 ?_); (refine store_whole rfl 25 _ _ rfl (w.heap.size + 1 + 1) (toX x 6 0).cells _ _ rfl rfl HU.z (sizeInst.trans rfl) rfl (toX x 6 0).one ?_))
      refine bodyPost_ret (v := Ans.val ⟨toX x 6 0, 2, 0⟩) (results_row_tmp2 (fn := Try.f8) (p := 10) (u := 11) (v := 12) rfl _ _ (w.heap.size + 1 + 1) _ (toX x 6 0).cells _ rfl (row_at HU.z) Try.underlying25 rfl (sizeInst.trans rfl)) rfl ?_
      exact ⟨by rw [HV.out], below_row _ HU.b (by have := HU.lt; omega)⟩
    · have s2 : (x.st == 2) = false := by simp [q1]
      have z2 : (x.st != 2) = true := by simp [q1]
      have HV : Hid (refA x what now at_ c = ⟨(oneA x 5 6 0 2).x, (oneA x 5 6 0 2).ask, (oneA x 5 6 0 2).e⟩) := Lib.hid (by unfold refA; rw [if_neg (by rw [HM.out]; simp), if_neg (by omega), if_neg (by omega), if_neg (by omega), if_neg (by omega), if_neg (by omega), if_pos qw, if_neg q1])
      clear qw y0 y1 HM q1
      have MM := Lib.hid (fun W => refMay_is x true ok W)
      clear ok
      go_enter Try.func8, Try.ntmps8
      go_wp2_with ((with_reducible refine at_load' 25 ?_); (refine load_ins rfl _ rfl _ _ rfl x (range_row H0.x) ?_))
      refine (MM.out _).mono ?_
      rintro _ v ⟨rfl, bv⟩
      have HX := H0.call bv
      have HC := kept_box bv HC0
      have c10 := cell_row HC c.f10
      have c11 := cell_row HC c.f11
      have c12 := cell_row HC c.f12
      have c14 := cell_row HC c.f14
      have d5 := cell_row HX.x x.f5
      have d9 := cell_row HX.x x.f9
      have fr := free_row HX.x
      clear H0 HC0 MM bv
      go_wp2_with (first | (refine load_cfg rfl _ rfl _ rfl c _ _ HC ?_) | ((with_reducible refine at_load' 25 ?_); (refine load_ins rfl _ rfl _ _ rfl (x) (range_row HX.x) ?_)))
      refine (one_any x 5 6 0 2 _).mono ?_
      rintro _ u ⟨rfl, bu⟩
      have HU := HX.call bu
      clear bu
      go_wp2_with ((with_reducible refine at_store 25 ?_); (refine store_whole rfl 25 _ _ rfl (w.heap.size + 1 + 1) ((oneA x 5 6 0 2).x).cells _ _ rfl rfl HU.z (sizeInst.trans rfl) rfl ((oneA x 5 6 0 2).x).one ?_))
      refine bodyPost_ret (v := Ans.val ⟨(oneA x 5 6 0 2).x, (oneA x 5 6 0 2).ask, (oneA x 5 6 0 2).e⟩) (results_row_tmp2 (fn := Try.f8) (p := 10) (u := 11) (v := 12) rfl _ _ (w.heap.size + 1 + 1) _ ((oneA x 5 6 0 2).x).cells _ rfl (row_at HU.z) Try.underlying25 rfl (sizeInst.trans rfl)) rfl ?_
      exact ⟨by rw [HV.out], below_row _ HU.b (by have := HU.lt; omega)⟩
  · skip
    have e1 : (what == 1) = false := by simp; omega
    have e2 : (what == 2) = false := by simp; omega
    have e3 : (what == 3) = false := by simp; omega
    have e4 : (what == 4) = false := by simp; omega
    have e5 : (what == 5) = false := by simp; omega
    have e6 : (what == 6) = false := by simp; omega
    have e7 : (what == 7) = true := by simp [qw]
    have e8 : (what == 8) = false := by simp; omega
    have e9 : (what == 9) = false := by simp; omega
    have e11 : (what == 11) = false := by simp; omega
    have HV : Hid (refA x what now at_ c = ⟨(oneA x 7 8 0 0).x, (oneA x 7 8 0 0).ask, (oneA x 7 8 0 0).e⟩) := Lib.hid (by unfold refA; rw [if_neg (by rw [HM.out]; simp), if_neg (by omega), if_neg (by omega), if_neg (by omega), if_neg (by omega), if_neg (by omega), if_neg (by omega), if_pos qw])
    clear qw y0 y1 HM 
    have MM := Lib.hid (fun W => refMay_is x true ok W)
    clear ok
    go_enter Try.func8, Try.ntmps8
    go_wp2_with ((with_reducible refine at_load' 25 ?_); (refine load_ins rfl _ rfl _ _ rfl x (range_row H0.x) ?_))
    refine (MM.out _).mono ?_
    rintro _ v ⟨rfl, bv⟩
    have HX := H0.call bv
    have HC := kept_box bv HC0
    have c10 := cell_row HC c.f10
    have c11 := cell_row HC c.f11
    have c12 := cell_row HC c.f12
    have c14 := cell_row HC c.f14
    have d5 := cell_row HX.x x.f5
    have d9 := cell_row HX.x x.f9
    have fr := free_row HX.x
    clear H0 HC0 MM bv
    go_wp2_with (first | (refine load_cfg rfl _ rfl _ rfl c _ _ HC ?_) | ((with_reducible refine at_load' 25 ?_); (refine load_ins rfl _ rfl _ _ rfl (x) (range_row HX.x) ?_)))
    refine (one_any x 7 8 0 0 _).mono ?_
    rintro _ u ⟨rfl, bu⟩
    have HU := HX.call bu
    clear bu
    go_wp2_with ((with_reducible refine at_store 25 ?_); (refine store_whole rfl 25 _ _ rfl (w.heap.size + 1 + 1) ((oneA x 7 8 0 0).x).cells _ _ rfl rfl HU.z (sizeInst.trans rfl) rfl ((oneA x 7 8 0 0).x).one ?_))
    refine bodyPost_ret (v := Ans.val ⟨(oneA x 7 8 0 0).x, (oneA x 7 8 0 0).ask, (oneA x 7 8 0 0).e⟩) (results_row_tmp2 (fn := Try.f8) (p := 10) (u := 11) (v := 12) rfl _ _ (w.heap.size + 1 + 1) _ ((oneA x 7 8 0 0).x).cells _ rfl (row_at HU.z) Try.underlying25 rfl (sizeInst.trans rfl)) rfl ?_
    exact ⟨by rw [HV.out], below_row _ HU.b (by have := HU.lt; omega)⟩
  · skip
    have e1 : (what == 1) = false := by simp; omega
    have e2 : (what == 2) = false := by simp; omega
    have e3 : (what == 3) = false := by simp; omega
    have e4 : (what == 4) = false := by simp; omega
    have e5 : (what == 5) = false := by simp; omega
    have e6 : (what == 6) = false := by simp; omega
    have e7 : (what == 7) = false := by simp; omega
    have e8 : (what == 8) = true := by simp [qw]
    have e9 : (what == 9) = false := by simp; omega
    have e11 : (what == 11) = false := by simp; omega
    have HV : Hid (refA x what now at_ c = ⟨(tickA x now c).x, (tickA x now c).ask, (tickA x now c).e⟩) := Lib.hid (by unfold refA; rw [if_neg (by rw [HM.out]; simp), if_neg (by omega), if_neg (by omega), if_neg (by omega), if_neg (by omega), if_neg (by omega), if_neg (by omega), if_neg (by omega), if_pos qw])
    clear qw y0 y1 HM 
    have MM := Lib.hid (fun W => refMay_is x true ok W)
    clear ok
    go_enter Try.func8, Try.ntmps8
    go_wp2_with ((with_reducible refine at_load' 25 ?_); (refine load_ins rfl _ rfl _ _ rfl x (range_row H0.x) ?_))
    refine (MM.out _).mono ?_
    rintro _ v ⟨rfl, bv⟩
    have HX := H0.call bv
    have HC := kept_box bv HC0
    have c10 := cell_row HC c.f10
    have c11 := cell_row HC c.f11
    have c12 := cell_row HC c.f12
    have c14 := cell_row HC c.f14
    have d5 := cell_row HX.x x.f5
    have d9 := cell_row HX.x x.f9
    have fr := free_row HX.x
    clear H0 HC0 MM bv
    go_wp2_with (first | (refine load_cfg rfl _ rfl _ rfl c _ _ HC ?_) | ((with_reducible refine at_load' 25 ?_); (refine load_ins rfl _ rfl _ _ rfl (x) (range_row HX.x) ?_)))
    refine (tick_any x now c hc _).mono ?_
    rintro _ u ⟨rfl, bu⟩
    have HU := HX.call bu
    clear bu
    go_wp2_with ((with_reducible refine at_store 25 ?_); (refine store_whole rfl 25 _ _ rfl (w.heap.size + 1 + 1) ((tickA x now c).x).cells _ _ rfl rfl HU.z (sizeInst.trans rfl) rfl ((tickA x now c).x).one ?_))
    refine bodyPost_ret (v := Ans.val ⟨(tickA x now c).x, (tickA x now c).ask, (tickA x now c).e⟩) (results_row_tmp2 (fn := Try.f8) (p := 10) (u := 11) (v := 12) rfl _ _ (w.heap.size + 1 + 1) _ ((tickA x now c).x).cells _ rfl (row_at HU.z) Try.underlying25 rfl (sizeInst.trans rfl)) rfl ?_
    exact ⟨by rw [HV.out], below_row _ HU.b (by have := HU.lt; omega)⟩
  · skip
    have e1 : (what == 1) = false := by simp; omega
    have e2 : (what == 2) = false := by simp; omega
    have e3 : (what == 3) = false := by simp; omega
    have e4 : (what == 4) = false := by simp; omega
    have e5 : (what == 5) = false := by simp; omega
    have e6 : (what == 6) = false := by simp; omega
    have e7 : (what == 7) = false := by simp; omega
    have e8 : (what == 8) = false := by simp; omega
    have e9 : (what == 9) = true := by simp [qw]
    have e11 : (what == 11) = false := by simp; omega
    have HV : Hid (refA x what now at_ c = ⟨(oneA x 3 4 (now + c.drain) 0).x, (oneA x 3 4 (now + c.drain) 0).ask, (oneA x 3 4 (now + c.drain) 0).e⟩) := Lib.hid (by unfold refA; rw [if_neg (by rw [HM.out]; simp), if_neg (by omega), if_neg (by omega), if_neg (by omega), if_neg (by omega), if_neg (by omega), if_neg (by omega), if_neg (by omega), if_neg (by omega), if_pos qw])
    clear qw y0 y1 HM 
    have MM := Lib.hid (fun W => refMay_is x true ok W)
    clear ok
    go_enter Try.func8, Try.ntmps8
    go_wp2_with ((with_reducible refine at_load' 25 ?_); (refine load_ins rfl _ rfl _ _ rfl x (range_row H0.x) ?_))
    refine (MM.out _).mono ?_
    rintro _ v ⟨rfl, bv⟩
    have HX := H0.call bv
    have HC := kept_box bv HC0
    have c10 := cell_row HC c.f10
    have c11 := cell_row HC c.f11
    have c12 := cell_row HC c.f12
    have c14 := cell_row HC c.f14
    have d5 := cell_row HX.x x.f5
    have d9 := cell_row HX.x x.f9
    have fr := free_row HX.x
    clear H0 HC0 MM bv
    go_wp2_with (first | (refine load_cfg rfl _ rfl _ rfl c _ _ HC ?_) | ((with_reducible refine at_load' 25 ?_); (refine load_ins rfl _ rfl _ _ rfl (x) (range_row HX.x) ?_)))
    refine (one_any x 3 4 (now + c.drain) 0 _).mono ?_
    rintro _ u ⟨rfl, bu⟩
    have HU := HX.call bu
    clear bu
    go_wp2_with ((with_reducible refine at_store 25 ?_); (refine store_whole rfl 25 _ _ rfl (w.heap.size + 1 + 1) ((oneA x 3 4 (now + c.drain) 0).x).cells _ _ rfl rfl HU.z (sizeInst.trans rfl) rfl ((oneA x 3 4 (now + c.drain) 0).x).one ?_))
    refine bodyPost_ret (v := Ans.val ⟨(oneA x 3 4 (now + c.drain) 0).x, (oneA x 3 4 (now + c.drain) 0).ask, (oneA x 3 4 (now + c.drain) 0).e⟩) (results_row_tmp2 (fn := Try.f8) (p := 10) (u := 11) (v := 12) rfl _ _ (w.heap.size + 1 + 1) _ ((oneA x 3 4 (now + c.drain) 0).x).cells _ rfl (row_at HU.z) Try.underlying25 rfl (sizeInst.trans rfl)) rfl ?_
    exact ⟨by rw [HV.out], below_row _ HU.b (by have := HU.lt; omega)⟩
  · skip
    have e1 : (what == 1) = false := by simp; omega
    have e2 : (what == 2) = false := by simp; omega
    have e3 : (what == 3) = false := by simp; omega
    have e4 : (what == 4) = false := by simp; omega
    have e5 : (what == 5) = false := by simp; omega
    have e6 : (what == 6) = false := by simp; omega
    have e7 : (what == 7) = false := by simp; omega
    have e8 : (what == 8) = false := by simp; omega
    have e9 : (what == 9) = false := by simp; omega
    have e11 : (what == 11) = true := by simp [qw]
    have HV : Hid (refA x what now at_ c = ⟨(oneA x 8 9 (now + c.deadline) 4).x, (oneA x 8 9 (now + c.deadline) 4).ask, (oneA x 8 9 (now + c.deadline) 4).e⟩) := Lib.hid (by unfold refA; rw [if_neg (by rw [HM.out]; simp), if_neg (by omega), if_neg (by omega), if_neg (by omega), if_neg (by omega), if_neg (by omega), if_neg (by omega), if_neg (by omega), if_neg (by omega), if_neg (by omega), if_pos qw])
    clear qw y0 y1 HM 
    have MM := Lib.hid (fun W => refMay_is x true ok W)
    clear ok
    go_enter Try.func8, Try.ntmps8
    go_wp2_with ((with_reducible refine at_load' 25 ?_); (refine load_ins rfl _ rfl _ _ rfl x (range_row H0.x) ?_))
    refine (MM.out _).mono ?_
    rintro _ v ⟨rfl, bv⟩
    have HX := H0.call bv
    have HC := kept_box bv HC0
    have c10 := cell_row HC c.f10
    have c11 := cell_row HC c.f11
    have c12 := cell_row HC c.f12
    have c14 := cell_row HC c.f14
    have d5 := cell_row HX.x x.f5
    have d9 := cell_row HX.x x.f9
    have fr := free_row HX.x
    clear H0 HC0 MM bv
    go_wp2_with (first | (refine load_cfg rfl _ rfl _ rfl c _ _ HC ?_) | ((with_reducible refine at_load' 25 ?_); (refine load_ins rfl _ rfl _ _ rfl (x) (range_row HX.x) ?_)))
    refine (one_any x 8 9 (now + c.deadline) 4 _).mono ?_
    rintro _ u ⟨rfl, bu⟩
    have HU := HX.call bu
    clear bu
    go_wp2_with ((with_reducible refine at_store 25 ?_); (refine store_whole rfl 25 _ _ rfl (w.heap.size + 1 + 1) ((oneA x 8 9 (now + c.deadline) 4).x).cells _ _ rfl rfl HU.z (sizeInst.trans rfl) rfl ((oneA x 8 9 (now + c.deadline) 4).x).one ?_))
    refine bodyPost_ret (v := Ans.val ⟨(oneA x 8 9 (now + c.deadline) 4).x, (oneA x 8 9 (now + c.deadline) 4).ask, (oneA x 8 9 (now + c.deadline) 4).e⟩) (results_row_tmp2 (fn := Try.f8) (p := 10) (u := 11) (v := 12) rfl _ _ (w.heap.size + 1 + 1) _ ((oneA x 8 9 (now + c.deadline) 4).x).cells _ rfl (row_at HU.z) Try.underlying25 rfl (sizeInst.trans rfl)) rfl ?_
    exact ⟨by rw [HV.out], below_row _ HU.b (by have := HU.lt; omega)⟩
  · skip
    have e1 : (what == 1) = false := by simp; omega
    have e2 : (what == 2) = false := by simp; omega
    have e3 : (what == 3) = false := by simp; omega
    have e4 : (what == 4) = false := by simp; omega
    have e5 : (what == 5) = false := by simp; omega
    have e6 : (what == 6) = false := by simp; omega
    have e7 : (what == 7) = false := by simp; omega
    have e8 : (what == 8) = false := by simp; omega
    have e9 : (what == 9) = false := by simp; omega
    have e11 : (what == 11) = false := by simp; omega
    by_cases q0 : x.st = 8
    · have s8 : (x.st == 8) = true := by simp [q0]
      have z8 : (x.st != 8) = false := by simp [q0]
      have HV : Hid (refA x what now at_ c = ⟨toX x 6 0, 2, 0⟩) := Lib.hid (by unfold refA; rw [if_neg (by rw [HM.out]; simp), if_neg (by omega), if_neg (by omega), if_neg (by omega), if_neg (by omega), if_neg (by omega), if_neg (by omega), if_neg (by omega), if_neg (by omega), if_neg (by omega), if_neg (by omega), if_pos (by omega)])
      clear qw y0 y1 HM q0
      have MM := Lib.hid (fun W => refMay_is x true ok W)
      clear ok
      go_enter Try.func8, Try.ntmps8
      go_wp2_with ((with_reducible refine at_load' 25 ?_); (refine load_ins rfl _ rfl _ _ rfl x (range_row H0.x) ?_))
      refine (MM.out _).mono ?_
      rintro _ v ⟨rfl, bv⟩
      have HX := H0.call bv
      have HC := kept_box bv HC0
      have c10 := cell_row HC c.f10
      have c11 := cell_row HC c.f11
      have c12 := cell_row HC c.f12
      have c14 := cell_row HC c.f14
      have d5 := cell_row HX.x x.f5
      have d9 := cell_row HX.x x.f9
      have fr := free_row HX.x
      clear H0 HC0 MM bv
      go_wp2_with (first | (refine load_cfg rfl _ rfl _ rfl c _ _ HC ?_) | ((with_reducible refine at_load' 25 ?_); (refine load_ins rfl _ rfl _ _ rfl (x) (range_row HX.x) ?_)))
      refine (to_any x 6 0 _).mono ?_
      rintro _ u ⟨rfl, bu⟩
      have HU := HX.call bu
      clear bu
      go_wp2_with ((with_reducible refine at_store 25 ?_); (refine store_whole rfl 25 _ _ rfl (w.heap.size + 1 + 1) (toX x 6 0).cells _ _ rfl rfl HU.z (sizeInst.trans rfl) rfl (toX x 6 0).one ?_))
      refine bodyPost_ret (v := Ans.val ⟨toX x 6 0, 2, 0⟩) (results_row_tmp2 (fn := Try.f8) (p := 10) (u := 11) (v := 12) rfl _ _ (w.heap.size + 1 + 1) _ (toX x 6 0).cells _ rfl (row_at HU.z) Try.underlying25 rfl (sizeInst.trans rfl)) rfl ?_
      exact ⟨by rw [HV.out], below_row _ HU.b (by have := HU.lt; omega)⟩
    · have s8 : (x.st == 8) = false := by simp [q0]
      have z8 : (x.st != 8) = true := by simp [q0]
      by_cases q1 : x.st = 7
      · have s7 : (x.st == 7) = true := by simp [q1]
        have z7 : (x.st != 7) = false := by simp [q1]
        have HV : Hid (refA x what now at_ c = ⟨toX x 6 0, 2, 0⟩) := Lib.hid (by unfold refA; rw [if_neg (by rw [HM.out]; simp), if_neg (by omega), if_neg (by omega), if_neg (by omega), if_neg (by omega), if_neg (by omega), if_neg (by omega), if_neg (by omega), if_neg (by omega), if_neg (by omega), if_neg (by omega), if_pos (by omega)])
        clear qw y0 y1 HM q0 q1
        have MM := Lib.hid (fun W => refMay_is x true ok W)
        clear ok
        go_enter Try.func8, Try.ntmps8
        go_wp2_with ((with_reducible refine at_load' 25 ?_); (refine load_ins rfl _ rfl _ _ rfl x (range_row H0.x) ?_))
        refine (MM.out _).mono ?_
        rintro _ v ⟨rfl, bv⟩
        have HX := H0.call bv
        have HC := kept_box bv HC0
        have c10 := cell_row HC c.f10
        have c11 := cell_row HC c.f11
        have c12 := cell_row HC c.f12
        have c14 := cell_row HC c.f14
        have d5 := cell_row HX.x x.f5
        have d9 := cell_row HX.x x.f9
        have fr := free_row HX.x
        clear H0 HC0 MM bv
        go_wp2_with (first | (refine load_cfg rfl _ rfl _ rfl c _ _ HC ?_) | ((with_reducible refine at_load' 25 ?_); (refine load_ins rfl _ rfl _ _ rfl (x) (range_row HX.x) ?_)))
        refine (to_any x 6 0 _).mono ?_
        rintro _ u ⟨rfl, bu⟩
        have HU := HX.call bu
        clear bu
        go_wp2_with ((with_reducible refine at_store 25 ?_); (refine store_whole rfl 25 _ _ rfl (w.heap.size + 1 + 1) (toX x 6 0).cells _ _ rfl rfl HU.z (sizeInst.trans rfl) rfl (toX x 6 0).one ?_))
        refine bodyPost_ret (v := Ans.val ⟨toX x 6 0, 2, 0⟩) (results_row_tmp2 (fn := Try.f8) (p := 10) (u := 11) (v := 12) rfl _ _ (w.heap.size + 1 + 1) _ (toX x 6 0).cells _ rfl (row_at HU.z) Try.underlying25 rfl (sizeInst.trans rfl)) rfl ?_
        exact ⟨by rw [HV.out], below_row _ HU.b (by have := HU.lt; omega)⟩
      · have s7 : (x.st == 7) = false := by simp [q1]
        have z7 : (x.st != 7) = true := by simp [q1]
        by_cases q2 : x.st = 1
        · have s1 : (x.st == 1) = true := by simp [q2]
          have z1 : (x.st != 1) = false := by simp [q2]
          have HV : Hid (refA x what now at_ c = ⟨toX x 6 0, 2, 0⟩) := Lib.hid (by unfold refA; rw [if_neg (by rw [HM.out]; simp), if_neg (by omega), if_neg (by omega), if_neg (by omega), if_neg (by omega), if_neg (by omega), if_neg (by omega), if_neg (by omega), if_neg (by omega), if_neg (by omega), if_neg (by omega), if_pos (by omega)])
          clear qw y0 y1 HM q0 q1 q2
          have MM := Lib.hid (fun W => refMay_is x true ok W)
          clear ok
          go_enter Try.func8, Try.ntmps8
          go_wp2_with ((with_reducible refine at_load' 25 ?_); (refine load_ins rfl _ rfl _ _ rfl x (range_row H0.x) ?_))
          refine (MM.out _).mono ?_
          rintro _ v ⟨rfl, bv⟩
          have HX := H0.call bv
          have HC := kept_box bv HC0
          have c10 := cell_row HC c.f10
          have c11 := cell_row HC c.f11
          have c12 := cell_row HC c.f12
          have c14 := cell_row HC c.f14
          have d5 := cell_row HX.x x.f5
          have d9 := cell_row HX.x x.f9
          have fr := free_row HX.x
          clear H0 HC0 MM bv
          go_wp2_with (first | (refine load_cfg rfl _ rfl _ rfl c _ _ HC ?_) | ((with_reducible refine at_load' 25 ?_); (refine load_ins rfl _ rfl _ _ rfl (x) (range_row HX.x) ?_)))
          refine (to_any x 6 0 _).mono ?_
          rintro _ u ⟨rfl, bu⟩
          have HU := HX.call bu
          clear bu
          go_wp2_with ((with_reducible refine at_store 25 ?_); (refine store_whole rfl 25 _ _ rfl (w.heap.size + 1 + 1) (toX x 6 0).cells _ _ rfl rfl HU.z (sizeInst.trans rfl) rfl (toX x 6 0).one ?_))
          refine bodyPost_ret (v := Ans.val ⟨toX x 6 0, 2, 0⟩) (results_row_tmp2 (fn := Try.f8) (p := 10) (u := 11) (v := 12) rfl _ _ (w.heap.size + 1 + 1) _ (toX x 6 0).cells _ rfl (row_at HU.z) Try.underlying25 rfl (sizeInst.trans rfl)) rfl ?_
          exact ⟨by rw [HV.out], below_row _ HU.b (by have := HU.lt; omega)⟩
        · have s1 : (x.st == 1) = false := by simp [q2]
          have z1 : (x.st != 1) = true := by simp [q2]
          by_cases q3 : x.st = 2
          · have s2 : (x.st == 2) = true := by simp [q3]
            have z2 : (x.st != 2) = false := by simp [q3]
            have HV : Hid (refA x what now at_ c = ⟨toX x 6 0, 2, 0⟩) := Lib.hid (by unfold refA; rw [if_neg (by rw [HM.out]; simp), if_neg (by omega), if_neg (by omega), if_neg (by omega), if_neg (by omega), if_neg (by omega), if_neg (by omega), if_neg (by omega), if_neg (by omega), if_neg (by omega), if_neg (by omega), if_pos (by omega)])
            clear qw y0 y1 HM q0 q1 q2 q3
            have MM := Lib.hid (fun W => refMay_is x true ok W)
            clear ok
            go_enter Try.func8, Try.ntmps8
            go_wp2_with ((with_reducible refine at_load' 25 ?_); (refine load_ins rfl _ rfl _ _ rfl x (range_row H0.x) ?_))
            refine (MM.out _).mono ?_
            rintro _ v ⟨rfl, bv⟩
            have HX := H0.call bv
            have HC := kept_box bv HC0
            have c10 := cell_row HC c.f10
            have c11 := cell_row HC c.f11
            have c12 := cell_row HC c.f12
            have c14 := cell_row HC c.f14
            have d5 := cell_row HX.x x.f5
            have d9 := cell_row HX.x x.f9
            have fr := free_row HX.x
            clear H0 HC0 MM bv
            go_wp2_with (first | (refine load_cfg rfl _ rfl _ rfl c _ _ HC ?_) | ((with_reducible refine at_load' 25 ?_); (refine load_ins rfl _ rfl _ _ rfl (x) (range_row HX.x) ?_)))
            refine (to_any x 6 0 _).mono ?_
            rintro _ u ⟨rfl, bu⟩
            have HU := HX.call bu
            clear bu
            go_wp2_with ((with_reducible refine at_store 25 ?_); (refine store_whole rfl 25 _ _ rfl (w.heap.size + 1 + 1) (toX x 6 0).cells _ _ rfl rfl HU.z (sizeInst.trans rfl) rfl (toX x 6 0).one ?_))
            refine bodyPost_ret (v := Ans.val ⟨toX x 6 0, 2, 0⟩) (results_row_tmp2 (fn := Try.f8) (p := 10) (u := 11) (v := 12) rfl _ _ (w.heap.size + 1 + 1) _ (toX x 6 0).cells _ rfl (row_at HU.z) Try.underlying25 rfl (sizeInst.trans rfl)) rfl ?_
            exact ⟨by rw [HV.out], below_row _ HU.b (by have := HU.lt; omega)⟩
          · have s2 : (x.st == 2) = false := by simp [q3]
            have z2 : (x.st != 2) = true := by simp [q3]
            by_cases q4 : x.st = 9
            · have s9 : (x.st == 9) = true := by simp [q4]
              have z9 : (x.st != 9) = false := by simp [q4]
              have HV : Hid (refA x what now at_ c = ⟨toX x 6 0, 2, 0⟩) := Lib.hid (by unfold refA; rw [if_neg (by rw [HM.out]; simp), if_neg (by omega), if_neg (by omega), if_neg (by omega), if_neg (by omega), if_neg (by omega), if_neg (by omega), if_neg (by omega), if_neg (by omega), if_neg (by omega), if_neg (by omega), if_pos (by omega)])
              clear qw y0 y1 HM q0 q1 q2 q3 q4
              have MM := Lib.hid (fun W => refMay_is x true ok W)
              clear ok
              go_enter Try.func8, Try.ntmps8
              go_wp2_with ((with_reducible refine at_load' 25 ?_); (refine load_ins rfl _ rfl _ _ rfl x (range_row H0.x) ?_))
              refine (MM.out _).mono ?_
              rintro _ v ⟨rfl, bv⟩
              have HX := H0.call bv
              have HC := kept_box bv HC0
              have c10 := cell_row HC c.f10
              have c11 := cell_row HC c.f11
              have c12 := cell_row HC c.f12
              have c14 := cell_row HC c.f14
              have d5 := cell_row HX.x x.f5
              have d9 := cell_row HX.x x.f9
              have fr := free_row HX.x
              clear H0 HC0 MM bv
              go_wp2_with (first | (refine load_cfg rfl _ rfl _ rfl c _ _ HC ?_) | ((with_reducible refine at_load' 25 ?_); (refine load_ins rfl _ rfl _ _ rfl (x) (range_row HX.x) ?_)))
              refine (to_any x 6 0 _).mono ?_
              rintro _ u ⟨rfl, bu⟩
              have HU := HX.call bu
              clear bu
              go_wp2_with ((with_reducible refine at_store 25 ?_); (refine store_whole rfl 25 _ _ rfl (w.heap.size + 1 + 1) (toX x 6 0).cells _ _ rfl rfl HU.z (sizeInst.trans rfl) rfl (toX x 6 0).one ?_))
              refine bodyPost_ret (v := Ans.val ⟨toX x 6 0, 2, 0⟩) (results_row_tmp2 (fn := Try.f8) (p := 10) (u := 11) (v := 12) rfl _ _ (w.heap.size + 1 + 1) _ (toX x 6 0).cells _ rfl (row_at HU.z) Try.underlying25 rfl (sizeInst.trans rfl)) rfl ?_
              exact ⟨by rw [HV.out], below_row _ HU.b (by have := HU.lt; omega)⟩
            · have s9 : (x.st == 9) = false := by simp [q4]
              have z9 : (x.st != 9) = true := by simp [q4]
              have HV : Hid (refA x what now at_ c = ⟨x, 0, 12⟩) := Lib.hid (by unfold refA; rw [if_neg (by rw [HM.out]; simp), if_neg (by omega), if_neg (by omega), if_neg (by omega), if_neg (by omega), if_neg (by omega), if_neg (by omega), if_neg (by omega), if_neg (by omega), if_neg (by omega), if_neg (by omega), if_neg (by omega)])
              clear qw y0 y1 HM q0 q1 q2 q3 q4
              have MM := Lib.hid (fun W => refMay_is x true ok W)
              clear ok
              go_enter Try.func8, Try.ntmps8
              go_wp2_with ((with_reducible refine at_load' 25 ?_); (refine load_ins rfl _ rfl _ _ rfl x (range_row H0.x) ?_))
              refine (MM.out _).mono ?_
              rintro _ v ⟨rfl, bv⟩
              have HX := H0.call bv
              have HC := kept_box bv HC0
              have c10 := cell_row HC c.f10
              have c11 := cell_row HC c.f11
              have c12 := cell_row HC c.f12
              have c14 := cell_row HC c.f14
              have d5 := cell_row HX.x x.f5
              have d9 := cell_row HX.x x.f9
              have fr := free_row HX.x
              clear H0 HC0 MM bv
              go_wp2_with (first | (refine load_cfg rfl _ rfl _ rfl c _ _ HC ?_) | ((with_reducible refine at_load' 25 ?_); (refine load_ins rfl _ rfl _ _ rfl (x) (range_row HX.x) ?_)) | ((with_reducible refine at_store 25 ?_); (refine store_whole rfl 25 _ _ rfl (w.heap.size + 1 + 1) (x).cells _ _ rfl rfl HX.z (sizeInst.trans rfl) rfl (x).one ?_)))
              refine bodyPost_ret (v := Ans.val ⟨x, 0, 12⟩) (results_row_tmp2 (fn := Try.f8) (p := 10) (u := 11) (v := 12) rfl _ _ (w.heap.size + 1 + 1) _ (x).cells _ rfl (row_at HX.z) Try.underlying25 rfl (sizeInst.trans rfl)) rfl ?_
              exact ⟨by rw [HV.out], below_row _ HX.b (by have := HX.lt; omega)⟩
end Go.Proofs.Ytmbafedpbmldmaa.Does
