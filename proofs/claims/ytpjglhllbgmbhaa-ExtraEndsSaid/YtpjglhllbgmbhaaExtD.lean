
/- Contracts of layer 25: Of, Ceiling, Stops of the program. -/
import Derived.Test.YtpjglhllbgmbhaaExtC
import Derived.Laws.Cover1
namespace Go.Proofs.Ytpjglhllbgmbhaa.Extra
open Go.ChangeShapes Go.WideShapes Go.ChangeAt Go.RowKit
open NumM
open NumA hiding ret_bool
open Mem Arr Lst Rec Inst Grown Sums St
def mx (a b : Int) : Int := if a < b then b else a
def mn (a b : Int) : Int := if b < a then b else a
def ofV (s : State) (L : Nat → Ins) : Int :=
  if mayS s L = true then mx (mn s.c.surge (sumI (risksB s) L s.iN)) (mn (sumI (oldB s) L s.iN) (mx (aboveV s) (topI (oldB s) L s.iN))) else 0
def ceilV (s : State) (L : Nat → Ins) : Int := if mayS s L = true then s.desired + mx (mx s.c.surge 100) (aboveV s) else 0
def newB (s : State) (x : Ins) : Bool := !oldB s x
def stopsB (s : State) (L : Nat → Ins) : Bool := mayS s L && decide (1 ≤ s.stop ∧ s.stop ≤ 99) && decide (s.stop * s.desired ≤ sumI (newB s) L s.iN * 100)

set_option maxHeartbeats 1000000 in
theorem of1_any (s : State) (x : Ins) (g : Nat) (w : World) (hg : w.rangeAt g 0 s.cells.toList) : Calls Try.prog 27 #[x.val, .pointer (some ⟨g, 0, none⟩)] w fun e w' => e = .returned (.bool (risksB s x)) ∧ Below w.heap.size w w' := by
  have R1 : (w.alloc (.cells x.cells 38)).rangeAt g 0 s.cells.toList := World.rangeAt_alloc hg _
  have R2 : (w.alloc (.cells x.cells 38)).rangeAt w.heap.size 0 x.cells.toList := range_new w x.cells 38
  have C := Lib.hid (risks_any s x)
  clear hg
  go_enter Try.func27, Try.ntmps27
  go_wp2_with ((with_reducible refine at_op ?_); (first | (refine load_st rfl _ rfl _ _ rfl s R1 ?_) | (refine load_in rfl _ rfl _ _ rfl x R2 ?_)))
  refine (C.out _).mono ?_
  rintro _ w1 ⟨rfl, b1⟩
  go_wp2
  go_ret
  exact ⟨rfl, bTrans (bAlloc (Below.refl _ _) _) b1⟩
set_option maxHeartbeats 1000000 in
theorem of2_any (s : State) (x : Ins) (g : Nat) (w : World) (hg : w.rangeAt g 0 s.cells.toList) : Calls Try.prog 28 #[x.val, .pointer (some ⟨g, 0, none⟩)] w fun e w' => e = .returned (.bool (oldB s x)) ∧ Below w.heap.size w w' := by
  have R1 : (w.alloc (.cells x.cells 38)).rangeAt g 0 s.cells.toList := World.rangeAt_alloc hg _
  have R2 : (w.alloc (.cells x.cells 38)).rangeAt w.heap.size 0 x.cells.toList := range_new w x.cells 38
  have C := Lib.hid (old_any s x)
  clear hg
  go_enter Try.func28, Try.ntmps28
  go_wp2_with ((with_reducible refine at_op ?_); (first | (refine load_st rfl _ rfl _ _ rfl s R1 ?_) | (refine load_in rfl _ rfl _ _ rfl x R2 ?_)))
  refine (C.out _).mono ?_
  rintro _ w1 ⟨rfl, b1⟩
  go_wp2
  go_ret
  exact ⟨rfl, bTrans (bAlloc (Below.refl _ _) _) b1⟩
set_option maxHeartbeats 1000000 in
theorem new1_any (s : State) (x : Ins) (g : Nat) (w : World) (hg : w.rangeAt g 0 s.cells.toList) : Calls Try.prog 34 #[x.val, .pointer (some ⟨g, 0, none⟩)] w fun e w' => e = .returned (.bool (newB s x)) ∧ Below w.heap.size w w' := by
  have R1 : (w.alloc (.cells x.cells 38)).rangeAt g 0 s.cells.toList := World.rangeAt_alloc hg _
  have R2 : (w.alloc (.cells x.cells 38)).rangeAt w.heap.size 0 x.cells.toList := range_new w x.cells 38
  have C := Lib.hid (old_any s x)
  clear hg
  go_enter Try.func34, Try.ntmps34
  go_wp2_with ((with_reducible refine at_op ?_); (first | (refine load_st rfl _ rfl _ _ rfl s R1 ?_) | (refine load_in rfl _ rfl _ _ rfl x R2 ?_)))
  refine (C.out _).mono ?_
  rintro _ w1 ⟨rfl, b1⟩
  go_wp2
  go_ret
  exact ⟨rfl, bTrans (bAlloc (Below.refl _ _) _) b1⟩
section
attribute [local go_sem ↓] exec_st Go.wp_at_zero Go.wp_at_succ
set_option maxHeartbeats 2000000 in
theorem of_any (s : State) (L : Nat → Ins) (w : World) (h : Insts w w.heap.size s.iA s.iN L) (hn : s.iN ≤ 9223372036854775807) :
    Calls Try.prog 14 #[s.val] w fun e w' => e = .returned (.int .i64 (ofV s L)) ∧ Below w.heap.size w w' := by
  have B1 := box_new w s.cells 36
  have R1 : (w.alloc (.cells s.cells 36)).rangeAt w.heap.size 0 s.cells.toList := B1 ⟨_, Below.refl _ _⟩
  have f8 := s.f8
  have g8 := box_cell B1 s.f8
  rcases hm : mayS s L with _ | _
  · have HV : Hid (ofV s L = 0) := Lib.hid (by unfold ofV; rw [hm]; rfl)
    have M := Lib.hid (fun p : Grown (w.alloc (.cells s.cells 36)) => mayS_is s L false (Lib.hid hm) p.w1 (insts_box h p) hn)
    clear hm h
    go_enter Try.func14, Try.ntmps14
    go_wp2_with ((with_reducible refine at_op ?_); (first | (refine load_st rfl _ rfl _ _ rfl s R1 ?_) | (refine load_st rfl _ rfl _ _ rfl s (B1 _) ?_)))
    refine (call_grown (p := (⟨(w.alloc (.cells s.cells 36)), Below.refl _ _⟩ : Grown (w.alloc (.cells s.cells 36)))) (M.out (⟨(w.alloc (.cells s.cells 36)), Below.refl _ _⟩ : Grown (w.alloc (.cells s.cells 36))))).mono ?_
    rintro _ _ ⟨rfl, p, rfl⟩
    go_wp2
    go_ret
    exact ⟨ret_int HV.out.symm, bTrans (bAlloc (Below.refl _ _) _) p.below⟩
  · have HV : Hid (ofV s L = mx (mn s.c.surge (sumI (risksB s) L s.iN)) (mn (sumI (oldB s) L s.iN) (mx (aboveV s) (topI (oldB s) L s.iN)))) := Lib.hid (by unfold ofV; rw [hm]; rfl)
    have M := Lib.hid (fun p : Grown (w.alloc (.cells s.cells 36)) => mayS_is s L true (Lib.hid hm) p.w1 (insts_box h p) hn)
    have C1 := Lib.hid (fun p : Grown (w.alloc (.cells s.cells 36)) => weigh_risk s L w.heap.size (risksB s) p.w1 (insts_box h p) (mayS_yes hm).2 (fun x w1 hb => of1_any s x w.heap.size w1 (B1 ⟨w1, bTrans p.below hb⟩)))
    have C2 := Lib.hid (fun p : Grown (w.alloc (.cells s.cells 36)) => weigh_old s L w.heap.size (oldB s) p.w1 (insts_box h p) (mayS_yes hm).2 (fun x w1 hb => of2_any s x w.heap.size w1 (B1 ⟨w1, bTrans p.below hb⟩)))
    have C3 := Lib.hid (above_any s (mayS_yes hm).1)
    clear hm h
    go_enter Try.func14, Try.ntmps14
    go_wp2_with ((with_reducible refine at_op ?_); (first | (refine load_st rfl _ rfl _ _ rfl s R1 ?_) | (refine load_st rfl _ rfl _ _ rfl s (B1 _) ?_)))
    refine (call_grown (p := (⟨(w.alloc (.cells s.cells 36)), Below.refl _ _⟩ : Grown (w.alloc (.cells s.cells 36)))) (M.out (⟨(w.alloc (.cells s.cells 36)), Below.refl _ _⟩ : Grown (w.alloc (.cells s.cells 36))))).mono ?_
    rintro _ _ ⟨rfl, p, rfl⟩
    go_wp2_with ((with_reducible refine at_op ?_); (first | (refine load_st rfl _ rfl _ _ rfl s R1 ?_) | (refine load_st rfl _ rfl _ _ rfl s (B1 _) ?_)))
    refine (call_grown (p := p) (C1.out p)).mono ?_
    rintro _ _ ⟨rfl, p, rfl⟩
    go_wp2_with ((with_reducible refine at_op ?_); (first | (refine load_st rfl _ rfl _ _ rfl s R1 ?_) | (refine load_st rfl _ rfl _ _ rfl s (B1 _) ?_)))
    refine (call_grown (p := p) (C2.out p)).mono ?_
    rintro _ _ ⟨rfl, p, rfl⟩
    go_wp2_with ((with_reducible refine at_op ?_); (first | (refine load_st rfl _ rfl _ _ rfl s R1 ?_) | (refine load_st rfl _ rfl _ _ rfl s (B1 _) ?_)))
    have I0 := fun p : Grown (w.alloc (.cells s.cells 36)) => run_st (B1 p)
    refine region_more (by kernel_rfl) (by kernel_rfl) ?_
    repeat ((with_reducible refine wpQuiet_step (fun K hK => ?_)); go_simp; (first | (refine hK _ ?_; clear hK K) | (apply Exists.intro; refine ⟨fun _ => ?_, hK _ ?_⟩; (first | (go_at_call 29; exact call_grown (C3.out _))); clear hK K)))
    (with_reducible refine wpQuiet_nil ?_)
    rintro _ ⟨p, rfl⟩
    go_wp2
    all_goals
      go_ret
      exact ⟨ret_int (by rw [HV.out]; unfold mx mn; omega), bTrans (bAlloc (Below.refl _ _) _) p.below⟩
set_option maxHeartbeats 2000000 in
theorem ceil_any (s : State) (L : Nat → Ins) (w : World) (h : Insts w w.heap.size s.iA s.iN L) (hn : s.iN ≤ 9223372036854775807) :
    Calls Try.prog 16 #[s.val] w fun e w' => e = .returned (.int .i64 (ceilV s L)) ∧ Below w.heap.size w w' := by
  have B1 := box_new w s.cells 36
  have R1 : (w.alloc (.cells s.cells 36)).rangeAt w.heap.size 0 s.cells.toList := B1 ⟨_, Below.refl _ _⟩
  have f8 := s.f8
  have g8 := box_cell B1 s.f8
  have f42 := s.f42
  have g42 := box_cell B1 s.f42
  rcases hm : mayS s L with _ | _
  · have HV : Hid (ceilV s L = 0) := Lib.hid (by unfold ceilV; rw [hm]; rfl)
    have M := Lib.hid (fun p : Grown (w.alloc (.cells s.cells 36)) => mayS_is s L false (Lib.hid hm) p.w1 (insts_box h p) hn)
    clear hm h
    go_enter Try.func16, Try.ntmps16
    go_wp2_with ((with_reducible refine at_op ?_); (first | (refine load_st rfl _ rfl _ _ rfl s R1 ?_) | (refine load_st rfl _ rfl _ _ rfl s (B1 _) ?_)))
    refine (call_grown (p := (⟨(w.alloc (.cells s.cells 36)), Below.refl _ _⟩ : Grown (w.alloc (.cells s.cells 36)))) (M.out (⟨(w.alloc (.cells s.cells 36)), Below.refl _ _⟩ : Grown (w.alloc (.cells s.cells 36))))).mono ?_
    rintro _ _ ⟨rfl, p, rfl⟩
    go_wp2
    go_ret
    exact ⟨ret_int HV.out.symm, bTrans (bAlloc (Below.refl _ _) _) p.below⟩
  · have HV : Hid (ceilV s L = s.desired + mx (mx s.c.surge 100) (aboveV s)) := Lib.hid (by unfold ceilV; rw [hm]; rfl)
    have M := Lib.hid (fun p : Grown (w.alloc (.cells s.cells 36)) => mayS_is s L true (Lib.hid hm) p.w1 (insts_box h p) hn)
    have C3 := Lib.hid (above_any s (mayS_yes hm).1)
    have I0 := fun p : Grown (w.alloc (.cells s.cells 36)) => run_st (B1 p)
    have y := num_yes (mayS_yes hm).1
    have z := above_bd (mayS_yes hm).1
    have W1 : IntKind.i64.wrap (s.desired + s.c.surge) = s.desired + s.c.surge := IntWalk.i64_in _ (by omega)
    have W2 : IntKind.i64.wrap (s.desired + 100) = s.desired + 100 := IntWalk.i64_in _ (by omega)
    have W3 : IntKind.i64.wrap (s.desired + aboveV s) = s.desired + aboveV s := IntWalk.i64_in _ (by omega)
    clear hm h y z
    by_cases h1 : s.c.surge < 100
    · have d1 := decide_eq_true h1
      by_cases h2 : 100 < aboveV s
      · have d2 := decide_eq_true h2
        go_enter Try.func16, Try.ntmps16
        go_wp2_with ((with_reducible refine at_op ?_); (first | (refine load_st rfl _ rfl _ _ rfl s R1 ?_) | (refine load_st rfl _ rfl _ _ rfl s (B1 _) ?_)))
        refine (call_grown (p := (⟨(w.alloc (.cells s.cells 36)), Below.refl _ _⟩ : Grown (w.alloc (.cells s.cells 36)))) (M.out (⟨(w.alloc (.cells s.cells 36)), Below.refl _ _⟩ : Grown (w.alloc (.cells s.cells 36))))).mono ?_
        rintro _ _ ⟨rfl, p, rfl⟩
        go_wp2_with ((with_reducible refine at_op ?_); (first | (refine load_st rfl _ rfl _ _ rfl s R1 ?_) | (refine load_st rfl _ rfl _ _ rfl s (B1 _) ?_)))
        refine region_more (by kernel_rfl) (by kernel_rfl) ?_
        repeat ((with_reducible refine wpQuiet_step (fun K hK => ?_)); go_simp; (first | (refine hK _ ?_; clear hK K) | (apply Exists.intro; refine ⟨fun _ => ?_, hK _ ?_⟩; (first | (go_at_call 29; exact call_grown (C3.out _))); clear hK K)))
        (with_reducible refine wpQuiet_nil ?_)
        rintro _ ⟨p, rfl⟩
        go_wp2
        go_ret
        exact ⟨ret_int (by rw [HV.out]; unfold mx; omega), bTrans (bAlloc (Below.refl _ _) _) p.below⟩
      · have d2 := decide_eq_false h2
        go_enter Try.func16, Try.ntmps16
        go_wp2_with ((with_reducible refine at_op ?_); (first | (refine load_st rfl _ rfl _ _ rfl s R1 ?_) | (refine load_st rfl _ rfl _ _ rfl s (B1 _) ?_)))
        refine (call_grown (p := (⟨(w.alloc (.cells s.cells 36)), Below.refl _ _⟩ : Grown (w.alloc (.cells s.cells 36)))) (M.out (⟨(w.alloc (.cells s.cells 36)), Below.refl _ _⟩ : Grown (w.alloc (.cells s.cells 36))))).mono ?_
        rintro _ _ ⟨rfl, p, rfl⟩
        go_wp2_with ((with_reducible refine at_op ?_); (first | (refine load_st rfl _ rfl _ _ rfl s R1 ?_) | (refine load_st rfl _ rfl _ _ rfl s (B1 _) ?_)))
        refine region_more (by kernel_rfl) (by kernel_rfl) ?_
        repeat ((with_reducible refine wpQuiet_step (fun K hK => ?_)); go_simp; (first | (refine hK _ ?_; clear hK K) | (apply Exists.intro; refine ⟨fun _ => ?_, hK _ ?_⟩; (first | (go_at_call 29; exact call_grown (C3.out _))); clear hK K)))
        (with_reducible refine wpQuiet_nil ?_)
        rintro _ ⟨p, rfl⟩
        go_wp2
        go_ret
        exact ⟨ret_int (by rw [HV.out]; unfold mx; omega), bTrans (bAlloc (Below.refl _ _) _) p.below⟩
    · have d1 := decide_eq_false h1
      by_cases h2 : s.c.surge < aboveV s
      · have d2 := decide_eq_true h2
        go_enter Try.func16, Try.ntmps16
        go_wp2_with ((with_reducible refine at_op ?_); (first | (refine load_st rfl _ rfl _ _ rfl s R1 ?_) | (refine load_st rfl _ rfl _ _ rfl s (B1 _) ?_)))
        refine (call_grown (p := (⟨(w.alloc (.cells s.cells 36)), Below.refl _ _⟩ : Grown (w.alloc (.cells s.cells 36)))) (M.out (⟨(w.alloc (.cells s.cells 36)), Below.refl _ _⟩ : Grown (w.alloc (.cells s.cells 36))))).mono ?_
        rintro _ _ ⟨rfl, p, rfl⟩
        go_wp2_with ((with_reducible refine at_op ?_); (first | (refine load_st rfl _ rfl _ _ rfl s R1 ?_) | (refine load_st rfl _ rfl _ _ rfl s (B1 _) ?_)))
        refine region_more (by kernel_rfl) (by kernel_rfl) ?_
        repeat ((with_reducible refine wpQuiet_step (fun K hK => ?_)); go_simp; (first | (refine hK _ ?_; clear hK K) | (apply Exists.intro; refine ⟨fun _ => ?_, hK _ ?_⟩; (first | (go_at_call 29; exact call_grown (C3.out _))); clear hK K)))
        (with_reducible refine wpQuiet_nil ?_)
        rintro _ ⟨p, rfl⟩
        go_wp2
        go_ret
        exact ⟨ret_int (by rw [HV.out]; unfold mx; omega), bTrans (bAlloc (Below.refl _ _) _) p.below⟩
      · have d2 := decide_eq_false h2
        go_enter Try.func16, Try.ntmps16
        go_wp2_with ((with_reducible refine at_op ?_); (first | (refine load_st rfl _ rfl _ _ rfl s R1 ?_) | (refine load_st rfl _ rfl _ _ rfl s (B1 _) ?_)))
        refine (call_grown (p := (⟨(w.alloc (.cells s.cells 36)), Below.refl _ _⟩ : Grown (w.alloc (.cells s.cells 36)))) (M.out (⟨(w.alloc (.cells s.cells 36)), Below.refl _ _⟩ : Grown (w.alloc (.cells s.cells 36))))).mono ?_
        rintro _ _ ⟨rfl, p, rfl⟩
        go_wp2_with ((with_reducible refine at_op ?_); (first | (refine load_st rfl _ rfl _ _ rfl s R1 ?_) | (refine load_st rfl _ rfl _ _ rfl s (B1 _) ?_)))
        refine region_more (by kernel_rfl) (by kernel_rfl) ?_
        repeat ((with_reducible refine wpQuiet_step (fun K hK => ?_)); go_simp; (first | (refine hK _ ?_; clear hK K) | (apply Exists.intro; refine ⟨fun _ => ?_, hK _ ?_⟩; (first | (go_at_call 29; exact call_grown (C3.out _))); clear hK K)))
        (with_reducible refine wpQuiet_nil ?_)
        rintro _ ⟨p, rfl⟩
        go_wp2
        go_ret
        exact ⟨ret_int (by rw [HV.out]; unfold mx; omega), bTrans (bAlloc (Below.refl _ _) _) p.below⟩
set_option maxHeartbeats 2000000 in
theorem stops_any (s : State) (L : Nat → Ins) (w : World) (h : Insts w w.heap.size s.iA s.iN L) (hn : s.iN ≤ 9223372036854775807) :
    Calls Try.prog 18 #[s.val] w fun e w' => e = .returned (.bool (stopsB s L)) ∧ Below w.heap.size w w' := by
  have B1 := box_new w s.cells 36
  have R1 : (w.alloc (.cells s.cells 36)).rangeAt w.heap.size 0 s.cells.toList := B1 ⟨_, Below.refl _ _⟩
  have f42 := s.f42
  have g42 := box_cell B1 s.f42
  have f51 := s.f51
  have g51 := box_cell B1 s.f51
  rcases hm : mayS s L with _ | _
  · have HV : Hid (stopsB s L = false) := Lib.hid (by unfold stopsB; rw [hm]; rfl)
    have M := Lib.hid (fun p : Grown (w.alloc (.cells s.cells 36)) => mayS_is s L false (Lib.hid hm) p.w1 (insts_box h p) hn)
    clear hm h
    go_enter Try.func18, Try.ntmps18
    go_wp2_with ((with_reducible refine at_op ?_); (first | (refine load_st rfl _ rfl _ _ rfl s R1 ?_) | (refine load_st rfl _ rfl _ _ rfl s (B1 _) ?_)))
    refine (call_grown (p := (⟨(w.alloc (.cells s.cells 36)), Below.refl _ _⟩ : Grown (w.alloc (.cells s.cells 36)))) (M.out (⟨(w.alloc (.cells s.cells 36)), Below.refl _ _⟩ : Grown (w.alloc (.cells s.cells 36))))).mono ?_
    rintro _ _ ⟨rfl, p, rfl⟩
    go_wp2
    go_ret
    exact ⟨ret_bool HV.out.symm, bTrans (bAlloc (Below.refl _ _) _) p.below⟩
  · have M := Lib.hid (fun p : Grown (w.alloc (.cells s.cells 36)) => mayS_is s L true (Lib.hid hm) p.w1 (insts_box h p) hn)
    rcases h1 : withB s.stop 1 99 with _ | _
    · have HV : Hid (stopsB s L = false) := Lib.hid (by unfold stopsB; rw [show decide (1 ≤ s.stop ∧ s.stop ≤ 99) = false from h1]; simp)
      have C1 := Lib.hid (within_is _ _ _ false (Lib.hid h1))
      clear hm h h1
      go_enter Try.func18, Try.ntmps18
      go_wp2_with ((with_reducible refine at_op ?_); (first | (refine load_st rfl _ rfl _ _ rfl s R1 ?_) | (refine load_st rfl _ rfl _ _ rfl s (B1 _) ?_)))
      refine (call_grown (p := (⟨(w.alloc (.cells s.cells 36)), Below.refl _ _⟩ : Grown (w.alloc (.cells s.cells 36)))) (M.out (⟨(w.alloc (.cells s.cells 36)), Below.refl _ _⟩ : Grown (w.alloc (.cells s.cells 36))))).mono ?_
      rintro _ _ ⟨rfl, p, rfl⟩
      go_wp2_with ((with_reducible refine at_op ?_); (first | (refine load_st rfl _ rfl _ _ rfl s R1 ?_) | (refine load_st rfl _ rfl _ _ rfl s (B1 _) ?_)))
      refine (call_grown (p := p) (C1.out _)).mono ?_
      rintro _ _ ⟨rfl, p, rfl⟩
      go_wp2
      go_ret
      exact ⟨ret_bool HV.out.symm, bTrans (bAlloc (Below.refl _ _) _) p.below⟩
    · have C1 := Lib.hid (within_is _ _ _ true (Lib.hid h1))
      have C2 := Lib.hid (fun p : Grown (w.alloc (.cells s.cells 36)) => weigh_new s L w.heap.size (newB s) p.w1 (insts_box h p) (mayS_yes hm).2 (fun x w1 hb => new1_any s x w.heap.size w1 (B1 ⟨w1, bTrans p.below hb⟩)))
      have y := num_yes (mayS_yes hm).1
      have y1 := of_decide_eq_true h1
      have z := sum_bd (p := newB s) (mayS_yes hm).2 s.iN (Nat.le_refl _)
      have z1 := may_len (mayS_yes hm).2
      have z2 : 0 ≤ s.stop * s.desired := Int.mul_nonneg (by omega) (by omega)
      have z3 : s.stop * s.desired ≤ 99 * 65536 := Int.mul_le_mul (by omega) (by omega) (by omega) (by omega)
      have W1 : IntKind.i64.wrap (sumI (newB s) L s.iN * 100) = sumI (newB s) L s.iN * 100 := IntWalk.i64_in _ (by omega)
      have W2 : IntKind.i64.wrap (s.stop * s.desired) = s.stop * s.desired := IntWalk.i64_in _ (by omega)
      clear y y1 z z1 z2 z3
      have HV : Hid (stopsB s L = decide (s.stop * s.desired ≤ sumI (newB s) L s.iN * 100)) := Lib.hid (by unfold stopsB; rw [hm, show decide (1 ≤ s.stop ∧ s.stop ≤ 99) = true from h1]; simp)
      clear hm h h1
      go_enter Try.func18, Try.ntmps18
      go_wp2_with ((with_reducible refine at_op ?_); (first | (refine load_st rfl _ rfl _ _ rfl s R1 ?_) | (refine load_st rfl _ rfl _ _ rfl s (B1 _) ?_)))
      refine (call_grown (p := (⟨(w.alloc (.cells s.cells 36)), Below.refl _ _⟩ : Grown (w.alloc (.cells s.cells 36)))) (M.out (⟨(w.alloc (.cells s.cells 36)), Below.refl _ _⟩ : Grown (w.alloc (.cells s.cells 36))))).mono ?_
      rintro _ _ ⟨rfl, p, rfl⟩
      go_wp2_with ((with_reducible refine at_op ?_); (first | (refine load_st rfl _ rfl _ _ rfl s R1 ?_) | (refine load_st rfl _ rfl _ _ rfl s (B1 _) ?_)))
      refine (call_grown (p := p) (C1.out _)).mono ?_
      rintro _ _ ⟨rfl, p, rfl⟩
      go_wp2_with ((with_reducible refine at_op ?_); (first | (refine load_st rfl _ rfl _ _ rfl s R1 ?_) | (refine load_st rfl _ rfl _ _ rfl s (B1 _) ?_)))
      refine (call_grown (p := p) (C2.out p)).mono ?_
      rintro _ _ ⟨rfl, p, rfl⟩
      go_wp2
      go_ret
      exact ⟨ret_bool (by first | exact HV.out.symm | (rw [HV.out]; simp)), bTrans (bAlloc (Below.refl _ _) _) p.below⟩
end
end Go.Proofs.Ytpjglhllbgmbhaa.Extra
