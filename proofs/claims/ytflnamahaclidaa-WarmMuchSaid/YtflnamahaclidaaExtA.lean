
/- Contracts of layer 25: whether a refresh goes on, whether an instance is old, at risk, gives way. -/
import Derived.Test.YtflnamahaclidaaSt
namespace Go.Proofs.Ytflnamahaclidaa.Extra
open Go.ChangeShapes Go.WideShapes Go.ChangeAt Go.RowKit
open Mem Arr Lst Rec Inst Grown Sums St
def goesB (s : State) : Bool := s.on && !s.stopped
def oldB (s : State) (x : Ins) : Bool := goesB s && decide (x.ver ≠ s.ver)
def risksB (s : State) (x : Ins) : Bool := x.risk && s.c.replace
def givesB (s : State) (x : Ins) : Bool := oldB s x || risksB s x
def greatB (s : State) : Bool := decide (300 < s.iN ∨ 300 < s.oN)

set_option maxHeartbeats 1000000 in
theorem goes_any (s : State) (w : World) : Calls Try.prog 31 #[s.val] w fun e w' => e = .returned (.bool (goesB s)) ∧ Below w.heap.size w w' := by
  have f48 := s.f48
  have f52 := s.f52
  rcases h1 : s.on with _ | _ <;> rcases h2 : s.stopped with _ | _ <;> rw [h1] at f48 <;> rw [h2] at f52 <;>
  · have HV : Hid (goesB s = _) := Lib.hid (by unfold goesB; rw [h1, h2])
    clear h1 h2
    go_enter Try.func31, Try.ntmps31
    go_wp2
    go_ret
    exact ⟨ret_bool (by rw [HV.out]; rfl), bAlloc (Below.refl _ _) _⟩
theorem goes_is (s : State) (v : Bool) (hv : Hid (goesB s = v)) (w : World) : Calls Try.prog 31 #[s.val] w fun e w' => e = .returned (.bool v) ∧ Below w.heap.size w w' := by
  have := goes_any s w; rw [hv.out] at this; exact this
set_option maxHeartbeats 1000000 in
theorem refGoes_any (s : State) (w : World) : Calls Try.prog 29 #[s.val] w fun e w' => e = .returned (.bool (goesB s)) ∧ Below w.heap.size w w' := by
  have f48 := s.f48
  have f52 := s.f52
  rcases h1 : s.on with _ | _ <;> rcases h2 : s.stopped with _ | _ <;> rw [h1] at f48 <;> rw [h2] at f52 <;>
  · have HV : Hid (goesB s = _) := Lib.hid (by unfold goesB; rw [h1, h2])
    clear h1 h2
    go_enter Try.func29, Try.ntmps29
    go_wp2
    go_ret
    exact ⟨ret_bool (by rw [HV.out]; rfl), bAlloc (Below.refl _ _) _⟩
theorem refGoes_is (s : State) (v : Bool) (hv : Hid (goesB s = v)) (w : World) : Calls Try.prog 29 #[s.val] w fun e w' => e = .returned (.bool v) ∧ Below w.heap.size w w' := by
  have := refGoes_any s w; rw [hv.out] at this; exact this
set_option maxHeartbeats 1000000 in
theorem old_any (s : State) (x : Ins) (w : World) : Calls Try.prog 21 #[s.val, x.val] w fun e w' => e = .returned (.bool (oldB s x)) ∧ Below w.heap.size w w' := by
  have B1 : ∀ p : Grown (w.alloc (.cells s.cells 36) |>.alloc (.cells x.cells 44)), p.w1.rangeAt w.heap.size 0 s.cells.toList := fun p => range_in (by simp; omega) (World.rangeAt_alloc (range_new w s.cells 36) _) p
  have B2 : ∀ p : Grown (w.alloc (.cells s.cells 36) |>.alloc (.cells x.cells 44)), p.w1.rangeAt (w.heap.size + 1) 0 x.cells.toList := fun p => by have := box_new (w.alloc (.cells s.cells 36)) x.cells 44 p; simpa using this
  have R1 : (w.alloc (.cells s.cells 36) |>.alloc (.cells x.cells 44)).rangeAt w.heap.size 0 s.cells.toList := B1 ⟨_, Below.refl _ _⟩
  have R2 : (w.alloc (.cells s.cells 36) |>.alloc (.cells x.cells 44)).rangeAt (w.heap.size + 1) 0 x.cells.toList := B2 ⟨_, Below.refl _ _⟩
  have g40 := box_cell B1 s.f40
  have h11 := box_cell B2 x.f11
  rcases hg : goesB s with _ | _
  · have HV : Hid (oldB s x = false) := Lib.hid (by unfold oldB; rw [hg]; rfl)
    have G := Lib.hid (goes_is s false (Lib.hid hg))
    clear hg
    go_enter Try.func21, Try.ntmps21
    go_wp2_with ((with_reducible refine at_op ?_); (first | (refine load_st rfl _ rfl _ _ rfl s R1 ?_) | (refine load_st rfl _ rfl _ _ rfl s (B1 _) ?_) | (refine load_in rfl _ rfl _ _ rfl x R2 ?_) | (refine load_in rfl _ rfl _ _ rfl x (B2 _) ?_)))
    refine (call_grown (p := (⟨(w.alloc (.cells s.cells 36) |>.alloc (.cells x.cells 44)), Below.refl _ _⟩ : Grown (w.alloc (.cells s.cells 36) |>.alloc (.cells x.cells 44)))) (G.out _)).mono ?_
    rintro _ _ ⟨rfl, p, rfl⟩
    go_wp2
    go_ret
    exact ⟨ret_bool HV.out.symm, bTrans (bAlloc (bAlloc (Below.refl _ _) _) _) p.below⟩
  · have G := Lib.hid (goes_is s true (Lib.hid hg))
    by_cases hv : x.ver = s.ver
    · have HV : Hid (oldB s x = false) := Lib.hid (by unfold oldB; rw [hg]; simp [hv])
      rw [hv] at h11
      clear hg
      go_enter Try.func21, Try.ntmps21
      go_wp2_with ((with_reducible refine at_op ?_); (first | (refine load_st rfl _ rfl _ _ rfl s R1 ?_) | (refine load_st rfl _ rfl _ _ rfl s (B1 _) ?_) | (refine load_in rfl _ rfl _ _ rfl x R2 ?_) | (refine load_in rfl _ rfl _ _ rfl x (B2 _) ?_)))
      refine (call_grown (p := (⟨(w.alloc (.cells s.cells 36) |>.alloc (.cells x.cells 44)), Below.refl _ _⟩ : Grown (w.alloc (.cells s.cells 36) |>.alloc (.cells x.cells 44)))) (G.out _)).mono ?_
      rintro _ _ ⟨rfl, p, rfl⟩
      go_wp2
      go_ret
      exact ⟨ret_bool HV.out.symm, bTrans (bAlloc (bAlloc (Below.refl _ _) _) _) p.below⟩
    · have HV : Hid (oldB s x = true) := Lib.hid (by unfold oldB; rw [hg]; simp [hv])
      have hv2 := decide_eq_false hv
      clear hg
      go_enter Try.func21, Try.ntmps21
      go_wp2_with ((with_reducible refine at_op ?_); (first | (refine load_st rfl _ rfl _ _ rfl s R1 ?_) | (refine load_st rfl _ rfl _ _ rfl s (B1 _) ?_) | (refine load_in rfl _ rfl _ _ rfl x R2 ?_) | (refine load_in rfl _ rfl _ _ rfl x (B2 _) ?_)))
      refine (call_grown (p := (⟨(w.alloc (.cells s.cells 36) |>.alloc (.cells x.cells 44)), Below.refl _ _⟩ : Grown (w.alloc (.cells s.cells 36) |>.alloc (.cells x.cells 44)))) (G.out _)).mono ?_
      rintro _ _ ⟨rfl, p, rfl⟩
      go_wp2
      go_ret
      exact ⟨ret_bool (by rw [HV.out]; simp [hv]), bTrans (bAlloc (bAlloc (Below.refl _ _) _) _) p.below⟩
theorem old_is (s : State) (x : Ins) (v : Bool) (hv : Hid (oldB s x = v)) (w : World) : Calls Try.prog 21 #[s.val, x.val] w fun e w' => e = .returned (.bool v) ∧ Below w.heap.size w w' := by
  have := old_any s x w; rw [hv.out] at this; exact this
set_option maxHeartbeats 1000000 in
theorem refOld_any (s : State) (x : Ins) (w : World) : Calls Try.prog 14 #[s.val, x.val] w fun e w' => e = .returned (.bool (oldB s x)) ∧ Below w.heap.size w w' := by
  have B1 : ∀ p : Grown (w.alloc (.cells s.cells 36) |>.alloc (.cells x.cells 44)), p.w1.rangeAt w.heap.size 0 s.cells.toList := fun p => range_in (by simp; omega) (World.rangeAt_alloc (range_new w s.cells 36) _) p
  have B2 : ∀ p : Grown (w.alloc (.cells s.cells 36) |>.alloc (.cells x.cells 44)), p.w1.rangeAt (w.heap.size + 1) 0 x.cells.toList := fun p => by have := box_new (w.alloc (.cells s.cells 36)) x.cells 44 p; simpa using this
  have R1 : (w.alloc (.cells s.cells 36) |>.alloc (.cells x.cells 44)).rangeAt w.heap.size 0 s.cells.toList := B1 ⟨_, Below.refl _ _⟩
  have R2 : (w.alloc (.cells s.cells 36) |>.alloc (.cells x.cells 44)).rangeAt (w.heap.size + 1) 0 x.cells.toList := B2 ⟨_, Below.refl _ _⟩
  have g40 := box_cell B1 s.f40
  have h11 := box_cell B2 x.f11
  rcases hg : goesB s with _ | _
  · have HV : Hid (oldB s x = false) := Lib.hid (by unfold oldB; rw [hg]; rfl)
    have G := Lib.hid (refGoes_is s false (Lib.hid hg))
    clear hg
    go_enter Try.func14, Try.ntmps14
    go_wp2_with ((with_reducible refine at_op ?_); (first | (refine load_st rfl _ rfl _ _ rfl s R1 ?_) | (refine load_st rfl _ rfl _ _ rfl s (B1 _) ?_) | (refine load_in rfl _ rfl _ _ rfl x R2 ?_) | (refine load_in rfl _ rfl _ _ rfl x (B2 _) ?_)))
    refine (call_grown (p := (⟨(w.alloc (.cells s.cells 36) |>.alloc (.cells x.cells 44)), Below.refl _ _⟩ : Grown (w.alloc (.cells s.cells 36) |>.alloc (.cells x.cells 44)))) (G.out _)).mono ?_
    rintro _ _ ⟨rfl, p, rfl⟩
    go_wp2
    go_ret
    exact ⟨ret_bool HV.out.symm, bTrans (bAlloc (bAlloc (Below.refl _ _) _) _) p.below⟩
  · have G := Lib.hid (refGoes_is s true (Lib.hid hg))
    by_cases hv : x.ver = s.ver
    · have HV : Hid (oldB s x = false) := Lib.hid (by unfold oldB; rw [hg]; simp [hv])
      rw [hv] at h11
      clear hg
      go_enter Try.func14, Try.ntmps14
      go_wp2_with ((with_reducible refine at_op ?_); (first | (refine load_st rfl _ rfl _ _ rfl s R1 ?_) | (refine load_st rfl _ rfl _ _ rfl s (B1 _) ?_) | (refine load_in rfl _ rfl _ _ rfl x R2 ?_) | (refine load_in rfl _ rfl _ _ rfl x (B2 _) ?_)))
      refine (call_grown (p := (⟨(w.alloc (.cells s.cells 36) |>.alloc (.cells x.cells 44)), Below.refl _ _⟩ : Grown (w.alloc (.cells s.cells 36) |>.alloc (.cells x.cells 44)))) (G.out _)).mono ?_
      rintro _ _ ⟨rfl, p, rfl⟩
      go_wp2
      go_ret
      exact ⟨ret_bool HV.out.symm, bTrans (bAlloc (bAlloc (Below.refl _ _) _) _) p.below⟩
    · have HV : Hid (oldB s x = true) := Lib.hid (by unfold oldB; rw [hg]; simp [hv])
      have hv2 := decide_eq_false hv
      clear hg
      go_enter Try.func14, Try.ntmps14
      go_wp2_with ((with_reducible refine at_op ?_); (first | (refine load_st rfl _ rfl _ _ rfl s R1 ?_) | (refine load_st rfl _ rfl _ _ rfl s (B1 _) ?_) | (refine load_in rfl _ rfl _ _ rfl x R2 ?_) | (refine load_in rfl _ rfl _ _ rfl x (B2 _) ?_)))
      refine (call_grown (p := (⟨(w.alloc (.cells s.cells 36) |>.alloc (.cells x.cells 44)), Below.refl _ _⟩ : Grown (w.alloc (.cells s.cells 36) |>.alloc (.cells x.cells 44)))) (G.out _)).mono ?_
      rintro _ _ ⟨rfl, p, rfl⟩
      go_wp2
      go_ret
      exact ⟨ret_bool (by rw [HV.out]; simp [hv]), bTrans (bAlloc (bAlloc (Below.refl _ _) _) _) p.below⟩
theorem refOld_is (s : State) (x : Ins) (v : Bool) (hv : Hid (oldB s x = v)) (w : World) : Calls Try.prog 14 #[s.val, x.val] w fun e w' => e = .returned (.bool v) ∧ Below w.heap.size w w' := by
  have := refOld_any s x w; rw [hv.out] at this; exact this
end Go.Proofs.Ytflnamahaclidaa.Extra
