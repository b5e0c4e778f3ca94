
/- Contracts of layer 13. -/
import Derived.Test.YtinkeeifndmalaaNumB
import Derived.Test.YtinkeeifndmalaaCfgP
import Derived.Outline
namespace Go.Proofs.Ytinkeeifndmalaa.Split
open Go.ChangeShapes Go.WideShapes Go.ChangeAt Go.RowKit
open NumM NumA Mem

theorem idx0 (a x b y c z : Int) : ∀ w, (Instr.index 49 (.agg #[.int .i64 a, .int .i64 x, .int .i64 b, .int .i64 y, .int .i64 c, .int .i64 z]) (.int .i64 0)).run Try.prog w = .ok (.agg #[.int .i64 a, .int .i64 x]) w := fun _ => by kernel_rfl
theorem idx1 (a x b y c z : Int) : ∀ w, (Instr.index 49 (.agg #[.int .i64 a, .int .i64 x, .int .i64 b, .int .i64 y, .int .i64 c, .int .i64 z]) (.int .i64 1)).run Try.prog w = .ok (.agg #[.int .i64 b, .int .i64 y]) w := fun _ => by kernel_rfl
theorem idx2 (a x b y c z : Int) : ∀ w, (Instr.index 49 (.agg #[.int .i64 a, .int .i64 x, .int .i64 b, .int .i64 y, .int .i64 c, .int .i64 z]) (.int .i64 2)).run Try.prog w = .ok (.agg #[.int .i64 c, .int .i64 z]) w := fun _ => by kernel_rfl
def mayB (a x : Int) : Bool := decide (0 ≤ a ∧ a ≤ x)
set_option maxHeartbeats 1000000 in
theorem may_any (a x b y c z : Int) (w : World) :
    Calls Try.prog 23 #[.agg #[.int .i64 a, .int .i64 x, .int .i64 b, .int .i64 y, .int .i64 c, .int .i64 z]] w fun e w' => e = .returned (.bool (mayB a x && mayB b y && mayB c z)) ∧ Below w.heap.size w w' := by
  have i0 := idx0 a x b y c z
  have i1 := idx1 a x b y c z
  have i2 := idx2 a x b y c z
  rcases (show a < 0 ∨ (0 ≤ a ∧ x < a) ∨ (0 ≤ a ∧ a ≤ x) by omega) with h1 | ⟨h1, h2⟩ | ⟨h1, h2⟩
  · have hv : Hid (mayB a x = false) := Lib.hid (by unfold mayB; simp; omega)
    go_enter Try.func23, Try.ntmps23
    go_wp2
    refine wp_loop_rounds 1 ?_
    iterate 1 (rw [rounds_succ]; go_wp2)
    go_ret
    exact ⟨ret_bool (by rw [hv.out]; rfl), by repeat (first | exact Below.refl _ _ | refine bAlloc ?_ _)⟩
  · have hv : Hid (mayB a x = false) := Lib.hid (by unfold mayB; simp; omega)
    go_enter Try.func23, Try.ntmps23
    go_wp2
    refine wp_loop_rounds 1 ?_
    iterate 1 (rw [rounds_succ]; go_wp2)
    go_ret
    exact ⟨ret_bool (by rw [hv.out]; rfl), by repeat (first | exact Below.refl _ _ | refine bAlloc ?_ _)⟩
  · have hv0 : Hid (mayB a x = true) := Lib.hid (by unfold mayB; simp; omega)
    rcases (show b < 0 ∨ (0 ≤ b ∧ y < b) ∨ (0 ≤ b ∧ b ≤ y) by omega) with h3 | ⟨h3, h4⟩ | ⟨h3, h4⟩
    · have hv : Hid (mayB b y = false) := Lib.hid (by unfold mayB; simp; omega)
      go_enter Try.func23, Try.ntmps23
      go_wp2
      refine wp_loop_rounds 2 ?_
      iterate 2 (rw [rounds_succ]; go_wp2)
      go_ret
      exact ⟨ret_bool (by rw [hv0.out, hv.out]; rfl), by repeat (first | exact Below.refl _ _ | refine bAlloc ?_ _)⟩
    · have hv : Hid (mayB b y = false) := Lib.hid (by unfold mayB; simp; omega)
      go_enter Try.func23, Try.ntmps23
      go_wp2
      refine wp_loop_rounds 2 ?_
      iterate 2 (rw [rounds_succ]; go_wp2)
      go_ret
      exact ⟨ret_bool (by rw [hv0.out, hv.out]; rfl), by repeat (first | exact Below.refl _ _ | refine bAlloc ?_ _)⟩
    · have hv1 : Hid (mayB b y = true) := Lib.hid (by unfold mayB; simp; omega)
      rcases (show c < 0 ∨ (0 ≤ c ∧ z < c) ∨ (0 ≤ c ∧ c ≤ z) by omega) with h5 | ⟨h5, h6⟩ | ⟨h5, h6⟩
      · have hv : Hid (mayB c z = false) := Lib.hid (by unfold mayB; simp; omega)
        go_enter Try.func23, Try.ntmps23
        go_wp2
        refine wp_loop_rounds 3 ?_
        iterate 3 (rw [rounds_succ]; go_wp2)
        go_ret
        exact ⟨ret_bool (by rw [hv0.out, hv1.out, hv.out]; rfl), by repeat (first | exact Below.refl _ _ | refine bAlloc ?_ _)⟩
      · have hv : Hid (mayB c z = false) := Lib.hid (by unfold mayB; simp; omega)
        go_enter Try.func23, Try.ntmps23
        go_wp2
        refine wp_loop_rounds 3 ?_
        iterate 3 (rw [rounds_succ]; go_wp2)
        go_ret
        exact ⟨ret_bool (by rw [hv0.out, hv1.out, hv.out]; rfl), by repeat (first | exact Below.refl _ _ | refine bAlloc ?_ _)⟩
      · have hv : Hid (mayB c z = true) := Lib.hid (by unfold mayB; simp; omega)
        go_enter Try.func23, Try.ntmps23
        go_wp2
        refine wp_loop_rounds 4 ?_
        iterate 4 (rw [rounds_succ]; go_wp2)
        go_ret
        exact ⟨ret_bool (by rw [hv0.out, hv1.out, hv.out]; rfl), by repeat (first | exact Below.refl _ _ | refine bAlloc ?_ _)⟩

def reckB (b p n : Int) : Bool := decide (0 ≤ n ∧ n ≤ 65536 ∧ 0 ≤ b ∧ b ≤ 65536 ∧ 0 ≤ p ∧ p ≤ 100)
theorem reckons_any (c : Cfg) (n : Int) (w : World) :
    Calls Try.prog 19 #[c.val, .int .i64 n] w fun e w' => e = .returned (.bool (reckB c.base c.percent n)) ∧ Below w.heap.size w w' := by
  have f6 := c.f6
  have f7 := c.f7
  go_enter Try.func19, Try.ntmps19
  go_wp2_with (first | (go_at_call 23; refine (may_any _ _ _ _ _ _ _).mono ?_; rintro e w1 ⟨rfl, hb⟩))
  go_ret
  refine ⟨ret_bool ?_, ?_⟩
  · unfold mayB reckB; rw [Bool.eq_iff_iff]; simp; omega
  · refine bTrans ?_ hb
    repeat (first | exact Below.refl _ _ | refine bAlloc ?_ _)
theorem reckons_is (c : Cfg) (n : Int) (t : Bool) (ht : Hid (reckB c.base c.percent n = t)) (w : World) :
    Calls Try.prog 19 #[c.val, .int .i64 n] w fun e w' => e = .returned (.bool t) ∧ Below w.heap.size w w' := by
  have h := reckons_any c n w
  rw [ht.out] at h; exact h
end Go.Proofs.Ytinkeeifndmalaa.Split
