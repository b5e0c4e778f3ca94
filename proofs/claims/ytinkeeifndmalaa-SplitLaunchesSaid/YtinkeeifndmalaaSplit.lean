
/- Contracts of layer 13: floors, what is wanted, what is next, the least, excess; the program's. -/
import Derived.Test.YtinkeeifndmalaaSplitA
namespace Go.Proofs.Ytinkeeifndmalaa.Split
open Go.ChangeShapes Go.WideShapes Go.ChangeAt Go.RowKit
open NumM NumA Mem

def floorV (b p n : Int) : Int := if reckB b p n = true then (if n ≤ b then n else b) else 0
def aboveV (b p n : Int) : Int := upQ ((n - floorV b p n) * p) 100
def demV (b p n : Int) : Int := if reckB b p n = true then floorV b p n + aboveV b p n else 0
def spoV (b p n : Int) : Int := if reckB b p n = true then n - floorV b p n - aboveV b p n else 0
def okB (b p n d s : Int) : Bool := reckB b p n && (mayB d 1099511627776 && mayB s 1099511627776) && decide (d + s < n)
def isSpotB (b p n d s : Int) : Bool := okB b p n d s && decide (demV b p n ≤ d)
def leastV (b p n l : Int) : Int := if 0 ≤ l ∧ l ≤ 100 then upQ (floorV b p n * l) 100 else 0
def excessB (n live wt : Int) : Bool := decide (0 ≤ n ∧ n ≤ 65536 ∧ 1 ≤ wt ∧ n + wt ≤ live)

theorem reck_yes {b p n : Int} (h : reckB b p n = true) : 0 ≤ n ∧ n ≤ 65536 ∧ 0 ≤ b ∧ b ≤ 65536 ∧ 0 ≤ p ∧ p ≤ 100 := by
  unfold reckB at h; simpa using h
theorem floor_bd (b p n : Int) : 0 ≤ floorV b p n ∧ floorV b p n ≤ 65536 := by
  unfold floorV
  split
  · have := reck_yes ‹_›
    split <;> omega
  · omega
theorem floor_le {b p n : Int} (h : reckB b p n = true) : floorV b p n ≤ n ∧ floorV b p n ≤ b := by
  have := reck_yes h
  unfold floorV; rw [if_pos h]; split <;> omega
/-- a part of a small number: it does not run over -/
theorem part_small {n p : Int} (h0 : 0 ≤ n) (h1 : n ≤ 65536) (h2 : 0 ≤ p) (h3 : p ≤ 100) : partV n p = upQ (n * p) 100 ∧ partE n p = 0 ∧ 0 ≤ upQ (n * p) 100 ∧ upQ (n * p) 100 ≤ n := by
  have g := Int.mul_nonneg h0 h2
  have k : n * p ≤ n * 100 := Int.mul_le_mul_of_nonneg_left h3 h0
  have ho : outB (n * p) = false := outB_of_in (by omega)
  have a1 := up_ge (a := n * p) (b := 100) (by omega)
  have a2 := up_lt (a := n * p) (b := 100) (by omega)
  refine ⟨?_, ?_, ?_, ?_⟩
  · unfold partV; rw [if_neg (by omega), ho]; rfl
  · unfold partE; rw [if_neg (by omega), err_no ho]
  · omega
  · omega
theorem above_bd {b p n : Int} (h : reckB b p n = true) : 0 ≤ aboveV b p n ∧ aboveV b p n ≤ n - floorV b p n := by
  have h1 := reck_yes h
  have h2 := floor_bd b p n
  have h3 := floor_le h
  have := part_small (n := n - floorV b p n) (p := p) (by omega) (by omega) (by omega) (by omega)
  unfold aboveV; exact this.2.2

theorem floor_any (c : Cfg) (n : Int) (w : World) :
    Calls Try.prog 12 #[c.val, .int .i64 n] w fun e w' => e = .returned (.int .i64 (floorV c.base c.percent n)) ∧ Below w.heap.size w w' := by
  rcases hr : reckB c.base c.percent n with _ | _
  · have HV : Hid (floorV c.base c.percent n = 0) := Lib.hid (by unfold floorV; rw [hr]; rfl)
    have R := Lib.hid (fun w => reckons_is c n false (Lib.hid hr) w)
    clear hr
    go_enter Try.func12, Try.ntmps12
    go_wp2_with (first | (refine load_cfg rfl _ rfl _ rfl c _ _ (heap_alloc_new _ _) ?_) | (go_at_call 19; refine (R.out _).mono ?_; rintro e w1 ⟨rfl, hb⟩))
    go_ret
    refine ⟨ret_int HV.out.symm, ?_⟩
    refine bTrans ?_ hb
    repeat (first | exact Below.refl _ _ | refine bAlloc ?_ _)
  · have HV : Hid (floorV c.base c.percent n = if n ≤ c.base then n else c.base) := Lib.hid (by unfold floorV; rw [hr]; rfl)
    have R := Lib.hid (fun w => reckons_is c n true (Lib.hid hr) w)
    have f6 := c.f6
    clear hr
    go_enter Try.func12, Try.ntmps12
    go_wp2_with (first | (refine load_cfg rfl _ rfl _ rfl c _ _ (heap_alloc_new _ _) ?_) | (go_at_call 19; refine (R.out _).mono ?_; rintro e w1 ⟨rfl, hb⟩; obtain ⟨hc, hf⟩ := bcell hb))
    all_goals
      go_ret
      refine ⟨ret_int ?_, ?_⟩
      · rw [HV.out]
        first | rw [if_pos (by assumption)] | rw [if_neg (by omega)] | (rw [if_pos (by assumption)]; omega)
      · refine bTrans ?_ hb
        repeat (first | exact Below.refl _ _ | refine bAlloc ?_ _)
theorem floor_is (c : Cfg) (n v : Int) (w : World) (hv : Hid (floorV c.base c.percent n = v)) :
    Calls Try.prog 12 #[c.val, .int .i64 n] w fun e w' => e = .returned (.int .i64 v) ∧ Below w.heap.size w w' := by
  have h := floor_any c n w
  rw [hv.out] at h; exact h
theorem part_is (n p v : Int) (w : World) (ha : 0 ≤ n) (ha' : n ≤ 65536) (hp : 0 ≤ p) (hp' : p ≤ 100) (hv : Hid (upQ (n * p) 100 = v)) :
    Calls Try.prog 20 #[.int .i64 n, .int .i64 p] w fun e w' => e = .returned (.tuple #[.int .i64 v, .int .i64 0]) ∧ w = w' := by
  have h := part_any n p w (by omega) (by omega)
  have g := part_small ha ha' hp hp'
  rw [g.1, g.2.1, hv.out] at h; exact h

theorem want_any (c : Cfg) (n : Int) (w : World) :
    Calls Try.prog 8 #[c.val, .int .i64 n] w fun e w' => e = .returned (.tuple #[.int .i64 (demV c.base c.percent n), .int .i64 (spoV c.base c.percent n)]) ∧ Below w.heap.size w w' := by
  rcases hr : reckB c.base c.percent n with _ | _
  · have HV : Hid (demV c.base c.percent n = 0 ∧ spoV c.base c.percent n = 0) := Lib.hid (by unfold demV spoV; rw [hr]; exact ⟨rfl, rfl⟩)
    have R := Lib.hid (fun w => reckons_is c n false (Lib.hid hr) w)
    clear hr
    go_enter Try.func8, Try.ntmps8
    go_wp2_with (first | (refine load_cfg rfl _ rfl _ rfl c _ _ (heap_alloc_new _ _) ?_) | (go_at_call 19; refine (R.out _).mono ?_; rintro e w1 ⟨rfl, hb⟩))
    go_ret2
    refine ⟨ret_two HV.out.1.symm HV.out.2.symm, ?_⟩
    refine bTrans ?_ hb
    repeat (first | exact Below.refl _ _ | refine bAlloc ?_ _)
  · have HV : Hid (demV c.base c.percent n = floorV c.base c.percent n + aboveV c.base c.percent n ∧ spoV c.base c.percent n = n - floorV c.base c.percent n - aboveV c.base c.percent n) := Lib.hid (by unfold demV spoV; rw [hr]; exact ⟨rfl, rfl⟩)
    have R := Lib.hid (fun w => reckons_is c n true (Lib.hid hr) w)
    have f7 := c.f7
    have h1 := reck_yes hr
    have h2 := floor_le hr
    have h3 := floor_bd c.base c.percent n
    have h4 := above_bd hr
    have HA : Hid (upQ ((n - floorV c.base c.percent n) * c.percent) 100 = aboveV c.base c.percent n) := Lib.hid rfl
    generalize hf : floorV c.base c.percent n = f at *
    generalize ha : aboveV c.base c.percent n = a at *
    have HF := Lib.hid hf
    clear hr hf ha
    obtain ⟨_, _, _, _, _, _⟩ := h1
    obtain ⟨_, _⟩ := h2
    obtain ⟨_, _⟩ := h3
    obtain ⟨_, _⟩ := h4
    go_enter Try.func8, Try.ntmps8
    go_wp2_with (first
      | (refine load_cfg rfl _ rfl _ rfl c _ _ (heap_alloc_new _ _) ?_)
      | (refine load_cfg rfl _ rfl _ rfl c _ _ (kept_box (by assumption) (heap_alloc_new _ _)) ?_)
      | (go_at_call 19; refine (R.out _).mono ?_; rintro e w1 ⟨rfl, hb⟩)
      | (go_at_call 12; refine (floor_is _ _ _ _ HF).mono ?_; rintro e w2 ⟨rfl, hb2⟩; obtain ⟨hc, hf⟩ := bcell hb; obtain ⟨hc2, hf2⟩ := bcell hb2; have hs : w.heap.size < w1.heap.size := bLt hb)
      | (go_at_call 20; refine (part_is _ _ _ _ (by omega) (by omega) (by omega) (by omega) HA).mono ?_; rintro e w3 ⟨rfl, rfl⟩))
    go_ret2
    refine ⟨ret_two HV.out.1.symm HV.out.2.symm, ?_⟩
    refine bTrans (bTrans ?_ hb) hb2
    repeat (first | exact Below.refl _ _ | refine bAlloc ?_ _)
end Go.Proofs.Ytinkeeifndmalaa.Split
