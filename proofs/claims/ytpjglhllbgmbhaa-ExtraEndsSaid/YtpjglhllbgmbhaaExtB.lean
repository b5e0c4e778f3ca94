
/- Contracts of layer 25: whether a state may be asked about; what a refresh adds; the ceiling. -/
import Derived.Test.YtpjglhllbgmbhaaExtA
import Derived.Test.YtpjglhllbgmbhaaNumB
namespace Go.Proofs.Ytpjglhllbgmbhaa.Extra
open Go.ChangeShapes Go.WideShapes Go.ChangeAt Go.RowKit
open NumM
open NumA hiding ret_bool
open Mem Arr Lst Rec Inst Grown Sums St
def numB (s : State) : Bool := decide (0 ≤ s.desired ∧ s.desired ≤ 65536 ∧ 0 ≤ s.c.surge ∧ s.c.surge ≤ 65536 ∧ (goesB s = true → 100 ≤ s.most ∧ s.most ≤ 200))
def mayS (s : State) (L : Nat → Ins) : Bool := numB s && mayB L s.iN
def aboveV (s : State) : Int := if goesB s = true then upQ (s.desired * (s.most - 100)) 100 else 0
theorem num_yes {s : State} (h : numB s = true) : 0 ≤ s.desired ∧ s.desired ≤ 65536 ∧ 0 ≤ s.c.surge ∧ s.c.surge ≤ 65536 ∧ (goesB s = true → 100 ≤ s.most ∧ s.most ≤ 200) := of_decide_eq_true h
theorem mayS_yes {s : State} {L : Nat → Ins} (h : mayS s L = true) : numB s = true ∧ mayB L s.iN = true := by unfold mayS at h; simpa [Bool.and_eq_true] using h
/-- a part of a small number: it does not run over -/
theorem part_small {n p : Int} (h0 : 0 ≤ n) (h1 : n ≤ 65536) (h2 : 0 ≤ p) (h3 : p ≤ 100) : partV n p = upQ (n * p) 100 ∧ partE n p = 0 ∧ 0 ≤ upQ (n * p) 100 ∧ upQ (n * p) 100 ≤ n := by
  have g := Int.mul_nonneg h0 h2
  have k : n * p ≤ n * 100 := Int.mul_le_mul_of_nonneg_left h3 h0
  have ho : outB (n * p) = false := outB_of_in (by omega)
  have a1 := up_ge (a := n * p) (b := 100) (by omega)
  have a2 := up_lt (a := n * p) (b := 100) (by omega)
  refine ⟨?_, ?_, ?_, ?_⟩
  · unfold partV; rw [if_neg (by omega), ho]; rfl
  · unfold partE; rw [if_neg (by omega), err_no ho]
  · omega
  · omega
theorem above_bd {s : State} (h : numB s = true) : 0 ≤ aboveV s ∧ aboveV s ≤ 65536 := by
  have y := num_yes h
  unfold aboveV
  split
  · rename_i hg
    have := y.2.2.2.2 hg
    have := part_small (n := s.desired) (p := s.most - 100) (by omega) (by omega) (by omega) (by omega)
    omega
  · omega
def withB (n lo hi : Int) : Bool := decide (lo ≤ n ∧ n ≤ hi)
theorem within_any (n lo hi : Int) (w : World) : Calls Try.prog 33 #[.int .i64 n, .int .i64 lo, .int .i64 hi] w fun e w' => e = .returned (.bool (withB n lo hi)) ∧ Below w.heap.size w w' := by
  by_cases h1 : lo ≤ n
  · by_cases h2 : n ≤ hi
    · have HV : Hid (withB n lo hi = true) := Lib.hid (decide_eq_true (by omega))
      go_enter Try.func33, Try.ntmps33
      go_wp2
      go_ret
      exact ⟨ret_bool (by first | exact HV.out.symm | (rw [HV.out]; simp; omega)), Below.refl _ _⟩
    · have HV : Hid (withB n lo hi = false) := Lib.hid (decide_eq_false (by omega))
      go_enter Try.func33, Try.ntmps33
      go_wp2
      go_ret
      exact ⟨ret_bool (by first | exact HV.out.symm | (rw [HV.out]; simp; omega)), Below.refl _ _⟩
  · have HV : Hid (withB n lo hi = false) := Lib.hid (decide_eq_false (by omega))
    go_enter Try.func33, Try.ntmps33
    go_wp2
    go_ret
    exact ⟨ret_bool (by first | exact HV.out.symm | (rw [HV.out]; simp; omega)), Below.refl _ _⟩
theorem within_is (n lo hi : Int) (v : Bool) (hv : Hid (withB n lo hi = v)) (w : World) : Calls Try.prog 33 #[.int .i64 n, .int .i64 lo, .int .i64 hi] w fun e w' => e = .returned (.bool v) ∧ Below w.heap.size w w' := by
  have := within_any n lo hi w; rw [hv.out] at this; exact this
theorem insts_box {w : World} {s : State} {L : Nat → Ins} (h : Insts w w.heap.size s.iA s.iN L) (p : Grown (w.alloc (.cells s.cells 36))) : Insts p.w1 p.w1.heap.size s.iA s.iN L := h.later (bTrans (bAlloc (Below.refl _ _) _) p.below)

set_option maxHeartbeats 1000000 in
theorem mayS_any (s : State) (L : Nat → Ins) (w : World) (h : Insts w w.heap.size s.iA s.iN L) (hn : s.iN ≤ 9223372036854775807) :
    Calls Try.prog 25 #[s.val] w fun e w' => e = .returned (.bool (mayS s L)) ∧ Below w.heap.size w w' := by
  have B1 := box_new w s.cells 36
  have R1 : (w.alloc (.cells s.cells 36)).rangeAt w.heap.size 0 s.cells.toList := B1 ⟨_, Below.refl _ _⟩
  have f42 := s.f42
  have g42 := box_cell B1 s.f42
  have f8 := s.f8
  have g8 := box_cell B1 s.f8
  have f50 := s.f50
  have g50 := box_cell B1 s.f50
  have f46 := s.f46
  have g46 := box_cell B1 s.f46
  have HL := Lib.hid (fun p : Grown (w.alloc (.cells s.cells 36)) => mayL_any s.iA s.iN s.iC L p.w1 (insts_box h p) hn)
  clear h
  rcases h1 : withB s.desired 0 65536 with _ | _
  · have HV : Hid (mayS s L = false) := Lib.hid (by unfold mayS; rw [show numB s = false from decide_eq_false (by have := of_decide_eq_false h1; omega)]; rfl)
    have C1 := Lib.hid (within_is _ _ _ false (Lib.hid h1))
    clear h1
    go_enter Try.func25, Try.ntmps25
    go_wp2_with ((with_reducible refine at_op ?_); (first | (refine load_st rfl _ rfl _ _ rfl s R1 ?_) | (refine load_st rfl _ rfl _ _ rfl s (B1 _) ?_)))
    refine (call_grown (p := (⟨(w.alloc (.cells s.cells 36)), Below.refl _ _⟩ : Grown (w.alloc (.cells s.cells 36)))) (C1.out _)).mono ?_
    rintro _ _ ⟨rfl, p, rfl⟩
    go_wp2
    go_ret
    exact ⟨ret_bool HV.out.symm, bTrans (bAlloc (Below.refl _ _) _) p.below⟩
  · have C1 := Lib.hid (within_is _ _ _ true (Lib.hid h1))
    rcases h2 : withB s.c.surge 0 65536 with _ | _
    · have HV : Hid (mayS s L = false) := Lib.hid (by unfold mayS; rw [show numB s = false from decide_eq_false (by have := of_decide_eq_false h2; omega)]; rfl)
      have C2 := Lib.hid (within_is _ _ _ false (Lib.hid h2))
      clear h1 h2
      go_enter Try.func25, Try.ntmps25
      go_wp2_with ((with_reducible refine at_op ?_); (first | (refine load_st rfl _ rfl _ _ rfl s R1 ?_) | (refine load_st rfl _ rfl _ _ rfl s (B1 _) ?_)))
      refine (call_grown (p := (⟨(w.alloc (.cells s.cells 36)), Below.refl _ _⟩ : Grown (w.alloc (.cells s.cells 36)))) (C1.out _)).mono ?_
      rintro _ _ ⟨rfl, p, rfl⟩
      go_wp2_with ((with_reducible refine at_op ?_); (first | (refine load_st rfl _ rfl _ _ rfl s R1 ?_) | (refine load_st rfl _ rfl _ _ rfl s (B1 _) ?_)))
      refine (call_grown (p := p) (C2.out _)).mono ?_
      rintro _ _ ⟨rfl, p, rfl⟩
      go_wp2
      go_ret
      exact ⟨ret_bool HV.out.symm, bTrans (bAlloc (Below.refl _ _) _) p.below⟩
    · have C2 := Lib.hid (within_is _ _ _ true (Lib.hid h2))
      rcases h3 : goesB s with _ | _
      · have HV : Hid (mayS s L = mayB L s.iN) := Lib.hid (by unfold mayS; rw [show numB s = true from decide_eq_true (by have := of_decide_eq_true h1; have := of_decide_eq_true h2; refine ⟨by omega, by omega, by omega, by omega, fun e => ?_⟩; rw [h3] at e; cases e)]; rfl)
        have C3 := Lib.hid (goes_is s false (Lib.hid h3))
        clear h1 h2 h3
        go_enter Try.func25, Try.ntmps25
        go_wp2_with ((with_reducible refine at_op ?_); (first | (refine load_st rfl _ rfl _ _ rfl s R1 ?_) | (refine load_st rfl _ rfl _ _ rfl s (B1 _) ?_)))
        refine (call_grown (p := (⟨(w.alloc (.cells s.cells 36)), Below.refl _ _⟩ : Grown (w.alloc (.cells s.cells 36)))) (C1.out _)).mono ?_
        rintro _ _ ⟨rfl, p, rfl⟩
        go_wp2_with ((with_reducible refine at_op ?_); (first | (refine load_st rfl _ rfl _ _ rfl s R1 ?_) | (refine load_st rfl _ rfl _ _ rfl s (B1 _) ?_)))
        refine (call_grown (p := p) (C2.out _)).mono ?_
        rintro _ _ ⟨rfl, p, rfl⟩
        go_wp2_with ((with_reducible refine at_op ?_); (first | (refine load_st rfl _ rfl _ _ rfl s R1 ?_) | (refine load_st rfl _ rfl _ _ rfl s (B1 _) ?_)))
        refine (call_grown (p := p) (C3.out _)).mono ?_
        rintro _ _ ⟨rfl, p, rfl⟩
        go_wp2_with ((with_reducible refine at_op ?_); (first | (refine load_st rfl _ rfl _ _ rfl s R1 ?_) | (refine load_st rfl _ rfl _ _ rfl s (B1 _) ?_)))
        refine (call_grown (p := p) (HL.out p)).mono ?_
        rintro _ _ ⟨rfl, p, rfl⟩
        go_wp2
        go_ret
        exact ⟨ret_bool HV.out.symm, bTrans (bAlloc (Below.refl _ _) _) p.below⟩
      · have C3 := Lib.hid (goes_is s true (Lib.hid h3))
        rcases h4 : withB s.most 100 200 with _ | _
        · have HV : Hid (mayS s L = false) := Lib.hid (by unfold mayS; rw [show numB s = false from decide_eq_false (by have := of_decide_eq_false h4; intro e; have := e.2.2.2.2 h3; omega)]; rfl)
          have C4 := Lib.hid (within_is _ _ _ false (Lib.hid h4))
          clear h1 h2 h3 h4
          go_enter Try.func25, Try.ntmps25
          go_wp2_with ((with_reducible refine at_op ?_); (first | (refine load_st rfl _ rfl _ _ rfl s R1 ?_) | (refine load_st rfl _ rfl _ _ rfl s (B1 _) ?_)))
          refine (call_grown (p := (⟨(w.alloc (.cells s.cells 36)), Below.refl _ _⟩ : Grown (w.alloc (.cells s.cells 36)))) (C1.out _)).mono ?_
          rintro _ _ ⟨rfl, p, rfl⟩
          go_wp2_with ((with_reducible refine at_op ?_); (first | (refine load_st rfl _ rfl _ _ rfl s R1 ?_) | (refine load_st rfl _ rfl _ _ rfl s (B1 _) ?_)))
          refine (call_grown (p := p) (C2.out _)).mono ?_
          rintro _ _ ⟨rfl, p, rfl⟩
          go_wp2_with ((with_reducible refine at_op ?_); (first | (refine load_st rfl _ rfl _ _ rfl s R1 ?_) | (refine load_st rfl _ rfl _ _ rfl s (B1 _) ?_)))
          refine (call_grown (p := p) (C3.out _)).mono ?_
          rintro _ _ ⟨rfl, p, rfl⟩
          go_wp2_with ((with_reducible refine at_op ?_); (first | (refine load_st rfl _ rfl _ _ rfl s R1 ?_) | (refine load_st rfl _ rfl _ _ rfl s (B1 _) ?_)))
          refine (call_grown (p := p) (C4.out _)).mono ?_
          rintro _ _ ⟨rfl, p, rfl⟩
          go_wp2
          go_ret
          exact ⟨ret_bool HV.out.symm, bTrans (bAlloc (Below.refl _ _) _) p.below⟩
        · have HV : Hid (mayS s L = mayB L s.iN) := Lib.hid (by unfold mayS; rw [show numB s = true from decide_eq_true (by have := of_decide_eq_true h1; have := of_decide_eq_true h2; have := of_decide_eq_true h4; exact ⟨by omega, by omega, by omega, by omega, fun _ => by omega⟩)]; rfl)
          have C4 := Lib.hid (within_is _ _ _ true (Lib.hid h4))
          clear h1 h2 h3 h4
          go_enter Try.func25, Try.ntmps25
          go_wp2_with ((with_reducible refine at_op ?_); (first | (refine load_st rfl _ rfl _ _ rfl s R1 ?_) | (refine load_st rfl _ rfl _ _ rfl s (B1 _) ?_)))
          refine (call_grown (p := (⟨(w.alloc (.cells s.cells 36)), Below.refl _ _⟩ : Grown (w.alloc (.cells s.cells 36)))) (C1.out _)).mono ?_
          rintro _ _ ⟨rfl, p, rfl⟩
          go_wp2_with ((with_reducible refine at_op ?_); (first | (refine load_st rfl _ rfl _ _ rfl s R1 ?_) | (refine load_st rfl _ rfl _ _ rfl s (B1 _) ?_)))
          refine (call_grown (p := p) (C2.out _)).mono ?_
          rintro _ _ ⟨rfl, p, rfl⟩
          go_wp2_with ((with_reducible refine at_op ?_); (first | (refine load_st rfl _ rfl _ _ rfl s R1 ?_) | (refine load_st rfl _ rfl _ _ rfl s (B1 _) ?_)))
          refine (call_grown (p := p) (C3.out _)).mono ?_
          rintro _ _ ⟨rfl, p, rfl⟩
          go_wp2_with ((with_reducible refine at_op ?_); (first | (refine load_st rfl _ rfl _ _ rfl s R1 ?_) | (refine load_st rfl _ rfl _ _ rfl s (B1 _) ?_)))
          refine (call_grown (p := p) (C4.out _)).mono ?_
          rintro _ _ ⟨rfl, p, rfl⟩
          go_wp2_with ((with_reducible refine at_op ?_); (first | (refine load_st rfl _ rfl _ _ rfl s R1 ?_) | (refine load_st rfl _ rfl _ _ rfl s (B1 _) ?_)))
          refine (call_grown (p := p) (HL.out p)).mono ?_
          rintro _ _ ⟨rfl, p, rfl⟩
          go_wp2
          go_ret
          exact ⟨ret_bool HV.out.symm, bTrans (bAlloc (Below.refl _ _) _) p.below⟩
theorem mayS_is (s : State) (L : Nat → Ins) (v : Bool) (hv : Hid (mayS s L = v)) (w : World) (h : Insts w w.heap.size s.iA s.iN L) (hn : s.iN ≤ 9223372036854775807) :
    Calls Try.prog 25 #[s.val] w fun e w' => e = .returned (.bool v) ∧ Below w.heap.size w w' := by
  have := mayS_any s L w h hn; rw [hv.out] at this; exact this
def numR (s : State) : Bool := decide (0 ≤ s.desired ∧ s.desired ≤ 65536 ∧ 0 ≤ s.c.surge ∧ s.c.surge ≤ 65536 ∧ 100 ≤ s.most ∧ s.most ≤ 200)
set_option maxHeartbeats 1000000 in
theorem refMayS_any (s : State) (L : Nat → Ins) (w : World) (h : Insts w w.heap.size s.iA s.iN L) (hn : s.iN ≤ 9223372036854775807) :
    Calls Try.prog 41 #[s.val] w fun e w' => e = .returned (.bool (numR s && mayB L s.iN)) ∧ Below w.heap.size w w' := by
  have B1 := box_new w s.cells 36
  have R1 : (w.alloc (.cells s.cells 36)).rangeAt w.heap.size 0 s.cells.toList := B1 ⟨_, Below.refl _ _⟩
  have f42 := s.f42
  have g42 := box_cell B1 s.f42
  have f8 := s.f8
  have g8 := box_cell B1 s.f8
  have f50 := s.f50
  have g50 := box_cell B1 s.f50
  have f46 := s.f46
  have g46 := box_cell B1 s.f46
  have HL := Lib.hid (fun p : Grown (w.alloc (.cells s.cells 36)) => refMayL_any s.iA s.iN s.iC L p.w1 (insts_box h p) hn)
  clear h
  by_cases h0 : 0 ≤ s.desired
  · skip
    by_cases h1 : s.desired ≤ 65536
    · skip
      by_cases h2 : 0 ≤ s.c.surge
      · skip
        by_cases h3 : s.c.surge ≤ 65536
        · skip
          by_cases h4 : 100 ≤ s.most
          · skip
            by_cases h5 : s.most ≤ 200
            · skip
              have HV : Hid (numR s = true) := Lib.hid (decide_eq_true (by omega))
              go_enter Try.func41, Try.ntmps41
              go_wp2_with ((with_reducible refine at_op ?_); (first | (refine load_st rfl _ rfl _ _ rfl s R1 ?_) | (refine load_st rfl _ rfl _ _ rfl s (B1 _) ?_)))
              refine (call_grown (p := (⟨(w.alloc (.cells s.cells 36)), Below.refl _ _⟩ : Grown (w.alloc (.cells s.cells 36)))) (HL.out (⟨(w.alloc (.cells s.cells 36)), Below.refl _ _⟩ : Grown (w.alloc (.cells s.cells 36))))).mono ?_
              rintro _ _ ⟨rfl, p, rfl⟩
              go_wp2
              go_ret
              exact ⟨ret_bool (by rw [HV.out]; rfl), bTrans (bAlloc (Below.refl _ _) _) p.below⟩
            · skip
              have HV : Hid (numR s = false) := Lib.hid (decide_eq_false (by omega))
              go_enter Try.func41, Try.ntmps41
              go_wp2
              go_ret
              exact ⟨ret_bool (by first | (rw [HV.out]; rfl) | (rw [HV.out]; simp; omega)), bAlloc (Below.refl _ _) _⟩
          · skip
            have HV : Hid (numR s = false) := Lib.hid (decide_eq_false (by omega))
            go_enter Try.func41, Try.ntmps41
            go_wp2
            go_ret
            exact ⟨ret_bool (by first | (rw [HV.out]; rfl) | (rw [HV.out]; simp; omega)), bAlloc (Below.refl _ _) _⟩
        · skip
          have HV : Hid (numR s = false) := Lib.hid (decide_eq_false (by omega))
          go_enter Try.func41, Try.ntmps41
          go_wp2
          go_ret
          exact ⟨ret_bool (by first | (rw [HV.out]; rfl) | (rw [HV.out]; simp; omega)), bAlloc (Below.refl _ _) _⟩
      · skip
        have HV : Hid (numR s = false) := Lib.hid (decide_eq_false (by omega))
        go_enter Try.func41, Try.ntmps41
        go_wp2
        go_ret
        exact ⟨ret_bool (by first | (rw [HV.out]; rfl) | (rw [HV.out]; simp; omega)), bAlloc (Below.refl _ _) _⟩
    · skip
      have HV : Hid (numR s = false) := Lib.hid (decide_eq_false (by omega))
      go_enter Try.func41, Try.ntmps41
      go_wp2
      go_ret
      exact ⟨ret_bool (by first | (rw [HV.out]; rfl) | (rw [HV.out]; simp; omega)), bAlloc (Below.refl _ _) _⟩
  · skip
    have HV : Hid (numR s = false) := Lib.hid (decide_eq_false (by omega))
    go_enter Try.func41, Try.ntmps41
    go_wp2
    go_ret
    exact ⟨ret_bool (by first | (rw [HV.out]; rfl) | (rw [HV.out]; simp; omega)), bAlloc (Below.refl _ _) _⟩
def calm (s : State) : State := { s with most := 100 }
theorem calm_cells (s : State) : s.cells.toList.set 50 (.int .i64 100) = (calm s).cells.toList := rfl
theorem range_set {w : World} {g k : Nat} {cs : List Value} {v : Value} (h : w.rangeAt g 0 cs) (hk : k < cs.length) : (w.setCell ⟨g, k, none⟩ v).rangeAt g 0 (cs.set k v) := by
  have h1 := h k (cs[k]) (by simp)
  have hs := World.rangeAt_setCells_same w g k [v]
  intro j u hj
  by_cases e : j = k
  · subst e
    rw [List.getElem?_set_self hk] at hj
    injection hj with hj
    subst hj
    rw [Nat.zero_add] at h1 ⊢
    exact World.cell?_setCell_same _ _ _ h1
  · rw [List.getElem?_set_ne (fun e' => e e'.symm)] at hj
    rw [World.cell?_setCell_other _ _ _ _ (fun e' => e (by injection e' with _ e2; omega))]
    exact h j u hj
theorem range_set_in {w : World} {g k : Nat} {cs ds : List Value} {v : Value} (h : w.rangeAt g 0 cs) (hk : k < cs.length) (e : cs.set k v = ds) : (w.setCell ⟨g, k, none⟩ v).rangeAt g 0 ds := e ▸ range_set h hk
theorem not_frozen (w : World) (cs : Array Value) (t : TypeId) (k : Nat) : ∀ p : Grown (w.alloc (.cells cs t)), p.w1.frozen? ⟨w.heap.size, k, none⟩ = false := fun p =>
  ((bcell p.below).2 w.heap.size k (by simp)).trans (by unfold World.frozen?; rw [heap_alloc_new]; simp)

theorem calm_num (s : State) (h : goesB s = false) : numR (calm s) = numB s := by
  unfold numR numB calm
  simp [h]
theorem num_ref (s : State) (h : goesB s = true) : numR s = numB s := by
  unfold numR numB
  simp [h]
set_option maxHeartbeats 1000000 in
theorem ready_any (s : State) (L : Nat → Ins) (w : World) (h : Insts w w.heap.size s.iA s.iN L) (hn : s.iN ≤ 9223372036854775807) :
    Calls Try.prog 30 #[s.val] w fun e w' => e = .returned (.bool (mayS s L)) ∧ Below w.heap.size w w' := by
  have B1 := box_new w s.cells 36
  have R1 : (w.alloc (.cells s.cells 36)).rangeAt w.heap.size 0 s.cells.toList := B1 ⟨_, Below.refl _ _⟩
  have f50 := s.f50
  have g50 := box_cell B1 s.f50
  have Z50 := not_frozen w s.cells 36 50
  rcases h3 : goesB s with _ | _
  · have HV : Hid (mayS s L = (numR (calm s) && mayB L (calm s).iN)) := Lib.hid (by rw [calm_num s h3]; rfl)
    have C3 := Lib.hid (refGoes_is s false (Lib.hid h3))
    have HL := Lib.hid (fun p : Grown (w.alloc (.cells s.cells 36)) => refMayS_any (calm s) L (p.w1.setCell ⟨w.heap.size, 50, none⟩ (.int .i64 100)) (Insts.later h (bSet (bTrans (bAlloc (Below.refl _ _) _) p.below) (Nat.le_refl _) _)) hn)
    have BC := fun p : Grown (w.alloc (.cells s.cells 36)) => range_set_in (B1 p) (k := 50) (v := .int .i64 100) (by show 50 < s.cells.toList.length; exact (show (50 : Nat) < 55 by omega)) (calm_cells s)
    clear h3 h
    go_enter Try.func30, Try.ntmps30
    go_wp2_with ((with_reducible refine at_op ?_); (first | (refine load_st rfl _ rfl _ _ rfl s R1 ?_) | (refine load_st rfl _ rfl _ _ rfl s (B1 _) ?_)))
    refine (call_grown (p := (⟨(w.alloc (.cells s.cells 36)), Below.refl _ _⟩ : Grown (w.alloc (.cells s.cells 36)))) (C3.out _)).mono ?_
    rintro _ _ ⟨rfl, p, rfl⟩
    go_wp2_with ((with_reducible refine at_op ?_); (refine load_st rfl _ rfl _ _ rfl (calm s) (BC _) ?_))
    refine (HL.out p).mono ?_
    rintro _ w2 ⟨rfl, b2⟩
    go_wp2
    go_ret
    exact ⟨ret_bool HV.out.symm, bTrans (bSet (bTrans (bAlloc (Below.refl _ _) _) p.below) (Nat.le_refl _) _) b2⟩
  · have HV : Hid (mayS s L = (numR s && mayB L s.iN)) := Lib.hid (by rw [num_ref s h3]; rfl)
    have C3 := Lib.hid (refGoes_is s true (Lib.hid h3))
    have HL := Lib.hid (fun p : Grown (w.alloc (.cells s.cells 36)) => refMayS_any s L p.w1 (insts_box h p) hn)
    clear h3 h
    go_enter Try.func30, Try.ntmps30
    go_wp2_with ((with_reducible refine at_op ?_); (first | (refine load_st rfl _ rfl _ _ rfl s R1 ?_) | (refine load_st rfl _ rfl _ _ rfl s (B1 _) ?_)))
    refine (call_grown (p := (⟨(w.alloc (.cells s.cells 36)), Below.refl _ _⟩ : Grown (w.alloc (.cells s.cells 36)))) (C3.out _)).mono ?_
    rintro _ _ ⟨rfl, p, rfl⟩
    go_wp2_with ((with_reducible refine at_op ?_); (first | (refine load_st rfl _ rfl _ _ rfl s R1 ?_) | (refine load_st rfl _ rfl _ _ rfl s (B1 _) ?_)))
    refine (call_grown (p := p) (HL.out p)).mono ?_
    rintro _ _ ⟨rfl, p, rfl⟩
    go_wp2
    go_ret
    exact ⟨ret_bool HV.out.symm, bTrans (bAlloc (Below.refl _ _) _) p.below⟩
theorem ready_is (s : State) (L : Nat → Ins) (v : Bool) (hv : Hid (mayS s L = v)) (w : World) (h : Insts w w.heap.size s.iA s.iN L) (hn : s.iN ≤ 9223372036854775807) :
    Calls Try.prog 30 #[s.val] w fun e w' => e = .returned (.bool v) ∧ Below w.heap.size w w' := by
  have := ready_any s L w h hn; rw [hv.out] at this; exact this
theorem part_calls (s : State) (h : numB s = true) (hg : goesB s = true) (w : World) : Calls Try.prog 40 #[.int .i64 s.desired, .int .i64 (s.most - 100)] w fun e w' => e = .returned (.tuple #[.int .i64 (aboveV s), .int .i64 0]) ∧ Below w.heap.size w w' := by
  have y := num_yes h
  have z := y.2.2.2.2 hg
  have k := part_small (n := s.desired) (p := s.most - 100) (by omega) (by omega) (by omega) (by omega)
  have := part_any s.desired (s.most - 100) w (by omega) (by omega)
  rw [k.1, k.2.1] at this
  unfold aboveV
  rw [if_pos hg]
  exact this.mono fun _ _ ⟨a, b⟩ => ⟨a, b ▸ Below.refl _ _⟩
theorem refPart_calls (s : State) (h : numB s = true) (hg : goesB s = true) (w : World) : Calls Try.prog 42 #[.int .i64 s.desired, .int .i64 (s.most - 100)] w fun e w' => e = .returned (.tuple #[.int .i64 (aboveV s), .int .i64 0]) ∧ Below w.heap.size w w' := by
  have y := num_yes h
  have z := y.2.2.2.2 hg
  have k := part_small (n := s.desired) (p := s.most - 100) (by omega) (by omega) (by omega) (by omega)
  have := refPart_any s.desired (s.most - 100) w (by omega) (by omega)
  rw [k.1, k.2.1] at this
  unfold aboveV
  rw [if_pos hg]
  exact this.mono fun _ _ ⟨a, b⟩ => ⟨a, b ▸ Below.refl _ _⟩
set_option maxHeartbeats 1000000 in
theorem above_any (s : State) (h : numB s = true) (w : World) : Calls Try.prog 29 #[s.val] w fun e w' => e = .returned (.int .i64 (aboveV s)) ∧ Below w.heap.size w w' := by
  have B1 := box_new w s.cells 36
  have R1 : (w.alloc (.cells s.cells 36)).rangeAt w.heap.size 0 s.cells.toList := B1 ⟨_, Below.refl _ _⟩
  have f42 := s.f42
  have g42 := box_cell B1 s.f42
  have f50 := s.f50
  have g50 := box_cell B1 s.f50
  rcases h3 : goesB s with _ | _
  · have HV : Hid (aboveV s = 0) := Lib.hid (by unfold aboveV; rw [h3]; rfl)
    have C3 := Lib.hid (goes_is s false (Lib.hid h3))
    clear h3 h
    go_enter Try.func29, Try.ntmps29
    go_wp2_with ((with_reducible refine at_op ?_); (first | (refine load_st rfl _ rfl _ _ rfl s R1 ?_) | (refine load_st rfl _ rfl _ _ rfl s (B1 _) ?_)))
    refine (call_grown (p := (⟨(w.alloc (.cells s.cells 36)), Below.refl _ _⟩ : Grown (w.alloc (.cells s.cells 36)))) (C3.out _)).mono ?_
    rintro _ _ ⟨rfl, p, rfl⟩
    go_wp2
    go_ret
    exact ⟨ret_int HV.out.symm, bTrans (bAlloc (Below.refl _ _) _) p.below⟩
  · have C3 := Lib.hid (goes_is s true (Lib.hid h3))
    have C4 := Lib.hid (part_calls s h h3)
    have y := num_yes h
    have z := y.2.2.2.2 h3
    have z1 : -9223372036854775808 ≤ s.most - 100 := by omega
    have z2 : s.most - 100 ≤ 9223372036854775807 := by omega
    have W1 : IntKind.i64.wrap (s.most - 100) = s.most - 100 := IntWalk.i64_in _ (by omega)
    clear h3 h y z
    go_enter Try.func29, Try.ntmps29
    go_wp2_with ((with_reducible refine at_op ?_); (first | (refine load_st rfl _ rfl _ _ rfl s R1 ?_) | (refine load_st rfl _ rfl _ _ rfl s (B1 _) ?_)))
    refine (call_grown (p := (⟨(w.alloc (.cells s.cells 36)), Below.refl _ _⟩ : Grown (w.alloc (.cells s.cells 36)))) (C3.out _)).mono ?_
    rintro _ _ ⟨rfl, p, rfl⟩
    go_wp2_with ((with_reducible refine at_op ?_); (first | (refine load_st rfl _ rfl _ _ rfl s R1 ?_) | (refine load_st rfl _ rfl _ _ rfl s (B1 _) ?_)))
    refine (call_grown (p := p) (C4.out _)).mono ?_
    rintro _ _ ⟨rfl, p, rfl⟩
    go_wp2
    go_ret
    exact ⟨rfl, bTrans (bAlloc (Below.refl _ _) _) p.below⟩
set_option maxHeartbeats 1000000 in
theorem more_any (s : State) (h : numB s = true) (h3 : goesB s = true) (w : World) : Calls Try.prog 32 #[s.val] w fun e w' => e = .returned (.int .i64 (aboveV s)) ∧ Below w.heap.size w w' := by
  have B1 := box_new w s.cells 36
  have R1 : (w.alloc (.cells s.cells 36)).rangeAt w.heap.size 0 s.cells.toList := B1 ⟨_, Below.refl _ _⟩
  have f42 := s.f42
  have g42 := box_cell B1 s.f42
  have f50 := s.f50
  have g50 := box_cell B1 s.f50
  have C4 := Lib.hid (refPart_calls s h h3)
  have y := num_yes h
  have z := y.2.2.2.2 h3
  have W1 : IntKind.i64.wrap (s.most - 100) = s.most - 100 := IntWalk.i64_in _ (by omega)
  clear h3 h y z
  go_enter Try.func32, Try.ntmps32
  go_wp2_with ((with_reducible refine at_op ?_); (first | (refine load_st rfl _ rfl _ _ rfl s R1 ?_) | (refine load_st rfl _ rfl _ _ rfl s (B1 _) ?_)))
  refine (call_grown (p := (⟨(w.alloc (.cells s.cells 36)), Below.refl _ _⟩ : Grown (w.alloc (.cells s.cells 36)))) (C4.out _)).mono ?_
  rintro _ _ ⟨rfl, p, rfl⟩
  go_wp2
  go_ret
  exact ⟨rfl, bTrans (bAlloc (Below.refl _ _) _) p.below⟩
end Go.Proofs.Ytpjglhllbgmbhaa.Extra
