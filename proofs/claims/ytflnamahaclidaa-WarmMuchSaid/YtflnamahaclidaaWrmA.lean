
/- Layer 27: may, weight, Little of both. -/
import Derived.Test.YtflnamahaclidaaExtA
import Derived.Test.YtflnamahaclidaaSumR
import Derived.Test.YtflnamahaclidaaFnd
namespace Go.Proofs.Ytflnamahaclidaa.Wrm
open Go.ChangeShapes Go.WideShapes Go.ChangeAt Go.RowKit
open Mem Arr Lst Rec Inst Grown Sums St Opens Extra
open Thg (ofS)
def mayW (s : State) (L : Nat → Ins) : Bool := mayB L s.iN && decide (0 ≤ s.c.warm ∧ s.c.warm ≤ 65536 ∧ 1 ≤ s.ver)
theorem mayW_yes {s : State} {L : Nat → Ins} (h : mayW s L = true) : mayB L s.iN = true ∧ 0 ≤ s.c.warm ∧ s.c.warm ≤ 65536 ∧ 1 ≤ s.ver := by
  unfold mayW at h
  obtain ⟨a, b⟩ := Bool.and_eq_true_iff.1 h
  exact ⟨a, of_decide_eq_true b⟩
def wtW (s : State) (L : Nat → Ins) (O : Nat → Opn) : Int := (ofS (if goesB s = true then s.ver else 0) L s.iN O s.oN).warm
theorem insts_box {w : World} {s : State} {L : Nat → Ins} (h : Insts w w.heap.size s.iA s.iN L) (p : Grown (w.alloc (.cells s.cells 36))) : Insts p.w1 p.w1.heap.size s.iA s.iN L := h.later (bTrans (bAlloc (Below.refl _ _) _) p.below)
theorem opns_box {w : World} {s : State} {O : Nat → Opn} (h : Opns w w.heap.size s.oA s.oN O) (p : Grown (w.alloc (.cells s.cells 36))) : Opns p.w1 p.w1.heap.size s.oA s.oN O := h.later (bTrans (bAlloc (Below.refl _ _) _) p.below)
/-- a state as it is handed in -/
structure Sta (s : State) (L : Nat → Ins) (O : Nat → Opn) (w : World) : Prop where
  i : Insts w w.heap.size s.iA s.iN L
  o : Opns w w.heap.size s.oA s.oN O
  hn : s.iN ≤ 9223372036854775807
  hm : s.oN ≤ 9223372036854775807
  hv : 0 ≤ s.ver
theorem Sta.later {s : State} {L : Nat → Ins} {O : Nat → Opn} {w w' : World} (h : Sta s L O w) (hb : Below w.heap.size w w') : Sta s L O w' := ⟨h.i.later hb, h.o.later hb, h.hn, h.hm, h.hv⟩
theorem Sta.box {s : State} {L : Nat → Ins} {O : Nat → Opn} {w : World} (h : Sta s L O w) (p : Grown (w.alloc (.cells s.cells 36))) : Sta s L O p.w1 := h.later (bTrans (bAlloc (Below.refl _ _) _) p.below)

set_option maxHeartbeats 2000000 in
theorem may_any (s : State) (L : Nat → Ins) (O : Nat → Opn) (w : World) (h : Sta s L O w) :
    Calls Try.prog 17 #[s.val] w fun e w' => e = .returned (.bool (mayW s L)) ∧ Below w.heap.size w w' := by
  have B1 := box_new w s.cells 36
  have R1 : (w.alloc (.cells s.cells 36)).rangeAt w.heap.size 0 s.cells.toList := B1 ⟨_, Below.refl _ _⟩
  have f9 := s.f9
  have g9 := box_cell B1 s.f9
  have f40 := s.f40
  have g40 := box_cell B1 s.f40
  have f46 := s.f46
  have g46 := box_cell B1 s.f46
  have hv := h.hv
  rcases hm : mayB L s.iN with _ | _
  · have HV : Hid (mayW s L = false) := Lib.hid (by unfold mayW; rw [hm]; rfl)
    have M := Lib.hid (fun p : Grown (w.alloc (.cells s.cells 36)) => Fnd.mayL_is s.iA s.iN s.iC L false hm p.w1 (h.box p).i h.hn)
    clear hm h
    go_enter Try.func17, Try.ntmps17
    go_wp2_with (first | ((with_reducible refine St.at_loadg 36 ?_); (first | (refine load_st rfl _ rfl _ _ rfl s R1 ?_) | (refine load_st rfl _ rfl _ _ rfl s (B1 _) ?_))))
    refine (call_grown (p := (⟨(w.alloc (.cells s.cells 36)), Below.refl _ _⟩ : Grown (w.alloc (.cells s.cells 36)))) (M.out (⟨(w.alloc (.cells s.cells 36)), Below.refl _ _⟩ : Grown (w.alloc (.cells s.cells 36))))).mono ?_
    rintro _ _ ⟨rfl, p, rfl⟩
    go_wp2
    go_ret
    exact ⟨ret_bool HV.out.symm, bTrans (bAlloc (Below.refl _ _) _) p.below⟩
  · have M := Lib.hid (fun p : Grown (w.alloc (.cells s.cells 36)) => Fnd.mayL_is s.iA s.iN s.iC L true hm p.w1 (h.box p).i h.hn)
    by_cases h1 : 0 ≤ s.c.warm
    · have d1 := decide_eq_true h1
      by_cases h2 : s.c.warm ≤ 65536
      · have d2 := decide_eq_true h2
        by_cases h3 : 1 ≤ s.ver
        · have d3 : (s.ver != 0) = true := (by simp; omega)
          have HV : Hid (mayW s L = true) := Lib.hid (by unfold mayW; rw [hm]; exact decide_eq_true ⟨h1, h2, h3⟩)
          clear hm h
          go_enter Try.func17, Try.ntmps17
          go_wp2_with (first | ((with_reducible refine St.at_loadg 36 ?_); (first | (refine load_st rfl _ rfl _ _ rfl s R1 ?_) | (refine load_st rfl _ rfl _ _ rfl s (B1 _) ?_))))
          refine (call_grown (p := (⟨(w.alloc (.cells s.cells 36)), Below.refl _ _⟩ : Grown (w.alloc (.cells s.cells 36)))) (M.out (⟨(w.alloc (.cells s.cells 36)), Below.refl _ _⟩ : Grown (w.alloc (.cells s.cells 36))))).mono ?_
          rintro _ _ ⟨rfl, p, rfl⟩
          go_wp2
          go_ret
          exact ⟨ret_bool HV.out.symm, bTrans (bAlloc (Below.refl _ _) _) p.below⟩
        · have d3 : (s.ver != 0) = false := (by simp; omega)
          have HV : Hid (mayW s L = false) := Lib.hid (by unfold mayW; rw [hm]; exact decide_eq_false (fun e => h3 e.2.2))
          clear hm h
          go_enter Try.func17, Try.ntmps17
          go_wp2_with (first | ((with_reducible refine St.at_loadg 36 ?_); (first | (refine load_st rfl _ rfl _ _ rfl s R1 ?_) | (refine load_st rfl _ rfl _ _ rfl s (B1 _) ?_))))
          refine (call_grown (p := (⟨(w.alloc (.cells s.cells 36)), Below.refl _ _⟩ : Grown (w.alloc (.cells s.cells 36)))) (M.out (⟨(w.alloc (.cells s.cells 36)), Below.refl _ _⟩ : Grown (w.alloc (.cells s.cells 36))))).mono ?_
          rintro _ _ ⟨rfl, p, rfl⟩
          go_wp2
          go_ret
          exact ⟨ret_bool HV.out.symm, bTrans (bAlloc (Below.refl _ _) _) p.below⟩
      · have d2 := decide_eq_false h2
        have HV : Hid (mayW s L = false) := Lib.hid (by unfold mayW; rw [hm]; exact decide_eq_false (fun e => h2 e.2.1))
        clear hm h
        go_enter Try.func17, Try.ntmps17
        go_wp2_with (first | ((with_reducible refine St.at_loadg 36 ?_); (first | (refine load_st rfl _ rfl _ _ rfl s R1 ?_) | (refine load_st rfl _ rfl _ _ rfl s (B1 _) ?_))))
        refine (call_grown (p := (⟨(w.alloc (.cells s.cells 36)), Below.refl _ _⟩ : Grown (w.alloc (.cells s.cells 36)))) (M.out (⟨(w.alloc (.cells s.cells 36)), Below.refl _ _⟩ : Grown (w.alloc (.cells s.cells 36))))).mono ?_
        rintro _ _ ⟨rfl, p, rfl⟩
        go_wp2
        go_ret
        exact ⟨ret_bool HV.out.symm, bTrans (bAlloc (Below.refl _ _) _) p.below⟩
    · have d1 := decide_eq_false h1
      have HV : Hid (mayW s L = false) := Lib.hid (by unfold mayW; rw [hm]; exact decide_eq_false (fun e => h1 e.1))
      clear hm h
      go_enter Try.func17, Try.ntmps17
      go_wp2_with (first | ((with_reducible refine St.at_loadg 36 ?_); (first | (refine load_st rfl _ rfl _ _ rfl s R1 ?_) | (refine load_st rfl _ rfl _ _ rfl s (B1 _) ?_))))
      refine (call_grown (p := (⟨(w.alloc (.cells s.cells 36)), Below.refl _ _⟩ : Grown (w.alloc (.cells s.cells 36)))) (M.out (⟨(w.alloc (.cells s.cells 36)), Below.refl _ _⟩ : Grown (w.alloc (.cells s.cells 36))))).mono ?_
      rintro _ _ ⟨rfl, p, rfl⟩
      go_wp2
      go_ret
      exact ⟨ret_bool HV.out.symm, bTrans (bAlloc (Below.refl _ _) _) p.below⟩
theorem may_is (s : State) (L : Nat → Ins) (O : Nat → Opn) (v : Bool) (hv : mayW s L = v) (w : World) (h : Sta s L O w) : Calls Try.prog 17 #[s.val] w fun e w' => e = .returned (.bool v) ∧ Below w.heap.size w w' := by
  have := may_any s L O w h; rw [hv] at this; exact this
set_option maxHeartbeats 2000000 in
theorem refMay_any (s : State) (L : Nat → Ins) (O : Nat → Opn) (w : World) (h : Sta s L O w) :
    Calls Try.prog 22 #[s.val] w fun e w' => e = .returned (.bool (mayW s L)) ∧ Below w.heap.size w w' := by
  have B1 := box_new w s.cells 36
  have R1 : (w.alloc (.cells s.cells 36)).rangeAt w.heap.size 0 s.cells.toList := B1 ⟨_, Below.refl _ _⟩
  have f9 := s.f9
  have g9 := box_cell B1 s.f9
  have f40 := s.f40
  have g40 := box_cell B1 s.f40
  have f46 := s.f46
  have g46 := box_cell B1 s.f46
  have hv := h.hv
  rcases hm : mayB L s.iN with _ | _
  · have HV : Hid (mayW s L = false) := Lib.hid (by unfold mayW; rw [hm]; rfl)
    have M := Lib.hid (fun p : Grown (w.alloc (.cells s.cells 36)) => Fnd.refMayL_is s.iA s.iN s.iC L false hm p.w1 (h.box p).i h.hn)
    clear hm h
    go_enter Try.func22, Try.ntmps22
    go_wp2_with (first | ((with_reducible refine St.at_loadg 36 ?_); (first | (refine load_st rfl _ rfl _ _ rfl s R1 ?_) | (refine load_st rfl _ rfl _ _ rfl s (B1 _) ?_))))
    refine (call_grown (p := (⟨(w.alloc (.cells s.cells 36)), Below.refl _ _⟩ : Grown (w.alloc (.cells s.cells 36)))) (M.out (⟨(w.alloc (.cells s.cells 36)), Below.refl _ _⟩ : Grown (w.alloc (.cells s.cells 36))))).mono ?_
    rintro _ _ ⟨rfl, p, rfl⟩
    go_wp2
    go_ret
    exact ⟨ret_bool HV.out.symm, bTrans (bAlloc (Below.refl _ _) _) p.below⟩
  · have M := Lib.hid (fun p : Grown (w.alloc (.cells s.cells 36)) => Fnd.refMayL_is s.iA s.iN s.iC L true hm p.w1 (h.box p).i h.hn)
    by_cases h1 : 0 ≤ s.c.warm
    · have d1 := decide_eq_true h1
      by_cases h2 : s.c.warm ≤ 65536
      · have d2 := decide_eq_true h2
        by_cases h3 : 1 ≤ s.ver
        · have d3 : decide (1 ≤ s.ver) = true := decide_eq_true h3
          have HV : Hid (mayW s L = true) := Lib.hid (by unfold mayW; rw [hm]; exact decide_eq_true ⟨h1, h2, h3⟩)
          clear hm h
          go_enter Try.func22, Try.ntmps22
          go_wp2_with (first | ((with_reducible refine St.at_loadg 36 ?_); (first | (refine load_st rfl _ rfl _ _ rfl s R1 ?_) | (refine load_st rfl _ rfl _ _ rfl s (B1 _) ?_))))
          refine (call_grown (p := (⟨(w.alloc (.cells s.cells 36)), Below.refl _ _⟩ : Grown (w.alloc (.cells s.cells 36)))) (M.out (⟨(w.alloc (.cells s.cells 36)), Below.refl _ _⟩ : Grown (w.alloc (.cells s.cells 36))))).mono ?_
          rintro _ _ ⟨rfl, p, rfl⟩
          go_wp2
          go_ret
          exact ⟨ret_bool HV.out.symm, bTrans (bAlloc (Below.refl _ _) _) p.below⟩
        · have d3 : decide (1 ≤ s.ver) = false := decide_eq_false h3
          have HV : Hid (mayW s L = false) := Lib.hid (by unfold mayW; rw [hm]; exact decide_eq_false (fun e => h3 e.2.2))
          clear hm h
          go_enter Try.func22, Try.ntmps22
          go_wp2_with (first | ((with_reducible refine St.at_loadg 36 ?_); (first | (refine load_st rfl _ rfl _ _ rfl s R1 ?_) | (refine load_st rfl _ rfl _ _ rfl s (B1 _) ?_))))
          refine (call_grown (p := (⟨(w.alloc (.cells s.cells 36)), Below.refl _ _⟩ : Grown (w.alloc (.cells s.cells 36)))) (M.out (⟨(w.alloc (.cells s.cells 36)), Below.refl _ _⟩ : Grown (w.alloc (.cells s.cells 36))))).mono ?_
          rintro _ _ ⟨rfl, p, rfl⟩
          go_wp2
          go_ret
          exact ⟨ret_bool HV.out.symm, bTrans (bAlloc (Below.refl _ _) _) p.below⟩
      · have d2 := decide_eq_false h2
        have HV : Hid (mayW s L = false) := Lib.hid (by unfold mayW; rw [hm]; exact decide_eq_false (fun e => h2 e.2.1))
        clear hm h
        go_enter Try.func22, Try.ntmps22
        go_wp2_with (first | ((with_reducible refine St.at_loadg 36 ?_); (first | (refine load_st rfl _ rfl _ _ rfl s R1 ?_) | (refine load_st rfl _ rfl _ _ rfl s (B1 _) ?_))))
        refine (call_grown (p := (⟨(w.alloc (.cells s.cells 36)), Below.refl _ _⟩ : Grown (w.alloc (.cells s.cells 36)))) (M.out (⟨(w.alloc (.cells s.cells 36)), Below.refl _ _⟩ : Grown (w.alloc (.cells s.cells 36))))).mono ?_
        rintro _ _ ⟨rfl, p, rfl⟩
        go_wp2
        go_ret
        exact ⟨ret_bool HV.out.symm, bTrans (bAlloc (Below.refl _ _) _) p.below⟩
    · have d1 := decide_eq_false h1
      have HV : Hid (mayW s L = false) := Lib.hid (by unfold mayW; rw [hm]; exact decide_eq_false (fun e => h1 e.1))
      clear hm h
      go_enter Try.func22, Try.ntmps22
      go_wp2_with (first | ((with_reducible refine St.at_loadg 36 ?_); (first | (refine load_st rfl _ rfl _ _ rfl s R1 ?_) | (refine load_st rfl _ rfl _ _ rfl s (B1 _) ?_))))
      refine (call_grown (p := (⟨(w.alloc (.cells s.cells 36)), Below.refl _ _⟩ : Grown (w.alloc (.cells s.cells 36)))) (M.out (⟨(w.alloc (.cells s.cells 36)), Below.refl _ _⟩ : Grown (w.alloc (.cells s.cells 36))))).mono ?_
      rintro _ _ ⟨rfl, p, rfl⟩
      go_wp2
      go_ret
      exact ⟨ret_bool HV.out.symm, bTrans (bAlloc (Below.refl _ _) _) p.below⟩
theorem refMay_is (s : State) (L : Nat → Ins) (O : Nat → Opn) (v : Bool) (hv : mayW s L = v) (w : World) (h : Sta s L O w) : Calls Try.prog 22 #[s.val] w fun e w' => e = .returned (.bool v) ∧ Below w.heap.size w w' := by
  have := refMay_any s L O w h; rw [hv] at this; exact this
theorem ret_int {p q : Int} (h : p = q) : Ending.returned (.int .i64 p) = .returned (.int .i64 q) := by rw [h]

theorem run_warm (a b c d e f : Int) (w : World) : (Instr.field 59 (.agg #[.int .i64 a, .int .i64 b, .int .i64 c, .int .i64 d, .int .i64 e, .int .i64 f]) 4).run Try.prog w = .ok (.int .i64 e) w := by kernel_rfl
attribute [local go_sem] run_warm
set_option maxHeartbeats 2000000 in
theorem weight_any (s : State) (L : Nat → Ins) (O : Nat → Opn) (w : World) (h : Sta s L O w) :
    Calls Try.prog 24 #[s.val] w fun e w' => e = .returned (.int .i64 (wtW s L O)) ∧ Below w.heap.size w w' := by
  have B1 := box_new w s.cells 36
  have R1 : (w.alloc (.cells s.cells 36)).rangeAt w.heap.size 0 s.cells.toList := B1 ⟨_, Below.refl _ _⟩
  have f40 := s.f40
  have g40 := box_cell B1 s.f40
  have f46 := s.f46
  have g46 := box_cell B1 s.f46
  have f47 := s.f47
  have g47 := box_cell B1 s.f47
  rcases hg : goesB s with _ | _
  · have G := Lib.hid (goes_is s false (Lib.hid hg))
    have C := fun p : Grown (w.alloc (.cells s.cells 36)) => Thg.of_any s.iA s.iN s.iC L s.oA s.oN s.oC O 0 p.w1 (h.box p).i (h.box p).o h.hn h.hm
    obtain ⟨sm, hsm⟩ : ∃ sm, ofS 0 L s.iN O s.oN = sm := ⟨_, rfl⟩
    have HV : Hid (wtW s L O = sm.warm) := Lib.hid (by unfold wtW; rw [hg, ← hsm]; rfl)
    rw [hsm] at C
    replace C : Hid (∀ p : Grown (w.alloc (.cells s.cells 36)), Calls Try.prog 32 #[.slice s.iA s.iN s.iC, .slice s.oA s.oN s.oC, .int .u32 0] p.w1 fun e w' => e = .returned (.agg #[.int .i64 sm.live, .int .i64 sm.liveD, .int .i64 sm.com, .int .i64 sm.comD, .int .i64 sm.warm, .int .i64 sm.many]) ∧ Below p.w1.heap.size p.w1 w') := Lib.hid C
    clear hg h hsm
    go_enter Try.func24, Try.ntmps24
    go_wp2_with (first | ((with_reducible refine St.at_loadg 36 ?_); (first | (refine load_st rfl _ rfl _ _ rfl s R1 ?_) | (refine load_st rfl _ rfl _ _ rfl s (B1 _) ?_))))
    refine (call_grown (p := (⟨(w.alloc (.cells s.cells 36)), Below.refl _ _⟩ : Grown (w.alloc (.cells s.cells 36)))) (G.out _)).mono ?_
    rintro _ _ ⟨rfl, p, rfl⟩
    go_wp2_with (first | ((with_reducible refine St.at_loadg 36 ?_); (first | (refine load_st rfl _ rfl _ _ rfl s R1 ?_) | (refine load_st rfl _ rfl _ _ rfl s (B1 _) ?_))))
    refine (call_grown (p := p) (C.out p)).mono ?_
    rintro _ _ ⟨rfl, p, rfl⟩
    go_wp2
    go_ret
    exact ⟨ret_int HV.out.symm, bTrans (bAlloc (Below.refl _ _) _) p.below⟩
  · have G := Lib.hid (goes_is s true (Lib.hid hg))
    have C := fun p : Grown (w.alloc (.cells s.cells 36)) => Thg.of_any s.iA s.iN s.iC L s.oA s.oN s.oC O s.ver p.w1 (h.box p).i (h.box p).o h.hn h.hm
    obtain ⟨sm, hsm⟩ : ∃ sm, ofS s.ver L s.iN O s.oN = sm := ⟨_, rfl⟩
    have HV : Hid (wtW s L O = sm.warm) := Lib.hid (by unfold wtW; rw [hg, ← hsm]; rfl)
    rw [hsm] at C
    replace C : Hid (∀ p : Grown (w.alloc (.cells s.cells 36)), Calls Try.prog 32 #[.slice s.iA s.iN s.iC, .slice s.oA s.oN s.oC, .int .u32 s.ver] p.w1 fun e w' => e = .returned (.agg #[.int .i64 sm.live, .int .i64 sm.liveD, .int .i64 sm.com, .int .i64 sm.comD, .int .i64 sm.warm, .int .i64 sm.many]) ∧ Below p.w1.heap.size p.w1 w') := Lib.hid C
    clear hg h hsm
    go_enter Try.func24, Try.ntmps24
    go_wp2_with (first | ((with_reducible refine St.at_loadg 36 ?_); (first | (refine load_st rfl _ rfl _ _ rfl s R1 ?_) | (refine load_st rfl _ rfl _ _ rfl s (B1 _) ?_))))
    refine (call_grown (p := (⟨(w.alloc (.cells s.cells 36)), Below.refl _ _⟩ : Grown (w.alloc (.cells s.cells 36)))) (G.out _)).mono ?_
    rintro _ _ ⟨rfl, p, rfl⟩
    go_wp2_with (first | ((with_reducible refine St.at_loadg 36 ?_); (first | (refine load_st rfl _ rfl _ _ rfl s R1 ?_) | (refine load_st rfl _ rfl _ _ rfl s (B1 _) ?_))))
    refine (call_grown (p := p) (C.out p)).mono ?_
    rintro _ _ ⟨rfl, p, rfl⟩
    go_wp2
    go_ret
    exact ⟨ret_int HV.out.symm, bTrans (bAlloc (Below.refl _ _) _) p.below⟩
set_option maxHeartbeats 2000000 in
theorem refWeight_any (s : State) (L : Nat → Ins) (O : Nat → Opn) (w : World) (h : Sta s L O w) :
    Calls Try.prog 26 #[s.val] w fun e w' => e = .returned (.int .i64 (wtW s L O)) ∧ Below w.heap.size w w' := by
  have B1 := box_new w s.cells 36
  have R1 : (w.alloc (.cells s.cells 36)).rangeAt w.heap.size 0 s.cells.toList := B1 ⟨_, Below.refl _ _⟩
  have f40 := s.f40
  have g40 := box_cell B1 s.f40
  have f46 := s.f46
  have g46 := box_cell B1 s.f46
  have f47 := s.f47
  have g47 := box_cell B1 s.f47
  rcases hg : goesB s with _ | _
  · have G := Lib.hid (refGoes_is s false (Lib.hid hg))
    have C := fun p : Grown (w.alloc (.cells s.cells 36)) => Thg.refOf_any s.iA s.iN s.iC L s.oA s.oN s.oC O 0 p.w1 (h.box p).i (h.box p).o h.hn h.hm
    obtain ⟨sm, hsm⟩ : ∃ sm, ofS 0 L s.iN O s.oN = sm := ⟨_, rfl⟩
    have HV : Hid (wtW s L O = sm.warm) := Lib.hid (by unfold wtW; rw [hg, ← hsm]; rfl)
    rw [hsm] at C
    replace C : Hid (∀ p : Grown (w.alloc (.cells s.cells 36)), Calls Try.prog 33 #[.slice s.iA s.iN s.iC, .slice s.oA s.oN s.oC, .int .u32 0] p.w1 fun e w' => e = .returned (.agg #[.int .i64 sm.live, .int .i64 sm.liveD, .int .i64 sm.com, .int .i64 sm.comD, .int .i64 sm.warm, .int .i64 sm.many]) ∧ Below p.w1.heap.size p.w1 w') := Lib.hid C
    clear hg h hsm
    go_enter Try.func26, Try.ntmps26
    go_wp2_with (first | ((with_reducible refine St.at_loadg 36 ?_); (first | (refine load_st rfl _ rfl _ _ rfl s R1 ?_) | (refine load_st rfl _ rfl _ _ rfl s (B1 _) ?_))))
    refine (call_grown (p := (⟨(w.alloc (.cells s.cells 36)), Below.refl _ _⟩ : Grown (w.alloc (.cells s.cells 36)))) (G.out _)).mono ?_
    rintro _ _ ⟨rfl, p, rfl⟩
    go_wp2_with (first | ((with_reducible refine St.at_loadg 36 ?_); (first | (refine load_st rfl _ rfl _ _ rfl s R1 ?_) | (refine load_st rfl _ rfl _ _ rfl s (B1 _) ?_))))
    refine (call_grown (p := p) (C.out p)).mono ?_
    rintro _ _ ⟨rfl, p, rfl⟩
    go_wp2
    go_ret
    exact ⟨ret_int HV.out.symm, bTrans (bAlloc (Below.refl _ _) _) p.below⟩
  · have G := Lib.hid (refGoes_is s true (Lib.hid hg))
    have C := fun p : Grown (w.alloc (.cells s.cells 36)) => Thg.refOf_any s.iA s.iN s.iC L s.oA s.oN s.oC O s.ver p.w1 (h.box p).i (h.box p).o h.hn h.hm
    obtain ⟨sm, hsm⟩ : ∃ sm, ofS s.ver L s.iN O s.oN = sm := ⟨_, rfl⟩
    have HV : Hid (wtW s L O = sm.warm) := Lib.hid (by unfold wtW; rw [hg, ← hsm]; rfl)
    rw [hsm] at C
    replace C : Hid (∀ p : Grown (w.alloc (.cells s.cells 36)), Calls Try.prog 33 #[.slice s.iA s.iN s.iC, .slice s.oA s.oN s.oC, .int .u32 s.ver] p.w1 fun e w' => e = .returned (.agg #[.int .i64 sm.live, .int .i64 sm.liveD, .int .i64 sm.com, .int .i64 sm.comD, .int .i64 sm.warm, .int .i64 sm.many]) ∧ Below p.w1.heap.size p.w1 w') := Lib.hid C
    clear hg h hsm
    go_enter Try.func26, Try.ntmps26
    go_wp2_with (first | ((with_reducible refine St.at_loadg 36 ?_); (first | (refine load_st rfl _ rfl _ _ rfl s R1 ?_) | (refine load_st rfl _ rfl _ _ rfl s (B1 _) ?_))))
    refine (call_grown (p := (⟨(w.alloc (.cells s.cells 36)), Below.refl _ _⟩ : Grown (w.alloc (.cells s.cells 36)))) (G.out _)).mono ?_
    rintro _ _ ⟨rfl, p, rfl⟩
    go_wp2_with (first | ((with_reducible refine St.at_loadg 36 ?_); (first | (refine load_st rfl _ rfl _ _ rfl s R1 ?_) | (refine load_st rfl _ rfl _ _ rfl s (B1 _) ?_))))
    refine (call_grown (p := p) (C.out p)).mono ?_
    rintro _ _ ⟨rfl, p, rfl⟩
    go_wp2
    go_ret
    exact ⟨ret_int HV.out.symm, bTrans (bAlloc (Below.refl _ _) _) p.below⟩
def littleB (s : State) (L : Nat → Ins) (O : Nat → Opn) : Bool := mayW s L && decide (wtW s L O < s.c.warm)
section
attribute [local go_sem ↓] exec_st Go.wp_at_zero Go.wp_at_succ
set_option maxHeartbeats 2000000 in
theorem little_any (s : State) (L : Nat → Ins) (O : Nat → Opn) (w : World) (h : Sta s L O w) :
    Calls Try.prog 11 #[s.val] w fun e w' => e = .returned (.bool (littleB s L O)) ∧ Below w.heap.size w w' := by
  have B1 := box_new w s.cells 36
  have R1 : (w.alloc (.cells s.cells 36)).rangeAt w.heap.size 0 s.cells.toList := B1 ⟨_, Below.refl _ _⟩
  have f9 := s.f9
  have g9 := box_cell B1 s.f9
  have I0 := fun p : Grown (w.alloc (.cells s.cells 36)) => run_st (B1 p)
  rcases hm : mayW s L with _ | _
  · have HV : Hid (littleB s L O = false) := Lib.hid (by unfold littleB; rw [hm]; rfl)
    have M := Lib.hid (fun p : Grown (w.alloc (.cells s.cells 36)) => may_is s L O false hm p.w1 (h.box p))
    have C := Lib.hid (fun p : Grown (w.alloc (.cells s.cells 36)) => weight_any s L O p.w1 (h.box p))
    clear hm h
    go_enter Try.func11, Try.ntmps11
    go_wp2_with fail
    refine region_grown (by kernel_rfl) (by kernel_rfl) ?_
    repeat ((with_reducible refine wpQuiet_step (fun K hK => ?_)); go_simp; (first | (refine hK _ ?_; clear hK K) | (apply Exists.intro; refine ⟨fun _ => ?_, hK _ ?_⟩; (first | (go_at_call 17; exact call_grown (M.out _)) | (go_at_call 24; exact call_grown (C.out _))); clear hK K)))
    (with_reducible refine wpQuiet_nil ?_)
    rintro _ ⟨p, rfl⟩
    go_wp2
    go_ret
    exact ⟨ret_bool HV.out.symm, bTrans (bAlloc (Below.refl _ _) _) p.below⟩
  · have HV : Hid (littleB s L O = decide (wtW s L O < s.c.warm)) := Lib.hid (by unfold littleB; rw [hm]; rfl)
    have M := Lib.hid (fun p : Grown (w.alloc (.cells s.cells 36)) => may_is s L O true hm p.w1 (h.box p))
    have C := Lib.hid (fun p : Grown (w.alloc (.cells s.cells 36)) => weight_any s L O p.w1 (h.box p))
    clear hm h
    go_enter Try.func11, Try.ntmps11
    go_wp2_with fail
    refine region_grown (by kernel_rfl) (by kernel_rfl) ?_
    repeat ((with_reducible refine wpQuiet_step (fun K hK => ?_)); go_simp; (first | (refine hK _ ?_; clear hK K) | (apply Exists.intro; refine ⟨fun _ => ?_, hK _ ?_⟩; (first | (go_at_call 17; exact call_grown (M.out _)) | (go_at_call 24; exact call_grown (C.out _))); clear hK K)))
    (with_reducible refine wpQuiet_nil ?_)
    rintro _ ⟨p, rfl⟩
    go_wp2
    go_ret
    exact ⟨ret_bool (by first | exact HV.out.symm | (rw [HV.out]; simp)), bTrans (bAlloc (Below.refl _ _) _) p.below⟩
set_option maxHeartbeats 2000000 in
theorem refLittle_any (s : State) (L : Nat → Ins) (O : Nat → Opn) (w : World) (h : Sta s L O w) :
    Calls Try.prog 12 #[s.val] w fun e w' => e = .returned (.bool (littleB s L O)) ∧ Below w.heap.size w w' := by
  have B1 := box_new w s.cells 36
  have R1 : (w.alloc (.cells s.cells 36)).rangeAt w.heap.size 0 s.cells.toList := B1 ⟨_, Below.refl _ _⟩
  have f9 := s.f9
  have g9 := box_cell B1 s.f9
  have I0 := fun p : Grown (w.alloc (.cells s.cells 36)) => run_st (B1 p)
  rcases hm : mayW s L with _ | _
  · have HV : Hid (littleB s L O = false) := Lib.hid (by unfold littleB; rw [hm]; rfl)
    have M := Lib.hid (fun p : Grown (w.alloc (.cells s.cells 36)) => refMay_is s L O false hm p.w1 (h.box p))
    have C := Lib.hid (fun p : Grown (w.alloc (.cells s.cells 36)) => refWeight_any s L O p.w1 (h.box p))
    clear hm h
    go_enter Try.func12, Try.ntmps12
    go_wp2_with fail
    refine region_grown (by kernel_rfl) (by kernel_rfl) ?_
    repeat ((with_reducible refine wpQuiet_step (fun K hK => ?_)); go_simp; (first | (refine hK _ ?_; clear hK K) | (apply Exists.intro; refine ⟨fun _ => ?_, hK _ ?_⟩; (first | (go_at_call 22; exact call_grown (M.out _)) | (go_at_call 26; exact call_grown (C.out _))); clear hK K)))
    (with_reducible refine wpQuiet_nil ?_)
    rintro _ ⟨p, rfl⟩
    go_wp2
    go_ret
    exact ⟨ret_bool HV.out.symm, bTrans (bAlloc (Below.refl _ _) _) p.below⟩
  · have HV : Hid (littleB s L O = decide (wtW s L O < s.c.warm)) := Lib.hid (by unfold littleB; rw [hm]; rfl)
    have M := Lib.hid (fun p : Grown (w.alloc (.cells s.cells 36)) => refMay_is s L O true hm p.w1 (h.box p))
    have C := Lib.hid (fun p : Grown (w.alloc (.cells s.cells 36)) => refWeight_any s L O p.w1 (h.box p))
    clear hm h
    go_enter Try.func12, Try.ntmps12
    go_wp2_with fail
    refine region_grown (by kernel_rfl) (by kernel_rfl) ?_
    repeat ((with_reducible refine wpQuiet_step (fun K hK => ?_)); go_simp; (first | (refine hK _ ?_; clear hK K) | (apply Exists.intro; refine ⟨fun _ => ?_, hK _ ?_⟩; (first | (go_at_call 22; exact call_grown (M.out _)) | (go_at_call 26; exact call_grown (C.out _))); clear hK K)))
    (with_reducible refine wpQuiet_nil ?_)
    rintro _ ⟨p, rfl⟩
    go_wp2
    go_ret
    exact ⟨ret_bool (by first | exact HV.out.symm | (rw [HV.out]; simp)), bTrans (bAlloc (Below.refl _ _) _) p.below⟩
end
def greatB (s : State) : Bool := decide (300 < s.iN ∨ 300 < s.oN)
set_option maxHeartbeats 1000000 in
theorem great_any (s : State) (w : World) : Calls Try.prog 5 #[s.val] w fun e w' => e = .returned (.bool (greatB s)) ∧ Below w.heap.size w w' := by
  have f46 := s.f46
  have f47 := s.f47
  by_cases h1 : 300 < s.iN
  · have HV : Hid (greatB s = true) := Lib.hid (decide_eq_true (by omega))
    go_enter Try.func5, Try.ntmps5
    go_wp2
    go_ret
    exact ⟨ret_bool (by first | exact HV.out.symm | (rw [HV.out]; simp; omega)), bAlloc (Below.refl _ _) _⟩
  · by_cases h2 : 300 < s.oN
    · have HV : Hid (greatB s = true) := Lib.hid (decide_eq_true (by omega))
      go_enter Try.func5, Try.ntmps5
      go_wp2
      go_ret
      exact ⟨ret_bool (by first | exact HV.out.symm | (rw [HV.out]; simp; omega)), bAlloc (Below.refl _ _) _⟩
    · have HV : Hid (greatB s = false) := Lib.hid (decide_eq_false (by omega))
      go_enter Try.func5, Try.ntmps5
      go_wp2
      go_ret
      exact ⟨ret_bool (by first | exact HV.out.symm | (rw [HV.out]; simp; omega)), bAlloc (Below.refl _ _) _⟩
theorem great_is (s : State) (v : Bool) (hv : Hid (greatB s = v)) (w : World) : Calls Try.prog 5 #[s.val] w fun e w' => e = .returned (.bool v) ∧ Below w.heap.size w w' := by
  have := great_any s w; rw [hv.out] at this; exact this
theorem none_step {p : Nat → Bool} {k : Nat} (h : ∀ j, j < k → p j = false) (hk : p k = false) : ∀ j, j < k + 1 → p j = false := by
  intro j hj
  rcases Nat.lt_succ_iff_lt_or_eq.1 hj with h1 | rfl
  · exact h j h1
  · exact hk
/-- the first of a list that .. -/
def fstO (p : Ins → Bool) (L : Nat → Ins) : Nat → Option Nat
  | 0 => none
  | k + 1 => match fstO p L k with
    | some j => some j
    | none => if p (L k) = true then some k else none
theorem fst_none {p : Ins → Bool} {L : Nat → Ins} : ∀ k, (∀ j, j < k → p (L j) = false) → fstO p L k = none := by
  intro k
  induction k with
  | zero => intro _; rfl
  | succ k ih =>
    intro h
    have e := ih (fun j hj => h j (by omega))
    unfold fstO
    rw [e, h k (by omega)]; rfl
theorem fst_some {p : Ins → Bool} {L : Nat → Ins} {k : Nat} (h : ∀ j, j < k → p (L j) = false) (hk : p (L k) = true) : ∀ n, k < n → fstO p L n = some k := by
  intro n
  induction n with
  | zero => intro e; omega
  | succ n ih =>
    intro e
    unfold fstO
    by_cases hkn : k < n
    · rw [ih hkn]
    · obtain rfl : k = n := by omega
      rw [fst_none k h, hk]; rfl
theorem fst_is {p : Ins → Bool} {L : Nat → Ins} : ∀ n, (fstO p L n = none ∧ ∀ j, j < n → p (L j) = false) ∨ ∃ k, fstO p L n = some k ∧ k < n ∧ p (L k) = true ∧ ∀ j, j < k → p (L j) = false := by
  intro n
  induction n with
  | zero => exact .inl ⟨rfl, fun j hj => absurd hj (by omega)⟩
  | succ n ih =>
    rcases ih with ⟨e, h⟩ | ⟨k, e, h1, h2, h3⟩
    · rcases hp : p (L n) with _ | _
      · exact .inl ⟨fst_none _ (none_step (p := fun j => p (L j)) h hp), none_step (p := fun j => p (L j)) h hp⟩
      · exact .inr ⟨n, fst_some h hp _ (by omega), by omega, hp, h⟩
    · exact .inr ⟨k, fst_some h3 h2 _ (by omega), by omega, h2, h3⟩
def idO (L : Nat → Ins) (r : Option Nat) : Int := match r with | some k => (L k).id | none => 0
end Go.Proofs.Ytflnamahaclidaa.Wrm
