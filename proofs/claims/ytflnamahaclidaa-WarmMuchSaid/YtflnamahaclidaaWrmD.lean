
/- Layer 27: Draw, Much of the document. -/
import Derived.Test.YtflnamahaclidaaWrmC
namespace Go.Proofs.Ytflnamahaclidaa.Wrm
open Go.ChangeShapes Go.WideShapes Go.ChangeAt Go.RowKit
open Mem Arr Lst Rec Inst Grown Sums St Opens Extra
open Thg (ofS)
section
attribute [local go_sem ↓] exec_st exec_ins Go.wp_at_zero Go.wp_at_succ
set_option maxHeartbeats 4000000 in
theorem refDraw_any (s : State) (L : Nat → Ins) (O : Nat → Opn) (sp : Bool) (w : World) (h : Sta s L O w) :
    Calls Try.prog 8 #[s.val, .bool sp] w fun e w' => e = .returned (ans L (drawO s L sp)) ∧ Below w.heap.size w w' := by
  have B1 := box_new w s.cells 36
  have R1 : (w.alloc (.cells s.cells 36)).rangeAt w.heap.size 0 s.cells.toList := B1 ⟨_, Below.refl _ _⟩
  have f46 := s.f46
  have g46 := box_cell B1 s.f46
  have HS := Lib.hid (fun p : Grown (w.alloc (.cells s.cells 36)) => h.box p)
  have H := Lib.hid h.i
  have hn := h.hn
  obtain ⟨A, hA⟩ : ∃ A, s.iA = A := ⟨_, rfl⟩
  rw [hA] at f46 g46 H
  clear hA
  rcases hm : mayW s L with _ | _
  · have HV : Hid (drawO s L sp = none) := Lib.hid (by unfold drawO; rw [hm]; rfl)
    have M := Lib.hid (fun p : Grown (w.alloc (.cells s.cells 36)) => refMay_is s L O false hm p.w1 (HS.out p))
    clear hm h HS H
    go_enter Try.func8, Try.ntmps8
    go_wp2
    go_loopw [6] (fun i wr => i = .int .i64 0 ∧ Below (w.alloc (.cells s.cells 36)).heap.size (w.alloc (.cells s.cells 36)) wr) (fun _ _ => 0)
    case atStart => exact ⟨rfl, Below.refl _ _⟩
    case round =>
      obtain ⟨rfl, hb⟩ := hrel
      have g46' : wr.cell? ⟨w.heap.size, 46, none⟩ = some (.slice A s.iN s.iC) := g46 ⟨wr, hb⟩
      by_cases h0 : 0 < s.iN
      · skip
        go_wp2_with (first | ((with_reducible refine St.at_loadg 36 ?_); (first | (refine load_st rfl _ rfl _ _ rfl s R1 ?_) | (refine load_st rfl _ rfl _ _ rfl s (B1 ⟨wr, hb⟩) ?_) | (refine load_st rfl _ rfl _ _ rfl s (B1 _) ?_))))
        refine (call_grown (p := (⟨wr, hb⟩ : Grown (w.alloc (.cells s.cells 36)))) (M.out ⟨wr, hb⟩)).mono ?_
        rintro _ _ ⟨rfl, p, rfl⟩
        go_wp2
        go_ret2
        exact ⟨by rw [HV.out]; rfl, bTrans (bAlloc (Below.refl _ _) _) p.below⟩
      · obtain e0 : s.iN = 0 := by omega
        rw [e0] at g46'
        go_wp2
        go_ret2
        exact ⟨by rw [HV.out]; rfl, bTrans (bAlloc (Below.refl _ _) _) hb⟩
  · obtain ⟨P, hP⟩ : ∃ P : Ins → Bool, P = (fun x => decide (x.st = 8) && (x.spot == sp) && freshB s x) := ⟨_, rfl⟩
    have HV : Hid (drawO s L sp = fstO P L s.iN) := Lib.hid (by unfold drawO; rw [hm, hP]; rfl)
    have HP := Lib.hid (congrFun hP)
    have M := Lib.hid (fun p : Grown (w.alloc (.cells s.cells 36)) => refMay_is s L O true hm p.w1 (HS.out p))
    have CO := Lib.hid (fun (x : Ins) (q : Bool) (e : oldB s x = q) => refOld_is s x q (Lib.hid e))
    clear hm h HS hP
    go_enter Try.func8, Try.ntmps8
    go_wp2
    go_loopw [6] (fun i wr => ∃ k : Nat, k ≤ s.iN ∧ i = .int .i64 k ∧ Hid (∀ j, j < k → P (L j) = false) ∧ Below (w.alloc (.cells s.cells 36)).heap.size (w.alloc (.cells s.cells 36)) wr) (fun i _ => s.iN - (intOf i).toNat)
    case atStart => exact ⟨0, by omega, rfl, Lib.hid (fun j hj => absurd hj (by omega)), Below.refl _ _⟩
    case round =>
      obtain ⟨k, hk, rfl, ho, hb⟩ := hrel
      have g46' : wr.cell? ⟨w.heap.size, 46, none⟩ = some (.slice A s.iN s.iC) := g46 ⟨wr, hb⟩
      by_cases hlt : k < s.iN
      · obtain ⟨b, off, rfl⟩ := insts_at H.out (by omega)
        have EL := Lib.hid (fun p : Grown (w.alloc (.cells s.cells 36)) => ins_cells H.out (bTrans (bAlloc (Below.refl _ _) _) p.below) rfl hlt)
        have PB := Lib.hid (fun p : Grown (w.alloc (.cells s.cells 36)) => bAlloc p.below (.cells (L k).cells 44))
        by_cases h8 : (L k).st = 8
        · have d8 : ((L k).st == 8) = true := by simp [h8]
          by_cases hsp : (L k).spot = sp
          · have d4 : ((L k).spot == sp) = true := by simp [hsp]
            rcases hn1 : (L k).ntd with _ | _
            · rcases ho1 : oldB s (L k) with _ | _
              · have CS := Lib.hid (CO.out (L k) _ ho1)
                have hyes : P (L k) = true := by rw [HP.out]; unfold freshB; rw [hn1, ho1]; simp [h8, hsp]
                have HW : Hid (fstO P L s.iN = some k) := Lib.hid (fst_some ho.out hyes _ hlt)
                clear hyes ho1
                go_wp2_with (first | ((with_reducible refine St.at_loadg 36 ?_); (first | (refine load_st rfl _ rfl _ _ rfl s R1 ?_) | (refine load_st rfl _ rfl _ _ rfl s (B1 ⟨wr, hb⟩) ?_) | (refine load_st rfl _ rfl _ _ rfl s (B1 _) ?_))))
                refine (call_grown (p := (⟨wr, hb⟩ : Grown (w.alloc (.cells s.cells 36)))) (M.out ⟨wr, hb⟩)).mono ?_
                rintro _ _ ⟨rfl, p, rfl⟩
                have R := (EL.out p).2.1
                have g46p := g46 p
                have RX : (p.w1.alloc (.cells (L k).cells 44)).rangeAt p.w1.heap.size 0 (L k).cells.toList := range_new p.w1 (L k).cells 44
                have RS : (p.w1.alloc (.cells (L k).cells 44)).rangeAt w.heap.size 0 s.cells.toList := World.rangeAt_alloc (B1 p) _
                have x0 := cell_row' (heap_alloc_new p.w1 (.cells (L k).cells 44)) (L k).f0
                have x5 := cell_row' (heap_alloc_new p.w1 (.cells (L k).cells 44)) (L k).f5
                have x4 := cell_row' (heap_alloc_new p.w1 (.cells (L k).cells 44)) (L k).f4
                have x7 := cell_row' (heap_alloc_new p.w1 (.cells (L k).cells 44)) (L k).f7
                rw [hn1] at x7
                go_wp2_with (first | ((with_reducible refine St.at_load 44 ?_); (first | (refine load_ins rfl _ rfl _ _ rfl (L k) R ?_))) | ((with_reducible refine St.at_store 44 ?_); (first | (refine store_inp rfl _ _ rfl (L k) _ _ rfl rfl rfl ?_))) | ((with_reducible refine St.at_loadg 36 ?_); (first | (refine load_st rfl _ rfl _ _ rfl s RS ?_))) | ((with_reducible refine St.at_loadg 44 ?_); (first | (refine load_in rfl _ rfl _ _ rfl (L k) RX ?_))))
                refine (CS.out _).mono ?_
                rintro _ u ⟨rfl, bu⟩
                have B9 := bTrans (PB.out p) bu
                have y0 := ((bcell bu).1 p.w1.heap.size 0 (by simp)).trans x0
                go_wp2
                go_ret2
                exact ⟨by rw [HV.out, HW.out]; rfl, bTrans (bAlloc (Below.refl _ _) _) B9⟩
              · have CS := Lib.hid (CO.out (L k) _ ho1)
                have hno : P (L k) = false := by rw [HP.out]; unfold freshB; rw [hn1, ho1]; simp
                have HK : Hid (∀ j, j < k + 1 → P (L j) = false) := Lib.hid (none_step (p := fun j => P (L j)) ho.out hno)
                clear hno
                go_wp2_with (first | ((with_reducible refine St.at_loadg 36 ?_); (first | (refine load_st rfl _ rfl _ _ rfl s R1 ?_) | (refine load_st rfl _ rfl _ _ rfl s (B1 ⟨wr, hb⟩) ?_) | (refine load_st rfl _ rfl _ _ rfl s (B1 _) ?_))))
                refine (call_grown (p := (⟨wr, hb⟩ : Grown (w.alloc (.cells s.cells 36)))) (M.out ⟨wr, hb⟩)).mono ?_
                rintro _ _ ⟨rfl, p, rfl⟩
                have R := (EL.out p).2.1
                have g46p := g46 p
                have RX : (p.w1.alloc (.cells (L k).cells 44)).rangeAt p.w1.heap.size 0 (L k).cells.toList := range_new p.w1 (L k).cells 44
                have RS : (p.w1.alloc (.cells (L k).cells 44)).rangeAt w.heap.size 0 s.cells.toList := World.rangeAt_alloc (B1 p) _
                have x0 := cell_row' (heap_alloc_new p.w1 (.cells (L k).cells 44)) (L k).f0
                have x5 := cell_row' (heap_alloc_new p.w1 (.cells (L k).cells 44)) (L k).f5
                have x4 := cell_row' (heap_alloc_new p.w1 (.cells (L k).cells 44)) (L k).f4
                have x7 := cell_row' (heap_alloc_new p.w1 (.cells (L k).cells 44)) (L k).f7
                rw [hn1] at x7
                go_wp2_with (first | ((with_reducible refine St.at_load 44 ?_); (first | (refine load_ins rfl _ rfl _ _ rfl (L k) R ?_))) | ((with_reducible refine St.at_store 44 ?_); (first | (refine store_inp rfl _ _ rfl (L k) _ _ rfl rfl rfl ?_))) | ((with_reducible refine St.at_loadg 36 ?_); (first | (refine load_st rfl _ rfl _ _ rfl s RS ?_))) | ((with_reducible refine St.at_loadg 44 ?_); (first | (refine load_in rfl _ rfl _ _ rfl (L k) RX ?_))))
                refine (CS.out _).mono ?_
                rintro _ u ⟨rfl, bu⟩
                have B9 := bTrans (PB.out p) bu
                go_wp2
                go_roundw
                case rel => exact ⟨k + 1, by omega, by go_num, HK, B9⟩
                case measure => simp [intOf]; omega
            · skip
              have hno : P (L k) = false := by rw [HP.out]; unfold freshB; rw [hn1]; simp
              have HK : Hid (∀ j, j < k + 1 → P (L j) = false) := Lib.hid (none_step (p := fun j => P (L j)) ho.out hno)
              clear hno
              go_wp2_with (first | ((with_reducible refine St.at_loadg 36 ?_); (first | (refine load_st rfl _ rfl _ _ rfl s R1 ?_) | (refine load_st rfl _ rfl _ _ rfl s (B1 ⟨wr, hb⟩) ?_) | (refine load_st rfl _ rfl _ _ rfl s (B1 _) ?_))))
              refine (call_grown (p := (⟨wr, hb⟩ : Grown (w.alloc (.cells s.cells 36)))) (M.out ⟨wr, hb⟩)).mono ?_
              rintro _ _ ⟨rfl, p, rfl⟩
              have R := (EL.out p).2.1
              have g46p := g46 p
              have RX : (p.w1.alloc (.cells (L k).cells 44)).rangeAt p.w1.heap.size 0 (L k).cells.toList := range_new p.w1 (L k).cells 44
              have RS : (p.w1.alloc (.cells (L k).cells 44)).rangeAt w.heap.size 0 s.cells.toList := World.rangeAt_alloc (B1 p) _
              have x0 := cell_row' (heap_alloc_new p.w1 (.cells (L k).cells 44)) (L k).f0
              have x5 := cell_row' (heap_alloc_new p.w1 (.cells (L k).cells 44)) (L k).f5
              have x4 := cell_row' (heap_alloc_new p.w1 (.cells (L k).cells 44)) (L k).f4
              have x7 := cell_row' (heap_alloc_new p.w1 (.cells (L k).cells 44)) (L k).f7
              try rw [hn1] at x7
              have B9 := PB.out p
              go_wp2_with (first | ((with_reducible refine St.at_load 44 ?_); (first | (refine load_ins rfl _ rfl _ _ rfl (L k) R ?_))) | ((with_reducible refine St.at_store 44 ?_); (first | (refine store_inp rfl _ _ rfl (L k) _ _ rfl rfl rfl ?_))) | ((with_reducible refine St.at_loadg 36 ?_); (first | (refine load_st rfl _ rfl _ _ rfl s RS ?_))) | ((with_reducible refine St.at_loadg 44 ?_); (first | (refine load_in rfl _ rfl _ _ rfl (L k) RX ?_))))
              go_roundw
              case rel => exact ⟨k + 1, by omega, by go_num, HK, B9⟩
              case measure => simp [intOf]; omega
          · have d4 : ((L k).spot == sp) = false := by simp [hsp]
            have hno : P (L k) = false := by rw [HP.out]; simp [hsp]
            have HK : Hid (∀ j, j < k + 1 → P (L j) = false) := Lib.hid (none_step (p := fun j => P (L j)) ho.out hno)
            clear hno
            go_wp2_with (first | ((with_reducible refine St.at_loadg 36 ?_); (first | (refine load_st rfl _ rfl _ _ rfl s R1 ?_) | (refine load_st rfl _ rfl _ _ rfl s (B1 ⟨wr, hb⟩) ?_) | (refine load_st rfl _ rfl _ _ rfl s (B1 _) ?_))))
            refine (call_grown (p := (⟨wr, hb⟩ : Grown (w.alloc (.cells s.cells 36)))) (M.out ⟨wr, hb⟩)).mono ?_
            rintro _ _ ⟨rfl, p, rfl⟩
            have R := (EL.out p).2.1
            have g46p := g46 p
            have RX : (p.w1.alloc (.cells (L k).cells 44)).rangeAt p.w1.heap.size 0 (L k).cells.toList := range_new p.w1 (L k).cells 44
            have RS : (p.w1.alloc (.cells (L k).cells 44)).rangeAt w.heap.size 0 s.cells.toList := World.rangeAt_alloc (B1 p) _
            have x0 := cell_row' (heap_alloc_new p.w1 (.cells (L k).cells 44)) (L k).f0
            have x5 := cell_row' (heap_alloc_new p.w1 (.cells (L k).cells 44)) (L k).f5
            have x4 := cell_row' (heap_alloc_new p.w1 (.cells (L k).cells 44)) (L k).f4
            have x7 := cell_row' (heap_alloc_new p.w1 (.cells (L k).cells 44)) (L k).f7
            try rw [hn1] at x7
            have B9 := PB.out p
            go_wp2_with (first | ((with_reducible refine St.at_load 44 ?_); (first | (refine load_ins rfl _ rfl _ _ rfl (L k) R ?_))) | ((with_reducible refine St.at_store 44 ?_); (first | (refine store_inp rfl _ _ rfl (L k) _ _ rfl rfl rfl ?_))) | ((with_reducible refine St.at_loadg 36 ?_); (first | (refine load_st rfl _ rfl _ _ rfl s RS ?_))) | ((with_reducible refine St.at_loadg 44 ?_); (first | (refine load_in rfl _ rfl _ _ rfl (L k) RX ?_))))
            go_roundw
            case rel => exact ⟨k + 1, by omega, by go_num, HK, B9⟩
            case measure => simp [intOf]; omega
        · have d8 : ((L k).st == 8) = false := by simp [h8]
          have hno : P (L k) = false := by rw [HP.out]; simp [h8]
          have HK : Hid (∀ j, j < k + 1 → P (L j) = false) := Lib.hid (none_step (p := fun j => P (L j)) ho.out hno)
          clear hno
          go_wp2_with (first | ((with_reducible refine St.at_loadg 36 ?_); (first | (refine load_st rfl _ rfl _ _ rfl s R1 ?_) | (refine load_st rfl _ rfl _ _ rfl s (B1 ⟨wr, hb⟩) ?_) | (refine load_st rfl _ rfl _ _ rfl s (B1 _) ?_))))
          refine (call_grown (p := (⟨wr, hb⟩ : Grown (w.alloc (.cells s.cells 36)))) (M.out ⟨wr, hb⟩)).mono ?_
          rintro _ _ ⟨rfl, p, rfl⟩
          have R := (EL.out p).2.1
          have g46p := g46 p
          have RX : (p.w1.alloc (.cells (L k).cells 44)).rangeAt p.w1.heap.size 0 (L k).cells.toList := range_new p.w1 (L k).cells 44
          have RS : (p.w1.alloc (.cells (L k).cells 44)).rangeAt w.heap.size 0 s.cells.toList := World.rangeAt_alloc (B1 p) _
          have x0 := cell_row' (heap_alloc_new p.w1 (.cells (L k).cells 44)) (L k).f0
          have x5 := cell_row' (heap_alloc_new p.w1 (.cells (L k).cells 44)) (L k).f5
          have x4 := cell_row' (heap_alloc_new p.w1 (.cells (L k).cells 44)) (L k).f4
          have x7 := cell_row' (heap_alloc_new p.w1 (.cells (L k).cells 44)) (L k).f7
          try rw [hn1] at x7
          have B9 := PB.out p
          go_wp2_with (first | ((with_reducible refine St.at_load 44 ?_); (first | (refine load_ins rfl _ rfl _ _ rfl (L k) R ?_))) | ((with_reducible refine St.at_store 44 ?_); (first | (refine store_inp rfl _ _ rfl (L k) _ _ rfl rfl rfl ?_))) | ((with_reducible refine St.at_loadg 36 ?_); (first | (refine load_st rfl _ rfl _ _ rfl s RS ?_))) | ((with_reducible refine St.at_loadg 44 ?_); (first | (refine load_in rfl _ rfl _ _ rfl (L k) RX ?_))))
          go_roundw
          case rel => exact ⟨k + 1, by omega, by go_num, HK, B9⟩
          case measure => simp [intOf]; omega
      · have e : s.iN = k := by omega
        have HW : Hid (fstO P L s.iN = none) := Lib.hid (fst_none _ (fun j hj => ho.out j (by omega)))
        go_wp2
        go_ret2
        exact ⟨by rw [HV.out, HW.out]; rfl, bTrans (bAlloc (Below.refl _ _) _) hb⟩
set_option maxHeartbeats 8000000 in
theorem refMuch_any (s : State) (L : Nat → Ins) (O : Nat → Opn) (w : World) (h : Sta s L O w) :
    Calls Try.prog 10 #[s.val] w fun e w' => e = .returned (ans L (muchO s L O)) ∧ Below w.heap.size w w' := by
  have B1 := box_new w s.cells 36
  have R1 : (w.alloc (.cells s.cells 36)).rangeAt w.heap.size 0 s.cells.toList := B1 ⟨_, Below.refl _ _⟩
  have f46 := s.f46
  have g46 := box_cell B1 s.f46
  have g9 := box_cell B1 s.f9
  have HS := Lib.hid (fun p : Grown (w.alloc (.cells s.cells 36)) => h.box p)
  have H := Lib.hid h.i
  have hn := h.hn
  obtain ⟨A, hA⟩ : ∃ A, s.iA = A := ⟨_, rfl⟩
  rw [hA] at f46 g46 H
  clear hA
  rcases hm : mayW s L with _ | _
  · have HV : Hid (muchO s L O = none) := Lib.hid (by unfold muchO; rw [hm]; rfl)
    have M := Lib.hid (fun p : Grown (w.alloc (.cells s.cells 36)) => refMay_is s L O false hm p.w1 (HS.out p))
    clear hm h HS H
    go_enter Try.func10, Try.ntmps10
    go_wp2
    go_loopw [4] (fun i wr => i = .int .i64 0 ∧ Below (w.alloc (.cells s.cells 36)).heap.size (w.alloc (.cells s.cells 36)) wr) (fun _ _ => 0)
    case atStart => exact ⟨rfl, Below.refl _ _⟩
    case round =>
      obtain ⟨rfl, hb⟩ := hrel
      have g46' : wr.cell? ⟨w.heap.size, 46, none⟩ = some (.slice A s.iN s.iC) := g46 ⟨wr, hb⟩
      by_cases h0 : 0 < s.iN
      · skip
        go_wp2_with (first | ((with_reducible refine St.at_loadg 36 ?_); (first | (refine load_st rfl _ rfl _ _ rfl s R1 ?_) | (refine load_st rfl _ rfl _ _ rfl s (B1 ⟨wr, hb⟩) ?_) | (refine load_st rfl _ rfl _ _ rfl s (B1 _) ?_))))
        refine (call_grown (p := (⟨wr, hb⟩ : Grown (w.alloc (.cells s.cells 36)))) (M.out ⟨wr, hb⟩)).mono ?_
        rintro _ _ ⟨rfl, p, rfl⟩
        go_wp2
        go_loopw [5] (fun i wr => i = .int .i64 0 ∧ Below (w.alloc (.cells s.cells 36)).heap.size (w.alloc (.cells s.cells 36)) wr) (fun _ _ => 0)
        case atStart => exact ⟨rfl, p.below⟩
        case round =>
          obtain ⟨rfl, hb⟩ := hrel
          have g46' : wr.cell? ⟨w.heap.size, 46, none⟩ = some (.slice A s.iN s.iC) := g46 ⟨wr, hb⟩
          go_wp2_with (first | ((with_reducible refine St.at_loadg 36 ?_); (first | (refine load_st rfl _ rfl _ _ rfl s R1 ?_) | (refine load_st rfl _ rfl _ _ rfl s (B1 ⟨wr, hb⟩) ?_) | (refine load_st rfl _ rfl _ _ rfl s (B1 _) ?_))))
          refine (call_grown (p := (⟨wr, hb⟩ : Grown (w.alloc (.cells s.cells 36)))) (M.out ⟨wr, hb⟩)).mono ?_
          rintro _ _ ⟨rfl, p, rfl⟩
          go_wp2
          go_ret2
          exact ⟨by rw [HV.out]; rfl, bTrans (bAlloc (Below.refl _ _) _) p.below⟩
      · obtain e0 : s.iN = 0 := by omega
        rw [e0] at g46'
        go_wp2
        go_loopw [5] (fun i wr => i = .int .i64 0 ∧ Below (w.alloc (.cells s.cells 36)).heap.size (w.alloc (.cells s.cells 36)) wr) (fun _ _ => 0)
        case atStart => exact ⟨rfl, hb⟩
        case round =>
          obtain ⟨rfl, hb⟩ := hrel
          have g46' : wr.cell? ⟨w.heap.size, 46, none⟩ = some (.slice A s.iN s.iC) := g46 ⟨wr, hb⟩
          rw [e0] at g46'
          go_wp2
          go_ret2
          exact ⟨by rw [HV.out]; rfl, bTrans (bAlloc (Below.refl _ _) _) hb⟩
  · obtain ⟨P, hP⟩ : ∃ P : Ins → Bool, P = (fun x => decide (x.st = 8) && oldB s x) := ⟨_, rfl⟩
    obtain ⟨Q, hQ⟩ : ∃ Q : Ins → Bool, Q = (fun x => decide (x.st = 8) && roomB s (wtW s L O) x) := ⟨_, rfl⟩
    have HV1 : Hid (∀ k, fstO P L s.iN = some k → muchO s L O = some k) := Lib.hid (fun k e => by
      unfold muchO oldO; rw [if_pos hm, ← hP, e]; rfl)
    have HV2 : Hid (fstO P L s.iN = none → muchO s L O = fstO Q L s.iN) := Lib.hid (fun e => by
      unfold muchO oldO roomO; rw [if_pos hm, ← hP, e, ← hQ]; rfl)
    have HP := Lib.hid (congrFun hP)
    have HQ := Lib.hid (congrFun hQ)
    have M := Lib.hid (fun p : Grown (w.alloc (.cells s.cells 36)) => refMay_is s L O true hm p.w1 (HS.out p))
    have CO := Lib.hid (fun (x : Ins) (q : Bool) (e : oldB s x = q) => refOld_is s x q (Lib.hid e))
    have CW := Lib.hid (fun p : Grown (w.alloc (.cells s.cells 36)) => refWeight_any s L O p.w1 (HS.out p))
    clear hm h HS hP hQ
    go_enter Try.func10, Try.ntmps10
    go_wp2
    go_loopw [4] (fun i wr => ∃ k : Nat, k ≤ s.iN ∧ i = .int .i64 k ∧ Hid (∀ j, j < k → P (L j) = false) ∧ Below (w.alloc (.cells s.cells 36)).heap.size (w.alloc (.cells s.cells 36)) wr) (fun i _ => s.iN - (intOf i).toNat)
    case atStart => exact ⟨0, by omega, rfl, Lib.hid (fun j hj => absurd hj (by omega)), Below.refl _ _⟩
    case round =>
      obtain ⟨k, hk, rfl, ho, hb⟩ := hrel
      have g46' : wr.cell? ⟨w.heap.size, 46, none⟩ = some (.slice A s.iN s.iC) := g46 ⟨wr, hb⟩
      by_cases hlt : k < s.iN
      · obtain ⟨b, off, rfl⟩ := insts_at H.out (by omega)
        have EL := fun p : Grown (w.alloc (.cells s.cells 36)) => ins_cells H.out (bTrans (bAlloc (Below.refl _ _) _) p.below) rfl hlt
        have c0 := fun p : Grown (w.alloc (.cells s.cells 36)) => (EL p).2.2
        have c5 := fun p : Grown (w.alloc (.cells s.cells 36)) => (EL p).2.1 5 _ (by simpa using (L k).f5)
        have IX := fun p : Grown (w.alloc (.cells s.cells 36)) => run_ins (EL p).2.1
        have I0 := fun p : Grown (w.alloc (.cells s.cells 36)) => run_st (B1 p)
        clear EL
        by_cases h8 : (L k).st = 8
        · have d8 : ((L k).st == 8) = true := by simp [h8]
          rcases ho1 : oldB s (L k) with _ | _
          · have CS := Lib.hid (CO.out (L k) _ ho1)
            have hno : P (L k) = false := by rw [HP.out]; rw [ho1]; simp
            have HK : Hid (∀ j, j < k + 1 → P (L j) = false) := Lib.hid (none_step (p := fun j => P (L j)) ho.out hno)
            clear hno
            go_wp2_with (first | ((with_reducible refine St.at_loadg 36 ?_); (first | (refine load_st rfl _ rfl _ _ rfl s R1 ?_) | (refine load_st rfl _ rfl _ _ rfl s (B1 ⟨wr, hb⟩) ?_) | (refine load_st rfl _ rfl _ _ rfl s (B1 _) ?_))))
            refine (call_grown (p := (⟨wr, hb⟩ : Grown (w.alloc (.cells s.cells 36)))) (M.out ⟨wr, hb⟩)).mono ?_
            rintro _ _ ⟨rfl, p, rfl⟩
            go_wp2_with fail
            refine region_more (by kernel_rfl) (by kernel_rfl) ?_
            repeat ((with_reducible refine wpQuiet_step (fun K hK => ?_)); go_simp; (first | (refine hK _ ?_; clear hK K) | (apply Exists.intro; refine ⟨fun _ => ?_, hK _ ?_⟩; (first | (go_at_call 14; exact call_grown (CS.out _))); clear hK K)))
            (with_reducible refine wpQuiet_nil ?_)
            rintro _ ⟨p, rfl⟩
            go_wp2
            go_roundw
            case rel => exact ⟨k + 1, by omega, by go_num, HK, p.below⟩
            case measure => simp [intOf]; omega
          · have CS := Lib.hid (CO.out (L k) _ ho1)
            have hyes : P (L k) = true := by rw [HP.out, ho1]; simp [h8]
            have HW : Hid (muchO s L O = some k) := Lib.hid (HV1.out k (fst_some ho.out hyes _ hlt))
            clear hyes ho1
            go_wp2_with (first | ((with_reducible refine St.at_loadg 36 ?_); (first | (refine load_st rfl _ rfl _ _ rfl s R1 ?_) | (refine load_st rfl _ rfl _ _ rfl s (B1 ⟨wr, hb⟩) ?_) | (refine load_st rfl _ rfl _ _ rfl s (B1 _) ?_))))
            refine (call_grown (p := (⟨wr, hb⟩ : Grown (w.alloc (.cells s.cells 36)))) (M.out ⟨wr, hb⟩)).mono ?_
            rintro _ _ ⟨rfl, p, rfl⟩
            go_wp2_with fail
            refine region_more (by kernel_rfl) (by kernel_rfl) ?_
            repeat ((with_reducible refine wpQuiet_step (fun K hK => ?_)); go_simp; (first | (refine hK _ ?_; clear hK K) | (apply Exists.intro; refine ⟨fun _ => ?_, hK _ ?_⟩; (first | (go_at_call 14; exact call_grown (CS.out _))); clear hK K)))
            (with_reducible refine wpQuiet_nil ?_)
            rintro _ ⟨p, rfl⟩
            go_wp2
            go_ret2
            exact ⟨by rw [HW.out]; rfl, bTrans (bAlloc (Below.refl _ _) _) p.below⟩
        · have d8 : ((L k).st == 8) = false := by simp [h8]
          have hno : P (L k) = false := by rw [HP.out]; simp [h8]
          have HK : Hid (∀ j, j < k + 1 → P (L j) = false) := Lib.hid (none_step (p := fun j => P (L j)) ho.out hno)
          clear hno
          go_wp2_with (first | ((with_reducible refine St.at_loadg 36 ?_); (first | (refine load_st rfl _ rfl _ _ rfl s R1 ?_) | (refine load_st rfl _ rfl _ _ rfl s (B1 ⟨wr, hb⟩) ?_) | (refine load_st rfl _ rfl _ _ rfl s (B1 _) ?_))))
          refine (call_grown (p := (⟨wr, hb⟩ : Grown (w.alloc (.cells s.cells 36)))) (M.out ⟨wr, hb⟩)).mono ?_
          rintro _ _ ⟨rfl, p, rfl⟩
          go_wp2_with fail
          refine region_more (by kernel_rfl) (by kernel_rfl) ?_
          repeat ((with_reducible refine wpQuiet_step (fun K hK => ?_)); go_simp; (first | (refine hK _ ?_; clear hK K) | (apply Exists.intro; refine ⟨fun _ => ?_, hK _ ?_⟩; (first | (fail)); clear hK K)))
          (with_reducible refine wpQuiet_nil ?_)
          rintro _ ⟨p, rfl⟩
          go_wp2
          go_roundw
          case rel => exact ⟨k + 1, by omega, by go_num, HK, p.below⟩
          case measure => simp [intOf]; omega
      · have e : s.iN = k := by omega
        have HW : Hid (muchO s L O = fstO Q L s.iN) := Lib.hid (HV2.out (fst_none _ (fun j hj => ho.out j (by omega))))
        go_wp2
        go_loopw [5] (fun i wr => ∃ k : Nat, k ≤ s.iN ∧ i = .int .i64 k ∧ Hid (∀ j, j < k → Q (L j) = false) ∧ Below (w.alloc (.cells s.cells 36)).heap.size (w.alloc (.cells s.cells 36)) wr) (fun i _ => s.iN - (intOf i).toNat)
        case atStart => exact ⟨0, by omega, rfl, Lib.hid (fun j hj => absurd hj (by omega)), hb⟩
        clear e ho hb hlt hk g46'
        case round =>
          obtain ⟨k, hk, rfl, ho, hb⟩ := hrel
          have g46' : wr.cell? ⟨w.heap.size, 46, none⟩ = some (.slice A s.iN s.iC) := g46 ⟨wr, hb⟩
          by_cases hlt : k < s.iN
          · obtain ⟨b, off, rfl⟩ := insts_at H.out (by omega)
            have EL := fun p : Grown (w.alloc (.cells s.cells 36)) => ins_cells H.out (bTrans (bAlloc (Below.refl _ _) _) p.below) rfl hlt
            have c0 := fun p : Grown (w.alloc (.cells s.cells 36)) => (EL p).2.2
            have c3 := fun p : Grown (w.alloc (.cells s.cells 36)) => (EL p).2.1 3 _ (by simpa using (L k).f3)
            have c5 := fun p : Grown (w.alloc (.cells s.cells 36)) => (EL p).2.1 5 _ (by simpa using (L k).f5)
            have I0 := fun p : Grown (w.alloc (.cells s.cells 36)) => run_st (B1 p)
            clear EL
            by_cases h8 : (L k).st = 8
            · have d8 : ((L k).st == 8) = true := by simp [h8]
              obtain ⟨z, hz⟩ : ∃ z, IntKind.i64.wrap (wtW s L O - (L k).wt) = z := ⟨_, rfl⟩
              by_cases hr : s.c.warm ≤ z
              · have dr : decide (s.c.warm ≤ z) = true := decide_eq_true hr
                have hyes : Q (L k) = true := by rw [HQ.out]; unfold roomB; rw [hz, dr]; simp [h8]
                have HW : Hid (muchO s L O = some k) := Lib.hid (HW.out.trans (fst_some ho.out hyes _ hlt))
                clear hyes
                go_wp2_with (first | ((with_reducible refine St.at_loadg 36 ?_); (first | (refine load_st rfl _ rfl _ _ rfl s R1 ?_) | (refine load_st rfl _ rfl _ _ rfl s (B1 ⟨wr, hb⟩) ?_) | (refine load_st rfl _ rfl _ _ rfl s (B1 _) ?_))))
                refine (call_grown (p := (⟨wr, hb⟩ : Grown (w.alloc (.cells s.cells 36)))) (M.out ⟨wr, hb⟩)).mono ?_
                rintro _ _ ⟨rfl, p, rfl⟩
                go_wp2_with fail
                refine region_more (by kernel_rfl) (by kernel_rfl) ?_
                repeat ((with_reducible refine wpQuiet_step (fun K hK => ?_)); go_simp; (first | (refine hK _ ?_; clear hK K) | (apply Exists.intro; refine ⟨fun _ => ?_, hK _ ?_⟩; (first | (go_at_call 26; exact call_grown (CW.out _))); clear hK K)))
                (with_reducible refine wpQuiet_nil ?_)
                rintro _ ⟨p, rfl⟩
                go_wp2
                go_ret2
                exact ⟨by rw [HW.out]; rfl, bTrans (bAlloc (Below.refl _ _) _) p.below⟩
              · have dr : decide (s.c.warm ≤ z) = false := decide_eq_false hr
                have hno : Q (L k) = false := by rw [HQ.out]; unfold roomB; rw [hz, dr]; simp
                have HK : Hid (∀ j, j < k + 1 → Q (L j) = false) := Lib.hid (none_step (p := fun j => Q (L j)) ho.out hno)
                clear hno
                go_wp2_with (first | ((with_reducible refine St.at_loadg 36 ?_); (first | (refine load_st rfl _ rfl _ _ rfl s R1 ?_) | (refine load_st rfl _ rfl _ _ rfl s (B1 ⟨wr, hb⟩) ?_) | (refine load_st rfl _ rfl _ _ rfl s (B1 _) ?_))))
                refine (call_grown (p := (⟨wr, hb⟩ : Grown (w.alloc (.cells s.cells 36)))) (M.out ⟨wr, hb⟩)).mono ?_
                rintro _ _ ⟨rfl, p, rfl⟩
                go_wp2_with fail
                refine region_more (by kernel_rfl) (by kernel_rfl) ?_
                repeat ((with_reducible refine wpQuiet_step (fun K hK => ?_)); go_simp; (first | (refine hK _ ?_; clear hK K) | (apply Exists.intro; refine ⟨fun _ => ?_, hK _ ?_⟩; (first | (go_at_call 26; exact call_grown (CW.out _))); clear hK K)))
                (with_reducible refine wpQuiet_nil ?_)
                rintro _ ⟨p, rfl⟩
                go_wp2
                go_roundw
                case rel => exact ⟨k + 1, by omega, by go_num, HK, p.below⟩
                case measure => simp [intOf]; omega
            · have d8 : ((L k).st == 8) = false := by simp [h8]
              have hno : Q (L k) = false := by rw [HQ.out]; simp [h8]
              have HK : Hid (∀ j, j < k + 1 → Q (L j) = false) := Lib.hid (none_step (p := fun j => Q (L j)) ho.out hno)
              clear hno
              go_wp2_with (first | ((with_reducible refine St.at_loadg 36 ?_); (first | (refine load_st rfl _ rfl _ _ rfl s R1 ?_) | (refine load_st rfl _ rfl _ _ rfl s (B1 ⟨wr, hb⟩) ?_) | (refine load_st rfl _ rfl _ _ rfl s (B1 _) ?_))))
              refine (call_grown (p := (⟨wr, hb⟩ : Grown (w.alloc (.cells s.cells 36)))) (M.out ⟨wr, hb⟩)).mono ?_
              rintro _ _ ⟨rfl, p, rfl⟩
              go_wp2_with fail
              refine region_more (by kernel_rfl) (by kernel_rfl) ?_
              repeat ((with_reducible refine wpQuiet_step (fun K hK => ?_)); go_simp; (first | (refine hK _ ?_; clear hK K) | (apply Exists.intro; refine ⟨fun _ => ?_, hK _ ?_⟩; (first | (fail)); clear hK K)))
              (with_reducible refine wpQuiet_nil ?_)
              rintro _ ⟨p, rfl⟩
              go_wp2
              go_roundw
              case rel => exact ⟨k + 1, by omega, by go_num, HK, p.below⟩
              case measure => simp [intOf]; omega
          · have e : s.iN = k := by omega
            have HZ : Hid (muchO s L O = none) := Lib.hid (HW.out.trans (fst_none _ (fun j hj => ho.out j (by omega))))
            go_wp2
            go_ret2
            exact ⟨by rw [HZ.out]; rfl, bTrans (bAlloc (Below.refl _ _) _) hb⟩
end
end Go.Proofs.Ytflnamahaclidaa.Wrm
