
/- Contracts of layer 25: Of, Ceiling, Stops of the document. -/
import Derived.Test.YtpjglhllbgmbhaaExtD
import Derived.Test.YtpjglhllbgmbhaaOpens
namespace Go.Proofs.Ytpjglhllbgmbhaa.Extra
open Go.ChangeShapes Go.WideShapes Go.ChangeAt Go.RowKit
open NumM
open NumA hiding ret_bool
open Mem Arr Lst Rec Inst Grown Sums St Opens
theorem sum_none {q : Ins → Bool} {L : Nat → Ins} (h : ∀ x, q x = false) : ∀ k, sumI q L k = 0 ∧ topI q L k = 0 := by
  intro k
  induction k with
  | zero => exact ⟨rfl, rfl⟩
  | succ k ih =>
    obtain ⟨e1, e2⟩ := sum_off (p := q) (L := L) (k := k) (.inr (h _))
    rw [e1, e2]; exact ih
theorem old_none {s : State} (h : goesB s = false) (x : Ins) : oldB s x = false := by unfold oldB; rw [h]; rfl

set_option maxHeartbeats 4000000 in
theorem refOf_any (s : State) (L : Nat → Ins) (w : World) (h : Insts w w.heap.size s.iA s.iN L) (hn : s.iN ≤ 9223372036854775807) :
    Calls Try.prog 15 #[s.val] w fun e w' => e = .returned (.int .i64 (ofV s L)) ∧ Below w.heap.size w w' := by
  have B1 := box_new w s.cells 36
  have R1 : (w.alloc (.cells s.cells 36)).rangeAt w.heap.size 0 s.cells.toList := B1 ⟨_, Below.refl _ _⟩
  have f8 := s.f8
  have g8 := box_cell B1 s.f8
  have f16 := s.f16
  have g16 := box_cell B1 s.f16
  have f46 := s.f46
  have g46 := box_cell B1 s.f46
  rcases hm : mayS s L with _ | _
  · have HV : Hid (ofV s L = 0) := Lib.hid (by unfold ofV; rw [hm]; rfl)
    have M := Lib.hid (fun p : Grown (w.alloc (.cells s.cells 36)) => ready_is s L false (Lib.hid hm) p.w1 (insts_box h p) hn)
    clear hm h
    go_enter Try.func15, Try.ntmps15
    go_wp2_with (first | ((with_reducible refine at_loadg 36 ?_); (first | (refine load_st rfl _ rfl _ _ rfl s R1 ?_) | (refine load_st rfl _ rfl _ _ rfl s (B1 _) ?_))))
    refine (call_grown (p := (⟨(w.alloc (.cells s.cells 36)), Below.refl _ _⟩ : Grown (w.alloc (.cells s.cells 36)))) (M.out (⟨(w.alloc (.cells s.cells 36)), Below.refl _ _⟩ : Grown (w.alloc (.cells s.cells 36))))).mono ?_
    rintro _ _ ⟨rfl, p, rfl⟩
    go_wp2
    go_ret
    exact ⟨ret_int HV.out.symm, bTrans (bAlloc (Below.refl _ _) _) p.below⟩
  · have HV : Hid (ofV s L = mx (mn s.c.surge (sumI (risksB s) L s.iN)) (mn (sumI (oldB s) L s.iN) (mx (aboveV s) (topI (oldB s) L s.iN)))) := Lib.hid (by unfold ofV; rw [hm]; rfl)
    have M := Lib.hid (fun p : Grown (w.alloc (.cells s.cells 36)) => ready_is s L true (Lib.hid hm) p.w1 (insts_box h p) hn)
    have HM := Lib.hid (mayS_yes hm)
    have h4 := may_len (mayS_yes hm).2
    obtain ⟨A, hA⟩ : ∃ A, s.iA = A := ⟨_, rfl⟩
    rw [hA] at f46 g46 h
    clear hA hm
    have H := Lib.hid h
    clear h
    go_enter Try.func15, Try.ntmps15
    go_wp2_with (first | ((with_reducible refine at_loadg 36 ?_); (first | (refine load_st rfl _ rfl _ _ rfl s R1 ?_) | (refine load_st rfl _ rfl _ _ rfl s (B1 _) ?_))))
    refine (call_grown (p := (⟨(w.alloc (.cells s.cells 36)), Below.refl _ _⟩ : Grown (w.alloc (.cells s.cells 36)))) (M.out (⟨(w.alloc (.cells s.cells 36)), Below.refl _ _⟩ : Grown (w.alloc (.cells s.cells 36))))).mono ?_
    rintro _ _ ⟨rfl, p, rfl⟩
    go_wp2
    go_loopw [3, 4, 5, 6] (fun r d m i wr => ∃ k : Nat, k ≤ s.iN ∧ i = .int .i64 k ∧ r = .int .i64 (sumI (risksB s) L k) ∧ d = .int .i64 (sumI (oldB s) L k) ∧ m = .int .i64 (topI (oldB s) L k) ∧ Below (w.alloc (.cells s.cells 36)).heap.size (w.alloc (.cells s.cells 36)) wr) (fun _ _ _ i _ => s.iN - (intOf i).toNat)
    case atStart => exact ⟨0, by omega, rfl, rfl, rfl, rfl, p.below⟩
    case round =>
      obtain ⟨k, hk, rfl, rfl, rfl, rfl, hb⟩ := hrel
      have g46' : wr.cell? ⟨w.heap.size, 46, none⟩ = some (.slice A s.iN s.iC) := g46 ⟨wr, hb⟩
      have hsz : w.heap.size < wr.heap.size := by have := hb.size; simp at this; omega
      by_cases hlt : k < s.iN
      · obtain ⟨b, off, rfl⟩ := insts_at H.out (by omega)
        obtain ⟨hbl, R, c0⟩ := ins_cells H.out (bTrans (bAlloc (Below.refl _ _) _) hb) rfl hlt
        have y := ok_yes (may_ok HM.out.2 hlt)
        have z := sum_bd (p := risksB s) HM.out.2 k hk
        have z2 := sum_bd (p := oldB s) HM.out.2 k hk
        have B2 : ∀ p : Grown (wr.alloc (.cells (L k).cells 38)), p.w1.rangeAt wr.heap.size 0 (L k).cells.toList := box_new wr (L k).cells 38
        have R2 : (wr.alloc (.cells (L k).cells 38)).rangeAt wr.heap.size 0 (L k).cells.toList := B2 ⟨_, Below.refl _ _⟩
        have HS : ∀ p : Grown (wr.alloc (.cells (L k).cells 38)), Below (w.alloc (.cells s.cells 36)).heap.size (w.alloc (.cells s.cells 36)) p.w1 := fun p => bTrans (bAlloc hb _) p.below
        have B3 : ∀ p : Grown (wr.alloc (.cells (L k).cells 38)), p.w1.rangeAt w.heap.size 0 s.cells.toList := fun p => B1 ⟨p.w1, HS p⟩
        have h3 := box_cell B2 (L k).f3
        have h9 := box_cell B2 (L k).f9
        have k16 := box_cell B3 f16
        have HS := Lib.hid HS
        have W1 : IntKind.i64.wrap (sumI (risksB s) L k + (L k).wt) = sumI (risksB s) L k + (L k).wt := IntWalk.i64_in _ (by omega)
        have W2 : IntKind.i64.wrap (sumI (oldB s) L k + (L k).wt) = sumI (oldB s) L k + (L k).wt := IntWalk.i64_in _ (by omega)
        clear y z z2
        rcases h1 : servesB (L k) with _ | _
        · have S1 := Lib.hid (refServes_is (L k) false (Lib.hid h1))
          have E1 := Lib.hid (sum_off (p := risksB s) (L := L) (k := k) (.inl h1))
          have E2 := Lib.hid (sum_off (p := oldB s) (L := L) (k := k) (.inl h1))
          clear h1
          go_wp2_with (first | ((with_reducible refine at_load 38 ?_); (first | (refine load_ins rfl _ rfl _ _ rfl (L k) R ?_) | (refine load_in rfl _ rfl _ _ rfl (L k) R2 ?_) | (refine load_in rfl _ rfl _ _ rfl (L k) (B2 _) ?_))) | ((with_reducible refine at_store 38 ?_); (first | (refine store_inp rfl _ _ rfl (L k) _ _ rfl rfl rfl ?_))) | ((with_reducible refine at_load 36 ?_); (first | (refine load_st rfl _ rfl _ _ rfl s (B3 _) ?_))))
          refine (call_grown (p := (⟨(wr.alloc (.cells (L k).cells 38)), Below.refl _ _⟩ : Grown (wr.alloc (.cells (L k).cells 38)))) (S1.out _)).mono ?_
          rintro _ _ ⟨rfl, p, rfl⟩
          go_wp2
          go_roundw
          case rel => exact ⟨k + 1, by omega, by go_num, by rw [E1.out.1], by rw [E2.out.1], by rw [E2.out.2], HS.out p⟩
          case measure => simp [intOf]; omega
        · have S1 := Lib.hid (refServes_is (L k) true (Lib.hid h1))
          rcases h2 : s.c.replace with _ | _
          · have E1 := Lib.hid (sum_off (p := risksB s) (L := L) (k := k) (.inr (by unfold risksB; rw [h2]; simp)))
            rw [h2] at k16
            clear h2
            rcases h4 : oldB s (L k) with _ | _
            · have S2 := Lib.hid (refOld_is s (L k) false (Lib.hid h4))
              have E2 := Lib.hid (sum_off (p := oldB s) (L := L) (k := k) (.inr h4))
              clear h1 h4
              go_wp2_with (first | ((with_reducible refine at_load 38 ?_); (first | (refine load_ins rfl _ rfl _ _ rfl (L k) R ?_) | (refine load_in rfl _ rfl _ _ rfl (L k) R2 ?_) | (refine load_in rfl _ rfl _ _ rfl (L k) (B2 _) ?_))) | ((with_reducible refine at_store 38 ?_); (first | (refine store_inp rfl _ _ rfl (L k) _ _ rfl rfl rfl ?_))) | ((with_reducible refine at_load 36 ?_); (first | (refine load_st rfl _ rfl _ _ rfl s (B3 _) ?_))))
              refine (call_grown (p := (⟨(wr.alloc (.cells (L k).cells 38)), Below.refl _ _⟩ : Grown (wr.alloc (.cells (L k).cells 38)))) (S1.out _)).mono ?_
              rintro _ _ ⟨rfl, p, rfl⟩
              go_wp2_with (first | ((with_reducible refine at_load 38 ?_); (first | (refine load_ins rfl _ rfl _ _ rfl (L k) R ?_) | (refine load_in rfl _ rfl _ _ rfl (L k) R2 ?_) | (refine load_in rfl _ rfl _ _ rfl (L k) (B2 _) ?_))) | ((with_reducible refine at_store 38 ?_); (first | (refine store_inp rfl _ _ rfl (L k) _ _ rfl rfl rfl ?_))) | ((with_reducible refine at_load 36 ?_); (first | (refine load_st rfl _ rfl _ _ rfl s (B3 _) ?_))))
              refine (call_grown (p := p) (S2.out _)).mono ?_
              rintro _ _ ⟨rfl, p, rfl⟩
              go_wp2
              go_roundw
              case rel => exact ⟨k + 1, by omega, by go_num, by rw [E1.out.1], by rw [E2.out.1], by rw [E2.out.2], HS.out p⟩
              case measure => simp [intOf]; omega
            · have S2 := Lib.hid (refOld_is s (L k) true (Lib.hid h4))
              have E2 := Lib.hid (sum_on (p := oldB s) h1 h4)
              clear h1 h4
              by_cases h5 : topI (oldB s) L k < (L k).wt
              · have d5 := decide_eq_true h5
                go_wp2_with (first | ((with_reducible refine at_load 38 ?_); (first | (refine load_ins rfl _ rfl _ _ rfl (L k) R ?_) | (refine load_in rfl _ rfl _ _ rfl (L k) R2 ?_) | (refine load_in rfl _ rfl _ _ rfl (L k) (B2 _) ?_))) | ((with_reducible refine at_store 38 ?_); (first | (refine store_inp rfl _ _ rfl (L k) _ _ rfl rfl rfl ?_))) | ((with_reducible refine at_load 36 ?_); (first | (refine load_st rfl _ rfl _ _ rfl s (B3 _) ?_))))
                refine (call_grown (p := (⟨(wr.alloc (.cells (L k).cells 38)), Below.refl _ _⟩ : Grown (wr.alloc (.cells (L k).cells 38)))) (S1.out _)).mono ?_
                rintro _ _ ⟨rfl, p, rfl⟩
                go_wp2_with (first | ((with_reducible refine at_load 38 ?_); (first | (refine load_ins rfl _ rfl _ _ rfl (L k) R ?_) | (refine load_in rfl _ rfl _ _ rfl (L k) R2 ?_) | (refine load_in rfl _ rfl _ _ rfl (L k) (B2 _) ?_))) | ((with_reducible refine at_store 38 ?_); (first | (refine store_inp rfl _ _ rfl (L k) _ _ rfl rfl rfl ?_))) | ((with_reducible refine at_load 36 ?_); (first | (refine load_st rfl _ rfl _ _ rfl s (B3 _) ?_))))
                refine (call_grown (p := p) (S2.out _)).mono ?_
                rintro _ _ ⟨rfl, p, rfl⟩
                go_wp2
                go_roundw
                case rel => exact ⟨k + 1, by omega, by go_num, by rw [E1.out.1], by rw [E2.out.1], by rw [E2.out.2]; rw [if_pos (by omega)], HS.out p⟩
                case measure => simp [intOf]; omega
              · have d5 := decide_eq_false h5
                go_wp2_with (first | ((with_reducible refine at_load 38 ?_); (first | (refine load_ins rfl _ rfl _ _ rfl (L k) R ?_) | (refine load_in rfl _ rfl _ _ rfl (L k) R2 ?_) | (refine load_in rfl _ rfl _ _ rfl (L k) (B2 _) ?_))) | ((with_reducible refine at_store 38 ?_); (first | (refine store_inp rfl _ _ rfl (L k) _ _ rfl rfl rfl ?_))) | ((with_reducible refine at_load 36 ?_); (first | (refine load_st rfl _ rfl _ _ rfl s (B3 _) ?_))))
                refine (call_grown (p := (⟨(wr.alloc (.cells (L k).cells 38)), Below.refl _ _⟩ : Grown (wr.alloc (.cells (L k).cells 38)))) (S1.out _)).mono ?_
                rintro _ _ ⟨rfl, p, rfl⟩
                go_wp2_with (first | ((with_reducible refine at_load 38 ?_); (first | (refine load_ins rfl _ rfl _ _ rfl (L k) R ?_) | (refine load_in rfl _ rfl _ _ rfl (L k) R2 ?_) | (refine load_in rfl _ rfl _ _ rfl (L k) (B2 _) ?_))) | ((with_reducible refine at_store 38 ?_); (first | (refine store_inp rfl _ _ rfl (L k) _ _ rfl rfl rfl ?_))) | ((with_reducible refine at_load 36 ?_); (first | (refine load_st rfl _ rfl _ _ rfl s (B3 _) ?_))))
                refine (call_grown (p := p) (S2.out _)).mono ?_
                rintro _ _ ⟨rfl, p, rfl⟩
                go_wp2
                go_roundw
                case rel => exact ⟨k + 1, by omega, by go_num, by rw [E1.out.1], by rw [E2.out.1], by rw [E2.out.2]; rw [if_neg (by omega)], HS.out p⟩
                case measure => simp [intOf]; omega
          · rcases h6 : (L k).risk with _ | _
            · have E1 := Lib.hid (sum_off (p := risksB s) (L := L) (k := k) (.inr (by unfold risksB; rw [h6]; simp)))
              rw [h2] at k16
              rw [h6] at h9
              clear h2 h6
              rcases h4 : oldB s (L k) with _ | _
              · have S2 := Lib.hid (refOld_is s (L k) false (Lib.hid h4))
                have E2 := Lib.hid (sum_off (p := oldB s) (L := L) (k := k) (.inr h4))
                clear h1 h4
                go_wp2_with (first | ((with_reducible refine at_load 38 ?_); (first | (refine load_ins rfl _ rfl _ _ rfl (L k) R ?_) | (refine load_in rfl _ rfl _ _ rfl (L k) R2 ?_) | (refine load_in rfl _ rfl _ _ rfl (L k) (B2 _) ?_))) | ((with_reducible refine at_store 38 ?_); (first | (refine store_inp rfl _ _ rfl (L k) _ _ rfl rfl rfl ?_))) | ((with_reducible refine at_load 36 ?_); (first | (refine load_st rfl _ rfl _ _ rfl s (B3 _) ?_))))
                refine (call_grown (p := (⟨(wr.alloc (.cells (L k).cells 38)), Below.refl _ _⟩ : Grown (wr.alloc (.cells (L k).cells 38)))) (S1.out _)).mono ?_
                rintro _ _ ⟨rfl, p, rfl⟩
                go_wp2_with (first | ((with_reducible refine at_load 38 ?_); (first | (refine load_ins rfl _ rfl _ _ rfl (L k) R ?_) | (refine load_in rfl _ rfl _ _ rfl (L k) R2 ?_) | (refine load_in rfl _ rfl _ _ rfl (L k) (B2 _) ?_))) | ((with_reducible refine at_store 38 ?_); (first | (refine store_inp rfl _ _ rfl (L k) _ _ rfl rfl rfl ?_))) | ((with_reducible refine at_load 36 ?_); (first | (refine load_st rfl _ rfl _ _ rfl s (B3 _) ?_))))
                refine (call_grown (p := p) (S2.out _)).mono ?_
                rintro _ _ ⟨rfl, p, rfl⟩
                go_wp2
                go_roundw
                case rel => exact ⟨k + 1, by omega, by go_num, by rw [E1.out.1], by rw [E2.out.1], by rw [E2.out.2], HS.out p⟩
                case measure => simp [intOf]; omega
              · have S2 := Lib.hid (refOld_is s (L k) true (Lib.hid h4))
                have E2 := Lib.hid (sum_on (p := oldB s) h1 h4)
                clear h1 h4
                by_cases h5 : topI (oldB s) L k < (L k).wt
                · have d5 := decide_eq_true h5
                  go_wp2_with (first | ((with_reducible refine at_load 38 ?_); (first | (refine load_ins rfl _ rfl _ _ rfl (L k) R ?_) | (refine load_in rfl _ rfl _ _ rfl (L k) R2 ?_) | (refine load_in rfl _ rfl _ _ rfl (L k) (B2 _) ?_))) | ((with_reducible refine at_store 38 ?_); (first | (refine store_inp rfl _ _ rfl (L k) _ _ rfl rfl rfl ?_))) | ((with_reducible refine at_load 36 ?_); (first | (refine load_st rfl _ rfl _ _ rfl s (B3 _) ?_))))
                  refine (call_grown (p := (⟨(wr.alloc (.cells (L k).cells 38)), Below.refl _ _⟩ : Grown (wr.alloc (.cells (L k).cells 38)))) (S1.out _)).mono ?_
                  rintro _ _ ⟨rfl, p, rfl⟩
                  go_wp2_with (first | ((with_reducible refine at_load 38 ?_); (first | (refine load_ins rfl _ rfl _ _ rfl (L k) R ?_) | (refine load_in rfl _ rfl _ _ rfl (L k) R2 ?_) | (refine load_in rfl _ rfl _ _ rfl (L k) (B2 _) ?_))) | ((with_reducible refine at_store 38 ?_); (first | (refine store_inp rfl _ _ rfl (L k) _ _ rfl rfl rfl ?_))) | ((with_reducible refine at_load 36 ?_); (first | (refine load_st rfl _ rfl _ _ rfl s (B3 _) ?_))))
                  refine (call_grown (p := p) (S2.out _)).mono ?_
                  rintro _ _ ⟨rfl, p, rfl⟩
                  go_wp2
                  go_roundw
                  case rel => exact ⟨k + 1, by omega, by go_num, by rw [E1.out.1], by rw [E2.out.1], by rw [E2.out.2]; rw [if_pos (by omega)], HS.out p⟩
                  case measure => simp [intOf]; omega
                · have d5 := decide_eq_false h5
                  go_wp2_with (first | ((with_reducible refine at_load 38 ?_); (first | (refine load_ins rfl _ rfl _ _ rfl (L k) R ?_) | (refine load_in rfl _ rfl _ _ rfl (L k) R2 ?_) | (refine load_in rfl _ rfl _ _ rfl (L k) (B2 _) ?_))) | ((with_reducible refine at_store 38 ?_); (first | (refine store_inp rfl _ _ rfl (L k) _ _ rfl rfl rfl ?_))) | ((with_reducible refine at_load 36 ?_); (first | (refine load_st rfl _ rfl _ _ rfl s (B3 _) ?_))))
                  refine (call_grown (p := (⟨(wr.alloc (.cells (L k).cells 38)), Below.refl _ _⟩ : Grown (wr.alloc (.cells (L k).cells 38)))) (S1.out _)).mono ?_
                  rintro _ _ ⟨rfl, p, rfl⟩
                  go_wp2_with (first | ((with_reducible refine at_load 38 ?_); (first | (refine load_ins rfl _ rfl _ _ rfl (L k) R ?_) | (refine load_in rfl _ rfl _ _ rfl (L k) R2 ?_) | (refine load_in rfl _ rfl _ _ rfl (L k) (B2 _) ?_))) | ((with_reducible refine at_store 38 ?_); (first | (refine store_inp rfl _ _ rfl (L k) _ _ rfl rfl rfl ?_))) | ((with_reducible refine at_load 36 ?_); (first | (refine load_st rfl _ rfl _ _ rfl s (B3 _) ?_))))
                  refine (call_grown (p := p) (S2.out _)).mono ?_
                  rintro _ _ ⟨rfl, p, rfl⟩
                  go_wp2
                  go_roundw
                  case rel => exact ⟨k + 1, by omega, by go_num, by rw [E1.out.1], by rw [E2.out.1], by rw [E2.out.2]; rw [if_neg (by omega)], HS.out p⟩
                  case measure => simp [intOf]; omega
            · have E1 := Lib.hid (sum_on (p := risksB s) (L := L) (k := k) h1 (by unfold risksB; rw [h2, h6]; rfl))
              rw [h2] at k16
              rw [h6] at h9
              clear h2 h6
              rcases h4 : oldB s (L k) with _ | _
              · have S2 := Lib.hid (refOld_is s (L k) false (Lib.hid h4))
                have E2 := Lib.hid (sum_off (p := oldB s) (L := L) (k := k) (.inr h4))
                clear h1 h4
                go_wp2_with (first | ((with_reducible refine at_load 38 ?_); (first | (refine load_ins rfl _ rfl _ _ rfl (L k) R ?_) | (refine load_in rfl _ rfl _ _ rfl (L k) R2 ?_) | (refine load_in rfl _ rfl _ _ rfl (L k) (B2 _) ?_))) | ((with_reducible refine at_store 38 ?_); (first | (refine store_inp rfl _ _ rfl (L k) _ _ rfl rfl rfl ?_))) | ((with_reducible refine at_load 36 ?_); (first | (refine load_st rfl _ rfl _ _ rfl s (B3 _) ?_))))
                refine (call_grown (p := (⟨(wr.alloc (.cells (L k).cells 38)), Below.refl _ _⟩ : Grown (wr.alloc (.cells (L k).cells 38)))) (S1.out _)).mono ?_
                rintro _ _ ⟨rfl, p, rfl⟩
                go_wp2_with (first | ((with_reducible refine at_load 38 ?_); (first | (refine load_ins rfl _ rfl _ _ rfl (L k) R ?_) | (refine load_in rfl _ rfl _ _ rfl (L k) R2 ?_) | (refine load_in rfl _ rfl _ _ rfl (L k) (B2 _) ?_))) | ((with_reducible refine at_store 38 ?_); (first | (refine store_inp rfl _ _ rfl (L k) _ _ rfl rfl rfl ?_))) | ((with_reducible refine at_load 36 ?_); (first | (refine load_st rfl _ rfl _ _ rfl s (B3 _) ?_))))
                refine (call_grown (p := p) (S2.out _)).mono ?_
                rintro _ _ ⟨rfl, p, rfl⟩
                go_wp2
                go_roundw
                case rel => exact ⟨k + 1, by omega, by go_num, by rw [E1.out.1], by rw [E2.out.1], by rw [E2.out.2], HS.out p⟩
                case measure => simp [intOf]; omega
              · have S2 := Lib.hid (refOld_is s (L k) true (Lib.hid h4))
                have E2 := Lib.hid (sum_on (p := oldB s) h1 h4)
                clear h1 h4
                by_cases h5 : topI (oldB s) L k < (L k).wt
                · have d5 := decide_eq_true h5
                  go_wp2_with (first | ((with_reducible refine at_load 38 ?_); (first | (refine load_ins rfl _ rfl _ _ rfl (L k) R ?_) | (refine load_in rfl _ rfl _ _ rfl (L k) R2 ?_) | (refine load_in rfl _ rfl _ _ rfl (L k) (B2 _) ?_))) | ((with_reducible refine at_store 38 ?_); (first | (refine store_inp rfl _ _ rfl (L k) _ _ rfl rfl rfl ?_))) | ((with_reducible refine at_load 36 ?_); (first | (refine load_st rfl _ rfl _ _ rfl s (B3 _) ?_))))
                  refine (call_grown (p := (⟨(wr.alloc (.cells (L k).cells 38)), Below.refl _ _⟩ : Grown (wr.alloc (.cells (L k).cells 38)))) (S1.out _)).mono ?_
                  rintro _ _ ⟨rfl, p, rfl⟩
                  go_wp2_with (first | ((with_reducible refine at_load 38 ?_); (first | (refine load_ins rfl _ rfl _ _ rfl (L k) R ?_) | (refine load_in rfl _ rfl _ _ rfl (L k) R2 ?_) | (refine load_in rfl _ rfl _ _ rfl (L k) (B2 _) ?_))) | ((with_reducible refine at_store 38 ?_); (first | (refine store_inp rfl _ _ rfl (L k) _ _ rfl rfl rfl ?_))) | ((with_reducible refine at_load 36 ?_); (first | (refine load_st rfl _ rfl _ _ rfl s (B3 _) ?_))))
                  refine (call_grown (p := p) (S2.out _)).mono ?_
                  rintro _ _ ⟨rfl, p, rfl⟩
                  go_wp2
                  go_roundw
                  case rel => exact ⟨k + 1, by omega, by go_num, by rw [E1.out.1], by rw [E2.out.1], by rw [E2.out.2]; rw [if_pos (by omega)], HS.out p⟩
                  case measure => simp [intOf]; omega
                · have d5 := decide_eq_false h5
                  go_wp2_with (first | ((with_reducible refine at_load 38 ?_); (first | (refine load_ins rfl _ rfl _ _ rfl (L k) R ?_) | (refine load_in rfl _ rfl _ _ rfl (L k) R2 ?_) | (refine load_in rfl _ rfl _ _ rfl (L k) (B2 _) ?_))) | ((with_reducible refine at_store 38 ?_); (first | (refine store_inp rfl _ _ rfl (L k) _ _ rfl rfl rfl ?_))) | ((with_reducible refine at_load 36 ?_); (first | (refine load_st rfl _ rfl _ _ rfl s (B3 _) ?_))))
                  refine (call_grown (p := (⟨(wr.alloc (.cells (L k).cells 38)), Below.refl _ _⟩ : Grown (wr.alloc (.cells (L k).cells 38)))) (S1.out _)).mono ?_
                  rintro _ _ ⟨rfl, p, rfl⟩
                  go_wp2_with (first | ((with_reducible refine at_load 38 ?_); (first | (refine load_ins rfl _ rfl _ _ rfl (L k) R ?_) | (refine load_in rfl _ rfl _ _ rfl (L k) R2 ?_) | (refine load_in rfl _ rfl _ _ rfl (L k) (B2 _) ?_))) | ((with_reducible refine at_store 38 ?_); (first | (refine store_inp rfl _ _ rfl (L k) _ _ rfl rfl rfl ?_))) | ((with_reducible refine at_load 36 ?_); (first | (refine load_st rfl _ rfl _ _ rfl s (B3 _) ?_))))
                  refine (call_grown (p := p) (S2.out _)).mono ?_
                  rintro _ _ ⟨rfl, p, rfl⟩
                  go_wp2
                  go_roundw
                  case rel => exact ⟨k + 1, by omega, by go_num, by rw [E1.out.1], by rw [E2.out.1], by rw [E2.out.2]; rw [if_neg (by omega)], HS.out p⟩
                  case measure => simp [intOf]; omega
      · obtain rfl : k = s.iN := by omega
        have g8' : wr.cell? ⟨w.heap.size, 8, none⟩ = some (.int .i64 s.c.surge) := g8 ⟨wr, hb⟩
        have y := num_yes HM.out.1
        have z := sum_bd (p := risksB s) HM.out.2 s.iN (Nat.le_refl _)
        have z2 := sum_bd (p := oldB s) HM.out.2 s.iN (Nat.le_refl _)
        rcases h3 : goesB s with _ | _
        · have G := Lib.hid (refGoes_is s false (Lib.hid h3))
          have N := sum_none (L := L) (old_none h3) s.iN
          have a0 : aboveV s = 0 := by unfold aboveV; rw [h3]; rfl
          have HV : Hid (ofV s L = mn s.c.surge (sumI (risksB s) L s.iN)) := Lib.hid (by rw [HV.out, N.1, N.2, a0]; unfold mx mn; omega)
          clear h3 N a0 y z z2
          by_cases h1 : s.c.surge < sumI (risksB s) L s.iN

          · have d1 := decide_eq_true h1
            go_wp2_with (first | ((with_reducible refine at_loadg 36 ?_); (first | (refine load_st rfl _ rfl _ _ rfl s (B1 ⟨wr, hb⟩) ?_) | (refine load_st rfl _ rfl _ _ rfl s (B1 _) ?_))))
            refine (call_grown (p := (⟨wr, hb⟩ : Grown (w.alloc (.cells s.cells 36)))) (G.out _)).mono ?_
            rintro _ _ ⟨rfl, p, rfl⟩
            go_wp2
            go_ret
            exact ⟨ret_int (by rw [HV.out]; unfold mn; omega), bTrans (bAlloc (Below.refl _ _) _) p.below⟩
          · have d1 := decide_eq_false h1
            go_wp2_with (first | ((with_reducible refine at_loadg 36 ?_); (first | (refine load_st rfl _ rfl _ _ rfl s (B1 ⟨wr, hb⟩) ?_) | (refine load_st rfl _ rfl _ _ rfl s (B1 _) ?_))))
            refine (call_grown (p := (⟨wr, hb⟩ : Grown (w.alloc (.cells s.cells 36)))) (G.out _)).mono ?_
            rintro _ _ ⟨rfl, p, rfl⟩
            go_wp2
            go_ret
            exact ⟨ret_int (by rw [HV.out]; unfold mn; omega), bTrans (bAlloc (Below.refl _ _) _) p.below⟩
        · have G := Lib.hid (refGoes_is s true (Lib.hid h3))
          have C := Lib.hid (more_any s HM.out.1 h3)
          clear h3 y z z2
          by_cases h1 : s.c.surge < sumI (risksB s) L s.iN
          · have d1 := decide_eq_true h1
            by_cases h2 : topI (oldB s) L s.iN < aboveV s
            · have d2 := decide_eq_true h2
              go_wp2_with (first | ((with_reducible refine at_loadg 36 ?_); (first | (refine load_st rfl _ rfl _ _ rfl s (B1 ⟨wr, hb⟩) ?_) | (refine load_st rfl _ rfl _ _ rfl s (B1 _) ?_))))
              refine (call_grown (p := (⟨wr, hb⟩ : Grown (w.alloc (.cells s.cells 36)))) (G.out _)).mono ?_
              rintro _ _ ⟨rfl, p, rfl⟩
              go_wp2_with (first | ((with_reducible refine at_loadg 36 ?_); (first | (refine load_st rfl _ rfl _ _ rfl s (B1 ⟨wr, hb⟩) ?_) | (refine load_st rfl _ rfl _ _ rfl s (B1 _) ?_))))
              refine (call_grown (p := p) (C.out _)).mono ?_
              rintro _ _ ⟨rfl, p, rfl⟩
              go_wp2_with (first | ((with_reducible refine at_loadg 36 ?_); (first | (refine load_st rfl _ rfl _ _ rfl s (B1 ⟨wr, hb⟩) ?_) | (refine load_st rfl _ rfl _ _ rfl s (B1 _) ?_))))
              refine (call_grown (p := p) (C.out _)).mono ?_
              rintro _ _ ⟨rfl, p, rfl⟩
              go_wp2
              all_goals
                go_ret
                exact ⟨ret_int (by rw [HV.out]; unfold mx mn; omega), bTrans (bAlloc (Below.refl _ _) _) p.below⟩
            · have d2 := decide_eq_false h2
              go_wp2_with (first | ((with_reducible refine at_loadg 36 ?_); (first | (refine load_st rfl _ rfl _ _ rfl s (B1 ⟨wr, hb⟩) ?_) | (refine load_st rfl _ rfl _ _ rfl s (B1 _) ?_))))
              refine (call_grown (p := (⟨wr, hb⟩ : Grown (w.alloc (.cells s.cells 36)))) (G.out _)).mono ?_
              rintro _ _ ⟨rfl, p, rfl⟩
              go_wp2_with (first | ((with_reducible refine at_loadg 36 ?_); (first | (refine load_st rfl _ rfl _ _ rfl s (B1 ⟨wr, hb⟩) ?_) | (refine load_st rfl _ rfl _ _ rfl s (B1 _) ?_))))
              refine (call_grown (p := p) (C.out _)).mono ?_
              rintro _ _ ⟨rfl, p, rfl⟩
              go_wp2
              all_goals
                go_ret
                exact ⟨ret_int (by rw [HV.out]; unfold mx mn; omega), bTrans (bAlloc (Below.refl _ _) _) p.below⟩
          · have d1 := decide_eq_false h1
            by_cases h2 : topI (oldB s) L s.iN < aboveV s
            · have d2 := decide_eq_true h2
              go_wp2_with (first | ((with_reducible refine at_loadg 36 ?_); (first | (refine load_st rfl _ rfl _ _ rfl s (B1 ⟨wr, hb⟩) ?_) | (refine load_st rfl _ rfl _ _ rfl s (B1 _) ?_))))
              refine (call_grown (p := (⟨wr, hb⟩ : Grown (w.alloc (.cells s.cells 36)))) (G.out _)).mono ?_
              rintro _ _ ⟨rfl, p, rfl⟩
              go_wp2_with (first | ((with_reducible refine at_loadg 36 ?_); (first | (refine load_st rfl _ rfl _ _ rfl s (B1 ⟨wr, hb⟩) ?_) | (refine load_st rfl _ rfl _ _ rfl s (B1 _) ?_))))
              refine (call_grown (p := p) (C.out _)).mono ?_
              rintro _ _ ⟨rfl, p, rfl⟩
              go_wp2_with (first | ((with_reducible refine at_loadg 36 ?_); (first | (refine load_st rfl _ rfl _ _ rfl s (B1 ⟨wr, hb⟩) ?_) | (refine load_st rfl _ rfl _ _ rfl s (B1 _) ?_))))
              refine (call_grown (p := p) (C.out _)).mono ?_
              rintro _ _ ⟨rfl, p, rfl⟩
              go_wp2
              all_goals
                go_ret
                exact ⟨ret_int (by rw [HV.out]; unfold mx mn; omega), bTrans (bAlloc (Below.refl _ _) _) p.below⟩
            · have d2 := decide_eq_false h2
              go_wp2_with (first | ((with_reducible refine at_loadg 36 ?_); (first | (refine load_st rfl _ rfl _ _ rfl s (B1 ⟨wr, hb⟩) ?_) | (refine load_st rfl _ rfl _ _ rfl s (B1 _) ?_))))
              refine (call_grown (p := (⟨wr, hb⟩ : Grown (w.alloc (.cells s.cells 36)))) (G.out _)).mono ?_
              rintro _ _ ⟨rfl, p, rfl⟩
              go_wp2_with (first | ((with_reducible refine at_loadg 36 ?_); (first | (refine load_st rfl _ rfl _ _ rfl s (B1 ⟨wr, hb⟩) ?_) | (refine load_st rfl _ rfl _ _ rfl s (B1 _) ?_))))
              refine (call_grown (p := p) (C.out _)).mono ?_
              rintro _ _ ⟨rfl, p, rfl⟩
              go_wp2
              all_goals
                go_ret
                exact ⟨ret_int (by rw [HV.out]; unfold mx mn; omega), bTrans (bAlloc (Below.refl _ _) _) p.below⟩
set_option maxHeartbeats 4000000 in
theorem refCeil_any (s : State) (L : Nat → Ins) (w : World) (h : Insts w w.heap.size s.iA s.iN L) (hn : s.iN ≤ 9223372036854775807) :
    Calls Try.prog 17 #[s.val] w fun e w' => e = .returned (.int .i64 (ceilV s L)) ∧ Below w.heap.size w w' := by
  have B1 := box_new w s.cells 36
  have R1 : (w.alloc (.cells s.cells 36)).rangeAt w.heap.size 0 s.cells.toList := B1 ⟨_, Below.refl _ _⟩
  have f8 := s.f8
  have g8 := box_cell B1 s.f8
  have f42 := s.f42
  have g42 := box_cell B1 s.f42
  rcases hm : mayS s L with _ | _
  · have HV : Hid (ceilV s L = 0) := Lib.hid (by unfold ceilV; rw [hm]; rfl)
    have M := Lib.hid (fun p : Grown (w.alloc (.cells s.cells 36)) => ready_is s L false (Lib.hid hm) p.w1 (insts_box h p) hn)
    clear hm h
    go_enter Try.func17, Try.ntmps17
    go_wp2_with (first | ((with_reducible refine at_loadg 36 ?_); (first | (refine load_st rfl _ rfl _ _ rfl s R1 ?_) | (refine load_st rfl _ rfl _ _ rfl s (B1 _) ?_))))
    refine (call_grown (p := (⟨(w.alloc (.cells s.cells 36)), Below.refl _ _⟩ : Grown (w.alloc (.cells s.cells 36)))) (M.out (⟨(w.alloc (.cells s.cells 36)), Below.refl _ _⟩ : Grown (w.alloc (.cells s.cells 36))))).mono ?_
    rintro _ _ ⟨rfl, p, rfl⟩
    go_wp2
    go_ret
    exact ⟨ret_int HV.out.symm, bTrans (bAlloc (Below.refl _ _) _) p.below⟩
  · have HV : Hid (ceilV s L = s.desired + mx (mx s.c.surge 100) (aboveV s)) := Lib.hid (by unfold ceilV; rw [hm]; rfl)
    have M := Lib.hid (fun p : Grown (w.alloc (.cells s.cells 36)) => ready_is s L true (Lib.hid hm) p.w1 (insts_box h p) hn)
    have y := num_yes (mayS_yes hm).1
    have z := above_bd (mayS_yes hm).1
    have W1 : IntKind.i64.wrap (s.desired + s.c.surge) = s.desired + s.c.surge := IntWalk.i64_in _ (by omega)
    have W2 : IntKind.i64.wrap (s.desired + 100) = s.desired + 100 := IntWalk.i64_in _ (by omega)
    have W3 : IntKind.i64.wrap (s.desired + aboveV s) = s.desired + aboveV s := IntWalk.i64_in _ (by omega)
    rcases h3 : goesB s with _ | _
    · have G := Lib.hid (refGoes_is s false (Lib.hid h3))
      have a0 : aboveV s = 0 := by unfold aboveV; rw [h3]; rfl
      have HV : Hid (ceilV s L = s.desired + mx s.c.surge 100) := Lib.hid (by rw [HV.out, a0]; unfold mx; omega)
      clear hm h y z h3 a0
      by_cases h1 : 100 < s.c.surge
      · have d1 := decide_eq_true h1
        go_enter Try.func17, Try.ntmps17
        go_wp2_with (first | ((with_reducible refine at_loadg 36 ?_); (first | (refine load_st rfl _ rfl _ _ rfl s R1 ?_) | (refine load_st rfl _ rfl _ _ rfl s (B1 _) ?_))))
        refine (call_grown (p := (⟨(w.alloc (.cells s.cells 36)), Below.refl _ _⟩ : Grown (w.alloc (.cells s.cells 36)))) (M.out (⟨(w.alloc (.cells s.cells 36)), Below.refl _ _⟩ : Grown (w.alloc (.cells s.cells 36))))).mono ?_
        rintro _ _ ⟨rfl, p, rfl⟩
        go_wp2_with (first | ((with_reducible refine at_loadg 36 ?_); (first | (refine load_st rfl _ rfl _ _ rfl s R1 ?_) | (refine load_st rfl _ rfl _ _ rfl s (B1 _) ?_))))
        refine (call_grown (p := p) (G.out _)).mono ?_
        rintro _ _ ⟨rfl, p, rfl⟩
        go_wp2
        go_ret
        exact ⟨ret_int (by rw [HV.out]; unfold mx; omega), bTrans (bAlloc (Below.refl _ _) _) p.below⟩
      · have d1 := decide_eq_false h1
        go_enter Try.func17, Try.ntmps17
        go_wp2_with (first | ((with_reducible refine at_loadg 36 ?_); (first | (refine load_st rfl _ rfl _ _ rfl s R1 ?_) | (refine load_st rfl _ rfl _ _ rfl s (B1 _) ?_))))
        refine (call_grown (p := (⟨(w.alloc (.cells s.cells 36)), Below.refl _ _⟩ : Grown (w.alloc (.cells s.cells 36)))) (M.out (⟨(w.alloc (.cells s.cells 36)), Below.refl _ _⟩ : Grown (w.alloc (.cells s.cells 36))))).mono ?_
        rintro _ _ ⟨rfl, p, rfl⟩
        go_wp2_with (first | ((with_reducible refine at_loadg 36 ?_); (first | (refine load_st rfl _ rfl _ _ rfl s R1 ?_) | (refine load_st rfl _ rfl _ _ rfl s (B1 _) ?_))))
        refine (call_grown (p := p) (G.out _)).mono ?_
        rintro _ _ ⟨rfl, p, rfl⟩
        go_wp2
        go_ret
        exact ⟨ret_int (by rw [HV.out]; unfold mx; omega), bTrans (bAlloc (Below.refl _ _) _) p.below⟩
    · have G := Lib.hid (refGoes_is s true (Lib.hid h3))
      have C := Lib.hid (more_any s (mayS_yes hm).1 h3)
      clear hm h y z h3
      by_cases h1 : 100 < s.c.surge
      · have d1 := decide_eq_true h1
        by_cases h2 : s.c.surge < aboveV s
        · have d2 := decide_eq_true h2
          go_enter Try.func17, Try.ntmps17
          go_wp2_with (first | ((with_reducible refine at_loadg 36 ?_); (first | (refine load_st rfl _ rfl _ _ rfl s R1 ?_) | (refine load_st rfl _ rfl _ _ rfl s (B1 _) ?_))))
          refine (call_grown (p := (⟨(w.alloc (.cells s.cells 36)), Below.refl _ _⟩ : Grown (w.alloc (.cells s.cells 36)))) (M.out (⟨(w.alloc (.cells s.cells 36)), Below.refl _ _⟩ : Grown (w.alloc (.cells s.cells 36))))).mono ?_
          rintro _ _ ⟨rfl, p, rfl⟩
          go_wp2_with (first | ((with_reducible refine at_loadg 36 ?_); (first | (refine load_st rfl _ rfl _ _ rfl s R1 ?_) | (refine load_st rfl _ rfl _ _ rfl s (B1 _) ?_))))
          refine (call_grown (p := p) (G.out _)).mono ?_
          rintro _ _ ⟨rfl, p, rfl⟩
          go_wp2_with (first | ((with_reducible refine at_loadg 36 ?_); (first | (refine load_st rfl _ rfl _ _ rfl s R1 ?_) | (refine load_st rfl _ rfl _ _ rfl s (B1 _) ?_))))
          refine (call_grown (p := p) (C.out _)).mono ?_
          rintro _ _ ⟨rfl, p, rfl⟩
          go_wp2_with (first | ((with_reducible refine at_loadg 36 ?_); (first | (refine load_st rfl _ rfl _ _ rfl s R1 ?_) | (refine load_st rfl _ rfl _ _ rfl s (B1 _) ?_))))
          refine (call_grown (p := p) (C.out _)).mono ?_
          rintro _ _ ⟨rfl, p, rfl⟩
          go_wp2
          go_ret
          exact ⟨ret_int (by rw [HV.out]; unfold mx; omega), bTrans (bAlloc (Below.refl _ _) _) p.below⟩
        · have d2 := decide_eq_false h2
          go_enter Try.func17, Try.ntmps17
          go_wp2_with (first | ((with_reducible refine at_loadg 36 ?_); (first | (refine load_st rfl _ rfl _ _ rfl s R1 ?_) | (refine load_st rfl _ rfl _ _ rfl s (B1 _) ?_))))
          refine (call_grown (p := (⟨(w.alloc (.cells s.cells 36)), Below.refl _ _⟩ : Grown (w.alloc (.cells s.cells 36)))) (M.out (⟨(w.alloc (.cells s.cells 36)), Below.refl _ _⟩ : Grown (w.alloc (.cells s.cells 36))))).mono ?_
          rintro _ _ ⟨rfl, p, rfl⟩
          go_wp2_with (first | ((with_reducible refine at_loadg 36 ?_); (first | (refine load_st rfl _ rfl _ _ rfl s R1 ?_) | (refine load_st rfl _ rfl _ _ rfl s (B1 _) ?_))))
          refine (call_grown (p := p) (G.out _)).mono ?_
          rintro _ _ ⟨rfl, p, rfl⟩
          go_wp2_with (first | ((with_reducible refine at_loadg 36 ?_); (first | (refine load_st rfl _ rfl _ _ rfl s R1 ?_) | (refine load_st rfl _ rfl _ _ rfl s (B1 _) ?_))))
          refine (call_grown (p := p) (C.out _)).mono ?_
          rintro _ _ ⟨rfl, p, rfl⟩
          go_wp2
          go_ret
          exact ⟨ret_int (by rw [HV.out]; unfold mx; omega), bTrans (bAlloc (Below.refl _ _) _) p.below⟩
      · have d1 := decide_eq_false h1
        by_cases h2 : 100 < aboveV s
        · have d2 := decide_eq_true h2
          go_enter Try.func17, Try.ntmps17
          go_wp2_with (first | ((with_reducible refine at_loadg 36 ?_); (first | (refine load_st rfl _ rfl _ _ rfl s R1 ?_) | (refine load_st rfl _ rfl _ _ rfl s (B1 _) ?_))))
          refine (call_grown (p := (⟨(w.alloc (.cells s.cells 36)), Below.refl _ _⟩ : Grown (w.alloc (.cells s.cells 36)))) (M.out (⟨(w.alloc (.cells s.cells 36)), Below.refl _ _⟩ : Grown (w.alloc (.cells s.cells 36))))).mono ?_
          rintro _ _ ⟨rfl, p, rfl⟩
          go_wp2_with (first | ((with_reducible refine at_loadg 36 ?_); (first | (refine load_st rfl _ rfl _ _ rfl s R1 ?_) | (refine load_st rfl _ rfl _ _ rfl s (B1 _) ?_))))
          refine (call_grown (p := p) (G.out _)).mono ?_
          rintro _ _ ⟨rfl, p, rfl⟩
          go_wp2_with (first | ((with_reducible refine at_loadg 36 ?_); (first | (refine load_st rfl _ rfl _ _ rfl s R1 ?_) | (refine load_st rfl _ rfl _ _ rfl s (B1 _) ?_))))
          refine (call_grown (p := p) (C.out _)).mono ?_
          rintro _ _ ⟨rfl, p, rfl⟩
          go_wp2_with (first | ((with_reducible refine at_loadg 36 ?_); (first | (refine load_st rfl _ rfl _ _ rfl s R1 ?_) | (refine load_st rfl _ rfl _ _ rfl s (B1 _) ?_))))
          refine (call_grown (p := p) (C.out _)).mono ?_
          rintro _ _ ⟨rfl, p, rfl⟩
          go_wp2
          go_ret
          exact ⟨ret_int (by rw [HV.out]; unfold mx; omega), bTrans (bAlloc (Below.refl _ _) _) p.below⟩
        · have d2 := decide_eq_false h2
          go_enter Try.func17, Try.ntmps17
          go_wp2_with (first | ((with_reducible refine at_loadg 36 ?_); (first | (refine load_st rfl _ rfl _ _ rfl s R1 ?_) | (refine load_st rfl _ rfl _ _ rfl s (B1 _) ?_))))
          refine (call_grown (p := (⟨(w.alloc (.cells s.cells 36)), Below.refl _ _⟩ : Grown (w.alloc (.cells s.cells 36)))) (M.out (⟨(w.alloc (.cells s.cells 36)), Below.refl _ _⟩ : Grown (w.alloc (.cells s.cells 36))))).mono ?_
          rintro _ _ ⟨rfl, p, rfl⟩
          go_wp2_with (first | ((with_reducible refine at_loadg 36 ?_); (first | (refine load_st rfl _ rfl _ _ rfl s R1 ?_) | (refine load_st rfl _ rfl _ _ rfl s (B1 _) ?_))))
          refine (call_grown (p := p) (G.out _)).mono ?_
          rintro _ _ ⟨rfl, p, rfl⟩
          go_wp2_with (first | ((with_reducible refine at_loadg 36 ?_); (first | (refine load_st rfl _ rfl _ _ rfl s R1 ?_) | (refine load_st rfl _ rfl _ _ rfl s (B1 _) ?_))))
          refine (call_grown (p := p) (C.out _)).mono ?_
          rintro _ _ ⟨rfl, p, rfl⟩
          go_wp2
          go_ret
          exact ⟨ret_int (by rw [HV.out]; unfold mx; omega), bTrans (bAlloc (Below.refl _ _) _) p.below⟩
section
attribute [local go_sem ↓] exec_ins exec_st Go.wp_at_zero Go.wp_at_succ
set_option maxHeartbeats 4000000 in
theorem refStops_any (s : State) (L : Nat → Ins) (w : World) (h : Insts w w.heap.size s.iA s.iN L) (hn : s.iN ≤ 9223372036854775807) :
    Calls Try.prog 19 #[s.val] w fun e w' => e = .returned (.bool (stopsB s L)) ∧ Below w.heap.size w w' := by
  have B1 := box_new w s.cells 36
  have R1 : (w.alloc (.cells s.cells 36)).rangeAt w.heap.size 0 s.cells.toList := B1 ⟨_, Below.refl _ _⟩
  have f42 := s.f42
  have g42 := box_cell B1 s.f42
  have f51 := s.f51
  have g51 := box_cell B1 s.f51
  have f46 := s.f46
  have g46 := box_cell B1 s.f46
  rcases hm : mayS s L with _ | _
  · have HV : Hid (stopsB s L = false) := Lib.hid (by unfold stopsB; rw [hm]; rfl)
    have M := Lib.hid (fun p : Grown (w.alloc (.cells s.cells 36)) => ready_is s L false (Lib.hid hm) p.w1 (insts_box h p) hn)
    clear hm h
    go_enter Try.func19, Try.ntmps19
    go_wp2_with (first | ((with_reducible refine at_loadg 36 ?_); (first | (refine load_st rfl _ rfl _ _ rfl s R1 ?_) | (refine load_st rfl _ rfl _ _ rfl s (B1 _) ?_))))
    refine (call_grown (p := (⟨(w.alloc (.cells s.cells 36)), Below.refl _ _⟩ : Grown (w.alloc (.cells s.cells 36)))) (M.out (⟨(w.alloc (.cells s.cells 36)), Below.refl _ _⟩ : Grown (w.alloc (.cells s.cells 36))))).mono ?_
    rintro _ _ ⟨rfl, p, rfl⟩
    go_wp2
    go_ret
    exact ⟨ret_bool HV.out.symm, bTrans (bAlloc (Below.refl _ _) _) p.below⟩
  · have M := Lib.hid (fun p : Grown (w.alloc (.cells s.cells 36)) => ready_is s L true (Lib.hid hm) p.w1 (insts_box h p) hn)
    by_cases h1 : s.stop < 1
    · have d1 := decide_eq_true h1
      have HV : Hid (stopsB s L = false) := Lib.hid (by unfold stopsB; rw [show decide (1 ≤ s.stop ∧ s.stop ≤ 99) = false from decide_eq_false (by omega)]; simp)
      clear hm h
      go_enter Try.func19, Try.ntmps19
      go_wp2_with (first | ((with_reducible refine at_loadg 36 ?_); (first | (refine load_st rfl _ rfl _ _ rfl s R1 ?_) | (refine load_st rfl _ rfl _ _ rfl s (B1 _) ?_))))
      refine (call_grown (p := (⟨(w.alloc (.cells s.cells 36)), Below.refl _ _⟩ : Grown (w.alloc (.cells s.cells 36)))) (M.out (⟨(w.alloc (.cells s.cells 36)), Below.refl _ _⟩ : Grown (w.alloc (.cells s.cells 36))))).mono ?_
      rintro _ _ ⟨rfl, p, rfl⟩
      go_wp2
      go_ret
      exact ⟨ret_bool HV.out.symm, bTrans (bAlloc (Below.refl _ _) _) p.below⟩
    · have d1 := decide_eq_false h1
      by_cases h2 : 99 < s.stop
      · have d2 := decide_eq_true h2
        have HV : Hid (stopsB s L = false) := Lib.hid (by unfold stopsB; rw [show decide (1 ≤ s.stop ∧ s.stop ≤ 99) = false from decide_eq_false (by omega)]; simp)
        clear hm h
        go_enter Try.func19, Try.ntmps19
        go_wp2_with (first | ((with_reducible refine at_loadg 36 ?_); (first | (refine load_st rfl _ rfl _ _ rfl s R1 ?_) | (refine load_st rfl _ rfl _ _ rfl s (B1 _) ?_))))
        refine (call_grown (p := (⟨(w.alloc (.cells s.cells 36)), Below.refl _ _⟩ : Grown (w.alloc (.cells s.cells 36)))) (M.out (⟨(w.alloc (.cells s.cells 36)), Below.refl _ _⟩ : Grown (w.alloc (.cells s.cells 36))))).mono ?_
        rintro _ _ ⟨rfl, p, rfl⟩
        go_wp2
        go_ret
        exact ⟨ret_bool HV.out.symm, bTrans (bAlloc (Below.refl _ _) _) p.below⟩
      · have d2 := decide_eq_false h2
        have y := num_yes (mayS_yes hm).1
        have z := sum_bd (p := newB s) (mayS_yes hm).2 s.iN (Nat.le_refl _)
        have z1 := may_len (mayS_yes hm).2
        have z2 : 0 ≤ s.stop * s.desired := Int.mul_nonneg (by omega) (by omega)
        have z3 : s.stop * s.desired ≤ 99 * 65536 := Int.mul_le_mul (by omega) (by omega) (by omega) (by omega)
        have V1 : IntKind.i64.wrap (100 * sumI (newB s) L s.iN) = 100 * sumI (newB s) L s.iN := IntWalk.i64_in _ (by omega)
        have V2 : IntKind.i64.wrap (s.stop * s.desired) = s.stop * s.desired := IntWalk.i64_in _ (by omega)
        clear y z z2 z3
        have HV : Hid (stopsB s L = decide (s.stop * s.desired ≤ 100 * sumI (newB s) L s.iN)) := Lib.hid (by unfold stopsB; rw [hm, show decide (1 ≤ s.stop ∧ s.stop ≤ 99) = true from decide_eq_true (by omega)]; simp [Int.mul_comm])
        have HM := Lib.hid (mayS_yes hm).2
        obtain ⟨A, hA⟩ : ∃ A, s.iA = A := ⟨_, rfl⟩
        rw [hA] at f46 g46 h
        clear hA hm
        have H := Lib.hid h
        clear h
        go_enter Try.func19, Try.ntmps19
        go_wp2_with (first | ((with_reducible refine at_loadg 36 ?_); (first | (refine load_st rfl _ rfl _ _ rfl s R1 ?_) | (refine load_st rfl _ rfl _ _ rfl s (B1 _) ?_))))
        refine (call_grown (p := (⟨(w.alloc (.cells s.cells 36)), Below.refl _ _⟩ : Grown (w.alloc (.cells s.cells 36)))) (M.out (⟨(w.alloc (.cells s.cells 36)), Below.refl _ _⟩ : Grown (w.alloc (.cells s.cells 36))))).mono ?_
        rintro _ _ ⟨rfl, p, rfl⟩
        go_wp2
        go_loopw [3, 4] (fun r i wr => ∃ k : Nat, k ≤ s.iN ∧ i = .int .i64 k ∧ r = .int .i64 (sumI (newB s) L k) ∧ Below (w.alloc (.cells s.cells 36)).heap.size (w.alloc (.cells s.cells 36)) wr) (fun _ i _ => s.iN - (intOf i).toNat)
        case atStart => exact ⟨0, by omega, rfl, rfl, p.below⟩
        case round =>
          obtain ⟨k, hk, rfl, rfl, hb⟩ := hrel
          have g46' : wr.cell? ⟨w.heap.size, 46, none⟩ = some (.slice A s.iN s.iC) := g46 ⟨wr, hb⟩
          by_cases hlt : k < s.iN
          · obtain ⟨b, off, rfl⟩ := insts_at H.out (by omega)
            obtain ⟨hbl, R, c0⟩ := ins_cells H.out (bTrans (bAlloc (Below.refl _ _) _) hb) rfl hlt
            have y := ok_yes (may_ok HM.out hlt)
            have z := sum_bd (p := newB s) HM.out k hk
            have HS : ∀ p : Grown wr, Below (w.alloc (.cells s.cells 36)).heap.size (w.alloc (.cells s.cells 36)) p.w1 := fun p => bTrans hb p.below
            have I0 := fun p : Grown wr => run_ins (range_in hbl R p)
            have I1 := fun p : Grown wr => run_st (B1 ⟨p.w1, HS p⟩)
            have q46 : ∀ p : Grown wr, p.w1.cell? ⟨w.heap.size, 46, none⟩ = some (.slice (some ⟨b, off, none⟩) s.iN s.iC) := fun p => g46 ⟨p.w1, HS p⟩
            have r3 := range_cell R (L k).f3
            have r3' : ∀ p : Grown wr, p.w1.cell? ⟨b, off + k * 12 + 3, none⟩ = some (.int .i64 (L k).wt) := fun p => cell_in hbl r3 p
            have HS := Lib.hid HS
            have W1 : IntKind.i64.wrap (sumI (newB s) L k + (L k).wt) = sumI (newB s) L k + (L k).wt := IntWalk.i64_in _ (by omega)
            clear y z
            rcases h3 : servesB (L k) with _ | _
            · have S1 := Lib.hid (refServes_is (L k) false (Lib.hid h3))
              have E1 := Lib.hid (sum_off (p := newB s) (L := L) (k := k) (.inl h3))
              clear h3
              go_wp2
              refine region_grown (by kernel_rfl) (by kernel_rfl) ?_
              repeat ((with_reducible refine wpQuiet_step (fun K hK => ?_)); go_simp; (first | (refine hK _ ?_; clear hK K) | (apply Exists.intro; refine ⟨fun _ => ?_, hK _ ?_⟩; (first | (go_at_call 31; exact call_grown (S1.out _))); clear hK K)))
              (with_reducible refine wpQuiet_nil ?_)
              rintro _ ⟨p, rfl⟩
              go_wp2
              go_roundw
              case rel => exact ⟨k + 1, by omega, by go_num, by rw [E1.out.1], HS.out p⟩
              case measure => simp [intOf]; omega
            · have S1 := Lib.hid (refServes_is (L k) true (Lib.hid h3))
              rcases h4 : oldB s (L k) with _ | _
              · have S2 := Lib.hid (refOld_is s (L k) false (Lib.hid h4))
                have E1 := Lib.hid (sum_on (p := newB s) (L := L) (k := k) h3 (by unfold newB; rw [h4]; rfl))
                clear h3 h4
                go_wp2
                refine region_grown (by kernel_rfl) (by kernel_rfl) ?_
                repeat ((with_reducible refine wpQuiet_step (fun K hK => ?_)); go_simp; (first | (refine hK _ ?_; clear hK K) | (apply Exists.intro; refine ⟨fun _ => ?_, hK _ ?_⟩; (first | (go_at_call 31; exact call_grown (S1.out _)) | (go_at_call 11; exact call_grown (S2.out _))); clear hK K)))
                (with_reducible refine wpQuiet_nil ?_)
                rintro _ ⟨p, rfl⟩
                go_wp2
                go_roundw
                case rel => exact ⟨k + 1, by omega, by go_num, by rw [E1.out.1], HS.out p⟩
                case measure => simp [intOf]; omega
              · have S2 := Lib.hid (refOld_is s (L k) true (Lib.hid h4))
                have E1 := Lib.hid (sum_off (p := newB s) (L := L) (k := k) (.inr (by unfold newB; rw [h4]; rfl)))
                clear h3 h4
                go_wp2
                refine region_grown (by kernel_rfl) (by kernel_rfl) ?_
                repeat ((with_reducible refine wpQuiet_step (fun K hK => ?_)); go_simp; (first | (refine hK _ ?_; clear hK K) | (apply Exists.intro; refine ⟨fun _ => ?_, hK _ ?_⟩; (first | (go_at_call 31; exact call_grown (S1.out _)) | (go_at_call 11; exact call_grown (S2.out _))); clear hK K)))
                (with_reducible refine wpQuiet_nil ?_)
                rintro _ ⟨p, rfl⟩
                go_wp2
                go_roundw
                case rel => exact ⟨k + 1, by omega, by go_num, by rw [E1.out.1], HS.out p⟩
                case measure => simp [intOf]; omega
          · obtain rfl : k = s.iN := by omega
            have g42' : wr.cell? ⟨w.heap.size, 42, none⟩ = some (.int .i64 s.desired) := g42 ⟨wr, hb⟩
            have g51' : wr.cell? ⟨w.heap.size, 51, none⟩ = some (.int .i64 s.stop) := g51 ⟨wr, hb⟩
            go_wp2
            go_ret
            exact ⟨ret_bool (by first | exact HV.out.symm | (rw [HV.out]; simp)), bTrans (bAlloc (Below.refl _ _) _) hb⟩
end
end Go.Proofs.Ytpjglhllbgmbhaa.Extra
