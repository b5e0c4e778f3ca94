
/- Layer 27: the first instance of which all is said; Draw, Much of the program. -/
import Derived.Test.YtflnamahaclidaaWrmA
import Derived.WalkMore
namespace Go.Proofs.Ytflnamahaclidaa.Wrm
open Go.ChangeShapes Go.WideShapes Go.ChangeAt Go.RowKit
open Mem Arr Lst Rec Inst Grown Sums St Opens Extra
open Thg (ofS)
def enF (f : FuncId) (cap : Array Value) : Value := .func (.func f) #[] cap

theorem cell_row' {w : World} {g k : Nat} {C : Array Value} {t : TypeId} {fr : Nat × Nat} {v : Value} (h : w.heap[g]? = some (.cells C t fr)) (hk : C[k]? = some v) : w.cell? ⟨g, k, none⟩ = some v := St0.cell_row h hk
theorem box_row {w : World} {cs : Array Value} {t : TypeId} (p : Grown (w.alloc (.cells cs t))) : p.w1.heap[w.heap.size]? = some (.cells cs t (0, 0)) := St0.box_row p
set_option maxHeartbeats 4000000 in
theorem firstDraw (s : State) (L : Nat → Ins) (fb g1 gs : Nat) (q0 q1 : Ins → Bool) (w : World) (h : Insts w w.heap.size s.iA s.iN L) (hn : s.iN ≤ 9223372036854775807)
    (hc0 : w.cell? ⟨fb, 0, none⟩ = some (.func (.func 19) #[] #[.pointer (some ⟨g1, 0, none⟩)])) (HF0 : ∀ x wr, Below w.heap.size w wr → Calls Try.prog 19 #[x.val, .pointer (some ⟨g1, 0, none⟩)] wr fun e w' => e = .returned (.bool (q0 x)) ∧ Below wr.heap.size wr w')
    (hc1 : w.cell? ⟨fb, 1, none⟩ = some (.func (.func 20) #[] #[.pointer (some ⟨gs, 0, none⟩)])) (HF1 : ∀ x wr, Below w.heap.size w wr → Calls Try.prog 20 #[x.val, .pointer (some ⟨gs, 0, none⟩)] wr fun e w' => e = .returned (.bool (q1 x)) ∧ Below wr.heap.size wr w') :
    Calls Try.prog 18 #[s.val, .slice (some ⟨fb, 0, none⟩) 2 2] w fun e w' => e = .returned (.tuple #[.int .u64 (idO L (fstO (fun x => decide (x.st = 8) && q0 x && q1 x) L s.iN)), .bool (fstO (fun x => decide (x.st = 8) && q0 x && q1 x) L s.iN).isSome]) ∧ Below w.heap.size w w' := by
  have B1 := box_new w s.cells 36
  have f46 := s.f46
  obtain ⟨A, hA⟩ : ∃ A, s.iA = A := ⟨_, rfl⟩
  rw [hA] at f46 h
  clear hA
  have hp : ∃ p : Ins → Bool, p = (fun x => decide (x.st = 8) && q0 x && q1 x) := ⟨_, rfl⟩
  obtain ⟨p, hp⟩ := hp
  rw [← hp]
  have HP := Lib.hid (congrFun hp)
  have H := Lib.hid h
  have BW := Lib.hid (fun (W : World) (hb : Below (w.alloc (.cells s.cells 36)).heap.size (w.alloc (.cells s.cells 36)) W) => bTrans (bAlloc (Below.refl _ w) (.cells s.cells 36)) hb)
  clear h hp
  have lt0 : fb < w.heap.size := by
    rcases Nat.lt_or_ge fb w.heap.size with hlt | hge
    · exact hlt
    · simp [World.cell?, Array.getElem?_eq_none hge] at hc0
  have HF0 := Lib.hid HF0
  have lt1 : fb < w.heap.size := by
    rcases Nat.lt_or_ge fb w.heap.size with hlt | hge
    · exact hlt
    · simp [World.cell?, Array.getElem?_eq_none hge] at hc1
  have HF1 := Lib.hid HF1
  have hcc := Lib.hid (And.intro (And.intro hc0 hc1) lt0)
  clear hc0 lt0 hc1 lt1
  go_enter Try.func18, Try.ntmps18
  go_wp2
  go_step3
  go_wp2
  go_step3
  go_wp2
  go_loopw [13] (fun i wr => ∃ k : Nat, k ≤ s.iN ∧ i = .int .i64 k ∧ Hid (∀ j, j < k → p (L j) = false) ∧ Below (w.alloc (.cells s.cells 36)).heap.size (w.alloc (.cells s.cells 36)) wr) (fun i _ => s.iN - (intOf i).toNat)
  case atStart => exact ⟨0, by omega, rfl, Lib.hid (fun j hj => absurd hj (by omega)), Below.refl _ _⟩
  case round =>
    obtain ⟨k, hk, rfl, ho, hb⟩ := hrel
    by_cases hlt : k < s.iN
    · obtain ⟨b, off, rfl⟩ := insts_at H.out (by omega)
      obtain ⟨hbl, R, c0⟩ := ins_cells H.out (BW.out _ hb) rfl hlt
      have hsz : w.heap.size < wr.heap.size := by have := hb.size; simp at this; omega
      have BX := fun p : Grown (wr.alloc (.cells (L k).cells 44)) => box_row p
      have RX : (wr.alloc (.cells (L k).cells 44)).heap[wr.heap.size]? = _ := BX ⟨_, Below.refl _ _⟩
      have x5 := cell_row' RX (L k).f5
      have PB := Lib.hid (fun p : Grown (wr.alloc (.cells (L k).cells 44)) => bTrans (bAlloc hb (.cells (L k).cells 44)) p.below)
      have k0 := fun p : Grown (wr.alloc (.cells (L k).cells 44)) => ((bcell (BW.out _ (PB.out p))).1 fb 0 hcc.out.2).trans hcc.out.1.1
      have k0' := k0 ⟨_, Below.refl _ _⟩
      have C0 := Lib.hid (fun p : Grown (wr.alloc (.cells (L k).cells 44)) => HF0.out (L k) p.w1 (BW.out _ (PB.out p)))
      have k1 := fun p : Grown (wr.alloc (.cells (L k).cells 44)) => ((bcell (BW.out _ (PB.out p))).1 fb 1 hcc.out.2).trans hcc.out.1.2
      have k1' := k1 ⟨_, Below.refl _ _⟩
      have C1 := Lib.hid (fun p : Grown (wr.alloc (.cells (L k).cells 44)) => HF1.out (L k) p.w1 (BW.out _ (PB.out p)))
      by_cases h8 : (L k).st = 8
      · have d8 : ((L k).st != 8) = false := by simp [h8]
        rcases h0 : q0 (L k) with _ | _
        · have hno : p (L k) = false := by rw [HP.out]; simp [h0]
          have HK : Hid (∀ j, j < k + 1 → p (L j) = false) := Lib.hid (none_step (p := fun j => p (L j)) ho.out hno)
          rw [h0] at C0
          clear hno
          go_wp2_with (first | ((with_reducible refine St.at_load 44 ?_); (first | (refine load_ins rfl _ rfl _ _ rfl (L k) R ?_) | (refine Thg.load_inP rfl _ rfl _ _ rfl (L k) RX rfl ?_) | (refine Thg.load_inP rfl _ rfl _ _ rfl (L k) (BX _) rfl ?_))) | ((with_reducible refine St.at_store 44 ?_); (first | (refine store_inp rfl _ _ rfl (L k) _ _ rfl rfl rfl ?_))))
          refine wp_loop_rounds 3 ?_
          rw [rounds_succ]
          go_wp2_with (first | ((with_reducible refine St.at_load 44 ?_); (first | (refine load_ins rfl _ rfl _ _ rfl (L k) R ?_) | (refine Thg.load_inP rfl _ rfl _ _ rfl (L k) RX rfl ?_) | (refine Thg.load_inP rfl _ rfl _ _ rfl (L k) (BX _) rfl ?_))) | ((with_reducible refine St.at_store 44 ?_); (first | (refine store_inp rfl _ _ rfl (L k) _ _ rfl rfl rfl ?_))))
          refine (call_grown (p := (⟨(wr.alloc (.cells (L k).cells 44)), Below.refl _ _⟩ : Grown (wr.alloc (.cells (L k).cells 44)))) (C0.out _)).mono ?_
          rintro _ _ ⟨rfl, v, rfl⟩
          go_wp2
          go_roundw
          case rel => exact ⟨k + 1, by omega, by go_num, HK, PB.out v⟩
          case measure => simp [intOf]; omega
        · skip
          rcases h1 : q1 (L k) with _ | _
          · have hno : p (L k) = false := by rw [HP.out]; simp [h1]
            have HK : Hid (∀ j, j < k + 1 → p (L j) = false) := Lib.hid (none_step (p := fun j => p (L j)) ho.out hno)
            rw [h0] at C0
            rw [h1] at C1
            clear hno
            go_wp2_with (first | ((with_reducible refine St.at_load 44 ?_); (first | (refine load_ins rfl _ rfl _ _ rfl (L k) R ?_) | (refine Thg.load_inP rfl _ rfl _ _ rfl (L k) RX rfl ?_) | (refine Thg.load_inP rfl _ rfl _ _ rfl (L k) (BX _) rfl ?_))) | ((with_reducible refine St.at_store 44 ?_); (first | (refine store_inp rfl _ _ rfl (L k) _ _ rfl rfl rfl ?_))))
            refine wp_loop_rounds 3 ?_
            rw [rounds_succ]
            go_wp2_with (first | ((with_reducible refine St.at_load 44 ?_); (first | (refine load_ins rfl _ rfl _ _ rfl (L k) R ?_) | (refine Thg.load_inP rfl _ rfl _ _ rfl (L k) RX rfl ?_) | (refine Thg.load_inP rfl _ rfl _ _ rfl (L k) (BX _) rfl ?_))) | ((with_reducible refine St.at_store 44 ?_); (first | (refine store_inp rfl _ _ rfl (L k) _ _ rfl rfl rfl ?_))))
            refine (call_grown (p := (⟨(wr.alloc (.cells (L k).cells 44)), Below.refl _ _⟩ : Grown (wr.alloc (.cells (L k).cells 44)))) (C0.out _)).mono ?_
            rintro _ _ ⟨rfl, v, rfl⟩
            go_wp2_with fail
            rw [rounds_succ]
            go_wp2_with (first | ((with_reducible refine St.at_load 44 ?_); (first | (refine load_ins rfl _ rfl _ _ rfl (L k) R ?_) | (refine Thg.load_inP rfl _ rfl _ _ rfl (L k) RX rfl ?_) | (refine Thg.load_inP rfl _ rfl _ _ rfl (L k) (BX _) rfl ?_))) | ((with_reducible refine St.at_store 44 ?_); (first | (refine store_inp rfl _ _ rfl (L k) _ _ rfl rfl rfl ?_))))
            refine (call_grown (p := v) (C1.out _)).mono ?_
            rintro _ _ ⟨rfl, v, rfl⟩
            go_wp2
            go_roundw
            case rel => exact ⟨k + 1, by omega, by go_num, HK, PB.out v⟩
            case measure => simp [intOf]; omega
          · skip
            have hyes : p (L k) = true := by rw [HP.out]; simp [h8, h0, h1]
            have HV : Hid (fstO p L s.iN = some k) := Lib.hid (fst_some ho.out hyes _ hlt)
            rw [h0] at C0
            rw [h1] at C1
            clear hyes
            go_wp2_with (first | ((with_reducible refine St.at_load 44 ?_); (first | (refine load_ins rfl _ rfl _ _ rfl (L k) R ?_) | (refine Thg.load_inP rfl _ rfl _ _ rfl (L k) RX rfl ?_) | (refine Thg.load_inP rfl _ rfl _ _ rfl (L k) (BX _) rfl ?_))) | ((with_reducible refine St.at_store 44 ?_); (first | (refine store_inp rfl _ _ rfl (L k) _ _ rfl rfl rfl ?_))))
            refine wp_loop_rounds 3 ?_
            rw [rounds_succ]
            go_wp2_with (first | ((with_reducible refine St.at_load 44 ?_); (first | (refine load_ins rfl _ rfl _ _ rfl (L k) R ?_) | (refine Thg.load_inP rfl _ rfl _ _ rfl (L k) RX rfl ?_) | (refine Thg.load_inP rfl _ rfl _ _ rfl (L k) (BX _) rfl ?_))) | ((with_reducible refine St.at_store 44 ?_); (first | (refine store_inp rfl _ _ rfl (L k) _ _ rfl rfl rfl ?_))))
            refine (call_grown (p := (⟨(wr.alloc (.cells (L k).cells 44)), Below.refl _ _⟩ : Grown (wr.alloc (.cells (L k).cells 44)))) (C0.out _)).mono ?_
            rintro _ _ ⟨rfl, v, rfl⟩
            go_wp2_with fail
            rw [rounds_succ]
            go_wp2_with (first | ((with_reducible refine St.at_load 44 ?_); (first | (refine load_ins rfl _ rfl _ _ rfl (L k) R ?_) | (refine Thg.load_inP rfl _ rfl _ _ rfl (L k) RX rfl ?_) | (refine Thg.load_inP rfl _ rfl _ _ rfl (L k) (BX _) rfl ?_))) | ((with_reducible refine St.at_store 44 ?_); (first | (refine store_inp rfl _ _ rfl (L k) _ _ rfl rfl rfl ?_))))
            refine (call_grown (p := v) (C1.out _)).mono ?_
            rintro _ _ ⟨rfl, v, rfl⟩
            have y0 := cell_row' (BX v) (L k).f0
            go_wp2_with fail
            rw [rounds_succ]
            go_wp2
            try rw [Exit.noGoto_ret]
            go_ret2
            exact ⟨by rw [HV.out]; rfl, BW.out _ (PB.out v)⟩
      · have d8 : ((L k).st != 8) = true := by simp [h8]
        have hno : p (L k) = false := by rw [HP.out]; simp [h8]
        have HK : Hid (∀ j, j < k + 1 → p (L j) = false) := Lib.hid (none_step (p := fun j => p (L j)) ho.out hno)
        clear hno
        go_wp2_with (first | ((with_reducible refine St.at_load 44 ?_); (first | (refine load_ins rfl _ rfl _ _ rfl (L k) R ?_) | (refine Thg.load_inP rfl _ rfl _ _ rfl (L k) RX rfl ?_) | (refine Thg.load_inP rfl _ rfl _ _ rfl (L k) (BX _) rfl ?_))) | ((with_reducible refine St.at_store 44 ?_); (first | (refine store_inp rfl _ _ rfl (L k) _ _ rfl rfl rfl ?_))))
        go_roundw
        case rel => exact ⟨k + 1, by omega, by go_num, HK, PB.out ⟨_, Below.refl _ _⟩⟩
        case measure => simp [intOf]; omega
    · have e : s.iN = k := by omega
      have HV : Hid (fstO p L s.iN = none) := Lib.hid (fst_none _ (fun j hj => ho.out j (by omega)))
      go_wp2
      try rw [Exit.noGoto_ret]
      go_ret2
      exact ⟨by rw [HV.out]; rfl, BW.out _ hb⟩
set_option maxHeartbeats 4000000 in
theorem firstOld (s : State) (L : Nat → Ins) (fb gs : Nat) (q0 : Ins → Bool) (w : World) (h : Insts w w.heap.size s.iA s.iN L) (hn : s.iN ≤ 9223372036854775807)
    (hc0 : w.cell? ⟨fb, 0, none⟩ = some (.func (.func 23) #[] #[.pointer (some ⟨gs, 0, none⟩)])) (HF0 : ∀ x wr, Below w.heap.size w wr → Calls Try.prog 23 #[x.val, .pointer (some ⟨gs, 0, none⟩)] wr fun e w' => e = .returned (.bool (q0 x)) ∧ Below wr.heap.size wr w') :
    Calls Try.prog 18 #[s.val, .slice (some ⟨fb, 0, none⟩) 1 1] w fun e w' => e = .returned (.tuple #[.int .u64 (idO L (fstO (fun x => decide (x.st = 8) && q0 x) L s.iN)), .bool (fstO (fun x => decide (x.st = 8) && q0 x) L s.iN).isSome]) ∧ Below w.heap.size w w' := by
  have B1 := box_new w s.cells 36
  have f46 := s.f46
  obtain ⟨A, hA⟩ : ∃ A, s.iA = A := ⟨_, rfl⟩
  rw [hA] at f46 h
  clear hA
  have hp : ∃ p : Ins → Bool, p = (fun x => decide (x.st = 8) && q0 x) := ⟨_, rfl⟩
  obtain ⟨p, hp⟩ := hp
  rw [← hp]
  have HP := Lib.hid (congrFun hp)
  have H := Lib.hid h
  have BW := Lib.hid (fun (W : World) (hb : Below (w.alloc (.cells s.cells 36)).heap.size (w.alloc (.cells s.cells 36)) W) => bTrans (bAlloc (Below.refl _ w) (.cells s.cells 36)) hb)
  clear h hp
  have lt0 : fb < w.heap.size := by
    rcases Nat.lt_or_ge fb w.heap.size with hlt | hge
    · exact hlt
    · simp [World.cell?, Array.getElem?_eq_none hge] at hc0
  have HF0 := Lib.hid HF0
  have hcc := Lib.hid (And.intro hc0 lt0)
  clear hc0 lt0
  go_enter Try.func18, Try.ntmps18
  go_wp2
  go_step3
  go_wp2
  go_step3
  go_wp2
  go_loopw [13] (fun i wr => ∃ k : Nat, k ≤ s.iN ∧ i = .int .i64 k ∧ Hid (∀ j, j < k → p (L j) = false) ∧ Below (w.alloc (.cells s.cells 36)).heap.size (w.alloc (.cells s.cells 36)) wr) (fun i _ => s.iN - (intOf i).toNat)
  case atStart => exact ⟨0, by omega, rfl, Lib.hid (fun j hj => absurd hj (by omega)), Below.refl _ _⟩
  case round =>
    obtain ⟨k, hk, rfl, ho, hb⟩ := hrel
    by_cases hlt : k < s.iN
    · obtain ⟨b, off, rfl⟩ := insts_at H.out (by omega)
      obtain ⟨hbl, R, c0⟩ := ins_cells H.out (BW.out _ hb) rfl hlt
      have hsz : w.heap.size < wr.heap.size := by have := hb.size; simp at this; omega
      have BX := fun p : Grown (wr.alloc (.cells (L k).cells 44)) => box_row p
      have RX : (wr.alloc (.cells (L k).cells 44)).heap[wr.heap.size]? = _ := BX ⟨_, Below.refl _ _⟩
      have x5 := cell_row' RX (L k).f5
      have PB := Lib.hid (fun p : Grown (wr.alloc (.cells (L k).cells 44)) => bTrans (bAlloc hb (.cells (L k).cells 44)) p.below)
      have k0 := fun p : Grown (wr.alloc (.cells (L k).cells 44)) => ((bcell (BW.out _ (PB.out p))).1 fb 0 hcc.out.2).trans hcc.out.1
      have k0' := k0 ⟨_, Below.refl _ _⟩
      have C0 := Lib.hid (fun p : Grown (wr.alloc (.cells (L k).cells 44)) => HF0.out (L k) p.w1 (BW.out _ (PB.out p)))
      by_cases h8 : (L k).st = 8
      · have d8 : ((L k).st != 8) = false := by simp [h8]
        rcases h0 : q0 (L k) with _ | _
        · have hno : p (L k) = false := by rw [HP.out]; simp [h0]
          have HK : Hid (∀ j, j < k + 1 → p (L j) = false) := Lib.hid (none_step (p := fun j => p (L j)) ho.out hno)
          rw [h0] at C0
          clear hno
          go_wp2_with (first | ((with_reducible refine St.at_load 44 ?_); (first | (refine load_ins rfl _ rfl _ _ rfl (L k) R ?_) | (refine Thg.load_inP rfl _ rfl _ _ rfl (L k) RX rfl ?_) | (refine Thg.load_inP rfl _ rfl _ _ rfl (L k) (BX _) rfl ?_))) | ((with_reducible refine St.at_store 44 ?_); (first | (refine store_inp rfl _ _ rfl (L k) _ _ rfl rfl rfl ?_))))
          refine wp_loop_rounds 2 ?_
          rw [rounds_succ]
          go_wp2_with (first | ((with_reducible refine St.at_load 44 ?_); (first | (refine load_ins rfl _ rfl _ _ rfl (L k) R ?_) | (refine Thg.load_inP rfl _ rfl _ _ rfl (L k) RX rfl ?_) | (refine Thg.load_inP rfl _ rfl _ _ rfl (L k) (BX _) rfl ?_))) | ((with_reducible refine St.at_store 44 ?_); (first | (refine store_inp rfl _ _ rfl (L k) _ _ rfl rfl rfl ?_))))
          refine (call_grown (p := (⟨(wr.alloc (.cells (L k).cells 44)), Below.refl _ _⟩ : Grown (wr.alloc (.cells (L k).cells 44)))) (C0.out _)).mono ?_
          rintro _ _ ⟨rfl, v, rfl⟩
          go_wp2
          go_roundw
          case rel => exact ⟨k + 1, by omega, by go_num, HK, PB.out v⟩
          case measure => simp [intOf]; omega
        · skip
          have hyes : p (L k) = true := by rw [HP.out]; simp [h8, h0]
          have HV : Hid (fstO p L s.iN = some k) := Lib.hid (fst_some ho.out hyes _ hlt)
          rw [h0] at C0
          clear hyes
          go_wp2_with (first | ((with_reducible refine St.at_load 44 ?_); (first | (refine load_ins rfl _ rfl _ _ rfl (L k) R ?_) | (refine Thg.load_inP rfl _ rfl _ _ rfl (L k) RX rfl ?_) | (refine Thg.load_inP rfl _ rfl _ _ rfl (L k) (BX _) rfl ?_))) | ((with_reducible refine St.at_store 44 ?_); (first | (refine store_inp rfl _ _ rfl (L k) _ _ rfl rfl rfl ?_))))
          refine wp_loop_rounds 2 ?_
          rw [rounds_succ]
          go_wp2_with (first | ((with_reducible refine St.at_load 44 ?_); (first | (refine load_ins rfl _ rfl _ _ rfl (L k) R ?_) | (refine Thg.load_inP rfl _ rfl _ _ rfl (L k) RX rfl ?_) | (refine Thg.load_inP rfl _ rfl _ _ rfl (L k) (BX _) rfl ?_))) | ((with_reducible refine St.at_store 44 ?_); (first | (refine store_inp rfl _ _ rfl (L k) _ _ rfl rfl rfl ?_))))
          refine (call_grown (p := (⟨(wr.alloc (.cells (L k).cells 44)), Below.refl _ _⟩ : Grown (wr.alloc (.cells (L k).cells 44)))) (C0.out _)).mono ?_
          rintro _ _ ⟨rfl, v, rfl⟩
          have y0 := cell_row' (BX v) (L k).f0
          go_wp2_with fail
          rw [rounds_succ]
          go_wp2
          try rw [Exit.noGoto_ret]
          go_ret2
          exact ⟨by rw [HV.out]; rfl, BW.out _ (PB.out v)⟩
      · have d8 : ((L k).st != 8) = true := by simp [h8]
        have hno : p (L k) = false := by rw [HP.out]; simp [h8]
        have HK : Hid (∀ j, j < k + 1 → p (L j) = false) := Lib.hid (none_step (p := fun j => p (L j)) ho.out hno)
        clear hno
        go_wp2_with (first | ((with_reducible refine St.at_load 44 ?_); (first | (refine load_ins rfl _ rfl _ _ rfl (L k) R ?_) | (refine Thg.load_inP rfl _ rfl _ _ rfl (L k) RX rfl ?_) | (refine Thg.load_inP rfl _ rfl _ _ rfl (L k) (BX _) rfl ?_))) | ((with_reducible refine St.at_store 44 ?_); (first | (refine store_inp rfl _ _ rfl (L k) _ _ rfl rfl rfl ?_))))
        go_roundw
        case rel => exact ⟨k + 1, by omega, by go_num, HK, PB.out ⟨_, Below.refl _ _⟩⟩
        case measure => simp [intOf]; omega
    · have e : s.iN = k := by omega
      have HV : Hid (fstO p L s.iN = none) := Lib.hid (fst_none _ (fun j hj => ho.out j (by omega)))
      go_wp2
      try rw [Exit.noGoto_ret]
      go_ret2
      exact ⟨by rw [HV.out]; rfl, BW.out _ hb⟩
set_option maxHeartbeats 4000000 in
theorem firstMuch (s : State) (L : Nat → Ins) (fb gt gs : Nat) (q0 : Ins → Bool) (w : World) (h : Insts w w.heap.size s.iA s.iN L) (hn : s.iN ≤ 9223372036854775807)
    (hc0 : w.cell? ⟨fb, 0, none⟩ = some (.func (.func 25) #[] #[.pointer (some ⟨gt, 0, none⟩), .pointer (some ⟨gs, 0, none⟩)])) (HF0 : ∀ x wr, Below w.heap.size w wr → Calls Try.prog 25 #[x.val, .pointer (some ⟨gt, 0, none⟩), .pointer (some ⟨gs, 0, none⟩)] wr fun e w' => e = .returned (.bool (q0 x)) ∧ Below wr.heap.size wr w') :
    Calls Try.prog 18 #[s.val, .slice (some ⟨fb, 0, none⟩) 1 1] w fun e w' => e = .returned (.tuple #[.int .u64 (idO L (fstO (fun x => decide (x.st = 8) && q0 x) L s.iN)), .bool (fstO (fun x => decide (x.st = 8) && q0 x) L s.iN).isSome]) ∧ Below w.heap.size w w' := by
  have B1 := box_new w s.cells 36
  have f46 := s.f46
  obtain ⟨A, hA⟩ : ∃ A, s.iA = A := ⟨_, rfl⟩
  rw [hA] at f46 h
  clear hA
  have hp : ∃ p : Ins → Bool, p = (fun x => decide (x.st = 8) && q0 x) := ⟨_, rfl⟩
  obtain ⟨p, hp⟩ := hp
  rw [← hp]
  have HP := Lib.hid (congrFun hp)
  have H := Lib.hid h
  have BW := Lib.hid (fun (W : World) (hb : Below (w.alloc (.cells s.cells 36)).heap.size (w.alloc (.cells s.cells 36)) W) => bTrans (bAlloc (Below.refl _ w) (.cells s.cells 36)) hb)
  clear h hp
  have lt0 : fb < w.heap.size := by
    rcases Nat.lt_or_ge fb w.heap.size with hlt | hge
    · exact hlt
    · simp [World.cell?, Array.getElem?_eq_none hge] at hc0
  have HF0 := Lib.hid HF0
  have hcc := Lib.hid (And.intro hc0 lt0)
  clear hc0 lt0
  go_enter Try.func18, Try.ntmps18
  go_wp2
  go_step3
  go_wp2
  go_step3
  go_wp2
  go_loopw [13] (fun i wr => ∃ k : Nat, k ≤ s.iN ∧ i = .int .i64 k ∧ Hid (∀ j, j < k → p (L j) = false) ∧ Below (w.alloc (.cells s.cells 36)).heap.size (w.alloc (.cells s.cells 36)) wr) (fun i _ => s.iN - (intOf i).toNat)
  case atStart => exact ⟨0, by omega, rfl, Lib.hid (fun j hj => absurd hj (by omega)), Below.refl _ _⟩
  case round =>
    obtain ⟨k, hk, rfl, ho, hb⟩ := hrel
    by_cases hlt : k < s.iN
    · obtain ⟨b, off, rfl⟩ := insts_at H.out (by omega)
      obtain ⟨hbl, R, c0⟩ := ins_cells H.out (BW.out _ hb) rfl hlt
      have hsz : w.heap.size < wr.heap.size := by have := hb.size; simp at this; omega
      have BX := fun p : Grown (wr.alloc (.cells (L k).cells 44)) => box_row p
      have RX : (wr.alloc (.cells (L k).cells 44)).heap[wr.heap.size]? = _ := BX ⟨_, Below.refl _ _⟩
      have x5 := cell_row' RX (L k).f5
      have PB := Lib.hid (fun p : Grown (wr.alloc (.cells (L k).cells 44)) => bTrans (bAlloc hb (.cells (L k).cells 44)) p.below)
      have k0 := fun p : Grown (wr.alloc (.cells (L k).cells 44)) => ((bcell (BW.out _ (PB.out p))).1 fb 0 hcc.out.2).trans hcc.out.1
      have k0' := k0 ⟨_, Below.refl _ _⟩
      have C0 := Lib.hid (fun p : Grown (wr.alloc (.cells (L k).cells 44)) => HF0.out (L k) p.w1 (BW.out _ (PB.out p)))
      by_cases h8 : (L k).st = 8
      · have d8 : ((L k).st != 8) = false := by simp [h8]
        rcases h0 : q0 (L k) with _ | _
        · have hno : p (L k) = false := by rw [HP.out]; simp [h0]
          have HK : Hid (∀ j, j < k + 1 → p (L j) = false) := Lib.hid (none_step (p := fun j => p (L j)) ho.out hno)
          rw [h0] at C0
          clear hno
          go_wp2_with (first | ((with_reducible refine St.at_load 44 ?_); (first | (refine load_ins rfl _ rfl _ _ rfl (L k) R ?_) | (refine Thg.load_inP rfl _ rfl _ _ rfl (L k) RX rfl ?_) | (refine Thg.load_inP rfl _ rfl _ _ rfl (L k) (BX _) rfl ?_))) | ((with_reducible refine St.at_store 44 ?_); (first | (refine store_inp rfl _ _ rfl (L k) _ _ rfl rfl rfl ?_))))
          refine wp_loop_rounds 2 ?_
          rw [rounds_succ]
          go_wp2_with (first | ((with_reducible refine St.at_load 44 ?_); (first | (refine load_ins rfl _ rfl _ _ rfl (L k) R ?_) | (refine Thg.load_inP rfl _ rfl _ _ rfl (L k) RX rfl ?_) | (refine Thg.load_inP rfl _ rfl _ _ rfl (L k) (BX _) rfl ?_))) | ((with_reducible refine St.at_store 44 ?_); (first | (refine store_inp rfl _ _ rfl (L k) _ _ rfl rfl rfl ?_))))
          refine (call_grown (p := (⟨(wr.alloc (.cells (L k).cells 44)), Below.refl _ _⟩ : Grown (wr.alloc (.cells (L k).cells 44)))) (C0.out _)).mono ?_
          rintro _ _ ⟨rfl, v, rfl⟩
          go_wp2
          go_roundw
          case rel => exact ⟨k + 1, by omega, by go_num, HK, PB.out v⟩
          case measure => simp [intOf]; omega
        · skip
          have hyes : p (L k) = true := by rw [HP.out]; simp [h8, h0]
          have HV : Hid (fstO p L s.iN = some k) := Lib.hid (fst_some ho.out hyes _ hlt)
          rw [h0] at C0
          clear hyes
          go_wp2_with (first | ((with_reducible refine St.at_load 44 ?_); (first | (refine load_ins rfl _ rfl _ _ rfl (L k) R ?_) | (refine Thg.load_inP rfl _ rfl _ _ rfl (L k) RX rfl ?_) | (refine Thg.load_inP rfl _ rfl _ _ rfl (L k) (BX _) rfl ?_))) | ((with_reducible refine St.at_store 44 ?_); (first | (refine store_inp rfl _ _ rfl (L k) _ _ rfl rfl rfl ?_))))
          refine wp_loop_rounds 2 ?_
          rw [rounds_succ]
          go_wp2_with (first | ((with_reducible refine St.at_load 44 ?_); (first | (refine load_ins rfl _ rfl _ _ rfl (L k) R ?_) | (refine Thg.load_inP rfl _ rfl _ _ rfl (L k) RX rfl ?_) | (refine Thg.load_inP rfl _ rfl _ _ rfl (L k) (BX _) rfl ?_))) | ((with_reducible refine St.at_store 44 ?_); (first | (refine store_inp rfl _ _ rfl (L k) _ _ rfl rfl rfl ?_))))
          refine (call_grown (p := (⟨(wr.alloc (.cells (L k).cells 44)), Below.refl _ _⟩ : Grown (wr.alloc (.cells (L k).cells 44)))) (C0.out _)).mono ?_
          rintro _ _ ⟨rfl, v, rfl⟩
          have y0 := cell_row' (BX v) (L k).f0
          go_wp2_with fail
          rw [rounds_succ]
          go_wp2
          try rw [Exit.noGoto_ret]
          go_ret2
          exact ⟨by rw [HV.out]; rfl, BW.out _ (PB.out v)⟩
      · have d8 : ((L k).st != 8) = true := by simp [h8]
        have hno : p (L k) = false := by rw [HP.out]; simp [h8]
        have HK : Hid (∀ j, j < k + 1 → p (L j) = false) := Lib.hid (none_step (p := fun j => p (L j)) ho.out hno)
        clear hno
        go_wp2_with (first | ((with_reducible refine St.at_load 44 ?_); (first | (refine load_ins rfl _ rfl _ _ rfl (L k) R ?_) | (refine Thg.load_inP rfl _ rfl _ _ rfl (L k) RX rfl ?_) | (refine Thg.load_inP rfl _ rfl _ _ rfl (L k) (BX _) rfl ?_))) | ((with_reducible refine St.at_store 44 ?_); (first | (refine store_inp rfl _ _ rfl (L k) _ _ rfl rfl rfl ?_))))
        go_roundw
        case rel => exact ⟨k + 1, by omega, by go_num, HK, PB.out ⟨_, Below.refl _ _⟩⟩
        case measure => simp [intOf]; omega
    · have e : s.iN = k := by omega
      have HV : Hid (fstO p L s.iN = none) := Lib.hid (fst_none _ (fun j hj => ho.out j (by omega)))
      go_wp2
      try rw [Exit.noGoto_ret]
      go_ret2
      exact ⟨by rw [HV.out]; rfl, BW.out _ hb⟩
end Go.Proofs.Ytflnamahaclidaa.Wrm
