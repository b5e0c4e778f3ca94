
/- Contracts of layer 25: the weight of what serves and is so. -/
import Derived.Test.YtpjglhllbgmbhaaExtB
namespace Go.Proofs.Ytpjglhllbgmbhaa.Extra
open Go.ChangeShapes Go.WideShapes Go.ChangeAt Go.RowKit
open NumM
open NumA hiding ret_bool
open Mem Arr Lst Rec Inst Grown Sums St
/-- the weight of what serves and is so -/
def sumI (p : Ins → Bool) (L : Nat → Ins) : Nat → Int
  | 0 => 0
  | k + 1 => sumI p L k + (if servesB (L k) && p (L k) then (L k).wt else 0)
/-- the greatest weight of what serves and is so -/
def topI (p : Ins → Bool) (L : Nat → Ins) : Nat → Int
  | 0 => 0
  | k + 1 => if servesB (L k) && p (L k) then (if topI p L k < (L k).wt then (L k).wt else topI p L k) else topI p L k
theorem sum_bd {p : Ins → Bool} {L : Nat → Ins} {n : Nat} (h : mayB L n = true) : ∀ k, k ≤ n → 0 ≤ sumI p L k ∧ sumI p L k ≤ 100 * k ∧ 0 ≤ topI p L k ∧ topI p L k ≤ 100 ∧ topI p L k ≤ sumI p L k := by
  intro k
  induction k with
  | zero => intro _; unfold sumI topI; omega
  | succ k ih =>
    intro hk
    obtain ⟨h1, h2, h3, h4, h5⟩ := ih (by omega)
    have y := ok_yes (may_ok h (i := k) (by omega))
    unfold sumI topI
    split <;> (try split) <;> omega
theorem sum_on {p : Ins → Bool} {L : Nat → Ins} {k : Nat} (h1 : servesB (L k) = true) (h2 : p (L k) = true) : sumI p L (k + 1) = sumI p L k + (L k).wt ∧ topI p L (k + 1) = if topI p L k < (L k).wt then (L k).wt else topI p L k := by
  constructor
  · show sumI p L k + _ = _; rw [h1, h2]; rfl
  · show (if _ then _ else _) = _; rw [h1, h2]; rfl
theorem sum_off {p : Ins → Bool} {L : Nat → Ins} {k : Nat} (h : servesB (L k) = false ∨ p (L k) = false) : sumI p L (k + 1) = sumI p L k ∧ topI p L (k + 1) = topI p L k := by
  have e : (servesB (L k) && p (L k)) = false := by rcases h with h | h <;> rw [h] <;> simp
  constructor
  · show sumI p L k + _ = _; rw [e]; simp
  · show (if _ then _ else _) = _; rw [e]; rfl
theorem serves_is (x : Ins) (v : Bool) (hv : Hid (servesB x = v)) (w : World) : Calls Try.prog 35 #[x.val] w fun e w' => e = .returned (.bool v) ∧ Below w.heap.size w w' := by
  have := serves_any x w; rw [hv.out] at this; exact this
theorem refServes_is (x : Ins) (v : Bool) (hv : Hid (servesB x = v)) (w : World) : Calls Try.prog 31 #[x.val] w fun e w' => e = .returned (.bool v) ∧ Below w.heap.size w w' := by
  have := refServes_any x w; rw [hv.out] at this; exact this
theorem sum_end {a b c d : Int} (h1 : a = c) (h2 : b = d) : Ending.returned (.tuple #[.int .i64 a, .int .i64 b]) = Ending.returned (.tuple #[.int .i64 c, .int .i64 d]) := by rw [h1, h2]

set_option maxHeartbeats 2000000 in
theorem weigh_risk (s : State) (L : Nat → Ins) (g : Nat) (q : Ins → Bool) (w : World) (h : Insts w w.heap.size s.iA s.iN L) (hm : mayB L s.iN = true)
    (hF : ∀ x w1, Below w.heap.size w w1 → Calls Try.prog 27 #[x.val, .pointer (some ⟨g, 0, none⟩)] w1 fun e w' => e = .returned (.bool (q x)) ∧ Below w1.heap.size w1 w') :
    Calls Try.prog 26 #[s.val, .func (.func 27) #[] #[.pointer (some ⟨g, 0, none⟩)]] w fun e w' => e = .returned (.tuple #[.int .i64 (sumI q L s.iN), .int .i64 (topI q L s.iN)]) ∧ Below w.heap.size w w' := by
  have f46 := s.f46
  obtain ⟨A, hA⟩ : ∃ A, s.iA = A := ⟨_, rfl⟩
  rw [hA] at f46 h
  clear hA
  have H := Lib.hid h
  have HM := Lib.hid hm
  have HF := Lib.hid hF
  have h4 := may_len hm
  clear h hm hF
  go_enter Try.func26, Try.ntmps26
  go_wp2
  go_loopw [4, 5, 11] (fun a m i wr => ∃ k : Nat, k ≤ s.iN ∧ i = .int .i64 k ∧ a = .int .i64 (sumI q L k) ∧ m = .int .i64 (topI q L k) ∧ Below w.heap.size w wr) (fun _ _ i _ => s.iN - (intOf i).toNat)
  case atStart => exact ⟨0, by omega, rfl, rfl, rfl, bAlloc (Below.refl _ _) _⟩
  case round =>
    obtain ⟨k, hk, rfl, rfl, rfl, hb⟩ := hrel
    by_cases hlt : k < s.iN
    · obtain ⟨b, off, rfl⟩ := insts_at H.out (by omega)
      obtain ⟨hbl, R, c0⟩ := ins_cells H.out hb rfl hlt
      have y := ok_yes (may_ok HM.out hlt)
      have z := sum_bd (p := q) HM.out k hk
      have B2 : ∀ p : Grown (wr.alloc (.cells (L k).cells 38)), p.w1.rangeAt wr.heap.size 0 (L k).cells.toList := box_new wr (L k).cells 38
      have R2 : (wr.alloc (.cells (L k).cells 38)).rangeAt wr.heap.size 0 (L k).cells.toList := B2 ⟨_, Below.refl _ _⟩
      have h3 := box_cell B2 (L k).f3
      have PB := Lib.hid (fun p : Grown (wr.alloc (.cells (L k).cells 38)) => bTrans (bAlloc hb (.cells (L k).cells 38)) p.below)
      have W1 : IntKind.i64.wrap (sumI q L k + (L k).wt) = sumI q L k + (L k).wt := IntWalk.i64_in _ (by omega)
      rcases h1 : servesB (L k) with _ | _
      · have S1 := Lib.hid (serves_is (L k) false (Lib.hid h1))
        obtain ⟨e1, e2⟩ := sum_off (p := q) (.inl h1)
        have E := Lib.hid (And.intro e1 e2)
        clear h1 e1 e2 y z
        go_wp2_with ((with_reducible refine at_op ?_); (first | (refine load_ins rfl _ rfl _ _ rfl (L k) R ?_) | (refine store_ins rfl _ _ rfl (L k) _ _ rfl rfl rfl ?_) | (refine load_in rfl _ rfl _ _ rfl (L k) R2 ?_) | (refine load_in rfl _ rfl _ _ rfl (L k) (B2 _) ?_)))
        refine (call_grown (p := (⟨(wr.alloc (.cells (L k).cells 38)), Below.refl _ _⟩ : Grown (wr.alloc (.cells (L k).cells 38)))) (S1.out _)).mono ?_
        rintro _ _ ⟨rfl, p, rfl⟩
        go_wp2
        go_roundw
        case rel => exact ⟨k + 1, by omega, by go_num, by rw [E.out.1], by rw [E.out.2], PB.out p⟩
        case measure => simp [intOf]; omega
      · have S1 := Lib.hid (serves_is (L k) true (Lib.hid h1))
        rcases h2 : q (L k) with _ | _
        · obtain ⟨e1, e2⟩ := sum_off (p := q) (.inr h2)
          have E := Lib.hid (And.intro e1 e2)
          have S2 := Lib.hid (fun p : Grown (wr.alloc (.cells (L k).cells 38)) => HF.out (L k) p.w1 (PB.out p))
          rw [h2] at S2
          clear h1 e1 e2 h2 y z
          go_wp2_with ((with_reducible refine at_op ?_); (first | (refine load_ins rfl _ rfl _ _ rfl (L k) R ?_) | (refine store_ins rfl _ _ rfl (L k) _ _ rfl rfl rfl ?_) | (refine load_in rfl _ rfl _ _ rfl (L k) R2 ?_) | (refine load_in rfl _ rfl _ _ rfl (L k) (B2 _) ?_)))
          refine (call_grown (p := (⟨(wr.alloc (.cells (L k).cells 38)), Below.refl _ _⟩ : Grown (wr.alloc (.cells (L k).cells 38)))) (S1.out _)).mono ?_
          rintro _ _ ⟨rfl, p, rfl⟩
          go_wp2_with ((with_reducible refine at_op ?_); (first | (refine load_ins rfl _ rfl _ _ rfl (L k) R ?_) | (refine store_ins rfl _ _ rfl (L k) _ _ rfl rfl rfl ?_) | (refine load_in rfl _ rfl _ _ rfl (L k) R2 ?_) | (refine load_in rfl _ rfl _ _ rfl (L k) (B2 _) ?_)))
          refine (call_grown (p := p) (S2.out p)).mono ?_
          rintro _ _ ⟨rfl, p, rfl⟩
          go_wp2
          go_roundw
          case rel => exact ⟨k + 1, by omega, by go_num, by rw [E.out.1], by rw [E.out.2], PB.out p⟩
          case measure => simp [intOf]; omega
        · obtain ⟨e1, e2⟩ := sum_on (p := q) h1 h2
          have E := Lib.hid (And.intro e1 e2)
          have S2 := Lib.hid (fun p : Grown (wr.alloc (.cells (L k).cells 38)) => HF.out (L k) p.w1 (PB.out p))
          rw [h2] at S2
          clear h1 e1 e2 h2 y z
          go_wp2_with ((with_reducible refine at_op ?_); (first | (refine load_ins rfl _ rfl _ _ rfl (L k) R ?_) | (refine store_ins rfl _ _ rfl (L k) _ _ rfl rfl rfl ?_) | (refine load_in rfl _ rfl _ _ rfl (L k) R2 ?_) | (refine load_in rfl _ rfl _ _ rfl (L k) (B2 _) ?_)))
          refine (call_grown (p := (⟨(wr.alloc (.cells (L k).cells 38)), Below.refl _ _⟩ : Grown (wr.alloc (.cells (L k).cells 38)))) (S1.out _)).mono ?_
          rintro _ _ ⟨rfl, p, rfl⟩
          go_wp2_with ((with_reducible refine at_op ?_); (first | (refine load_ins rfl _ rfl _ _ rfl (L k) R ?_) | (refine store_ins rfl _ _ rfl (L k) _ _ rfl rfl rfl ?_) | (refine load_in rfl _ rfl _ _ rfl (L k) R2 ?_) | (refine load_in rfl _ rfl _ _ rfl (L k) (B2 _) ?_)))
          refine (call_grown (p := p) (S2.out p)).mono ?_
          rintro _ _ ⟨rfl, p, rfl⟩
          go_wp2
          go_roundw
          case rel => exact ⟨k + 1, by omega, by go_num, by rw [E.out.1], by rw [E.out.2], PB.out p⟩
          case measure => simp [intOf]; omega
    · obtain rfl : k = s.iN := by omega
      go_wp2
      go_ret2
      exact ⟨rfl, hb⟩

set_option maxHeartbeats 2000000 in
theorem weigh_old (s : State) (L : Nat → Ins) (g : Nat) (q : Ins → Bool) (w : World) (h : Insts w w.heap.size s.iA s.iN L) (hm : mayB L s.iN = true)
    (hF : ∀ x w1, Below w.heap.size w w1 → Calls Try.prog 28 #[x.val, .pointer (some ⟨g, 0, none⟩)] w1 fun e w' => e = .returned (.bool (q x)) ∧ Below w1.heap.size w1 w') :
    Calls Try.prog 26 #[s.val, .func (.func 28) #[] #[.pointer (some ⟨g, 0, none⟩)]] w fun e w' => e = .returned (.tuple #[.int .i64 (sumI q L s.iN), .int .i64 (topI q L s.iN)]) ∧ Below w.heap.size w w' := by
  have f46 := s.f46
  obtain ⟨A, hA⟩ : ∃ A, s.iA = A := ⟨_, rfl⟩
  rw [hA] at f46 h
  clear hA
  have H := Lib.hid h
  have HM := Lib.hid hm
  have HF := Lib.hid hF
  have h4 := may_len hm
  clear h hm hF
  go_enter Try.func26, Try.ntmps26
  go_wp2
  go_loopw [4, 5, 11] (fun a m i wr => ∃ k : Nat, k ≤ s.iN ∧ i = .int .i64 k ∧ a = .int .i64 (sumI q L k) ∧ m = .int .i64 (topI q L k) ∧ Below w.heap.size w wr) (fun _ _ i _ => s.iN - (intOf i).toNat)
  case atStart => exact ⟨0, by omega, rfl, rfl, rfl, bAlloc (Below.refl _ _) _⟩
  case round =>
    obtain ⟨k, hk, rfl, rfl, rfl, hb⟩ := hrel
    by_cases hlt : k < s.iN
    · obtain ⟨b, off, rfl⟩ := insts_at H.out (by omega)
      obtain ⟨hbl, R, c0⟩ := ins_cells H.out hb rfl hlt
      have y := ok_yes (may_ok HM.out hlt)
      have z := sum_bd (p := q) HM.out k hk
      have B2 : ∀ p : Grown (wr.alloc (.cells (L k).cells 38)), p.w1.rangeAt wr.heap.size 0 (L k).cells.toList := box_new wr (L k).cells 38
      have R2 : (wr.alloc (.cells (L k).cells 38)).rangeAt wr.heap.size 0 (L k).cells.toList := B2 ⟨_, Below.refl _ _⟩
      have h3 := box_cell B2 (L k).f3
      have PB := Lib.hid (fun p : Grown (wr.alloc (.cells (L k).cells 38)) => bTrans (bAlloc hb (.cells (L k).cells 38)) p.below)
      have W1 : IntKind.i64.wrap (sumI q L k + (L k).wt) = sumI q L k + (L k).wt := IntWalk.i64_in _ (by omega)
      rcases h1 : servesB (L k) with _ | _
      · have S1 := Lib.hid (serves_is (L k) false (Lib.hid h1))
        obtain ⟨e1, e2⟩ := sum_off (p := q) (.inl h1)
        have E := Lib.hid (And.intro e1 e2)
        clear h1 e1 e2 y z
        go_wp2_with ((with_reducible refine at_op ?_); (first | (refine load_ins rfl _ rfl _ _ rfl (L k) R ?_) | (refine store_ins rfl _ _ rfl (L k) _ _ rfl rfl rfl ?_) | (refine load_in rfl _ rfl _ _ rfl (L k) R2 ?_) | (refine load_in rfl _ rfl _ _ rfl (L k) (B2 _) ?_)))
        refine (call_grown (p := (⟨(wr.alloc (.cells (L k).cells 38)), Below.refl _ _⟩ : Grown (wr.alloc (.cells (L k).cells 38)))) (S1.out _)).mono ?_
        rintro _ _ ⟨rfl, p, rfl⟩
        go_wp2
        go_roundw
        case rel => exact ⟨k + 1, by omega, by go_num, by rw [E.out.1], by rw [E.out.2], PB.out p⟩
        case measure => simp [intOf]; omega
      · have S1 := Lib.hid (serves_is (L k) true (Lib.hid h1))
        rcases h2 : q (L k) with _ | _
        · obtain ⟨e1, e2⟩ := sum_off (p := q) (.inr h2)
          have E := Lib.hid (And.intro e1 e2)
          have S2 := Lib.hid (fun p : Grown (wr.alloc (.cells (L k).cells 38)) => HF.out (L k) p.w1 (PB.out p))
          rw [h2] at S2
          clear h1 e1 e2 h2 y z
          go_wp2_with ((with_reducible refine at_op ?_); (first | (refine load_ins rfl _ rfl _ _ rfl (L k) R ?_) | (refine store_ins rfl _ _ rfl (L k) _ _ rfl rfl rfl ?_) | (refine load_in rfl _ rfl _ _ rfl (L k) R2 ?_) | (refine load_in rfl _ rfl _ _ rfl (L k) (B2 _) ?_)))
          refine (call_grown (p := (⟨(wr.alloc (.cells (L k).cells 38)), Below.refl _ _⟩ : Grown (wr.alloc (.cells (L k).cells 38)))) (S1.out _)).mono ?_
          rintro _ _ ⟨rfl, p, rfl⟩
          go_wp2_with ((with_reducible refine at_op ?_); (first | (refine load_ins rfl _ rfl _ _ rfl (L k) R ?_) | (refine store_ins rfl _ _ rfl (L k) _ _ rfl rfl rfl ?_) | (refine load_in rfl _ rfl _ _ rfl (L k) R2 ?_) | (refine load_in rfl _ rfl _ _ rfl (L k) (B2 _) ?_)))
          refine (call_grown (p := p) (S2.out p)).mono ?_
          rintro _ _ ⟨rfl, p, rfl⟩
          go_wp2
          go_roundw
          case rel => exact ⟨k + 1, by omega, by go_num, by rw [E.out.1], by rw [E.out.2], PB.out p⟩
          case measure => simp [intOf]; omega
        · obtain ⟨e1, e2⟩ := sum_on (p := q) h1 h2
          have E := Lib.hid (And.intro e1 e2)
          have S2 := Lib.hid (fun p : Grown (wr.alloc (.cells (L k).cells 38)) => HF.out (L k) p.w1 (PB.out p))
          rw [h2] at S2
          clear h1 e1 e2 h2 y z
          go_wp2_with ((with_reducible refine at_op ?_); (first | (refine load_ins rfl _ rfl _ _ rfl (L k) R ?_) | (refine store_ins rfl _ _ rfl (L k) _ _ rfl rfl rfl ?_) | (refine load_in rfl _ rfl _ _ rfl (L k) R2 ?_) | (refine load_in rfl _ rfl _ _ rfl (L k) (B2 _) ?_)))
          refine (call_grown (p := (⟨(wr.alloc (.cells (L k).cells 38)), Below.refl _ _⟩ : Grown (wr.alloc (.cells (L k).cells 38)))) (S1.out _)).mono ?_
          rintro _ _ ⟨rfl, p, rfl⟩
          go_wp2_with ((with_reducible refine at_op ?_); (first | (refine load_ins rfl _ rfl _ _ rfl (L k) R ?_) | (refine store_ins rfl _ _ rfl (L k) _ _ rfl rfl rfl ?_) | (refine load_in rfl _ rfl _ _ rfl (L k) R2 ?_) | (refine load_in rfl _ rfl _ _ rfl (L k) (B2 _) ?_)))
          refine (call_grown (p := p) (S2.out p)).mono ?_
          rintro _ _ ⟨rfl, p, rfl⟩
          go_wp2
          go_roundw
          case rel => exact ⟨k + 1, by omega, by go_num, by rw [E.out.1], by rw [E.out.2], PB.out p⟩
          case measure => simp [intOf]; omega
    · obtain rfl : k = s.iN := by omega
      go_wp2
      go_ret2
      exact ⟨rfl, hb⟩

set_option maxHeartbeats 2000000 in
theorem weigh_new (s : State) (L : Nat → Ins) (g : Nat) (q : Ins → Bool) (w : World) (h : Insts w w.heap.size s.iA s.iN L) (hm : mayB L s.iN = true)
    (hF : ∀ x w1, Below w.heap.size w w1 → Calls Try.prog 34 #[x.val, .pointer (some ⟨g, 0, none⟩)] w1 fun e w' => e = .returned (.bool (q x)) ∧ Below w1.heap.size w1 w') :
    Calls Try.prog 26 #[s.val, .func (.func 34) #[] #[.pointer (some ⟨g, 0, none⟩)]] w fun e w' => e = .returned (.tuple #[.int .i64 (sumI q L s.iN), .int .i64 (topI q L s.iN)]) ∧ Below w.heap.size w w' := by
  have f46 := s.f46
  obtain ⟨A, hA⟩ : ∃ A, s.iA = A := ⟨_, rfl⟩
  rw [hA] at f46 h
  clear hA
  have H := Lib.hid h
  have HM := Lib.hid hm
  have HF := Lib.hid hF
  have h4 := may_len hm
  clear h hm hF
  go_enter Try.func26, Try.ntmps26
  go_wp2
  go_loopw [4, 5, 11] (fun a m i wr => ∃ k : Nat, k ≤ s.iN ∧ i = .int .i64 k ∧ a = .int .i64 (sumI q L k) ∧ m = .int .i64 (topI q L k) ∧ Below w.heap.size w wr) (fun _ _ i _ => s.iN - (intOf i).toNat)
  case atStart => exact ⟨0, by omega, rfl, rfl, rfl, bAlloc (Below.refl _ _) _⟩
  case round =>
    obtain ⟨k, hk, rfl, rfl, rfl, hb⟩ := hrel
    by_cases hlt : k < s.iN
    · obtain ⟨b, off, rfl⟩ := insts_at H.out (by omega)
      obtain ⟨hbl, R, c0⟩ := ins_cells H.out hb rfl hlt
      have y := ok_yes (may_ok HM.out hlt)
      have z := sum_bd (p := q) HM.out k hk
      have B2 : ∀ p : Grown (wr.alloc (.cells (L k).cells 38)), p.w1.rangeAt wr.heap.size 0 (L k).cells.toList := box_new wr (L k).cells 38
      have R2 : (wr.alloc (.cells (L k).cells 38)).rangeAt wr.heap.size 0 (L k).cells.toList := B2 ⟨_, Below.refl _ _⟩
      have h3 := box_cell B2 (L k).f3
      have PB := Lib.hid (fun p : Grown (wr.alloc (.cells (L k).cells 38)) => bTrans (bAlloc hb (.cells (L k).cells 38)) p.below)
      have W1 : IntKind.i64.wrap (sumI q L k + (L k).wt) = sumI q L k + (L k).wt := IntWalk.i64_in _ (by omega)
      rcases h1 : servesB (L k) with _ | _
      · have S1 := Lib.hid (serves_is (L k) false (Lib.hid h1))
        obtain ⟨e1, e2⟩ := sum_off (p := q) (.inl h1)
        have E := Lib.hid (And.intro e1 e2)
        clear h1 e1 e2 y z
        go_wp2_with ((with_reducible refine at_op ?_); (first | (refine load_ins rfl _ rfl _ _ rfl (L k) R ?_) | (refine store_ins rfl _ _ rfl (L k) _ _ rfl rfl rfl ?_) | (refine load_in rfl _ rfl _ _ rfl (L k) R2 ?_) | (refine load_in rfl _ rfl _ _ rfl (L k) (B2 _) ?_)))
        refine (call_grown (p := (⟨(wr.alloc (.cells (L k).cells 38)), Below.refl _ _⟩ : Grown (wr.alloc (.cells (L k).cells 38)))) (S1.out _)).mono ?_
        rintro _ _ ⟨rfl, p, rfl⟩
        go_wp2
        go_roundw
        case rel => exact ⟨k + 1, by omega, by go_num, by rw [E.out.1], by rw [E.out.2], PB.out p⟩
        case measure => simp [intOf]; omega
      · have S1 := Lib.hid (serves_is (L k) true (Lib.hid h1))
        rcases h2 : q (L k) with _ | _
        · obtain ⟨e1, e2⟩ := sum_off (p := q) (.inr h2)
          have E := Lib.hid (And.intro e1 e2)
          have S2 := Lib.hid (fun p : Grown (wr.alloc (.cells (L k).cells 38)) => HF.out (L k) p.w1 (PB.out p))
          rw [h2] at S2
          clear h1 e1 e2 h2 y z
          go_wp2_with ((with_reducible refine at_op ?_); (first | (refine load_ins rfl _ rfl _ _ rfl (L k) R ?_) | (refine store_ins rfl _ _ rfl (L k) _ _ rfl rfl rfl ?_) | (refine load_in rfl _ rfl _ _ rfl (L k) R2 ?_) | (refine load_in rfl _ rfl _ _ rfl (L k) (B2 _) ?_)))
          refine (call_grown (p := (⟨(wr.alloc (.cells (L k).cells 38)), Below.refl _ _⟩ : Grown (wr.alloc (.cells (L k).cells 38)))) (S1.out _)).mono ?_
          rintro _ _ ⟨rfl, p, rfl⟩
          go_wp2_with ((with_reducible refine at_op ?_); (first | (refine load_ins rfl _ rfl _ _ rfl (L k) R ?_) | (refine store_ins rfl _ _ rfl (L k) _ _ rfl rfl rfl ?_) | (refine load_in rfl _ rfl _ _ rfl (L k) R2 ?_) | (refine load_in rfl _ rfl _ _ rfl (L k) (B2 _) ?_)))
          refine (call_grown (p := p) (S2.out p)).mono ?_
          rintro _ _ ⟨rfl, p, rfl⟩
          go_wp2
          go_roundw
          case rel => exact ⟨k + 1, by omega, by go_num, by rw [E.out.1], by rw [E.out.2], PB.out p⟩
          case measure => simp [intOf]; omega
        · obtain ⟨e1, e2⟩ := sum_on (p := q) h1 h2
          have E := Lib.hid (And.intro e1 e2)
          have S2 := Lib.hid (fun p : Grown (wr.alloc (.cells (L k).cells 38)) => HF.out (L k) p.w1 (PB.out p))
          rw [h2] at S2
          clear h1 e1 e2 h2 y z
          go_wp2_with ((with_reducible refine at_op ?_); (first | (refine load_ins rfl _ rfl _ _ rfl (L k) R ?_) | (refine store_ins rfl _ _ rfl (L k) _ _ rfl rfl rfl ?_) | (refine load_in rfl _ rfl _ _ rfl (L k) R2 ?_) | (refine load_in rfl _ rfl _ _ rfl (L k) (B2 _) ?_)))
          refine (call_grown (p := (⟨(wr.alloc (.cells (L k).cells 38)), Below.refl _ _⟩ : Grown (wr.alloc (.cells (L k).cells 38)))) (S1.out _)).mono ?_
          rintro _ _ ⟨rfl, p, rfl⟩
          go_wp2_with ((with_reducible refine at_op ?_); (first | (refine load_ins rfl _ rfl _ _ rfl (L k) R ?_) | (refine store_ins rfl _ _ rfl (L k) _ _ rfl rfl rfl ?_) | (refine load_in rfl _ rfl _ _ rfl (L k) R2 ?_) | (refine load_in rfl _ rfl _ _ rfl (L k) (B2 _) ?_)))
          refine (call_grown (p := p) (S2.out p)).mono ?_
          rintro _ _ ⟨rfl, p, rfl⟩
          go_wp2
          go_roundw
          case rel => exact ⟨k + 1, by omega, by go_num, by rw [E.out.1], by rw [E.out.2], PB.out p⟩
          case measure => simp [intOf]; omega
    · obtain rfl : k = s.iN := by omega
      go_wp2
      go_ret2
      exact ⟨rfl, hb⟩

end Go.Proofs.Ytpjglhllbgmbhaa.Extra
