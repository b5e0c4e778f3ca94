
/- Contracts of layer 25: Ends of both. -/
import Derived.Test.YtpjglhllbgmbhaaExtC
import Derived.Test.YtpjglhllbgmbhaaOpens
namespace Go.Proofs.Ytpjglhllbgmbhaa.Extra
open Go.ChangeShapes Go.WideShapes Go.ChangeAt Go.RowKit
open NumM
open NumA hiding ret_bool
open Mem Arr Lst Rec Inst Grown Sums St Opens
def badI (s : State) (x : Ins) : Bool := decide (x.ver ≠ s.ver) && (servesB x || (comesB x || decide (x.st = 7 ∨ x.st = 8)))
def badO (s : State) (x : Opn) : Bool := decide (x.kind = 1) && decide (x.ver ≠ s.ver)
def endsB (s : State) (L : Nat → Ins) (O : Nat → Opn) : Bool := mayS s L && (decide (∀ i, i < s.iN → badI s (L i) = false) && decide (∀ i, i < s.oN → badO s (O i) = false))
theorem comes_is (x : Ins) (v : Bool) (hv : Hid (comesB x = v)) (w : World) : Calls Try.prog 36 #[x.val] w fun e w' => e = .returned (.bool v) ∧ Below w.heap.size w w' := by
  have := comes_any x w; rw [hv.out] at this; exact this
theorem refComes_is (x : Ins) (v : Bool) (hv : Hid (comesB x = v)) (w : World) : Calls Try.prog 37 #[x.val] w fun e w' => e = .returned (.bool v) ∧ Below w.heap.size w w' := by
  have := refComes_any x w; rw [hv.out] at this; exact this
theorem none_step {p : Nat → Bool} {k : Nat} (h : ∀ j, j < k → p j = false) (hk : p k = false) : ∀ j, j < k + 1 → p j = false := by
  intro j hj
  rcases Nat.lt_succ_iff_lt_or_eq.1 hj with h1 | rfl
  · exact h j h1
  · exact hk
theorem ends_i {s : State} {L : Nat → Ins} {O : Nat → Opn} {k : Nat} (hk : k < s.iN) (h : badI s (L k) = true) : endsB s L O = false := by
  unfold endsB
  rw [show decide (∀ i, i < s.iN → badI s (L i) = false) = false from decide_eq_false (fun e => by have := e k hk; rw [h] at this; cases this)]
  simp
theorem ends_o {s : State} {L : Nat → Ins} {O : Nat → Opn} {k : Nat} (hk : k < s.oN) (h : badO s (O k) = true) : endsB s L O = false := by
  unfold endsB
  rw [show decide (∀ i, i < s.oN → badO s (O i) = false) = false from decide_eq_false (fun e => by have := e k hk; rw [h] at this; cases this)]
  simp
theorem ends_all {s : State} {L : Nat → Ins} {O : Nat → Opn} (hm : mayS s L = true) (h1 : ∀ i, i < s.iN → badI s (L i) = false) (h2 : ∀ i, i < s.oN → badO s (O i) = false) : endsB s L O = true := by
  unfold endsB
  rw [hm, decide_eq_true h1, decide_eq_true h2]; rfl
theorem ends_may {s : State} {L : Nat → Ins} {O : Nat → Opn} (hm : mayS s L = false) : endsB s L O = false := by unfold endsB; rw [hm]; rfl

set_option maxHeartbeats 2000000 in
theorem ends_any (s : State) (L : Nat → Ins) (O : Nat → Opn) (w : World) (h : Insts w w.heap.size s.iA s.iN L) (hO : Opns w w.heap.size s.oA s.oN O) (hn : s.iN ≤ 9223372036854775807) (hn2 : s.oN ≤ 9223372036854775807) :
    Calls Try.prog 20 #[s.val] w fun e w' => e = .returned (.bool (endsB s L O)) ∧ Below w.heap.size w w' := by
  have B1 := box_new w s.cells 36
  have R1 : (w.alloc (.cells s.cells 36)).rangeAt w.heap.size 0 s.cells.toList := B1 ⟨_, Below.refl _ _⟩
  have f40 := s.f40
  have f46 := s.f46
  have f47 := s.f47
  rcases hm : mayS s L with _ | _
  · have HV : Hid (endsB s L O = false) := Lib.hid (ends_may hm)
    have M := Lib.hid (fun p : Grown (w.alloc (.cells s.cells 36)) => mayS_is s L false (Lib.hid hm) p.w1 (insts_box h p) hn)
    clear hm h
    go_enter Try.func20, Try.ntmps20
    go_wp2_with (first | ((with_reducible refine at_loadg 36 ?_); (first | (refine load_st rfl _ rfl _ _ rfl s R1 ?_) | (refine load_st rfl _ rfl _ _ rfl s (B1 _) ?_))))
    refine (call_grown (p := (⟨(w.alloc (.cells s.cells 36)), Below.refl _ _⟩ : Grown (w.alloc (.cells s.cells 36)))) (M.out (⟨(w.alloc (.cells s.cells 36)), Below.refl _ _⟩ : Grown (w.alloc (.cells s.cells 36))))).mono ?_
    rintro _ _ ⟨rfl, p, rfl⟩
    go_wp2
    go_ret
    exact ⟨ret_bool HV.out.symm, bTrans (bAlloc (Below.refl _ _) _) p.below⟩
  · have M := Lib.hid (fun p : Grown (w.alloc (.cells s.cells 36)) => mayS_is s L true (Lib.hid hm) p.w1 (insts_box h p) hn)
    have HM := Lib.hid hm
    obtain ⟨A, hA⟩ : ∃ A, s.iA = A := ⟨_, rfl⟩
    rw [hA] at f46 h
    obtain ⟨C, hC⟩ : ∃ C, s.oA = C := ⟨_, rfl⟩
    rw [hC] at f47 hO
    clear hA hC hm
    have g40 := box_cell B1 f40
    have g46 := box_cell B1 f46
    have g47 := box_cell B1 f47
    have H := Lib.hid h
    have HO := Lib.hid hO
    clear h hO
    go_enter Try.func20, Try.ntmps20
    go_wp2_with (first | ((with_reducible refine at_loadg 36 ?_); (first | (refine load_st rfl _ rfl _ _ rfl s R1 ?_) | (refine load_st rfl _ rfl _ _ rfl s (B1 _) ?_))))
    refine (call_grown (p := (⟨(w.alloc (.cells s.cells 36)), Below.refl _ _⟩ : Grown (w.alloc (.cells s.cells 36)))) (M.out (⟨(w.alloc (.cells s.cells 36)), Below.refl _ _⟩ : Grown (w.alloc (.cells s.cells 36))))).mono ?_
    rintro _ _ ⟨rfl, p, rfl⟩
    go_wp2
    go_loopw [13] (fun i wr => ∃ k : Nat, k ≤ s.iN ∧ i = .int .i64 k ∧ Hid (∀ j, j < k → badI s (L j) = false) ∧ Below (w.alloc (.cells s.cells 36)).heap.size (w.alloc (.cells s.cells 36)) wr) (fun i _ => s.iN - (intOf i).toNat)
    case atStart => exact ⟨0, by omega, rfl, Lib.hid (fun j hj => absurd hj (by omega)), p.below⟩
    case round =>
      obtain ⟨k, hk, rfl, ho, hb⟩ := hrel
      have g40' : wr.cell? ⟨w.heap.size, 40, none⟩ = some (.int .u32 s.ver) := g40 ⟨wr, hb⟩
      have g46' : wr.cell? ⟨w.heap.size, 46, none⟩ = some (.slice A s.iN s.iC) := g46 ⟨wr, hb⟩
      have g47' : wr.cell? ⟨w.heap.size, 47, none⟩ = some (.slice C s.oN s.oC) := g47 ⟨wr, hb⟩
      have hsz : w.heap.size < wr.heap.size := by have := hb.size; simp at this; omega
      by_cases hlt : k < s.iN
      · obtain ⟨b, off, rfl⟩ := insts_at H.out (by omega)
        obtain ⟨hbl, R, c0⟩ := ins_cells H.out (bTrans (bAlloc (Below.refl _ _) _) hb) rfl hlt
        have B2 : ∀ p : Grown (wr.alloc (.cells (L k).cells 38)), p.w1.rangeAt wr.heap.size 0 (L k).cells.toList := box_new wr (L k).cells 38
        have R2 : (wr.alloc (.cells (L k).cells 38)).rangeAt wr.heap.size 0 (L k).cells.toList := B2 ⟨_, Below.refl _ _⟩
        have BS : ∀ p : Grown (wr.alloc (.cells (L k).cells 38)), Below (w.alloc (.cells s.cells 36)).heap.size (w.alloc (.cells s.cells 36)) p.w1 := fun p => bTrans (bAlloc hb _) p.below
        have h5 := box_cell B2 (L k).f5
        have h11 := box_cell B2 (L k).f11
        have e5 := (L k).f5
        have e11 := (L k).f11
        have k40 : ∀ p : Grown (wr.alloc (.cells (L k).cells 38)), p.w1.cell? ⟨w.heap.size, 40, none⟩ = some (.int .u32 s.ver) := fun p => g40 ⟨p.w1, BS p⟩
        have k40' : (wr.alloc (.cells (L k).cells 38)).cell? ⟨w.heap.size, 40, none⟩ = some (.int .u32 s.ver) := k40 ⟨_, Below.refl _ _⟩
        have PB := Lib.hid (fun p : Grown (wr.alloc (.cells (L k).cells 38)) => bTrans (bAlloc (bTrans (bAlloc (Below.refl _ w) (.cells s.cells 36)) hb) (.cells (L k).cells 38)) p.below)
        have HS := Lib.hid BS
        clear BS
        by_cases hv : (L k).ver = s.ver
        · have hv2 : ((L k).ver != s.ver) = false := by simp [hv]
          have hbad : badI s (L k) = false := by unfold badI; simp [hv]
          have HK : Hid (∀ j, j < k + 1 → badI s (L j) = false) := Lib.hid (none_step ho.out hbad)
          clear hbad ho
          go_wp2_with (first | ((with_reducible refine at_load 38 ?_); (first | (refine load_ins rfl _ rfl _ _ rfl (L k) R ?_))) | ((with_reducible refine at_store 38 ?_); (first | (refine store_inp rfl _ _ rfl (L k) _ _ rfl rfl rfl ?_))))
          go_roundw
          case rel => exact ⟨k + 1, by omega, by go_num, HK, HS.out (⟨(wr.alloc (.cells (L k).cells 38)), Below.refl _ _⟩ : Grown (wr.alloc (.cells (L k).cells 38)))⟩
          case measure => simp [intOf]; omega
        · have hv2 : ((L k).ver != s.ver) = true := by simp [hv]
          rcases h1 : servesB (L k) with _ | _
          · have S1 := Lib.hid (serves_is (L k) false (Lib.hid h1))
            rcases h2 : comesB (L k) with _ | _
            · have S2 := Lib.hid (comes_is (L k) false (Lib.hid h2))
              by_cases h7 : (L k).st = 7
              · have hbad : badI s (L k) = true := by unfold badI; simp [hv, h7]
                have h7' : ((L k).st == 7) = true := by simp [h7]
                clear h1 h2
                have HV : Hid (endsB s L O = false) := Lib.hid (ends_i hlt hbad)
                clear hbad ho
                go_wp2_with (first | ((with_reducible refine at_load 38 ?_); (first | (refine load_ins rfl _ rfl _ _ rfl (L k) R ?_))) | ((with_reducible refine at_store 38 ?_); (first | (refine store_inp rfl _ _ rfl (L k) _ _ rfl rfl rfl ?_))) | ((with_reducible refine at_loadg 38 ?_); (first | (refine load_in rfl _ rfl _ _ rfl (L k) R2 ?_) | (refine load_in rfl _ rfl _ _ rfl (L k) (B2 _) ?_))))
                refine (call_grown (p := (⟨(wr.alloc (.cells (L k).cells 38)), Below.refl _ _⟩ : Grown (wr.alloc (.cells (L k).cells 38)))) (S1.out _)).mono ?_
                rintro _ _ ⟨rfl, p, rfl⟩
                go_wp2_with (first | ((with_reducible refine at_load 38 ?_); (first | (refine load_ins rfl _ rfl _ _ rfl (L k) R ?_))) | ((with_reducible refine at_store 38 ?_); (first | (refine store_inp rfl _ _ rfl (L k) _ _ rfl rfl rfl ?_))) | ((with_reducible refine at_loadg 38 ?_); (first | (refine load_in rfl _ rfl _ _ rfl (L k) R2 ?_) | (refine load_in rfl _ rfl _ _ rfl (L k) (B2 _) ?_))))
                refine (call_grown (p := p) (S2.out _)).mono ?_
                rintro _ _ ⟨rfl, p, rfl⟩
                go_wp2
                go_ret
                exact ⟨ret_bool HV.out.symm, PB.out p⟩
              · have h7' : ((L k).st == 7) = false := by simp [h7]
                by_cases h8 : (L k).st = 8
                · have hbad : badI s (L k) = true := by unfold badI; simp [hv, h8]
                  have h8' : ((L k).st == 8) = true := by simp [h8]
                  clear h1 h2
                  have HV : Hid (endsB s L O = false) := Lib.hid (ends_i hlt hbad)
                  clear hbad ho
                  go_wp2_with (first | ((with_reducible refine at_load 38 ?_); (first | (refine load_ins rfl _ rfl _ _ rfl (L k) R ?_))) | ((with_reducible refine at_store 38 ?_); (first | (refine store_inp rfl _ _ rfl (L k) _ _ rfl rfl rfl ?_))) | ((with_reducible refine at_loadg 38 ?_); (first | (refine load_in rfl _ rfl _ _ rfl (L k) R2 ?_) | (refine load_in rfl _ rfl _ _ rfl (L k) (B2 _) ?_))))
                  refine (call_grown (p := (⟨(wr.alloc (.cells (L k).cells 38)), Below.refl _ _⟩ : Grown (wr.alloc (.cells (L k).cells 38)))) (S1.out _)).mono ?_
                  rintro _ _ ⟨rfl, p, rfl⟩
                  go_wp2_with (first | ((with_reducible refine at_load 38 ?_); (first | (refine load_ins rfl _ rfl _ _ rfl (L k) R ?_))) | ((with_reducible refine at_store 38 ?_); (first | (refine store_inp rfl _ _ rfl (L k) _ _ rfl rfl rfl ?_))) | ((with_reducible refine at_loadg 38 ?_); (first | (refine load_in rfl _ rfl _ _ rfl (L k) R2 ?_) | (refine load_in rfl _ rfl _ _ rfl (L k) (B2 _) ?_))))
                  refine (call_grown (p := p) (S2.out _)).mono ?_
                  rintro _ _ ⟨rfl, p, rfl⟩
                  go_wp2
                  go_ret
                  exact ⟨ret_bool HV.out.symm, PB.out p⟩
                · have h8' : ((L k).st == 8) = false := by simp [h8]
                  have hbad : badI s (L k) = false := by unfold badI; rw [h1, h2]; simp [h7, h8]
                  clear h1 h2
                  have HK : Hid (∀ j, j < k + 1 → badI s (L j) = false) := Lib.hid (none_step ho.out hbad)
                  clear hbad ho
                  go_wp2_with (first | ((with_reducible refine at_load 38 ?_); (first | (refine load_ins rfl _ rfl _ _ rfl (L k) R ?_))) | ((with_reducible refine at_store 38 ?_); (first | (refine store_inp rfl _ _ rfl (L k) _ _ rfl rfl rfl ?_))) | ((with_reducible refine at_loadg 38 ?_); (first | (refine load_in rfl _ rfl _ _ rfl (L k) R2 ?_) | (refine load_in rfl _ rfl _ _ rfl (L k) (B2 _) ?_))))
                  refine (call_grown (p := (⟨(wr.alloc (.cells (L k).cells 38)), Below.refl _ _⟩ : Grown (wr.alloc (.cells (L k).cells 38)))) (S1.out _)).mono ?_
                  rintro _ _ ⟨rfl, p, rfl⟩
                  go_wp2_with (first | ((with_reducible refine at_load 38 ?_); (first | (refine load_ins rfl _ rfl _ _ rfl (L k) R ?_))) | ((with_reducible refine at_store 38 ?_); (first | (refine store_inp rfl _ _ rfl (L k) _ _ rfl rfl rfl ?_))) | ((with_reducible refine at_loadg 38 ?_); (first | (refine load_in rfl _ rfl _ _ rfl (L k) R2 ?_) | (refine load_in rfl _ rfl _ _ rfl (L k) (B2 _) ?_))))
                  refine (call_grown (p := p) (S2.out _)).mono ?_
                  rintro _ _ ⟨rfl, p, rfl⟩
                  go_wp2
                  go_roundw
                  case rel => exact ⟨k + 1, by omega, by go_num, HK, HS.out p⟩
                  case measure => simp [intOf]; omega
            · have S2 := Lib.hid (comes_is (L k) true (Lib.hid h2))
              have hbad : badI s (L k) = true := by unfold badI; rw [h2]; simp [hv]
              clear h1 h2
              have HV : Hid (endsB s L O = false) := Lib.hid (ends_i hlt hbad)
              clear hbad ho
              go_wp2_with (first | ((with_reducible refine at_load 38 ?_); (first | (refine load_ins rfl _ rfl _ _ rfl (L k) R ?_))) | ((with_reducible refine at_store 38 ?_); (first | (refine store_inp rfl _ _ rfl (L k) _ _ rfl rfl rfl ?_))) | ((with_reducible refine at_loadg 38 ?_); (first | (refine load_in rfl _ rfl _ _ rfl (L k) R2 ?_) | (refine load_in rfl _ rfl _ _ rfl (L k) (B2 _) ?_))))
              refine (call_grown (p := (⟨(wr.alloc (.cells (L k).cells 38)), Below.refl _ _⟩ : Grown (wr.alloc (.cells (L k).cells 38)))) (S1.out _)).mono ?_
              rintro _ _ ⟨rfl, p, rfl⟩
              go_wp2_with (first | ((with_reducible refine at_load 38 ?_); (first | (refine load_ins rfl _ rfl _ _ rfl (L k) R ?_))) | ((with_reducible refine at_store 38 ?_); (first | (refine store_inp rfl _ _ rfl (L k) _ _ rfl rfl rfl ?_))) | ((with_reducible refine at_loadg 38 ?_); (first | (refine load_in rfl _ rfl _ _ rfl (L k) R2 ?_) | (refine load_in rfl _ rfl _ _ rfl (L k) (B2 _) ?_))))
              refine (call_grown (p := p) (S2.out _)).mono ?_
              rintro _ _ ⟨rfl, p, rfl⟩
              go_wp2
              go_ret
              exact ⟨ret_bool HV.out.symm, PB.out p⟩
          · have S1 := Lib.hid (serves_is (L k) true (Lib.hid h1))
            have hbad : badI s (L k) = true := by unfold badI; rw [h1]; simp [hv]
            clear h1
            have HV : Hid (endsB s L O = false) := Lib.hid (ends_i hlt hbad)
            clear hbad ho
            go_wp2_with (first | ((with_reducible refine at_load 38 ?_); (first | (refine load_ins rfl _ rfl _ _ rfl (L k) R ?_))) | ((with_reducible refine at_store 38 ?_); (first | (refine store_inp rfl _ _ rfl (L k) _ _ rfl rfl rfl ?_))) | ((with_reducible refine at_loadg 38 ?_); (first | (refine load_in rfl _ rfl _ _ rfl (L k) R2 ?_) | (refine load_in rfl _ rfl _ _ rfl (L k) (B2 _) ?_))))
            refine (call_grown (p := (⟨(wr.alloc (.cells (L k).cells 38)), Below.refl _ _⟩ : Grown (wr.alloc (.cells (L k).cells 38)))) (S1.out _)).mono ?_
            rintro _ _ ⟨rfl, p, rfl⟩
            go_wp2
            go_ret
            exact ⟨ret_bool HV.out.symm, PB.out p⟩
      · obtain rfl : k = s.iN := by omega
        have HI := ho
        have PQ := Lib.hid (fun (W : World) (hb : Below (w.alloc (.cells s.cells 36)).heap.size (w.alloc (.cells s.cells 36)) W) => bTrans (bAlloc (Below.refl _ w) (.cells s.cells 36)) hb)
        go_wp2
        go_loopw [44] (fun i wr => ∃ k : Nat, k ≤ s.oN ∧ i = .int .i64 k ∧ Hid (∀ j, j < k → badO s (O j) = false) ∧ Below (w.alloc (.cells s.cells 36)).heap.size (w.alloc (.cells s.cells 36)) wr) (fun i _ => s.oN - (intOf i).toNat)
        case atStart => exact ⟨0, by omega, rfl, Lib.hid (fun j hj => absurd hj (by omega)), hb⟩
        case round =>
          obtain ⟨k, hk, rfl, ho, hb⟩ := hrel
          have g40' : wr.cell? ⟨w.heap.size, 40, none⟩ = some (.int .u32 s.ver) := g40 ⟨wr, hb⟩
          have g46' : wr.cell? ⟨w.heap.size, 46, none⟩ = some (.slice A s.iN s.iC) := g46 ⟨wr, hb⟩
          have g47' : wr.cell? ⟨w.heap.size, 47, none⟩ = some (.slice C s.oN s.oC) := g47 ⟨wr, hb⟩
          have hsz : w.heap.size < wr.heap.size := by have := hb.size; simp at this; omega
          by_cases hlt : k < s.oN
          · obtain ⟨b, off, rfl⟩ := opns_at HO.out (by omega)
            obtain ⟨hbl, R⟩ := opn_cells HO.out (bTrans (bAlloc (Below.refl _ _) _) hb) rfl hlt
            have HS : Hid (∀ p : Grown (wr.alloc (.cells (O k).cells 53)), Below (w.alloc (.cells s.cells 36)).heap.size (w.alloc (.cells s.cells 36)) p.w1) := Lib.hid (fun p => bTrans (bAlloc hb _) p.below)
            have k40 : (wr.alloc (.cells (O k).cells 53)).cell? ⟨w.heap.size, 40, none⟩ = some (.int .u32 s.ver) := g40 ⟨_, HS.out ⟨_, Below.refl _ _⟩⟩
            have e0 := (O k).f0
            have e8 := (O k).f8
            by_cases h1 : (O k).kind = 1
            · have h1' : ((O k).kind == 1) = true := by simp [h1]
              by_cases h2 : (O k).ver = s.ver
              · have h2' : ((O k).ver != s.ver) = false := by simp [h2]
                have hbad : badO s (O k) = false := by unfold badO; simp [h2]
                have HK : Hid (∀ j, j < k + 1 → badO s (O j) = false) := Lib.hid (none_step ho.out hbad)
                clear hbad ho
                go_wp2_with (first | ((with_reducible refine at_load 53 ?_); (first | (refine load_opn rfl _ rfl _ _ rfl (O k) R ?_))) | ((with_reducible refine at_store 53 ?_); (first | (refine store_opn rfl _ _ rfl (O k) _ _ rfl rfl rfl ?_))))
                go_roundw
                case rel => exact ⟨k + 1, by omega, by go_num, HK, HS.out ⟨(wr.alloc (.cells (O k).cells 53)), Below.refl _ _⟩⟩
                case measure => simp [intOf]; omega
              · have h2' : ((O k).ver != s.ver) = true := by simp [h2]
                have hbad : badO s (O k) = true := by unfold badO; simp [h1, h2]
                have HV : Hid (endsB s L O = false) := Lib.hid (ends_o hlt hbad)
                clear hbad ho
                go_wp2_with (first | ((with_reducible refine at_load 53 ?_); (first | (refine load_opn rfl _ rfl _ _ rfl (O k) R ?_))) | ((with_reducible refine at_store 53 ?_); (first | (refine store_opn rfl _ _ rfl (O k) _ _ rfl rfl rfl ?_))))
                go_ret
                exact ⟨ret_bool HV.out.symm, bAlloc (PQ.out _ hb) _⟩
            · have h1' : ((O k).kind == 1) = false := by simp [h1]
              have hbad : badO s (O k) = false := by unfold badO; simp [h1]
              have HK : Hid (∀ j, j < k + 1 → badO s (O j) = false) := Lib.hid (none_step ho.out hbad)
              clear hbad ho
              go_wp2_with (first | ((with_reducible refine at_load 53 ?_); (first | (refine load_opn rfl _ rfl _ _ rfl (O k) R ?_))) | ((with_reducible refine at_store 53 ?_); (first | (refine store_opn rfl _ _ rfl (O k) _ _ rfl rfl rfl ?_))))
              go_roundw
              case rel => exact ⟨k + 1, by omega, by go_num, HK, HS.out ⟨(wr.alloc (.cells (O k).cells 53)), Below.refl _ _⟩⟩
              case measure => simp [intOf]; omega
          · obtain rfl : k = s.oN := by omega
            have HV : Hid (endsB s L O = true) := Lib.hid (ends_all HM.out HI.out ho.out)
            go_wp2
            go_ret
            exact ⟨ret_bool HV.out.symm, PQ.out _ hb⟩
set_option maxHeartbeats 2000000 in
theorem refEnds_any (s : State) (L : Nat → Ins) (O : Nat → Opn) (w : World) (h : Insts w w.heap.size s.iA s.iN L) (hO : Opns w w.heap.size s.oA s.oN O) (hn : s.iN ≤ 9223372036854775807) (hn2 : s.oN ≤ 9223372036854775807) :
    Calls Try.prog 21 #[s.val] w fun e w' => e = .returned (.bool (endsB s L O)) ∧ Below w.heap.size w w' := by
  have B1 := box_new w s.cells 36
  have R1 : (w.alloc (.cells s.cells 36)).rangeAt w.heap.size 0 s.cells.toList := B1 ⟨_, Below.refl _ _⟩
  have f40 := s.f40
  have f46 := s.f46
  have f47 := s.f47
  rcases hm : mayS s L with _ | _
  · have HV : Hid (endsB s L O = false) := Lib.hid (ends_may hm)
    have M := Lib.hid (fun p : Grown (w.alloc (.cells s.cells 36)) => ready_is s L false (Lib.hid hm) p.w1 (insts_box h p) hn)
    clear hm h
    go_enter Try.func21, Try.ntmps21
    go_wp2_with (first | ((with_reducible refine at_loadg 36 ?_); (first | (refine load_st rfl _ rfl _ _ rfl s R1 ?_) | (refine load_st rfl _ rfl _ _ rfl s (B1 _) ?_))))
    refine (call_grown (p := (⟨(w.alloc (.cells s.cells 36)), Below.refl _ _⟩ : Grown (w.alloc (.cells s.cells 36)))) (M.out (⟨(w.alloc (.cells s.cells 36)), Below.refl _ _⟩ : Grown (w.alloc (.cells s.cells 36))))).mono ?_
    rintro _ _ ⟨rfl, p, rfl⟩
    go_wp2
    go_ret
    exact ⟨ret_bool HV.out.symm, bTrans (bAlloc (Below.refl _ _) _) p.below⟩
  · have M := Lib.hid (fun p : Grown (w.alloc (.cells s.cells 36)) => ready_is s L true (Lib.hid hm) p.w1 (insts_box h p) hn)
    have HM := Lib.hid hm
    obtain ⟨A, hA⟩ : ∃ A, s.iA = A := ⟨_, rfl⟩
    rw [hA] at f46 h
    obtain ⟨C, hC⟩ : ∃ C, s.oA = C := ⟨_, rfl⟩
    rw [hC] at f47 hO
    clear hA hC hm
    have g40 := box_cell B1 f40
    have g46 := box_cell B1 f46
    have g47 := box_cell B1 f47
    have H := Lib.hid h
    have HO := Lib.hid hO
    clear h hO
    go_enter Try.func21, Try.ntmps21
    go_wp2_with (first | ((with_reducible refine at_loadg 36 ?_); (first | (refine load_st rfl _ rfl _ _ rfl s R1 ?_) | (refine load_st rfl _ rfl _ _ rfl s (B1 _) ?_))))
    refine (call_grown (p := (⟨(w.alloc (.cells s.cells 36)), Below.refl _ _⟩ : Grown (w.alloc (.cells s.cells 36)))) (M.out (⟨(w.alloc (.cells s.cells 36)), Below.refl _ _⟩ : Grown (w.alloc (.cells s.cells 36))))).mono ?_
    rintro _ _ ⟨rfl, p, rfl⟩
    go_wp2
    go_loopw [3] (fun i wr => ∃ k : Nat, k ≤ s.iN ∧ i = .int .i64 k ∧ Hid (∀ j, j < k → badI s (L j) = false) ∧ Below (w.alloc (.cells s.cells 36)).heap.size (w.alloc (.cells s.cells 36)) wr) (fun i _ => s.iN - (intOf i).toNat)
    case atStart => exact ⟨0, by omega, rfl, Lib.hid (fun j hj => absurd hj (by omega)), p.below⟩
    case round =>
      obtain ⟨k, hk, rfl, ho, hb⟩ := hrel
      have g40' : wr.cell? ⟨w.heap.size, 40, none⟩ = some (.int .u32 s.ver) := g40 ⟨wr, hb⟩
      have g46' : wr.cell? ⟨w.heap.size, 46, none⟩ = some (.slice A s.iN s.iC) := g46 ⟨wr, hb⟩
      have g47' : wr.cell? ⟨w.heap.size, 47, none⟩ = some (.slice C s.oN s.oC) := g47 ⟨wr, hb⟩
      have hsz : w.heap.size < wr.heap.size := by have := hb.size; simp at this; omega
      by_cases hlt : k < s.iN
      · obtain ⟨b, off, rfl⟩ := insts_at H.out (by omega)
        obtain ⟨hbl, R, c0⟩ := ins_cells H.out (bTrans (bAlloc (Below.refl _ _) _) hb) rfl hlt
        have B2 : ∀ p : Grown (wr.alloc (.cells (L k).cells 38)), p.w1.rangeAt wr.heap.size 0 (L k).cells.toList := box_new wr (L k).cells 38
        have R2 : (wr.alloc (.cells (L k).cells 38)).rangeAt wr.heap.size 0 (L k).cells.toList := B2 ⟨_, Below.refl _ _⟩
        have BS : ∀ p : Grown (wr.alloc (.cells (L k).cells 38)), Below (w.alloc (.cells s.cells 36)).heap.size (w.alloc (.cells s.cells 36)) p.w1 := fun p => bTrans (bAlloc hb _) p.below
        have h5 := box_cell B2 (L k).f5
        have h11 := box_cell B2 (L k).f11
        have e5 := (L k).f5
        have e11 := (L k).f11
        have k40 : ∀ p : Grown (wr.alloc (.cells (L k).cells 38)), p.w1.cell? ⟨w.heap.size, 40, none⟩ = some (.int .u32 s.ver) := fun p => g40 ⟨p.w1, BS p⟩
        have k40' : (wr.alloc (.cells (L k).cells 38)).cell? ⟨w.heap.size, 40, none⟩ = some (.int .u32 s.ver) := k40 ⟨_, Below.refl _ _⟩
        have PB := Lib.hid (fun p : Grown (wr.alloc (.cells (L k).cells 38)) => bTrans (bAlloc (bTrans (bAlloc (Below.refl _ w) (.cells s.cells 36)) hb) (.cells (L k).cells 38)) p.below)
        have HS := Lib.hid BS
        clear BS
        by_cases hv : (L k).ver = s.ver
        · have hv2 : ((L k).ver != s.ver) = false := by simp [hv]
          have hbad : badI s (L k) = false := by unfold badI; simp [hv]
          have HK : Hid (∀ j, j < k + 1 → badI s (L j) = false) := Lib.hid (none_step ho.out hbad)
          clear hbad ho
          go_wp2_with (first | ((with_reducible refine at_load 38 ?_); (first | (refine load_ins rfl _ rfl _ _ rfl (L k) R ?_))) | ((with_reducible refine at_store 38 ?_); (first | (refine store_inp rfl _ _ rfl (L k) _ _ rfl rfl rfl ?_))))
          go_roundw
          case rel => exact ⟨k + 1, by omega, by go_num, HK, HS.out (⟨(wr.alloc (.cells (L k).cells 38)), Below.refl _ _⟩ : Grown (wr.alloc (.cells (L k).cells 38)))⟩
          case measure => simp [intOf]; omega
        · have hv2 : ((L k).ver != s.ver) = true := by simp [hv]
          rcases h1 : servesB (L k) with _ | _
          · have S1 := Lib.hid (refServes_is (L k) false (Lib.hid h1))
            rcases h2 : comesB (L k) with _ | _
            · have S2 := Lib.hid (refComes_is (L k) false (Lib.hid h2))
              by_cases h7 : (L k).st = 7
              · have hbad : badI s (L k) = true := by unfold badI; simp [hv, h7]
                have h7' : ((L k).st == 7) = true := by simp [h7]
                clear h1 h2
                have HV : Hid (endsB s L O = false) := Lib.hid (ends_i hlt hbad)
                clear hbad ho
                go_wp2_with (first | ((with_reducible refine at_load 38 ?_); (first | (refine load_ins rfl _ rfl _ _ rfl (L k) R ?_))) | ((with_reducible refine at_store 38 ?_); (first | (refine store_inp rfl _ _ rfl (L k) _ _ rfl rfl rfl ?_))) | ((with_reducible refine at_loadg 38 ?_); (first | (refine load_in rfl _ rfl _ _ rfl (L k) R2 ?_) | (refine load_in rfl _ rfl _ _ rfl (L k) (B2 _) ?_))))
                refine (call_grown (p := (⟨(wr.alloc (.cells (L k).cells 38)), Below.refl _ _⟩ : Grown (wr.alloc (.cells (L k).cells 38)))) (S1.out _)).mono ?_
                rintro _ _ ⟨rfl, p, rfl⟩
                go_wp2_with (first | ((with_reducible refine at_load 38 ?_); (first | (refine load_ins rfl _ rfl _ _ rfl (L k) R ?_))) | ((with_reducible refine at_store 38 ?_); (first | (refine store_inp rfl _ _ rfl (L k) _ _ rfl rfl rfl ?_))) | ((with_reducible refine at_loadg 38 ?_); (first | (refine load_in rfl _ rfl _ _ rfl (L k) R2 ?_) | (refine load_in rfl _ rfl _ _ rfl (L k) (B2 _) ?_))))
                refine (call_grown (p := p) (S2.out _)).mono ?_
                rintro _ _ ⟨rfl, p, rfl⟩
                go_wp2
                go_ret
                exact ⟨ret_bool HV.out.symm, PB.out p⟩
              · have h7' : ((L k).st == 7) = false := by simp [h7]
                by_cases h8 : (L k).st = 8
                · have hbad : badI s (L k) = true := by unfold badI; simp [hv, h8]
                  have h8' : ((L k).st == 8) = true := by simp [h8]
                  clear h1 h2
                  have HV : Hid (endsB s L O = false) := Lib.hid (ends_i hlt hbad)
                  clear hbad ho
                  go_wp2_with (first | ((with_reducible refine at_load 38 ?_); (first | (refine load_ins rfl _ rfl _ _ rfl (L k) R ?_))) | ((with_reducible refine at_store 38 ?_); (first | (refine store_inp rfl _ _ rfl (L k) _ _ rfl rfl rfl ?_))) | ((with_reducible refine at_loadg 38 ?_); (first | (refine load_in rfl _ rfl _ _ rfl (L k) R2 ?_) | (refine load_in rfl _ rfl _ _ rfl (L k) (B2 _) ?_))))
                  refine (call_grown (p := (⟨(wr.alloc (.cells (L k).cells 38)), Below.refl _ _⟩ : Grown (wr.alloc (.cells (L k).cells 38)))) (S1.out _)).mono ?_
                  rintro _ _ ⟨rfl, p, rfl⟩
                  go_wp2_with (first | ((with_reducible refine at_load 38 ?_); (first | (refine load_ins rfl _ rfl _ _ rfl (L k) R ?_))) | ((with_reducible refine at_store 38 ?_); (first | (refine store_inp rfl _ _ rfl (L k) _ _ rfl rfl rfl ?_))) | ((with_reducible refine at_loadg 38 ?_); (first | (refine load_in rfl _ rfl _ _ rfl (L k) R2 ?_) | (refine load_in rfl _ rfl _ _ rfl (L k) (B2 _) ?_))))
                  refine (call_grown (p := p) (S2.out _)).mono ?_
                  rintro _ _ ⟨rfl, p, rfl⟩
                  go_wp2
                  go_ret
                  exact ⟨ret_bool HV.out.symm, PB.out p⟩
                · have h8' : ((L k).st == 8) = false := by simp [h8]
                  have hbad : badI s (L k) = false := by unfold badI; rw [h1, h2]; simp [h7, h8]
                  clear h1 h2
                  have HK : Hid (∀ j, j < k + 1 → badI s (L j) = false) := Lib.hid (none_step ho.out hbad)
                  clear hbad ho
                  go_wp2_with (first | ((with_reducible refine at_load 38 ?_); (first | (refine load_ins rfl _ rfl _ _ rfl (L k) R ?_))) | ((with_reducible refine at_store 38 ?_); (first | (refine store_inp rfl _ _ rfl (L k) _ _ rfl rfl rfl ?_))) | ((with_reducible refine at_loadg 38 ?_); (first | (refine load_in rfl _ rfl _ _ rfl (L k) R2 ?_) | (refine load_in rfl _ rfl _ _ rfl (L k) (B2 _) ?_))))
                  refine (call_grown (p := (⟨(wr.alloc (.cells (L k).cells 38)), Below.refl _ _⟩ : Grown (wr.alloc (.cells (L k).cells 38)))) (S1.out _)).mono ?_
                  rintro _ _ ⟨rfl, p, rfl⟩
                  go_wp2_with (first | ((with_reducible refine at_load 38 ?_); (first | (refine load_ins rfl _ rfl _ _ rfl (L k) R ?_))) | ((with_reducible refine at_store 38 ?_); (first | (refine store_inp rfl _ _ rfl (L k) _ _ rfl rfl rfl ?_))) | ((with_reducible refine at_loadg 38 ?_); (first | (refine load_in rfl _ rfl _ _ rfl (L k) R2 ?_) | (refine load_in rfl _ rfl _ _ rfl (L k) (B2 _) ?_))))
                  refine (call_grown (p := p) (S2.out _)).mono ?_
                  rintro _ _ ⟨rfl, p, rfl⟩
                  go_wp2
                  go_roundw
                  case rel => exact ⟨k + 1, by omega, by go_num, HK, HS.out p⟩
                  case measure => simp [intOf]; omega
            · have S2 := Lib.hid (refComes_is (L k) true (Lib.hid h2))
              have hbad : badI s (L k) = true := by unfold badI; rw [h2]; simp [hv]
              clear h1 h2
              have HV : Hid (endsB s L O = false) := Lib.hid (ends_i hlt hbad)
              clear hbad ho
              go_wp2_with (first | ((with_reducible refine at_load 38 ?_); (first | (refine load_ins rfl _ rfl _ _ rfl (L k) R ?_))) | ((with_reducible refine at_store 38 ?_); (first | (refine store_inp rfl _ _ rfl (L k) _ _ rfl rfl rfl ?_))) | ((with_reducible refine at_loadg 38 ?_); (first | (refine load_in rfl _ rfl _ _ rfl (L k) R2 ?_) | (refine load_in rfl _ rfl _ _ rfl (L k) (B2 _) ?_))))
              refine (call_grown (p := (⟨(wr.alloc (.cells (L k).cells 38)), Below.refl _ _⟩ : Grown (wr.alloc (.cells (L k).cells 38)))) (S1.out _)).mono ?_
              rintro _ _ ⟨rfl, p, rfl⟩
              go_wp2_with (first | ((with_reducible refine at_load 38 ?_); (first | (refine load_ins rfl _ rfl _ _ rfl (L k) R ?_))) | ((with_reducible refine at_store 38 ?_); (first | (refine store_inp rfl _ _ rfl (L k) _ _ rfl rfl rfl ?_))) | ((with_reducible refine at_loadg 38 ?_); (first | (refine load_in rfl _ rfl _ _ rfl (L k) R2 ?_) | (refine load_in rfl _ rfl _ _ rfl (L k) (B2 _) ?_))))
              refine (call_grown (p := p) (S2.out _)).mono ?_
              rintro _ _ ⟨rfl, p, rfl⟩
              go_wp2
              go_ret
              exact ⟨ret_bool HV.out.symm, PB.out p⟩
          · have S1 := Lib.hid (refServes_is (L k) true (Lib.hid h1))
            have hbad : badI s (L k) = true := by unfold badI; rw [h1]; simp [hv]
            clear h1
            have HV : Hid (endsB s L O = false) := Lib.hid (ends_i hlt hbad)
            clear hbad ho
            go_wp2_with (first | ((with_reducible refine at_load 38 ?_); (first | (refine load_ins rfl _ rfl _ _ rfl (L k) R ?_))) | ((with_reducible refine at_store 38 ?_); (first | (refine store_inp rfl _ _ rfl (L k) _ _ rfl rfl rfl ?_))) | ((with_reducible refine at_loadg 38 ?_); (first | (refine load_in rfl _ rfl _ _ rfl (L k) R2 ?_) | (refine load_in rfl _ rfl _ _ rfl (L k) (B2 _) ?_))))
            refine (call_grown (p := (⟨(wr.alloc (.cells (L k).cells 38)), Below.refl _ _⟩ : Grown (wr.alloc (.cells (L k).cells 38)))) (S1.out _)).mono ?_
            rintro _ _ ⟨rfl, p, rfl⟩
            go_wp2
            go_ret
            exact ⟨ret_bool HV.out.symm, PB.out p⟩
      · obtain rfl : k = s.iN := by omega
        have HI := ho
        have PQ := Lib.hid (fun (W : World) (hb : Below (w.alloc (.cells s.cells 36)).heap.size (w.alloc (.cells s.cells 36)) W) => bTrans (bAlloc (Below.refl _ w) (.cells s.cells 36)) hb)
        go_wp2
        go_loopw [5] (fun i wr => ∃ k : Nat, k ≤ s.oN ∧ i = .int .i64 k ∧ Hid (∀ j, j < k → badO s (O j) = false) ∧ Below (w.alloc (.cells s.cells 36)).heap.size (w.alloc (.cells s.cells 36)) wr) (fun i _ => s.oN - (intOf i).toNat)
        case atStart => exact ⟨0, by omega, rfl, Lib.hid (fun j hj => absurd hj (by omega)), hb⟩
        case round =>
          obtain ⟨k, hk, rfl, ho, hb⟩ := hrel
          have g40' : wr.cell? ⟨w.heap.size, 40, none⟩ = some (.int .u32 s.ver) := g40 ⟨wr, hb⟩
          have g46' : wr.cell? ⟨w.heap.size, 46, none⟩ = some (.slice A s.iN s.iC) := g46 ⟨wr, hb⟩
          have g47' : wr.cell? ⟨w.heap.size, 47, none⟩ = some (.slice C s.oN s.oC) := g47 ⟨wr, hb⟩
          have hsz : w.heap.size < wr.heap.size := by have := hb.size; simp at this; omega
          by_cases hlt : k < s.oN
          · obtain ⟨b, off, rfl⟩ := opns_at HO.out (by omega)
            obtain ⟨hbl, R⟩ := opn_cells HO.out (bTrans (bAlloc (Below.refl _ _) _) hb) rfl hlt
            have HS : Hid (∀ p : Grown (wr.alloc (.cells (O k).cells 53)), Below (w.alloc (.cells s.cells 36)).heap.size (w.alloc (.cells s.cells 36)) p.w1) := Lib.hid (fun p => bTrans (bAlloc hb _) p.below)
            have r0 := range_cell R (O k).f0
            have r8 := range_cell R (O k).f8
            have z1 : (k : Int) < (s.oN : Int) := by omega
            have z0 : (0 : Int) ≤ (k : Int) := by omega
            have r0' : ∀ p : Grown wr, p.w1.cell? ⟨b, off + k * 9, none⟩ = some (.int .u8 (O k).kind) := fun p => cell_in hbl r0 p
            have r8' : ∀ p : Grown wr, p.w1.cell? ⟨b, off + k * 9 + 8, none⟩ = some (.int .u32 (O k).ver) := fun p => cell_in hbl r8 p
            have q40 : ∀ p : Grown wr, p.w1.cell? ⟨w.heap.size, 40, none⟩ = some (.int .u32 s.ver) := fun p => g40 ⟨p.w1, bTrans hb p.below⟩
            have q47 : ∀ p : Grown wr, p.w1.cell? ⟨w.heap.size, 47, none⟩ = some (.slice (some ⟨b, off, none⟩) s.oN s.oC) := fun p => g47 ⟨p.w1, bTrans hb p.below⟩
            by_cases h1 : (O k).kind = 1
            · have h1' : ((O k).kind == 1) = true := by simp [h1]
              by_cases h2 : (O k).ver = s.ver
              · have h2' : ((O k).ver != s.ver) = false := by simp [h2]
                have hbad : badO s (O k) = false := by unfold badO; simp [h2]
                have HK : Hid (∀ j, j < k + 1 → badO s (O j) = false) := Lib.hid (none_step ho.out hbad)
                clear hbad ho
                go_wp2
                refine region_grown (by kernel_rfl) (by kernel_rfl) ?_
                repeat ((with_reducible refine wpQuiet_step (fun K hK => ?_)); go_simp; (first | (refine hK _ ?_; clear hK K) | (apply Exists.intro; refine ⟨fun _ => ?_, hK _ ?_⟩; (first | fail); clear hK K)))
                (with_reducible refine wpQuiet_nil ?_)
                rintro _ ⟨p, rfl⟩
                go_wp2
                go_roundw
                case rel => exact ⟨k + 1, by omega, by go_num, HK, bTrans hb p.below⟩
                case measure => simp [intOf]; omega
              · have h2' : ((O k).ver != s.ver) = true := by simp [h2]
                have hbad : badO s (O k) = true := by unfold badO; simp [h1, h2]
                have HV : Hid (endsB s L O = false) := Lib.hid (ends_o hlt hbad)
                clear hbad ho
                go_wp2
                refine region_grown (by kernel_rfl) (by kernel_rfl) ?_
                repeat ((with_reducible refine wpQuiet_step (fun K hK => ?_)); go_simp; (first | (refine hK _ ?_; clear hK K) | (apply Exists.intro; refine ⟨fun _ => ?_, hK _ ?_⟩; (first | fail); clear hK K)))
                (with_reducible refine wpQuiet_nil ?_)
                rintro _ ⟨p, rfl⟩
                go_wp2
                go_ret
                exact ⟨ret_bool HV.out.symm, bTrans (PQ.out _ hb) p.below⟩
            · have h1' : ((O k).kind == 1) = false := by simp [h1]
              have hbad : badO s (O k) = false := by unfold badO; simp [h1]
              have HK : Hid (∀ j, j < k + 1 → badO s (O j) = false) := Lib.hid (none_step ho.out hbad)
              clear hbad ho
              go_wp2
              refine region_grown (by kernel_rfl) (by kernel_rfl) ?_
              repeat ((with_reducible refine wpQuiet_step (fun K hK => ?_)); go_simp; (first | (refine hK _ ?_; clear hK K) | (apply Exists.intro; refine ⟨fun _ => ?_, hK _ ?_⟩; (first | fail); clear hK K)))
              (with_reducible refine wpQuiet_nil ?_)
              rintro _ ⟨p, rfl⟩
              go_wp2
              go_roundw
              case rel => exact ⟨k + 1, by omega, by go_num, HK, bTrans hb p.below⟩
              case measure => simp [intOf]; omega
          · obtain rfl : k = s.oN := by omega
            have HV : Hid (endsB s L O = true) := Lib.hid (ends_all HM.out HI.out ho.out)
            go_wp2
            go_ret
            exact ⟨ret_bool HV.out.symm, PQ.out _ hb⟩
end Go.Proofs.Ytpjglhllbgmbhaa.Extra
