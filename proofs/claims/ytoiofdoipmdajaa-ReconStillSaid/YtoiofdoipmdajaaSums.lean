
/- Contracts of layer 17: lists of instances; whether they may be. -/
import Derived.Test.YtoiofdoipmdajaaInst
import Derived.Test.YtoiofdoipmdajaaGrown
namespace Go.Proofs.Ytoiofdoipmdajaa.Sums
open Go.ChangeShapes Go.WideShapes Go.ChangeAt Go.RowKit
open Mem Arr Lst Rec Inst Grown

def insV (L : Nat → Ins) (i j : Nat) : Value := ((L i).cells[j]?).getD undef
def Insts (w : World) (B : Nat) (A : Option Addr) (n : Nat) (L : Nat → Ins) : Prop := Recs w B A n 12 (insV L)
theorem Insts.later {w w' : World} {A : Option Addr} {n : Nat} {L : Nat → Ins} (h : Insts w w.heap.size A n L) (hb : Below w.heap.size w w') : Insts w' w'.heap.size A n L := Recs.later h hb
theorem ins_size (x : Ins) : x.cells.size = 12 := rfl
theorem ins_lt {x : Ins} {j : Nat} {u : Value} (h : x.cells[j]? = some u) : j < 12 := by
  rw [← ins_size x]; exact (Array.getElem?_eq_some_iff.1 h).1
theorem insV_one (L : Nat → Ins) (i j : Nat) (hj : j < 12) : (insV L i j).oneCell' = true := by
  unfold insV
  have h : j < (L i).cells.size := hj
  rw [Array.getElem?_eq_getElem h]
  exact (Array.all_eq_true_iff_forall_mem.1 (L i).one) _ (Array.getElem_mem h)
theorem insts_at {w : World} {A : Option Addr} {n : Nat} {L : Nat → Ins} (h : Insts w w.heap.size A n L) (hn : 0 < n) : ∃ b off, A = some ⟨b, off, none⟩ := by
  obtain ⟨b, off, e, _⟩ := h.2 hn
  exact ⟨b, off, e⟩
theorem ins_cells {w wr : World} {A : Option Addr} {n : Nat} {L : Nat → Ins} (h : Insts w w.heap.size A n L) (hb : Below w.heap.size w wr) {b off : Nat} (hA : A = some ⟨b, off, none⟩) {k : Nat} (hk : k < n) :
    b < wr.heap.size ∧ wr.rangeAt b (off + k * 12) (L k).cells.toList ∧ wr.cell? ⟨b, off + k * 12, none⟩ = some (.int .u64 (L k).id) := by
  obtain ⟨b', off', e, hlt, hc⟩ := (h.later hb).2 (by omega)
  rw [hA] at e
  injection e with e
  injection e with e1 e2
  subst e1; subst e2
  have hr : wr.rangeAt b (off + k * 12) (L k).cells.toList := fun j v hj => by
    have hj' : (L k).cells[j]? = some v := by simpa using hj
    rw [Nat.add_assoc, hc k j hk (ins_lt hj')]
    unfold insV
    rw [hj']; rfl
  exact ⟨hlt, hr, hr 0 _ (by simpa using (L k).f0)⟩

theorem load_ins {ops : Array Oper} {rest : List Oper} {o : Oper} {a : Act} {w : World} {Q : Exit → Act → World → Prop} (hgd : o.guard = none) (x : Operand) (ho : o.op = .load 36 x)
    (g k : Nat) (hx : a.eval x = .pointer (some ⟨g, k, none⟩)) (c : Ins) (hc : w.rangeAt g k c.cells.toList)
    (h : wpList Try.prog ops Q rest (a.put o.dst c.val) w) : wpList Try.prog ops Q (o :: rest) a w :=
  wpList_load_mid hgd 36 x ho g k hx c.cells.toList _ hc Try.underlying36 rfl (sizeInst.trans rfl) h
theorem store_ins {ops : Array Oper} {rest : List Oper} {o : Oper} {a : Act} {w : World} {Q : Exit → Act → World → Prop} (hw : Region.wanted o (yielded ops a.tmps) = true) (x y : Operand) (ho : o.op = .store 36 x y)
    (c : Ins) (old : Array Value) (t : TypeId) (hx : a.eval x = .pointer (some ⟨w.heap.size, 0, none⟩)) (hy : a.eval y = c.val) (hold : old.size = 12)
    (h : wpList Try.prog ops Q rest (a.put o.dst undef) (w.alloc (.cells c.cells t (0, 0)))) : wpList Try.prog ops Q (o :: rest) a (w.alloc (.cells old t (0, 0))) :=
  store_new hw 36 x y ho c.cells old t hx hy (sizeInst.trans rfl) (hold.trans rfl) c.one h
theorem exec_ins (ρ : Operand → Value) (x : Operand) (dst : Option Tmp) (ty : TypeId) (pos : String) (after : Array Edge) (guard : Option (Nat × Bool)) :
    execOp ρ { dst, op := .load 36 x, type := ty, pos, after, guard } = loadRec 36 (ρ x) := rfl
theorem run_ins {w : World} {b o : Nat} {c : Ins} (h : w.rangeAt b o c.cells.toList) : (loadRec 36 (.pointer (some ⟨b, o, none⟩))).run Try.prog w = .ok (.value c.val) w :=
  run_loadMid 36 Try.underlying36 rfl (sizeInst.trans rfl) h

/-- whether instances may be -/
def atB (L : Nat → Ins) (i : Nat) : Bool := okB (L i) && (decide (i = 0) || decide ((L (i - 1)).id < (L i).id))
def mayB (L : Nat → Ins) (n : Nat) : Bool := decide (n ≤ 4096 ∧ ∀ i, i < n → atB L i = true)
theorem may_len {L : Nat → Ins} {n : Nat} (h : mayB L n = true) : n ≤ 4096 := (of_decide_eq_true h).1
theorem may_ok {L : Nat → Ins} {n i : Nat} (h : mayB L n = true) (hi : i < n) : okB (L i) = true := by
  have := (of_decide_eq_true h).2 i hi
  unfold atB at this; simp only [Bool.and_eq_true] at this; exact this.1
theorem may_next {L : Nat → Ins} {n i : Nat} (h : mayB L n = true) (hi : i + 1 < n) : (L i).id < (L (i + 1)).id := by
  have := (of_decide_eq_true h).2 (i + 1) hi
  unfold atB at this
  simp at this; exact this.2
theorem may_less {L : Nat → Ins} {n : Nat} (h : mayB L n = true) : ∀ j i, i < j → j < n → (L i).id < (L j).id := by
  intro j
  induction j with
  | zero => intro i h1; omega
  | succ j ih =>
    intro i h1 h2
    have := may_next h h2
    rcases Nat.lt_succ_iff_lt_or_eq.1 h1 with h3 | rfl
    · have := ih i h3 (by omega); omega
    · exact this
theorem ok_step {p : Nat → Bool} {k : Nat} (h : ∀ j, j < k → p j = true) (hk : p k = true) : ∀ j, j < k + 1 → p j = true := by
  intro j hj
  rcases Nat.lt_succ_iff_lt_or_eq.1 hj with h1 | rfl
  · exact h j h1
  · exact hk
theorem at_no {L : Nat → Ins} {n k : Nat} (hk : k < n) (h : atB L k = false) : mayB L n = false := decide_eq_false fun e => by
  have := e.2 k hk; rw [h] at this; cases this
theorem ok_is (x : Ins) (v : Bool) (hv : Hid (okB x = v)) (w : World) : Calls Try.prog 21 #[x.val] w fun e w' => e = .returned (.bool v) ∧ Below w.heap.size w w' := by
  have := may_any x w; rw [hv.out] at this; exact this
theorem refOk_is (x : Ins) (v : Bool) (hv : Hid (okB x = v)) (w : World) : Calls Try.prog 19 #[x.val] w fun e w' => e = .returned (.bool v) ∧ Below w.heap.size w w' := by
  have := refMay_any x w; rw [hv.out] at this; exact this
section
attribute [local go_sem ↓] exec_ins Go.wp_at_zero Go.wp_at_succ

set_option maxHeartbeats 2000000 in
theorem mayL_any (A : Option Addr) (n c : Nat) (L : Nat → Ins) (w : World) (h : Insts w w.heap.size A n L) (hn : n ≤ 9223372036854775807) :
    Calls Try.prog 14 #[.slice A n c] w fun e w' => e = .returned (.bool (mayB L n)) ∧ Below w.heap.size w w' := by
  have H := Lib.hid h
  clear h
  by_cases h8 : n ≤ 4096
  · skip
    go_enter Try.func14, Try.ntmps14
    go_wp2
    go_loopw [10] (fun i wr => ∃ k : Nat, k ≤ n ∧ i = .int .i64 k ∧ Hid (∀ j, j < k → atB L j = true) ∧ Below w.heap.size w wr) (fun i _ => n - (intOf i).toNat)
    case atStart => exact ⟨0, by omega, rfl, Lib.hid (fun j hj => absurd hj (by omega)), Below.refl _ _⟩
    case round =>
      obtain ⟨k, hk, rfl, ho, hb⟩ := hrel
      by_cases hlt : k < n
      · obtain ⟨b, off, rfl⟩ := insts_at H.out (by omega)
        obtain ⟨hbl, R, c0⟩ := ins_cells H.out hb rfl hlt
        rcases ho1 : okB (L k) with _ | _
        · have HO := Lib.hid ho1
          have HV : Hid (mayB L n = false) := Lib.hid (at_no hlt (by unfold atB; rw [ho1]; rfl))
          clear ho1 ho
          go_wp2_with ((with_reducible refine at_op ?_); (first | (refine load_ins rfl _ rfl _ _ rfl (L k) R ?_) | (refine store_ins rfl _ _ rfl (L k) _ _ rfl rfl rfl ?_)))
          have I0 := fun p : Grown (wr.alloc (.cells (L k).cells 36)) => run_ins (range_in (by simp) (range_new wr (L k).cells 36) p)
          have C0 : ∀ p : Grown (wr.alloc (.cells (L k).cells 36)), p.w1.cell? ⟨wr.heap.size, 0, none⟩ = some (.int .u64 (L k).id) := fun p => cell_in (by simp) (range_new wr (L k).cells 36 0 _ (by simpa using (L k).f0)) p
          refine region_grown (by kernel_rfl) (by kernel_rfl) ?_
          repeat ((with_reducible refine wpQuiet_step (fun K hK => ?_)); go_simp; (first | (refine hK _ ?_; clear hK K) | (apply Exists.intro; refine ⟨fun _ => ?_, hK _ ?_⟩; (first | (go_at_call 21; exact call_grown (ok_is _ _ HO _))); clear hK K)))
          (with_reducible refine wpQuiet_nil ?_)
          rintro _ ⟨p, rfl⟩
          go_wp2
          go_ret
          exact ⟨ret_bool HV.out.symm, bTrans (bAlloc hb _) p.below⟩
        · have HO := Lib.hid ho1
          by_cases h0 : k = 0
          · have hk0 : decide (0 < k) = false := decide_eq_false (by omega)
            have HK : Hid (∀ j, j < k + 1 → atB L j = true) := Lib.hid (ok_step ho.out (by unfold atB; rw [ho1, h0]; rfl))
            clear ho1 ho h0
            go_wp2_with ((with_reducible refine at_op ?_); (first | (refine load_ins rfl _ rfl _ _ rfl (L k) R ?_) | (refine store_ins rfl _ _ rfl (L k) _ _ rfl rfl rfl ?_)))
            have I0 := fun p : Grown (wr.alloc (.cells (L k).cells 36)) => run_ins (range_in (by simp) (range_new wr (L k).cells 36) p)
            have C0 : ∀ p : Grown (wr.alloc (.cells (L k).cells 36)), p.w1.cell? ⟨wr.heap.size, 0, none⟩ = some (.int .u64 (L k).id) := fun p => cell_in (by simp) (range_new wr (L k).cells 36 0 _ (by simpa using (L k).f0)) p
            refine region_grown (by kernel_rfl) (by kernel_rfl) ?_
            repeat ((with_reducible refine wpQuiet_step (fun K hK => ?_)); go_simp; (first | (refine hK _ ?_; clear hK K) | (apply Exists.intro; refine ⟨fun _ => ?_, hK _ ?_⟩; (first | (go_at_call 21; exact call_grown (ok_is _ _ HO _))); clear hK K)))
            (with_reducible refine wpQuiet_nil ?_)
            rintro _ ⟨p, rfl⟩
            go_wp2
            go_roundw
            case rel => exact ⟨k + 1, by omega, by go_num, HK, bTrans (bAlloc hb _) p.below⟩
            case measure => simp [intOf]; omega
          · obtain ⟨_, _, d0⟩ := ins_cells H.out hb rfl (k := k - 1) (by omega)
            have hk0 : decide (0 < k) = true := decide_eq_true (by omega)
            have hk1 : (1 : Int) ≤ (k : Int) := by omega
            have W1 : IntKind.i64.wrap ((k : Int) - 1) = (k : Int) - 1 := IntWalk.i64_in _ (by omega)
            have b1 : (0 : Int) ≤ (k : Int) - 1 := by omega
            have b2 : (k : Int) - 1 < (n : Int) := by omega
            have e1 : off + (k - 1) * 12 = off + (k - 1) * 12 := rfl
            have D0 := fun p : Grown (wr.alloc (.cells (L k).cells 36)) => cell_in (by simp; omega) (((bcell (bAlloc (Below.refl _ wr) (.cells (L k).cells 36))).1 _ _ hbl).trans d0) p
            by_cases w3 : (L (k - 1)).id < (L k).id
            · have HK : Hid (∀ j, j < k + 1 → atB L j = true) := Lib.hid (ok_step ho.out (by unfold atB; rw [ho1, decide_eq_true w3, Bool.or_true]; rfl))
              have hle : decide ((L k).id ≤ (L (k - 1)).id) = false := decide_eq_false (by omega)
              clear ho1 ho h0 e1 w3
              go_wp2_with ((with_reducible refine at_op ?_); (first | (refine load_ins rfl _ rfl _ _ rfl (L k) R ?_) | (refine store_ins rfl _ _ rfl (L k) _ _ rfl rfl rfl ?_)))
              have I0 := fun p : Grown (wr.alloc (.cells (L k).cells 36)) => run_ins (range_in (by simp) (range_new wr (L k).cells 36) p)
              have C0 : ∀ p : Grown (wr.alloc (.cells (L k).cells 36)), p.w1.cell? ⟨wr.heap.size, 0, none⟩ = some (.int .u64 (L k).id) := fun p => cell_in (by simp) (range_new wr (L k).cells 36 0 _ (by simpa using (L k).f0)) p
              refine region_grown (by kernel_rfl) (by kernel_rfl) ?_
              repeat ((with_reducible refine wpQuiet_step (fun K hK => ?_)); go_simp; (first | (refine hK _ ?_; clear hK K) | (apply Exists.intro; refine ⟨fun _ => ?_, hK _ ?_⟩; (first | (go_at_call 21; exact call_grown (ok_is _ _ HO _))); clear hK K)))
              (with_reducible refine wpQuiet_nil ?_)
              rintro _ ⟨p, rfl⟩
              go_wp2
              go_roundw
              case rel => exact ⟨k + 1, by omega, by go_num, HK, bTrans (bAlloc hb _) p.below⟩
              case measure => simp [intOf]; omega
            · have HV : Hid (mayB L n = false) := Lib.hid (at_no hlt (by unfold atB; rw [ho1, decide_eq_false h0, decide_eq_false w3]; rfl))
              have hle : decide ((L k).id ≤ (L (k - 1)).id) = true := decide_eq_true (by omega)
              clear ho1 ho h0 e1 w3
              go_wp2_with ((with_reducible refine at_op ?_); (first | (refine load_ins rfl _ rfl _ _ rfl (L k) R ?_) | (refine store_ins rfl _ _ rfl (L k) _ _ rfl rfl rfl ?_)))
              have I0 := fun p : Grown (wr.alloc (.cells (L k).cells 36)) => run_ins (range_in (by simp) (range_new wr (L k).cells 36) p)
              have C0 : ∀ p : Grown (wr.alloc (.cells (L k).cells 36)), p.w1.cell? ⟨wr.heap.size, 0, none⟩ = some (.int .u64 (L k).id) := fun p => cell_in (by simp) (range_new wr (L k).cells 36 0 _ (by simpa using (L k).f0)) p
              refine region_grown (by kernel_rfl) (by kernel_rfl) ?_
              repeat ((with_reducible refine wpQuiet_step (fun K hK => ?_)); go_simp; (first | (refine hK _ ?_; clear hK K) | (apply Exists.intro; refine ⟨fun _ => ?_, hK _ ?_⟩; (first | (go_at_call 21; exact call_grown (ok_is _ _ HO _))); clear hK K)))
              (with_reducible refine wpQuiet_nil ?_)
              rintro _ ⟨p, rfl⟩
              go_wp2
              go_ret
              exact ⟨ret_bool HV.out.symm, bTrans (bAlloc hb _) p.below⟩
      · have HV : Hid (mayB L n = true) := Lib.hid (decide_eq_true ⟨h8, fun j hj => ho.out j (by omega)⟩)
        go_wp2
        go_ret
        exact ⟨ret_bool HV.out.symm, hb⟩
  · have HV : Hid (mayB L n = false) := Lib.hid (decide_eq_false (fun e => h8 e.1))
    go_enter Try.func14, Try.ntmps14
    go_wp2
    go_ret
    exact ⟨ret_bool HV.out.symm, Below.refl _ _⟩
set_option maxHeartbeats 2000000 in
theorem refMayL_any (A : Option Addr) (n c : Nat) (L : Nat → Ins) (w : World) (h : Insts w w.heap.size A n L) (hn : n ≤ 9223372036854775807) :
    Calls Try.prog 12 #[.slice A n c] w fun e w' => e = .returned (.bool (mayB L n)) ∧ Below w.heap.size w w' := by
  have H := Lib.hid h
  clear h
  by_cases h8 : n ≤ 4096
  · skip
    go_enter Try.func12, Try.ntmps12
    go_wp2
    go_loopw [3] (fun i wr => ∃ k : Nat, k ≤ n ∧ i = .int .i64 k ∧ Hid (∀ j, j < k → atB L j = true) ∧ Below w.heap.size w wr) (fun i _ => n - (intOf i).toNat)
    case atStart => exact ⟨0, by omega, rfl, Lib.hid (fun j hj => absurd hj (by omega)), Below.refl _ _⟩
    case round =>
      obtain ⟨k, hk, rfl, ho, hb⟩ := hrel
      by_cases hlt : k < n
      · obtain ⟨b, off, rfl⟩ := insts_at H.out (by omega)
        obtain ⟨hbl, R, c0⟩ := ins_cells H.out hb rfl hlt
        rcases ho1 : okB (L k) with _ | _
        · have HO := Lib.hid ho1
          have HV : Hid (mayB L n = false) := Lib.hid (at_no hlt (by unfold atB; rw [ho1]; rfl))
          clear ho1 ho
          go_wp2
          have I0 := fun p : Grown wr => run_ins (range_in hbl R p)
          have C0 := fun p : Grown wr => cell_in hbl c0 p
          refine region_grown (by kernel_rfl) (by kernel_rfl) ?_
          repeat ((with_reducible refine wpQuiet_step (fun K hK => ?_)); go_simp; (first | (refine hK _ ?_; clear hK K) | (apply Exists.intro; refine ⟨fun _ => ?_, hK _ ?_⟩; (first | (go_at_call 19; exact call_grown (refOk_is _ _ HO _))); clear hK K)))
          (with_reducible refine wpQuiet_nil ?_)
          rintro _ ⟨p, rfl⟩
          go_wp2
          go_ret
          exact ⟨ret_bool HV.out.symm, bTrans hb p.below⟩
        · have HO := Lib.hid ho1
          by_cases h0 : k = 0
          · have hk0 : decide (0 < k) = false := decide_eq_false (by omega)
            have HK : Hid (∀ j, j < k + 1 → atB L j = true) := Lib.hid (ok_step ho.out (by unfold atB; rw [ho1, h0]; rfl))
            clear ho1 ho h0
            go_wp2
            have I0 := fun p : Grown wr => run_ins (range_in hbl R p)
            have C0 := fun p : Grown wr => cell_in hbl c0 p
            refine region_grown (by kernel_rfl) (by kernel_rfl) ?_
            repeat ((with_reducible refine wpQuiet_step (fun K hK => ?_)); go_simp; (first | (refine hK _ ?_; clear hK K) | (apply Exists.intro; refine ⟨fun _ => ?_, hK _ ?_⟩; (first | (go_at_call 19; exact call_grown (refOk_is _ _ HO _))); clear hK K)))
            (with_reducible refine wpQuiet_nil ?_)
            rintro _ ⟨p, rfl⟩
            go_wp2
            go_roundw
            case rel => exact ⟨k + 1, by omega, by go_num, HK, bTrans hb p.below⟩
            case measure => simp [intOf]; omega
          · obtain ⟨_, _, d0⟩ := ins_cells H.out hb rfl (k := k - 1) (by omega)
            have hk0 : decide (0 < k) = true := decide_eq_true (by omega)
            have hk1 : (1 : Int) ≤ (k : Int) := by omega
            have W1 : IntKind.i64.wrap ((k : Int) - 1) = (k : Int) - 1 := IntWalk.i64_in _ (by omega)
            have b1 : (0 : Int) ≤ (k : Int) - 1 := by omega
            have b2 : (k : Int) - 1 < (n : Int) := by omega
            have e1 : off + (k - 1) * 12 = off + (k - 1) * 12 := rfl
            have D0 := fun p : Grown wr => cell_in hbl d0 p
            by_cases w3 : (L (k - 1)).id < (L k).id
            · have HK : Hid (∀ j, j < k + 1 → atB L j = true) := Lib.hid (ok_step ho.out (by unfold atB; rw [ho1, decide_eq_true w3, Bool.or_true]; rfl))
              have hle : decide ((L k).id ≤ (L (k - 1)).id) = false := decide_eq_false (by omega)
              clear ho1 ho h0 e1 w3
              go_wp2
              have I0 := fun p : Grown wr => run_ins (range_in hbl R p)
              have C0 := fun p : Grown wr => cell_in hbl c0 p
              refine region_grown (by kernel_rfl) (by kernel_rfl) ?_
              repeat ((with_reducible refine wpQuiet_step (fun K hK => ?_)); go_simp; (first | (refine hK _ ?_; clear hK K) | (apply Exists.intro; refine ⟨fun _ => ?_, hK _ ?_⟩; (first | (go_at_call 19; exact call_grown (refOk_is _ _ HO _))); clear hK K)))
              (with_reducible refine wpQuiet_nil ?_)
              rintro _ ⟨p, rfl⟩
              go_wp2
              go_roundw
              case rel => exact ⟨k + 1, by omega, by go_num, HK, bTrans hb p.below⟩
              case measure => simp [intOf]; omega
            · have HV : Hid (mayB L n = false) := Lib.hid (at_no hlt (by unfold atB; rw [ho1, decide_eq_false h0, decide_eq_false w3]; rfl))
              have hle : decide ((L k).id ≤ (L (k - 1)).id) = true := decide_eq_true (by omega)
              clear ho1 ho h0 e1 w3
              go_wp2
              have I0 := fun p : Grown wr => run_ins (range_in hbl R p)
              have C0 := fun p : Grown wr => cell_in hbl c0 p
              refine region_grown (by kernel_rfl) (by kernel_rfl) ?_
              repeat ((with_reducible refine wpQuiet_step (fun K hK => ?_)); go_simp; (first | (refine hK _ ?_; clear hK K) | (apply Exists.intro; refine ⟨fun _ => ?_, hK _ ?_⟩; (first | (go_at_call 19; exact call_grown (refOk_is _ _ HO _))); clear hK K)))
              (with_reducible refine wpQuiet_nil ?_)
              rintro _ ⟨p, rfl⟩
              go_wp2
              go_ret
              exact ⟨ret_bool HV.out.symm, bTrans hb p.below⟩
      · have HV : Hid (mayB L n = true) := Lib.hid (decide_eq_true ⟨h8, fun j hj => ho.out j (by omega)⟩)
        go_wp2
        go_ret
        exact ⟨ret_bool HV.out.symm, hb⟩
  · have HV : Hid (mayB L n = false) := Lib.hid (decide_eq_false (fun e => h8 e.1))
    go_enter Try.func12, Try.ntmps12
    go_wp2
    go_ret
    exact ⟨ret_bool HV.out.symm, Below.refl _ _⟩
end
end Go.Proofs.Ytoiofdoipmdajaa.Sums
