
/- Where an Id stands in a list of instances; the instance of an Id: the program's by a binary search, the document's by going through all. -/
import Derived.Test.YtoiofdoipmdajaaStX0
import Derived.Deep.QuietTactic
import Derived.BigQuiet
namespace Go.Proofs.Ytoiofdoipmdajaa.Fnd
open Go.ChangeShapes Go.WideShapes Go.ChangeAt Go.RowKit
open Mem Arr Lst Rec Inst Grown Sums St0
theorem at_load (T : TypeId) {P : Program} {ops : Array Oper} {rest : List Oper} {a : Act} {w : World} {Q : Exit → Act → World → Prop} {x : Operand} {dst : Option Tmp} {ty : TypeId} {pos : String} {after : Array Edge}
    (h : wpList P ops Q ({ dst, op := .load T x, type := ty, pos, after, guard := none } :: rest) a w) : wpList P ops Q ({ dst, op := .load T x, type := ty, pos, after, guard := none } :: rest) a w := h
theorem at_store (T : TypeId) {P : Program} {ops : Array Oper} {rest : List Oper} {a : Act} {w : World} {Q : Exit → Act → World → Prop} {x y : Operand} {dst : Option Tmp} {ty : TypeId} {pos : String} {after : Array Edge}
    (h : wpList P ops Q ({ dst, op := .store T x y, type := ty, pos, after, guard := none } :: rest) a w) : wpList P ops Q ({ dst, op := .store T x y, type := ty, pos, after, guard := none } :: rest) a w := h
def hasI (L : Nat → Ins) (n : Nat) (id : Int) : Prop := ∃ k, k < n ∧ (L k).id = id
theorem may_one {L : Nat → Ins} {n i j : Nat} (h : mayB L n = true) (hi : i < n) (hj : j < n) (e : (L i).id = (L j).id) : i = j := by
  rcases Nat.lt_trichotomy i j with h1 | h1 | h1
  · have := may_less h j i h1 hj; omega
  · exact h1
  · have := may_less h i j h1 hi; omega
open Classical in
/-- the instance of an Id, and whether there is one -/
noncomputable def fndV (L : Nat → Ins) (n : Nat) (id : Int) : Ins := if h : mayB L n = true ∧ hasI L n id then L (Classical.choose h.2) else none_
open Classical in
noncomputable def fndB (L : Nat → Ins) (n : Nat) (id : Int) : Bool := decide (mayB L n = true ∧ hasI L n id)
open Classical in
theorem fnd_yes {L : Nat → Ins} {n : Nat} {id : Int} (h : mayB L n = true) {k : Nat} (hk : k < n) (e : (L k).id = id) : fndV L n id = L k ∧ fndB L n id = true := by
  have hh : mayB L n = true ∧ hasI L n id := ⟨h, k, hk, e⟩
  refine ⟨?_, by unfold fndB; exact decide_eq_true hh⟩
  unfold fndV
  rw [dif_pos hh]
  have c := Classical.choose_spec hh.2
  rw [may_one h c.1 hk (c.2.trans e.symm)]
open Classical in
theorem fnd_no {L : Nat → Ins} {n : Nat} {id : Int} (h : mayB L n = false ∨ ∀ k, k < n → (L k).id ≠ id) : fndV L n id = none_ ∧ fndB L n id = false := by
  have hh : ¬ (mayB L n = true ∧ hasI L n id) := by
    rintro ⟨h1, k, hk, e⟩
    rcases h with h | h
    · rw [h] at h1; cases h1
    · exact h k hk e
  exact ⟨by unfold fndV; rw [dif_neg hh], by unfold fndB; exact decide_eq_false hh⟩
theorem results_row_tmp {fn : Func} {p u : Tmp} {ty : TypeId} (h : fn.results = #[.cell p ty, .tmp u]) (tmps : Array Value) {P : Program} (w : World) (g : Nat) (t : TypeId) (cs : Array Value) (fr : Nat × Nat) {d : TypeDesc}
    (hx : tmps.getD p undef = .pointer (some ⟨g, 0, none⟩)) (hg : w.heap[g]? = some (.cells cs t fr)) (hu : P.underlying ty = some d) (hd : d.isRow = true) (hi : (P.info? ty).map (·.size) = some cs.size) :
    (results fn tmps).run P w = .ok (.tuple #[.agg cs, tmps.getD u undef]) w := by
  rw [results_cell_tmp h, hx]
  simp only [asAddr, Sem.run_pure, Result.andThen_ok, run_loadVar_mid w g 0 ty cs.toList d (range_row hg) hu hd (by rw [hi]; simp)]
/-- the document's place -/
theorem refPlace_any (A : Option Addr) (n c : Nat) (L : Nat → Ins) (id : Int) (w : World) (h : Insts w w.heap.size A n L) (hn : n ≤ 9223372036854775807) :
    Calls Try.prog 20 #[.slice A n c, .int .u64 id] w fun e w' => (∃ z : Int, e = .returned (.int .i64 z) ∧ ((∃ k : Nat, z = k ∧ k < n ∧ (L k).id = id ∧ ∀ i, i < k → (L i).id ≠ id) ∨ (z = -1 ∧ ∀ k, k < n → (L k).id ≠ id))) ∧ w = w' := by
  have H := Lib.hid h
  clear h
  go_enter Try.func20, Try.ntmps20
  go_wp2
  go_loopw [5] (fun i wr => ∃ k : Nat, k ≤ n ∧ i = .int .i64 k ∧ Hid (∀ j, j < k → (L j).id ≠ id) ∧ w = wr) (fun i _ => n - (intOf i).toNat)
  case atStart => exact ⟨0, by omega, rfl, Lib.hid (fun j hj => absurd hj (by omega)), rfl⟩
  case round =>
    obtain ⟨k, hk, rfl, ho, rfl⟩ := hrel
    by_cases hlt : k < n
    · obtain ⟨b, off, rfl⟩ := insts_at H.out (by omega)
      obtain ⟨hbl, R, c0⟩ := ins_cells H.out (Below.refl _ _) rfl hlt
      by_cases he : (L k).id = id
      · have e1 : ((L k).id == id) = true := by simp [he]
        go_wp2
        go_ret
        exact ⟨⟨_, rfl, .inl ⟨k, rfl, hlt, he, ho.out⟩⟩, rfl⟩
      · have e1 : ((L k).id == id) = false := by simp [he]
        have HK : Hid (∀ j, j < k + 1 → (L j).id ≠ id) := Lib.hid (fun j hj => by
          rcases Nat.lt_succ_iff_lt_or_eq.1 hj with h1 | rfl
          · exact ho.out j h1
          · exact he)
        go_wp2
        go_roundw
        case rel => exact ⟨k + 1, by omega, by go_num, HK, by trivial⟩
        case measure => simp [intOf]; omega
    · have e : n = k := by omega
      subst e
      go_wp2
      go_ret
      exact ⟨⟨_, rfl, .inr ⟨rfl, ho.out⟩⟩, rfl⟩
theorem refMayL_is (A : Option Addr) (n c : Nat) (L : Nat → Ins) (v : Bool) (hv : mayB L n = v) (w : World) (h : Insts w w.heap.size A n L) (hn : n ≤ 9223372036854775807) :
    Calls Try.prog 12 #[.slice A n c] w fun e w' => e = .returned (.bool v) ∧ Below w.heap.size w w' := by
  have := refMayL_any A n c L w h hn; rw [hv] at this; exact this
set_option maxHeartbeats 1000000 in
theorem refFind_any (A : Option Addr) (n c : Nat) (L : Nat → Ins) (id : Int) (w : World) (h : Insts w w.heap.size A n L) (hn : n ≤ 9223372036854775807) :
    Calls Try.prog 13 #[.slice A n c, .int .u64 id] w fun e w' => e = .returned (.tuple #[(fndV L n id).val, .bool (fndB L n id)]) ∧ Below w.heap.size w w' := by
  have P := Lib.hid (fun p : Grown (w.alloc (.cells none_.cells 36)) => refPlace_any A n c L id p.w1 (h.later (bTrans (bAlloc (Below.refl _ _) _) p.below)) hn)
  have IL := Lib.hid (fun p : Grown (w.alloc (.cells none_.cells 36)) => (show Insts p.w1 p.w1.heap.size A n L from h.later (bTrans (bAlloc (Below.refl _ _) _) p.below)))
  have M := Lib.hid (fun p : Grown (w.alloc (.cells none_.cells 36)) => refMayL_any A n c L p.w1 (h.later (bTrans (bAlloc (Below.refl _ _) _) p.below)) hn)
  clear h
  go_enter Try.func13, Try.ntmps13
  go_wp2_with fail
  refine (P.out ⟨_, Below.refl _ _⟩).mono ?_
  rintro _ _ ⟨⟨z, rfl, hz⟩, rfl⟩
  have R0 := heap_alloc_new w (.cells none_.cells 36)
  rcases hz with ⟨k, rfl, hk, he, _⟩ | ⟨rfl, hz⟩
  · have d1 : decide ((k : Int) < 0) = false := decide_eq_false (by omega)
    rcases hm : mayB L n with _ | _
    · have HV := Lib.hid (fnd_no (id := id) (.inl hm))
      rw [hm] at M
      go_wp2_with fail
      refine (call_grown (p := (⟨_, Below.refl _ _⟩ : Grown (w.alloc (.cells none_.cells 36)))) (M.out _)).mono ?_
      rintro _ _ ⟨rfl, p, rfl⟩
      have R1 := box_row p
      go_wp2_with ((with_reducible refine at_store 36 ?_); (refine store_whole rfl 36 _ _ rfl w.heap.size none_.cells none_.cells _ rfl rfl R1 (sizeInst.trans rfl) rfl none_.one ?_))
      refine bodyPost_ret (results_row_tmp rfl _ _ w.heap.size _ none_.cells _ rfl (row_at R1) Try.underlying36 rfl (sizeInst.trans rfl)) rfl ?_
      exact ⟨by rw [HV.out.1, HV.out.2]; rfl, below_row _ (bTrans (bAlloc (Below.refl _ _) _) p.below) (Nat.le_refl _)⟩
    · have HV := Lib.hid (fnd_yes (id := id) hm hk he)
      rw [hm] at M
      go_wp2_with fail
      refine (call_grown (p := (⟨_, Below.refl _ _⟩ : Grown (w.alloc (.cells none_.cells 36)))) (M.out _)).mono ?_
      rintro _ _ ⟨rfl, p, rfl⟩
      have R1 := box_row p
      obtain ⟨b, off, rfl⟩ := insts_at (IL.out p) (by omega)
      obtain ⟨hbl, R, _⟩ := ins_cells (IL.out p) (Below.refl _ _) rfl hk
      go_wp2_with (first | ((with_reducible refine at_load 36 ?_); (refine load_ins rfl _ rfl _ _ rfl (L k) R ?_)) | ((with_reducible refine at_store 36 ?_); (refine store_whole rfl 36 _ _ rfl w.heap.size (L k).cells none_.cells _ rfl rfl R1 (sizeInst.trans rfl) rfl (L k).one ?_)))
      refine bodyPost_ret (results_row_tmp rfl _ _ w.heap.size _ (L k).cells _ rfl (row_at R1) Try.underlying36 rfl (sizeInst.trans rfl)) rfl ?_
      exact ⟨by rw [HV.out.1, HV.out.2]; rfl, below_row _ (bTrans (bAlloc (Below.refl _ _) _) p.below) (Nat.le_refl _)⟩
  · have HV := Lib.hid (fnd_no (id := id) (L := L) (n := n) (.inr hz))
    go_wp2_with ((with_reducible refine at_store 36 ?_); (refine store_whole rfl 36 _ _ rfl w.heap.size none_.cells none_.cells _ rfl rfl R0 (sizeInst.trans rfl) rfl none_.one ?_))
    refine bodyPost_ret (results_row_tmp rfl _ _ w.heap.size _ none_.cells _ rfl (row_at R0) Try.underlying36 rfl (sizeInst.trans rfl)) rfl ?_
    exact ⟨by rw [HV.out.1, HV.out.2]; rfl, below_row _ (bAlloc (Below.refl _ _) _) (Nat.le_refl _)⟩
theorem mayL_is (A : Option Addr) (n c : Nat) (L : Nat → Ins) (v : Bool) (hv : mayB L n = v) (w : World) (h : Insts w w.heap.size A n L) (hn : n ≤ 9223372036854775807) :
    Calls Try.prog 14 #[.slice A n c] w fun e w' => e = .returned (.bool v) ∧ Below w.heap.size w w' := by
  have := mayL_any A n c L w h hn; rw [hv] at this; exact this
theorem call_grown2 {P : Program} {f : FuncId} {args : Array Value} {w : World} {p : Grown w} {R : Ending → Prop} (h : Calls P f args p.w1 fun e w' => R e ∧ Below p.w1.heap.size p.w1 w') : Calls P f args p.w1 fun e w' => R e ∧ ∃ q : Grown w, w' = q.w1 :=
  h.mono fun _ _ ⟨he, hb⟩ => ⟨he, ⟨_, bTrans p.below hb⟩, rfl⟩
end Go.Proofs.Ytoiofdoipmdajaa.Fnd
