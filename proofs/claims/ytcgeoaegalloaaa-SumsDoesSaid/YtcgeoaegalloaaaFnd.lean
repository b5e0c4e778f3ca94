
/- Where an Id stands in a list of instances; the instance of an Id: the program's by a binary search, the document's by going through all. -/
import Derived.Test.YtcgeoaegalloaaaStX0
import Derived.Deep.QuietTactic
import Derived.BigQuiet
namespace Go.Proofs.Ytcgeoaegalloaaa.Fnd
open Go.ChangeShapes Go.WideShapes Go.ChangeAt Go.RowKit
open Mem Arr Lst Rec Inst Grown Sums St0
theorem at_load (T : TypeId) {P : Program} {ops : Array Oper} {rest : List Oper} {a : Act} {w : World} {Q : Exit → Act → World → Prop} {x : Operand} {dst : Option Tmp} {ty : TypeId} {pos : String} {after : Array Edge}
    (h : wpList P ops Q ({ dst, op := .load T x, type := ty, pos, after, guard := none } :: rest) a w) : wpList P ops Q ({ dst, op := .load T x, type := ty, pos, after, guard := none } :: rest) a w := h
theorem at_store (T : TypeId) {P : Program} {ops : Array Oper} {rest : List Oper} {a : Act} {w : World} {Q : Exit → Act → World → Prop} {x y : Operand} {dst : Option Tmp} {ty : TypeId} {pos : String} {after : Array Edge}
    (h : wpList P ops Q ({ dst, op := .store T x y, type := ty, pos, after, guard := none } :: rest) a w) : wpList P ops Q ({ dst, op := .store T x y, type := ty, pos, after, guard := none } :: rest) a w := h
def hasI (L : Nat → Ins) (n : Nat) (id : Int) : Prop := ∃ k, k < n ∧ (L k).id = id
theorem may_one {L : Nat → Ins} {n i j : Nat} (h : mayB L n = true) (hi : i < n) (hj : j < n) (e : (L i).id = (L j).id) : i = j := by
  rcases Nat.lt_trichotomy i j with h1 | h1 | h1
  · have := may_less h j i h1 hj; omega
  · exact h1
  · have := may_less h i j h1 hi; omega
open Classical in
/-- the instance of an Id, and whether there is one -/
noncomputable def fndV (L : Nat → Ins) (n : Nat) (id : Int) : Ins := if h : mayB L n = true ∧ hasI L n id then L (Classical.choose h.2) else none_
open Classical in
noncomputable def fndB (L : Nat → Ins) (n : Nat) (id : Int) : Bool := decide (mayB L n = true ∧ hasI L n id)
open Classical in
theorem fnd_yes {L : Nat → Ins} {n : Nat} {id : Int} (h : mayB L n = true) {k : Nat} (hk : k < n) (e : (L k).id = id) : fndV L n id = L k ∧ fndB L n id = true := by
  have hh : mayB L n = true ∧ hasI L n id := ⟨h, k, hk, e⟩
  refine ⟨?_, by unfold fndB; exact decide_eq_true hh⟩
  unfold fndV
  rw [dif_pos hh]
  have c := Classical.choose_spec hh.2
  rw [may_one h c.1 hk (c.2.trans e.symm)]
open Classical in
theorem fnd_no {L : Nat → Ins} {n : Nat} {id : Int} (h : mayB L n = false ∨ ∀ k, k < n → (L k).id ≠ id) : fndV L n id = none_ ∧ fndB L n id = false := by
  have hh : ¬ (mayB L n = true ∧ hasI L n id) := by
    rintro ⟨h1, k, hk, e⟩
    rcases h with h | h
    · rw [h] at h1; cases h1
    · exact h k hk e
  exact ⟨by unfold fndV; rw [dif_neg hh], by unfold fndB; exact decide_eq_false hh⟩
theorem results_row_tmp {fn : Func} {p u : Tmp} {ty : TypeId} (h : fn.results = #[.cell p ty, .tmp u]) (tmps : Array Value) {P : Program} (w : World) (g : Nat) (t : TypeId) (cs : Array Value) (fr : Nat × Nat) {d : TypeDesc}
    (hx : tmps.getD p undef = .pointer (some ⟨g, 0, none⟩)) (hg : w.heap[g]? = some (.cells cs t fr)) (hu : P.underlying ty = some d) (hd : d.isRow = true) (hi : (P.info? ty).map (·.size) = some cs.size) :
    (results fn tmps).run P w = .ok (.tuple #[.agg cs, tmps.getD u undef]) w := by
  rw [results_cell_tmp h, hx]
  simp only [asAddr, Sem.run_pure, Result.andThen_ok, run_loadVar_mid w g 0 ty cs.toList d (range_row hg) hu hd (by rw [hi]; simp)]
/-- the document's place -/
theorem refPlace_any (A : Option Addr) (n c : Nat) (L : Nat → Ins) (id : Int) (w : World) (h : Insts w w.heap.size A n L) (hn : n ≤ 9223372036854775807) :
    Calls Try.prog 35 #[.slice A n c, .int .u64 id] w fun e w' => (∃ z : Int, e = .returned (.int .i64 z) ∧ ((∃ k : Nat, z = k ∧ k < n ∧ (L k).id = id ∧ ∀ i, i < k → (L i).id ≠ id) ∨ (z = -1 ∧ ∀ k, k < n → (L k).id ≠ id))) ∧ w = w' := by
  have H := Lib.hid h
  clear h
  go_enter Try.func35, Try.ntmps35
  go_wp2
  go_loopw [5] (fun i wr => ∃ k : Nat, k ≤ n ∧ i = .int .i64 k ∧ Hid (∀ j, j < k → (L j).id ≠ id) ∧ w = wr) (fun i _ => n - (intOf i).toNat)
  case atStart => exact ⟨0, by omega, rfl, Lib.hid (fun j hj => absurd hj (by omega)), rfl⟩
  case round =>
    obtain ⟨k, hk, rfl, ho, rfl⟩ := hrel
    by_cases hlt : k < n
    · obtain ⟨b, off, rfl⟩ := insts_at H.out (by omega)
      obtain ⟨hbl, R, c0⟩ := ins_cells H.out (Below.refl _ _) rfl hlt
      by_cases he : (L k).id = id
      · have e1 : ((L k).id == id) = true := by simp [he]
        go_wp2
        go_ret
        exact ⟨⟨_, rfl, .inl ⟨k, rfl, hlt, he, ho.out⟩⟩, rfl⟩
      · have e1 : ((L k).id == id) = false := by simp [he]
        have HK : Hid (∀ j, j < k + 1 → (L j).id ≠ id) := Lib.hid (fun j hj => by
          rcases Nat.lt_succ_iff_lt_or_eq.1 hj with h1 | rfl
          · exact ho.out j h1
          · exact he)
        go_wp2
        go_roundw
        case rel => exact ⟨k + 1, by omega, by go_num, HK, by trivial⟩
        case measure => simp [intOf]; omega
    · have e : n = k := by omega
      subst e
      go_wp2
      go_ret
      exact ⟨⟨_, rfl, .inr ⟨rfl, ho.out⟩⟩, rfl⟩
theorem refMayL_is (A : Option Addr) (n c : Nat) (L : Nat → Ins) (v : Bool) (hv : mayB L n = v) (w : World) (h : Insts w w.heap.size A n L) (hn : n ≤ 9223372036854775807) :
    Calls Try.prog 11 #[.slice A n c] w fun e w' => e = .returned (.bool v) ∧ Below w.heap.size w w' := by
  have := refMayL_any A n c L w h hn; rw [hv] at this; exact this
set_option maxHeartbeats 1000000 in
theorem refFind_any (A : Option Addr) (n c : Nat) (L : Nat → Ins) (id : Int) (w : World) (h : Insts w w.heap.size A n L) (hn : n ≤ 9223372036854775807) :
    Calls Try.prog 21 #[.slice A n c, .int .u64 id] w fun e w' => e = .returned (.tuple #[(fndV L n id).val, .bool (fndB L n id)]) ∧ Below w.heap.size w w' := by
  have P := Lib.hid (fun p : Grown (w.alloc (.cells none_.cells 36)) => refPlace_any A n c L id p.w1 (h.later (bTrans (bAlloc (Below.refl _ _) _) p.below)) hn)
  have IL := Lib.hid (fun p : Grown (w.alloc (.cells none_.cells 36)) => (show Insts p.w1 p.w1.heap.size A n L from h.later (bTrans (bAlloc (Below.refl _ _) _) p.below)))
  have M := Lib.hid (fun p : Grown (w.alloc (.cells none_.cells 36)) => refMayL_any A n c L p.w1 (h.later (bTrans (bAlloc (Below.refl _ _) _) p.below)) hn)
  clear h
  go_enter Try.func21, Try.ntmps21
  go_wp2_with fail
  refine (P.out ⟨_, Below.refl _ _⟩).mono ?_
  rintro _ _ ⟨⟨z, rfl, hz⟩, rfl⟩
  have R0 := heap_alloc_new w (.cells none_.cells 36)
  rcases hz with ⟨k, rfl, hk, he, _⟩ | ⟨rfl, hz⟩
  · have d1 : decide ((k : Int) < 0) = false := decide_eq_false (by omega)
    rcases hm : mayB L n with _ | _
    · have HV := Lib.hid (fnd_no (id := id) (.inl hm))
      rw [hm] at M
      go_wp2_with fail
      refine (call_grown (p := (⟨_, Below.refl _ _⟩ : Grown (w.alloc (.cells none_.cells 36)))) (M.out _)).mono ?_
      rintro _ _ ⟨rfl, p, rfl⟩
      have R1 := box_row p
      go_wp2_with ((with_reducible refine at_store 36 ?_); (refine store_whole rfl 36 _ _ rfl w.heap.size none_.cells none_.cells _ rfl rfl R1 (sizeInst.trans rfl) rfl none_.one ?_))
      refine bodyPost_ret (results_row_tmp rfl _ _ w.heap.size _ none_.cells _ rfl (row_at R1) Try.underlying36 rfl (sizeInst.trans rfl)) rfl ?_
      exact ⟨by rw [HV.out.1, HV.out.2]; rfl, below_row _ (bTrans (bAlloc (Below.refl _ _) _) p.below) (Nat.le_refl _)⟩
    · have HV := Lib.hid (fnd_yes (id := id) hm hk he)
      rw [hm] at M
      go_wp2_with fail
      refine (call_grown (p := (⟨_, Below.refl _ _⟩ : Grown (w.alloc (.cells none_.cells 36)))) (M.out _)).mono ?_
      rintro _ _ ⟨rfl, p, rfl⟩
      have R1 := box_row p
      obtain ⟨b, off, rfl⟩ := insts_at (IL.out p) (by omega)
      obtain ⟨hbl, R, _⟩ := ins_cells (IL.out p) (Below.refl _ _) rfl hk
      go_wp2_with (first | ((with_reducible refine at_load 36 ?_); (refine load_ins rfl _ rfl _ _ rfl (L k) R ?_)) | ((with_reducible refine at_store 36 ?_); (refine store_whole rfl 36 _ _ rfl w.heap.size (L k).cells none_.cells _ rfl rfl R1 (sizeInst.trans rfl) rfl (L k).one ?_)))
      refine bodyPost_ret (results_row_tmp rfl _ _ w.heap.size _ (L k).cells _ rfl (row_at R1) Try.underlying36 rfl (sizeInst.trans rfl)) rfl ?_
      exact ⟨by rw [HV.out.1, HV.out.2]; rfl, below_row _ (bTrans (bAlloc (Below.refl _ _) _) p.below) (Nat.le_refl _)⟩
  · have HV := Lib.hid (fnd_no (id := id) (L := L) (n := n) (.inr hz))
    go_wp2_with ((with_reducible refine at_store 36 ?_); (refine store_whole rfl 36 _ _ rfl w.heap.size none_.cells none_.cells _ rfl rfl R0 (sizeInst.trans rfl) rfl none_.one ?_))
    refine bodyPost_ret (results_row_tmp rfl _ _ w.heap.size _ none_.cells _ rfl (row_at R0) Try.underlying36 rfl (sizeInst.trans rfl)) rfl ?_
    exact ⟨by rw [HV.out.1, HV.out.2]; rfl, below_row _ (bAlloc (Below.refl _ _) _) (Nat.le_refl _)⟩
/-- the function that is searched by -/
theorem place1_any (A : Option Addr) (n c : Nat) (L : Nat → Ins) (id : Int) (k : Nat) (p q : Nat) (w : World) (h : Insts w w.heap.size A n L) (hk : k < n) (hn : n ≤ 9223372036854775807)
    (hp : w.cell? ⟨p, 0, none⟩ = some (.slice A n c)) (hq : w.cell? ⟨q, 0, none⟩ = some (.int .u64 id)) :
    Calls Try.prog 41 #[.int .i64 k, .pointer (some ⟨p, 0, none⟩), .pointer (some ⟨q, 0, none⟩)] w fun e w' => e = .returned (.bool (decide (id ≤ (L k).id))) ∧ ∃ m, w.drewN m = w' := by
  obtain ⟨b, off, rfl⟩ := insts_at h (by omega)
  obtain ⟨hbl, R, c0⟩ := ins_cells h (Below.refl _ _) rfl hk
  clear h R
  go_enter Try.func41, Try.ntmps41
  go_wp2
  go_quiet (fail)
  go_wp2
  go_ret
  exact ⟨rfl, _, rfl⟩
theorem search_any (A : Option Addr) (n c : Nat) (L : Nat → Ins) (id : Int) (p q : Nat) (w : World) (h : Insts w w.heap.size A n L) (hn : n ≤ 4096)
    (hp : w.cell? ⟨p, 0, none⟩ = some (.slice A n c)) (hq : w.cell? ⟨q, 0, none⟩ = some (.int .u64 id)) :
    Calls Try.prog 40 #[.int .i64 n, .func (.func 41) #[] #[.pointer (some ⟨p, 0, none⟩), .pointer (some ⟨q, 0, none⟩)]] w fun e w' => ∃ k : Nat, e = .returned (.int .i64 k) ∧ k ≤ n ∧ (0 < k → (L (k - 1)).id < id) ∧ (k < n → id ≤ (L k).id) ∧ ∃ m, w.drewN m = w' := by
  go_enter Try.func40, Try.ntmps40
  go_wp2
  go_loopw [5, 6] (fun i j wr => ∃ a b : Nat, a ≤ b ∧ b ≤ n ∧ i = .int .i64 a ∧ j = .int .i64 b ∧ Hid (0 < a → (L (a - 1)).id < id) ∧ Hid (b < n → id ≤ (L b).id) ∧ ∃ m, w.drewN m = wr) (fun i j _ => (intOf j - intOf i).toNat)
  case atStart => exact ⟨0, n, by omega, by omega, rfl, rfl, Lib.hid (fun h => absurd h (by omega)), Lib.hid (fun h => absurd h (by omega)), 0, rfl⟩
  case round =>
    obtain ⟨a, b, hab, hbn, rfl, rfl, ha, hb, m, rfl⟩ := hrel
    by_cases hlt : a < b
    · have e : ((a : Int) + (b : Int)) / 2 = (((a + b) / 2 : Nat) : Int) := by omega
      have E := Lib.hid e
      clear e
      have C := Lib.hid (place1_any A n c L id ((a + b) / 2) p q (w.drewN m) h (by omega) (by omega) hp hq)
      by_cases hd : id ≤ (L ((a + b) / 2)).id
      · have D := Lib.hid (decide_eq_true hd)
        clear hd
        go_wp2_with fail
        rw [E.out]
        refine C.out.mono ?_
        rintro e w' ⟨rfl, m', rfl⟩
        rw [D.out]
        go_wp2
        rw [E.out]
        go_roundw
        case rel => exact ⟨a, (a + b) / 2, by omega, by omega, rfl, rfl, ha, Lib.hid (fun _ => of_decide_eq_true D.out), m + m', rfl⟩
        case measure => simp [intOf]; omega
      · have D := Lib.hid (decide_eq_false hd)
        clear hd
        go_wp2_with fail
        rw [E.out]
        refine C.out.mono ?_
        rintro e w' ⟨rfl, m', rfl⟩
        rw [D.out]
        go_wp2
        rw [E.out]
        go_roundw
        case rel => exact ⟨(a + b) / 2 + 1, b, by omega, by omega, by go_num, rfl, Lib.hid (fun _ => by have := of_decide_eq_false D.out; simpa using this), hb, m + m', rfl⟩
        case measure => simp [intOf]; omega
    · obtain rfl : a = b := by omega
      go_wp2
      go_ret
      exact ⟨a, rfl, hbn, ha.out, hb.out, m, rfl⟩
/-- where an Id stands, or would -/
theorem place_any (A : Option Addr) (n c : Nat) (L : Nat → Ins) (id : Int) (w : World) (h : Insts w w.heap.size A n L) (hm : mayB L n = true) :
    Calls Try.prog 33 #[.slice A n c, .int .u64 id] w fun e w' => (∃ (k : Nat) (t : Bool), e = .returned (.tuple #[.int .i64 k, .bool t]) ∧ k ≤ n ∧ (∀ i, i < k → (L i).id < id) ∧ (t = true → k < n ∧ (L k).id = id ∧ ∀ i, k < i → i < n → id < (L i).id) ∧ (t = false → ∀ i, k ≤ i → i < n → id < (L i).id)) ∧ Below w.heap.size w w' := by
  have hn := may_len hm
  have h2 : Insts ((w.alloc (.cells #[.slice A n c] 22)).alloc (.cells #[.int .u64 id] 34)) ((w.alloc (.cells #[.slice A n c] 22)).alloc (.cells #[.int .u64 id] 34)).heap.size A n L := h.later (bAlloc (bAlloc (Below.refl _ _) _) _)
  have hp : ((w.alloc (.cells #[.slice A n c] 22)).alloc (.cells #[.int .u64 id] 34)).cell? ⟨w.heap.size, 0, none⟩ = some (.slice A n c) := cell_row (heap_under (heap_alloc_new _ _)) rfl
  have hq : ((w.alloc (.cells #[.slice A n c] 22)).alloc (.cells #[.int .u64 id] 34)).cell? ⟨w.heap.size + 1, 0, none⟩ = some (.int .u64 id) := by
    have := heap_alloc_new (w.alloc (.cells #[.slice A n c] 22)) (.cells #[.int .u64 id] 34)
    rw [World.size_alloc] at this
    exact cell_row this rfl
  have S := Lib.hid (search_any A n c L id w.heap.size (w.heap.size + 1) _ h2 hn hp hq)
  have B := Lib.hid (bAlloc (bAlloc (Below.refl _ w) (.cells #[.slice A n c] 22)) (.cells #[.int .u64 id] 34))
  have H2 := Lib.hid h2
  have HM := Lib.hid hm
  clear h2 h hm hp hq
  go_enter Try.func33, Try.ntmps33
  go_wp2_with fail
  refine S.out.mono ?_
  rintro _ _ ⟨k, rfl, hk, hl, hr, j, rfl⟩
  have L1 : Hid (∀ i, i < k → (L i).id < id) := Lib.hid (fun i hi => by
    have h1 := hl (by omega)
    rcases (by omega : i = k - 1 ∨ i < k - 1) with rfl | h2
    · exact h1
    · have := may_less HM.out (k - 1) i h2 (by omega); omega)
  by_cases hlt : k < n
  · have hr := hr hlt
    have d1 : decide ((k : Int) < (n : Int)) = true := decide_eq_true (by omega)
    obtain ⟨b, off, rfl⟩ := insts_at H2.out (by omega)
    obtain ⟨hbl, R, c0⟩ := ins_cells H2.out (Below.refl _ _) rfl hlt
    have z1 : (0 : Int) ≤ (k : Int) := by omega
    have z2 : (k : Int) < (n : Int) := by omega
    clear R hl
    by_cases he : (L k).id = id
    · have e1 : ((L k).id == id) = true := by simp [he]
      have R1 : Hid (∀ i, k < i → i < n → id < (L i).id) := Lib.hid (fun i h1 h2 => by have := may_less HM.out i k h1 h2; omega)
      go_wp2_with fail
      go_quiet (fail)
      go_wp2
      go_ret2
      exact ⟨⟨k, true, rfl, hk, L1.out, fun _ => ⟨hlt, he, R1.out⟩, fun e => by cases e⟩, bDrewN _ (bDrewN _ B.out)⟩
    · have e1 : ((L k).id == id) = false := by simp [he]
      have R1 : Hid (∀ i, k ≤ i → i < n → id < (L i).id) := Lib.hid (fun i h1 h2 => by
        rcases (by omega : i = k ∨ k < i) with rfl | h3
        · omega
        · have := may_less HM.out i k h3 h2; omega)
      go_wp2_with fail
      go_quiet (fail)
      go_wp2
      go_ret2
      exact ⟨⟨k, false, rfl, hk, L1.out, fun e => (by cases e), fun _ => R1.out⟩, bDrewN _ (bDrewN _ B.out)⟩
  · have d1 : decide ((k : Int) < (n : Int)) = false := decide_eq_false (by omega)
    clear hl hr
    go_wp2_with fail
    go_quiet (fail)
    go_wp2
    go_ret2
    exact ⟨⟨k, false, rfl, hk, L1.out, fun e => (by cases e), fun _ i h1 h2 => absurd h1 (by omega)⟩, bDrewN _ (bDrewN _ B.out)⟩
theorem mayL_is (A : Option Addr) (n c : Nat) (L : Nat → Ins) (v : Bool) (hv : mayB L n = v) (w : World) (h : Insts w w.heap.size A n L) (hn : n ≤ 9223372036854775807) :
    Calls Try.prog 10 #[.slice A n c] w fun e w' => e = .returned (.bool v) ∧ Below w.heap.size w w' := by
  have := mayL_any A n c L w h hn; rw [hv] at this; exact this
theorem call_grown2 {P : Program} {f : FuncId} {args : Array Value} {w : World} {p : Grown w} {R : Ending → Prop} (h : Calls P f args p.w1 fun e w' => R e ∧ Below p.w1.heap.size p.w1 w') : Calls P f args p.w1 fun e w' => R e ∧ ∃ q : Grown w, w' = q.w1 :=
  h.mono fun _ _ ⟨he, hb⟩ => ⟨he, ⟨_, bTrans p.below hb⟩, rfl⟩
set_option maxHeartbeats 1000000 in
theorem find_any (A : Option Addr) (n c : Nat) (L : Nat → Ins) (id : Int) (w : World) (h : Insts w w.heap.size A n L) (hn : n ≤ 9223372036854775807) :
    Calls Try.prog 20 #[.slice A n c, .int .u64 id] w fun e w' => e = .returned (.tuple #[(fndV L n id).val, .bool (fndB L n id)]) ∧ Below w.heap.size w w' := by
  have IL := Lib.hid (fun p : Grown (w.alloc (.cells none_.cells 36)) => (show Insts p.w1 p.w1.heap.size A n L from h.later (bTrans (bAlloc (Below.refl _ _) _) p.below)))
  have BB := Lib.hid (fun p : Grown (w.alloc (.cells none_.cells 36)) => bTrans (bAlloc (Below.refl _ w) (.cells none_.cells 36)) p.below)
  clear h
  rcases hm : mayB L n with _ | _
  · have HV := Lib.hid (fnd_no (id := id) (.inl hm))
    have M := Lib.hid (fun p : Grown (w.alloc (.cells none_.cells 36)) => mayL_is A n c L false hm p.w1 (IL.out p) hn)
    clear hm
    go_enter Try.func20, Try.ntmps20
    go_wp2_with fail
    refine (call_grown (p := (⟨_, Below.refl _ _⟩ : Grown (w.alloc (.cells none_.cells 36)))) (M.out _)).mono ?_
    rintro _ _ ⟨rfl, p, rfl⟩
    have R1 := box_row p
    go_wp2_with ((with_reducible refine at_store 36 ?_); (refine store_whole rfl 36 _ _ rfl w.heap.size none_.cells none_.cells _ rfl rfl R1 (sizeInst.trans rfl) rfl none_.one ?_))
    refine bodyPost_ret (results_row_tmp rfl _ _ w.heap.size _ none_.cells _ rfl (row_at R1) Try.underlying36 rfl (sizeInst.trans rfl)) rfl ?_
    exact ⟨by rw [HV.out.1, HV.out.2]; rfl, below_row _ (BB.out p) (Nat.le_refl _)⟩
  · have M := Lib.hid (fun p : Grown (w.alloc (.cells none_.cells 36)) => mayL_is A n c L true hm p.w1 (IL.out p) hn)
    have PL := Lib.hid (fun p : Grown (w.alloc (.cells none_.cells 36)) => place_any A n c L id p.w1 (IL.out p) hm)
    go_enter Try.func20, Try.ntmps20
    go_wp2_with fail
    refine (call_grown (p := (⟨_, Below.refl _ _⟩ : Grown (w.alloc (.cells none_.cells 36)))) (M.out _)).mono ?_
    rintro _ _ ⟨rfl, p, rfl⟩
    go_wp2_with fail
    refine (call_grown2 (p := p) (PL.out p)).mono ?_
    rintro _ _ ⟨⟨k, t, rfl, hk, h1, h2, h3⟩, p, rfl⟩
    have R1 := box_row p
    rcases t with _ | _
    · have HV := Lib.hid (fnd_no (L := L) (n := n) (id := id) (.inr (fun i hi => by
        by_cases hik : i < k
        · have := h1 i hik; omega
        · have := h3 rfl i (by omega) hi; omega)))
      clear h1 h2 h3
      go_wp2_with ((with_reducible refine at_store 36 ?_); (refine store_whole rfl 36 _ _ rfl w.heap.size none_.cells none_.cells _ rfl rfl R1 (sizeInst.trans rfl) rfl none_.one ?_))
      refine bodyPost_ret (results_row_tmp rfl _ _ w.heap.size _ none_.cells _ rfl (row_at R1) Try.underlying36 rfl (sizeInst.trans rfl)) rfl ?_
      exact ⟨by rw [HV.out.1, HV.out.2]; rfl, below_row _ (BB.out p) (Nat.le_refl _)⟩
    · obtain ⟨hk2, he, _⟩ := h2 rfl
      have HV := Lib.hid (fnd_yes (id := id) hm hk2 he)
      clear h1 h2 h3
      obtain ⟨b, off, rfl⟩ := insts_at (IL.out p) (by omega)
      obtain ⟨hbl, R, _⟩ := ins_cells (IL.out p) (Below.refl _ _) rfl hk2
      go_wp2_with (first | ((with_reducible refine at_load 36 ?_); (refine load_ins rfl _ rfl _ _ rfl (L k) R ?_)) | ((with_reducible refine at_store 36 ?_); (refine store_whole rfl 36 _ _ rfl w.heap.size (L k).cells none_.cells _ rfl rfl R1 (sizeInst.trans rfl) rfl (L k).one ?_)))
      refine bodyPost_ret (results_row_tmp rfl _ _ w.heap.size _ (L k).cells _ rfl (row_at R1) Try.underlying36 rfl (sizeInst.trans rfl)) rfl ?_
      exact ⟨by rw [HV.out.1, HV.out.2]; rfl, below_row _ (BB.out p) (Nat.le_refl _)⟩
end Go.Proofs.Ytcgeoaegalloaaa.Fnd
