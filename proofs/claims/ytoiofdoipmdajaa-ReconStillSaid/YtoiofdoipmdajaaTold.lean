
/- What is told of instances, as values; whether it may be. -/
import Derived.Test.YtoiofdoipmdajaaRows
import Derived.Test.YtoiofdoipmdajaaStX0
import Derived.Test.YtoiofdoipmdajaaFnd
import Derived.BigGuardPart
namespace Go.Proofs.Ytoiofdoipmdajaa.Tld
open Go.ChangeShapes Go.WideShapes Go.ChangeAt Go.RowKit
open Mem Arr Lst Rec Grown St0 Opens
attribute [local go_sem] Oper.semAt_some
set_option linter.unusedVariables false
set_option linter.unusedSimpArgs false
structure Td where
  id : Int
  tok : Int
  st : Int
def Td.cells (x : Td) : Array Value := #[.int .u64 x.id, .int .u64 x.tok, .int .u8 x.st]
@[reducible] def Td.val (x : Td) : Value := .agg x.cells
theorem Td.one (x : Td) : x.cells.all (·.oneCell') = true := by unfold Td.cells; simp [Value.oneCell']
theorem Td.f0 (x : Td) : x.cells[0]? = some (.int .u64 x.id) := rfl
theorem Td.f1 (x : Td) : x.cells[1]? = some (.int .u64 x.tok) := rfl
theorem Td.f2 (x : Td) : x.cells[2]? = some (.int .u8 x.st) := rfl
def noTd : Td := ⟨0, 0, 0⟩
theorem infoTd : (Try.prog.info? 47).map (fun i => (i.zero, i.size, i.bytes)) = some (some noTd.val, 3, 24) := by kernel_rfl
theorem sizeTd : (Try.prog.info? 47).map (·.size) = some 3 := by kernel_rfl
def tdV (T : Nat → Td) (i j : Nat) : Value := ((T i).cells[j]?).getD undef
def Tolds (w : World) (B : Nat) (A : Option Addr) (n : Nat) (T : Nat → Td) : Prop := Recs w B A n 3 (tdV T)
theorem Tolds.later {w w' : World} {A : Option Addr} {n : Nat} {T : Nat → Td} (h : Tolds w w.heap.size A n T) (hb : Below w.heap.size w w') : Tolds w' w'.heap.size A n T := Recs.later h hb
theorem td_lt {x : Td} {j : Nat} {u : Value} (h : x.cells[j]? = some u) : j < 3 := (Array.getElem?_eq_some_iff.1 h).1
theorem tdV_one (T : Nat → Td) (i j : Nat) (hj : j < 3) : (tdV T i j).oneCell' = true := by
  unfold tdV
  have h : j < (T i).cells.size := hj
  rw [Array.getElem?_eq_getElem h]
  exact (Array.all_eq_true_iff_forall_mem.1 (T i).one) _ (Array.getElem_mem h)
theorem tolds_at {w : World} {B : Nat} {A : Option Addr} {n : Nat} {T : Nat → Td} (h : Tolds w B A n T) (hn : 0 < n) : ∃ b off, A = some ⟨b, off, none⟩ := by
  obtain ⟨b, off, e, _⟩ := h.2 hn
  exact ⟨b, off, e⟩
theorem rec_td {W : World} {B : Nat} {A : Option Addr} {n : Nat} {T : Nat → Td} (h : Tolds W B A n T) {b off : Nat} (hA : A = some ⟨b, off, none⟩) {k : Nat} (hk : k < n) : b < B ∧ W.rangeAt b (off + k * 3) (T k).cells.toList := by
  obtain ⟨b', off', e, hlt, hc⟩ := h.2 (by omega)
  rw [hA] at e
  injection e with e
  injection e with e1 e2
  subst e1; subst e2
  refine ⟨hlt, fun j v hj => ?_⟩
  have hj' : (T k).cells[j]? = some v := by simpa using hj
  rw [Nat.add_assoc, hc k j hk (td_lt hj')]
  unfold tdV
  rw [hj']; rfl
theorem td_cell {W : World} {b o : Nat} {x : Td} (h : W.rangeAt b o x.cells.toList) {j : Nat} {v : Value} (hj : x.cells[j]? = some v) : W.cell? ⟨b, o + j, none⟩ = some v := h j v (by simpa using hj)
theorem load_td {ops : Array Oper} {rest : List Oper} {o : Oper} {a : Act} {w : World} {Q : Exit → Act → World → Prop} (hgd : o.guard = none) (x : Operand) (ho : o.op = .load 47 x)
    (g k : Nat) (hx : a.eval x = .pointer (some ⟨g, k, none⟩)) (c : Td) (hc : w.rangeAt g k c.cells.toList)
    (h : wpList Try.prog ops Q rest (a.put o.dst c.val) w) : wpList Try.prog ops Q (o :: rest) a w :=
  wpList_load_mid hgd 47 x ho g k hx c.cells.toList _ hc Try.underlying47 rfl (sizeTd.trans rfl) h
theorem store_td {ops : Array Oper} {rest : List Oper} {o : Oper} {a : Act} {w : World} {Q : Exit → Act → World → Prop} (hgd : o.guard = none) (x y : Operand) (ho : o.op = .store 47 x y)
    (c : Td) (old : Array Value) (t : TypeId) (hx : a.eval x = .pointer (some ⟨w.heap.size, 0, none⟩)) (hy : a.eval y = c.val) (hold : old.size = 3)
    (h : wpList Try.prog ops Q rest (a.put o.dst undef) (w.alloc (.cells c.cells t (0, 0)))) : wpList Try.prog ops Q (o :: rest) a (w.alloc (.cells old t (0, 0))) :=
  store_plain hgd 47 x y ho c.cells old t hx hy (sizeTd.trans rfl) (hold.trans rfl) c.one h
theorem exec_td (ρ : Operand → Value) (x : Operand) (dst : Option Tmp) (ty : TypeId) (pos : String) (after : Array Edge) (guard : Option (Nat × Bool)) :
    execOp ρ { dst, op := .load 47 x, type := ty, pos, after, guard } = loadRec 47 (ρ x) := rfl
theorem run_td {w : World} {b o : Nat} {c : Td} (h : w.rangeAt b o c.cells.toList) : (loadRec 47 (.pointer (some ⟨b, o, none⟩))).run Try.prog w = .ok (.value c.val) w :=
  run_loadMid 47 Try.underlying47 rfl (sizeTd.trans rfl) h
/-- may it be? -/
def prevT (T : Nat → Td) (k : Nat) : Int := if k = 0 then 0 else (T (k - 1)).id
def atT (T : Nat → Td) (k : Nat) : Bool := decide (1 ≤ (T k).id ∧ (T k).id ≤ 4611686018427387904 ∧ 1 ≤ (T k).tok ∧ (T k).tok ≤ 4611686018427387904 ∧ 1 ≤ (T k).st ∧ (T k).st ≤ 3 ∧ (k = 0 ∨ (T (k - 1)).id < (T k).id))
def mayT (T : Nat → Td) (n : Nat) : Bool := decide (∀ i, i < n → atT T i = true)
theorem at_yes {T : Nat → Td} {k : Nat} (h : atT T k = true) : 1 ≤ (T k).id ∧ (T k).id ≤ 4611686018427387904 ∧ 1 ≤ (T k).tok ∧ (T k).tok ≤ 4611686018427387904 ∧ 1 ≤ (T k).st ∧ (T k).st ≤ 3 ∧ (k = 0 ∨ (T (k - 1)).id < (T k).id) := of_decide_eq_true h
theorem mayT_at {T : Nat → Td} {n k : Nat} (h : mayT T n = true) (hk : k < n) : atT T k = true := (of_decide_eq_true h) k hk
theorem mayT_no {T : Nat → Td} {n k : Nat} (hk : k < n) (h : atT T k = false) : mayT T n = false := decide_eq_false fun e => by
  have := e k hk; rw [h] at this; cases this
theorem mayT_less {T : Nat → Td} {n : Nat} (h : mayT T n = true) : ∀ j i, i < j → j < n → (T i).id < (T j).id := by
  intro j
  induction j with
  | zero => intro i h1; omega
  | succ j ih =>
    intro i h1 h2
    have := (at_yes (mayT_at h h2)).2.2.2.2.2.2
    have e : j + 1 - 1 = j := by omega
    rw [e] at this
    have h4 : (T j).id < (T (j + 1)).id := by omega
    rcases Nat.lt_succ_iff_lt_or_eq.1 h1 with h3 | rfl
    · have := ih i h3 (by omega); omega
    · exact h4
theorem prev_pos {T : Nat → Td} {k : Nat} (h : ∀ j, j < k → atT T j = true) : 0 ≤ prevT T k := by
  unfold prevT
  by_cases e : k = 0
  · rw [if_pos e]; exact Int.le_refl _
  · rw [if_neg e]
    have := (at_yes (h (k - 1) (by omega))).1; omega
theorem prev_next (T : Nat → Td) (k : Nat) : prevT T (k + 1) = (T k).id := by unfold prevT; rw [if_neg (by omega)]; rfl
set_option maxHeartbeats 4000000 in
theorem mayT_any (A : Option Addr) (n c : Nat) (T : Nat → Td) (w : World) (h : Tolds w w.heap.size A n T) (hn : n ≤ 9223372036854775807) :
    Calls Try.prog 9 #[.slice A n c] w fun e w' => e = .returned (.bool (mayT T n)) ∧ Below w.heap.size w w' := by
  have H := Lib.hid (fun p : Grown w => (show Tolds p.w1 p.w1.heap.size A n T from h.later p.below))
  clear h
  go_enter Try.func9, Try.ntmps9
  go_wp2
  go_loopw [3, 8] (fun q i wr => ∃ k : Nat, k ≤ n ∧ i = .int .i64 k ∧ q = .int .u64 (prevT T k) ∧ Hid (∀ j, j < k → atT T j = true) ∧ Below w.heap.size w wr) (fun _ i _ => n - (intOf i).toNat)
  case atStart => exact ⟨0, by omega, rfl, rfl, Lib.hid (fun j hj => absurd hj (by omega)), Below.refl _ _⟩
  case round =>
    obtain ⟨k, hk, rfl, rfl, ho, hb⟩ := hrel
    by_cases hlt : k < n
    · obtain ⟨b, off, rfl⟩ := tolds_at (H.out ⟨wr, hb⟩) (by omega)
      obtain ⟨hbl, R⟩ := rec_td (H.out ⟨wr, hb⟩) rfl hlt
      have HN := Lib.hid (fun h : atT T k = false => mayT_no hlt h)
      have HP := prev_pos ho.out
      have PN := prev_next T k
      have PV : (k = 0 ∧ prevT T k = 0) ∨ (0 < k ∧ prevT T k = (T (k - 1)).id) := by
        by_cases e : k = 0
        · exact .inl ⟨e, by unfold prevT; rw [if_pos e]⟩
        · exact .inr ⟨by omega, by unfold prevT; rw [if_neg e]⟩
      obtain ⟨pv, hpv⟩ : ∃ pv, prevT T k = pv := ⟨_, rfl⟩
      rw [hpv] at HP PV ⊢
      clear hpv
      have B1 := bAlloc hb (.cells (T k).cells 47)
      have q0 : (wr.alloc (.cells (T k).cells 47)).heap[wr.heap.size]? = _ := heap_alloc_new wr (.cells (T k).cells 47)
      have c0 := cell_row q0 (T k).f0
      have c1 := cell_row q0 (T k).f1
      have c2 := cell_row q0 (T k).f2
      clear q0
      by_cases t0 : (T k).id ≤ pv
      · have d0 := decide_eq_true t0
        have HV := Lib.hid (HN.out (decide_eq_false (by omega)))
        clear HN PN PV ho
        go_wp2_with (first | ((with_reducible refine Fnd.at_load 47 ?_); (refine load_td rfl _ rfl _ _ rfl (T k) R ?_)) | ((with_reducible refine Fnd.at_store 47 ?_); (refine store_td rfl _ _ rfl (T k) _ _ rfl rfl rfl ?_)))
        go_ret
        exact ⟨Inst.ret_bool HV.out.symm, B1⟩
      · have d0 := decide_eq_false t0
        by_cases t1 : 4611686018427387904 < (T k).id
        · have d1 := decide_eq_true t1
          have HV := Lib.hid (HN.out (decide_eq_false (by omega)))
          clear HN PN PV ho
          go_wp2_with (first | ((with_reducible refine Fnd.at_load 47 ?_); (refine load_td rfl _ rfl _ _ rfl (T k) R ?_)) | ((with_reducible refine Fnd.at_store 47 ?_); (refine store_td rfl _ _ rfl (T k) _ _ rfl rfl rfl ?_)))
          go_ret
          exact ⟨Inst.ret_bool HV.out.symm, B1⟩
        · have d1 := decide_eq_false t1
          by_cases t2 : (T k).tok < 1
          · have d2 := decide_eq_true t2
            have HV := Lib.hid (HN.out (decide_eq_false (by omega)))
            clear HN PN PV ho
            go_wp2_with (first | ((with_reducible refine Fnd.at_load 47 ?_); (refine load_td rfl _ rfl _ _ rfl (T k) R ?_)) | ((with_reducible refine Fnd.at_store 47 ?_); (refine store_td rfl _ _ rfl (T k) _ _ rfl rfl rfl ?_)))
            go_ret
            exact ⟨Inst.ret_bool HV.out.symm, B1⟩
          · have d2 := decide_eq_false t2
            by_cases t3 : 4611686018427387904 < (T k).tok
            · have d3 := decide_eq_true t3
              have HV := Lib.hid (HN.out (decide_eq_false (by omega)))
              clear HN PN PV ho
              go_wp2_with (first | ((with_reducible refine Fnd.at_load 47 ?_); (refine load_td rfl _ rfl _ _ rfl (T k) R ?_)) | ((with_reducible refine Fnd.at_store 47 ?_); (refine store_td rfl _ _ rfl (T k) _ _ rfl rfl rfl ?_)))
              go_ret
              exact ⟨Inst.ret_bool HV.out.symm, B1⟩
            · have d3 := decide_eq_false t3
              by_cases t4 : (T k).st < 1
              · have d4 := decide_eq_true t4
                have HV := Lib.hid (HN.out (decide_eq_false (by omega)))
                clear HN PN PV ho
                go_wp2_with (first | ((with_reducible refine Fnd.at_load 47 ?_); (refine load_td rfl _ rfl _ _ rfl (T k) R ?_)) | ((with_reducible refine Fnd.at_store 47 ?_); (refine store_td rfl _ _ rfl (T k) _ _ rfl rfl rfl ?_)))
                go_ret
                exact ⟨Inst.ret_bool HV.out.symm, B1⟩
              · have d4 := decide_eq_false t4
                by_cases t5 : 3 < (T k).st
                · have d5 := decide_eq_true t5
                  have HV := Lib.hid (HN.out (decide_eq_false (by omega)))
                  clear HN PN PV ho
                  go_wp2_with (first | ((with_reducible refine Fnd.at_load 47 ?_); (refine load_td rfl _ rfl _ _ rfl (T k) R ?_)) | ((with_reducible refine Fnd.at_store 47 ?_); (refine store_td rfl _ _ rfl (T k) _ _ rfl rfl rfl ?_)))
                  go_ret
                  exact ⟨Inst.ret_bool HV.out.symm, B1⟩
                · have d5 := decide_eq_false t5
                  have HK : Hid (∀ j, j < k + 1 → atT T j = true) := Lib.hid (Sums.ok_step ho.out (decide_eq_true (by omega)))
                  have PN := Lib.hid PN
                  clear HN PV ho
                  go_wp2_with (first | ((with_reducible refine Fnd.at_load 47 ?_); (refine load_td rfl _ rfl _ _ rfl (T k) R ?_)) | ((with_reducible refine Fnd.at_store 47 ?_); (refine store_td rfl _ _ rfl (T k) _ _ rfl rfl rfl ?_)))
                  go_roundw
                  case rel => exact ⟨k + 1, by omega, by go_num, by rw [PN.out], HK, B1⟩
                  case measure => simp [intOf]; omega
    · have HV : Hid (mayT T n = true) := Lib.hid (decide_eq_true fun j hj => ho.out j (by omega))
      go_wp2
      go_ret
      exact ⟨Inst.ret_bool HV.out.symm, hb⟩
/-- the document's -/
def idB (n : Int) : Bool := decide (1 ≤ n ∧ n ≤ 4611686018427387904)
theorem id_any (n : Int) (w : World) : Calls Try.prog 18 #[.int .u64 n] w fun e w' => e = .returned (.bool (idB n)) ∧ Below w.heap.size w w' := by
  by_cases h : 1 ≤ n
  · by_cases h2 : n ≤ 4611686018427387904
    · have hv : Hid (idB n = true) := Lib.hid (decide_eq_true ⟨h, h2⟩)
      go_enter Try.func18, Try.ntmps18
      go_wp2
      go_ret
      exact ⟨Inst.ret_bool hv.out.symm, Below.refl _ _⟩
    · have hv : Hid (idB n = false) := Lib.hid (decide_eq_false (by omega))
      go_enter Try.func18, Try.ntmps18
      go_wp2
      go_ret
      exact ⟨Inst.ret_bool hv.out.symm, Below.refl _ _⟩
  · have hv : Hid (idB n = false) := Lib.hid (decide_eq_false (by omega))
    have hd := decide_eq_false h
    go_enter Try.func18, Try.ntmps18
    go_wp2
    go_ret
    exact ⟨Inst.ret_bool hv.out.symm, Below.refl _ _⟩
theorem id_no {n : Int} (h : idB n = false) : n < 1 ∨ 4611686018427387904 < n := by
  have : ¬ (1 ≤ n ∧ n ≤ 4611686018427387904) := of_decide_eq_false h
  omega
theorem id_yes {n : Int} (h : idB n = true) : 1 ≤ n ∧ n ≤ 4611686018427387904 := of_decide_eq_true h
theorem id_not {n : Int} (h : n < 1 ∨ 4611686018427387904 < n) : idB n = false := decide_eq_false (by omega)
theorem id_is_yes {n : Int} (h : ¬ (n < 1 ∨ 4611686018427387904 < n)) : idB n = true := decide_eq_true (by omega)
theorem at_not {T : Nat → Td} {k : Nat} (h : ¬ (1 ≤ (T k).id ∧ (T k).id ≤ 4611686018427387904 ∧ 1 ≤ (T k).tok ∧ (T k).tok ≤ 4611686018427387904 ∧ 1 ≤ (T k).st ∧ (T k).st ≤ 3 ∧ (k = 0 ∨ (T (k - 1)).id < (T k).id))) : atT T k = false := decide_eq_false h
theorem id_is (n : Int) (v : Bool) (hv : Hid (idB n = v)) (w : World) : Calls Try.prog 18 #[.int .u64 n] w fun e w' => e = .returned (.bool v) ∧ Below w.heap.size w w' := by
  have := id_any n w; rw [hv.out] at this; exact this
section
attribute [local go_sem ↓] Go.wp_at_zero Go.wp_at_succ
set_option maxHeartbeats 4000000 in
theorem refMayT_any (A : Option Addr) (n c : Nat) (T : Nat → Td) (w : World) (h : Tolds w w.heap.size A n T) (hn : n ≤ 9223372036854775807) :
    Calls Try.prog 10 #[.slice A n c] w fun e w' => e = .returned (.bool (mayT T n)) ∧ Below w.heap.size w w' := by
  have H := Lib.hid (fun p : Grown w => (show Tolds p.w1 p.w1.heap.size A n T from h.later p.below))
  clear h
  go_enter Try.func10, Try.ntmps10
  go_wp2
  go_loopw [3] (fun i wr => ∃ k : Nat, k ≤ n ∧ i = .int .i64 k ∧ Hid (∀ j, j < k → atT T j = true) ∧ Below w.heap.size w wr) (fun i _ => n - (intOf i).toNat)
  case atStart => exact ⟨0, by omega, rfl, Lib.hid (fun j hj => absurd hj (by omega)), Below.refl _ _⟩
  case round =>
    obtain ⟨k, hk, rfl, ho, hb⟩ := hrel
    by_cases hlt : k < n
    · obtain ⟨b, off, rfl⟩ := tolds_at (H.out ⟨wr, hb⟩) (by omega)
      obtain ⟨hbl, R⟩ := rec_td (H.out ⟨wr, hb⟩) rfl hlt
      have HN := Lib.hid (fun h : atT T k = false => mayT_no hlt h)
      have B1 := bAlloc hb (.cells (T k).cells 47)
      have C := Lib.hid (box_new wr (T k).cells 47)
      by_cases h1 : (T k).id < 1 ∨ 4611686018427387904 < (T k).id
      · have HV := Lib.hid (HN.out (at_not (by omega)))
        have H1 : Hid (idB (T k).id = false) := Lib.hid (id_not h1)
        clear h1
        clear HN ho
        go_wp2_with (first | ((with_reducible refine Fnd.at_load 47 ?_); (refine load_td rfl _ rfl _ _ rfl (T k) R ?_)) | ((with_reducible refine Fnd.at_store 47 ?_); (refine store_td rfl _ _ rfl (T k) _ _ rfl rfl rfl ?_)))
        have C0 := box_cell C.out (T k).f0
        have C1 := box_cell C.out (T k).f1
        have C2 := box_cell C.out (T k).f2
        refine region_grown (by kernel_rfl) (by kernel_rfl) ?_
        repeat ((with_reducible refine wpQuiet_step (fun K hK => ?_)); go_simp; (first | (refine hK _ ?_; clear hK K) | (apply Exists.intro; refine ⟨fun _ => ?_, hK _ ?_⟩; (go_at_call 18; (first | (with_reducible exact call_grown (id_is (T k).id _ H1 _)) | (with_reducible exact call_grown (id_is (T k).tok _ H2 _)))); clear hK K)))
        (with_reducible refine wpQuiet_nil ?_)
        rintro _ ⟨p, rfl⟩
        go_wp2
        go_ret
        exact ⟨Inst.ret_bool HV.out.symm, bTrans B1 p.below⟩
      · have H1 : Hid (idB (T k).id = true) := Lib.hid (id_is_yes h1)
        by_cases h2 : (T k).tok < 1 ∨ 4611686018427387904 < (T k).tok
        · have HV := Lib.hid (HN.out (at_not (by omega)))
          have H2 : Hid (idB (T k).tok = false) := Lib.hid (id_not h2)
          clear h1 h2
          clear HN ho
          go_wp2_with (first | ((with_reducible refine Fnd.at_load 47 ?_); (refine load_td rfl _ rfl _ _ rfl (T k) R ?_)) | ((with_reducible refine Fnd.at_store 47 ?_); (refine store_td rfl _ _ rfl (T k) _ _ rfl rfl rfl ?_)))
          have C0 := box_cell C.out (T k).f0
          have C1 := box_cell C.out (T k).f1
          have C2 := box_cell C.out (T k).f2
          refine region_grown (by kernel_rfl) (by kernel_rfl) ?_
          repeat ((with_reducible refine wpQuiet_step (fun K hK => ?_)); go_simp; (first | (refine hK _ ?_; clear hK K) | (apply Exists.intro; refine ⟨fun _ => ?_, hK _ ?_⟩; (go_at_call 18; (first | (with_reducible exact call_grown (id_is (T k).id _ H1 _)) | (with_reducible exact call_grown (id_is (T k).tok _ H2 _)))); clear hK K)))
          (with_reducible refine wpQuiet_nil ?_)
          rintro _ ⟨p, rfl⟩
          go_wp2
          go_ret
          exact ⟨Inst.ret_bool HV.out.symm, bTrans B1 p.below⟩
        · have H2 : Hid (idB (T k).tok = true) := Lib.hid (id_is_yes h2)
          by_cases t3 : (T k).st < 1
          · have d3 := decide_eq_true t3
            have HV := Lib.hid (HN.out (at_not (by omega)))
            clear h1 h2 t3
            clear HN ho
            go_wp2_with (first | ((with_reducible refine Fnd.at_load 47 ?_); (refine load_td rfl _ rfl _ _ rfl (T k) R ?_)) | ((with_reducible refine Fnd.at_store 47 ?_); (refine store_td rfl _ _ rfl (T k) _ _ rfl rfl rfl ?_)))
            have C0 := box_cell C.out (T k).f0
            have C1 := box_cell C.out (T k).f1
            have C2 := box_cell C.out (T k).f2
            refine region_grown (by kernel_rfl) (by kernel_rfl) ?_
            repeat ((with_reducible refine wpQuiet_step (fun K hK => ?_)); go_simp; (first | (refine hK _ ?_; clear hK K) | (apply Exists.intro; refine ⟨fun _ => ?_, hK _ ?_⟩; (go_at_call 18; (first | (with_reducible exact call_grown (id_is (T k).id _ H1 _)) | (with_reducible exact call_grown (id_is (T k).tok _ H2 _)))); clear hK K)))
            (with_reducible refine wpQuiet_nil ?_)
            rintro _ ⟨p, rfl⟩
            go_wp2
            go_ret
            exact ⟨Inst.ret_bool HV.out.symm, bTrans B1 p.below⟩
          · have d3 := decide_eq_false t3
            by_cases t4 : 3 < (T k).st
            · have d4 := decide_eq_true t4
              have HV := Lib.hid (HN.out (at_not (by omega)))
              clear h1 h2 t4
              clear HN ho
              go_wp2_with (first | ((with_reducible refine Fnd.at_load 47 ?_); (refine load_td rfl _ rfl _ _ rfl (T k) R ?_)) | ((with_reducible refine Fnd.at_store 47 ?_); (refine store_td rfl _ _ rfl (T k) _ _ rfl rfl rfl ?_)))
              have C0 := box_cell C.out (T k).f0
              have C1 := box_cell C.out (T k).f1
              have C2 := box_cell C.out (T k).f2
              refine region_grown (by kernel_rfl) (by kernel_rfl) ?_
              repeat ((with_reducible refine wpQuiet_step (fun K hK => ?_)); go_simp; (first | (refine hK _ ?_; clear hK K) | (apply Exists.intro; refine ⟨fun _ => ?_, hK _ ?_⟩; (go_at_call 18; (first | (with_reducible exact call_grown (id_is (T k).id _ H1 _)) | (with_reducible exact call_grown (id_is (T k).tok _ H2 _)))); clear hK K)))
              (with_reducible refine wpQuiet_nil ?_)
              rintro _ ⟨p, rfl⟩
              go_wp2
              go_ret
              exact ⟨Inst.ret_bool HV.out.symm, bTrans B1 p.below⟩
            · have d4 := decide_eq_false t4
              by_cases h0 : k = 0
              · have hk0 : decide (0 < k) = false := decide_eq_false (by omega)
                have HK : Hid (∀ j, j < k + 1 → atT T j = true) := Lib.hid (Sums.ok_step ho.out (decide_eq_true (by omega)))
                clear h1 h2 h0 t3 t4
                clear HN ho
                go_wp2_with (first | ((with_reducible refine Fnd.at_load 47 ?_); (refine load_td rfl _ rfl _ _ rfl (T k) R ?_)) | ((with_reducible refine Fnd.at_store 47 ?_); (refine store_td rfl _ _ rfl (T k) _ _ rfl rfl rfl ?_)))
                have C0 := box_cell C.out (T k).f0
                have C1 := box_cell C.out (T k).f1
                have C2 := box_cell C.out (T k).f2
                refine region_grown (by kernel_rfl) (by kernel_rfl) ?_
                repeat ((with_reducible refine wpQuiet_step (fun K hK => ?_)); go_simp; (first | (refine hK _ ?_; clear hK K) | (apply Exists.intro; refine ⟨fun _ => ?_, hK _ ?_⟩; (go_at_call 18; (first | (with_reducible exact call_grown (id_is (T k).id _ H1 _)) | (with_reducible exact call_grown (id_is (T k).tok _ H2 _)))); clear hK K)))
                (with_reducible refine wpQuiet_nil ?_)
                rintro _ ⟨p, rfl⟩
                go_wp2
                go_roundw
                case rel => exact ⟨k + 1, by omega, by go_num, HK, bTrans B1 p.below⟩
                case measure => simp [intOf]; omega
              · obtain ⟨_, R0⟩ := rec_td (H.out ⟨wr, hb⟩) rfl (k := k - 1) (by omega)
                have d0 := td_cell R0 (T (k - 1)).f0
                have hk0 : decide (0 < k) = true := decide_eq_true (by omega)
                have hk1 : (1 : Int) ≤ (k : Int) := by omega
                have W1 : IntKind.i64.wrap ((k : Int) - 1) = (k : Int) - 1 := IntWalk.i64_in _ (by omega)
                have b1 : (0 : Int) ≤ (k : Int) - 1 := by omega
                have b2 : (k : Int) - 1 < (n : Int) := by omega
                rw [Nat.add_zero] at d0
                have D := Lib.hid (fun p : Grown (wr.alloc (.cells (T k).cells 47)) => cell_in (by rw [World.size_alloc]; exact Nat.lt_succ_of_lt hbl) (((bcell (bAlloc (Below.refl _ wr) (.cells (T k).cells 47))).1 _ _ hbl).trans d0) p)
                clear d0 R0
                by_cases w3 : (T (k - 1)).id < (T k).id
                · have HK : Hid (∀ j, j < k + 1 → atT T j = true) := Lib.hid (Sums.ok_step ho.out (decide_eq_true (by omega)))
                  have hle : decide ((T k).id ≤ (T (k - 1)).id) = false := decide_eq_false (by omega)
                  clear h1 h2 h0 t3 t4 w3
                  clear HN ho
                  go_wp2_with (first | ((with_reducible refine Fnd.at_load 47 ?_); (refine load_td rfl _ rfl _ _ rfl (T k) R ?_)) | ((with_reducible refine Fnd.at_store 47 ?_); (refine store_td rfl _ _ rfl (T k) _ _ rfl rfl rfl ?_)))
                  have D0 := D.out
                  have C0 := box_cell C.out (T k).f0
                  have C1 := box_cell C.out (T k).f1
                  have C2 := box_cell C.out (T k).f2
                  refine region_grown (by kernel_rfl) (by kernel_rfl) ?_
                  repeat ((with_reducible refine wpQuiet_step (fun K hK => ?_)); go_simp; (first | (refine hK _ ?_; clear hK K) | (apply Exists.intro; refine ⟨fun _ => ?_, hK _ ?_⟩; (go_at_call 18; (first | (with_reducible exact call_grown (id_is (T k).id _ H1 _)) | (with_reducible exact call_grown (id_is (T k).tok _ H2 _)))); clear hK K)))
                  (with_reducible refine wpQuiet_nil ?_)
                  rintro _ ⟨p, rfl⟩
                  go_wp2
                  go_roundw
                  case rel => exact ⟨k + 1, by omega, by go_num, HK, bTrans B1 p.below⟩
                  case measure => simp [intOf]; omega
                · have HV := Lib.hid (HN.out (at_not (by omega)))
                  have hle : decide ((T k).id ≤ (T (k - 1)).id) = true := decide_eq_true (by omega)
                  clear h1 h2 h0 t3 t4 w3
                  clear HN ho
                  go_wp2_with (first | ((with_reducible refine Fnd.at_load 47 ?_); (refine load_td rfl _ rfl _ _ rfl (T k) R ?_)) | ((with_reducible refine Fnd.at_store 47 ?_); (refine store_td rfl _ _ rfl (T k) _ _ rfl rfl rfl ?_)))
                  have D0 := D.out
                  have C0 := box_cell C.out (T k).f0
                  have C1 := box_cell C.out (T k).f1
                  have C2 := box_cell C.out (T k).f2
                  refine region_grown (by kernel_rfl) (by kernel_rfl) ?_
                  repeat ((with_reducible refine wpQuiet_step (fun K hK => ?_)); go_simp; (first | (refine hK _ ?_; clear hK K) | (apply Exists.intro; refine ⟨fun _ => ?_, hK _ ?_⟩; (go_at_call 18; (first | (with_reducible exact call_grown (id_is (T k).id _ H1 _)) | (with_reducible exact call_grown (id_is (T k).tok _ H2 _)))); clear hK K)))
                  (with_reducible refine wpQuiet_nil ?_)
                  rintro _ ⟨p, rfl⟩
                  go_wp2
                  go_ret
                  exact ⟨Inst.ret_bool HV.out.symm, bTrans B1 p.below⟩
    · have HV : Hid (mayT T n = true) := Lib.hid (decide_eq_true fun j hj => ho.out j (by omega))
      go_wp2
      go_ret
      exact ⟨Inst.ret_bool HV.out.symm, hb⟩
end
end Go.Proofs.Ytoiofdoipmdajaa.Tld
