
/- The iterator over instances and open launches (sums.things): its contract, for every loop body. -/
import Derived.Test.YtcgeoaegalloaaaThg
import Derived.RangeFuncNested
import Derived.RangeFuncBound
import Derived.RangeFuncCalls
import Derived.RangeFuncLeaves
import Derived.Shelf.Abstract
import Derived.WalkKit
import Derived.OwnWalkIn
import Derived.TacticsInMore
import Derived.LoopNIn
import Derived.LoopIn
import Derived.Deep.RegionHeld3
import Derived.Deep.Cut
namespace Go.Proofs.Ytcgeoaegalloaaa.Thg
open Go.RowKit Go.Shelf
open Go.ChangeShapes Go.WideShapes Go.ChangeAt
open Mem Arr Lst Rec Inst Grown Sums Opens St0
attribute [local go_sem] Oper.semAt_some
theorem rec_ins {W : World} {B : Nat} {A : Option Addr} {n : Nat} {L : Nat → Ins} (h : Recs W B A n 12 (insV L)) {k : Nat} (hk : k < n) : ∃ b off, A = some ⟨b, off, none⟩ ∧ b < B ∧ W.rangeAt b (off + k * 12) (L k).cells.toList := by
  obtain ⟨b, off, e, hlt, hc⟩ := h.2 (by omega)
  refine ⟨b, off, e, hlt, fun j v hj => ?_⟩
  have hj' : (L k).cells[j]? = some v := by simpa using hj
  rw [Nat.add_assoc, hc k j hk (ins_lt hj')]
  unfold insV
  rw [hj']; rfl
theorem rec_opn {W : World} {B : Nat} {A : Option Addr} {n : Nat} {O : Nat → Opn} (h : Recs W B A n 9 (opnV O)) {k : Nat} (hk : k < n) : ∃ b off, A = some ⟨b, off, none⟩ ∧ b < B ∧ W.rangeAt b (off + k * 9) (O k).cells.toList := by
  obtain ⟨b, off, e, hlt, hc⟩ := h.2 (by omega)
  refine ⟨b, off, e, hlt, fun j v hj => ?_⟩
  have hj' : (O k).cells[j]? = some v := by simpa using hj
  rw [Nat.add_assoc, hc k j hk (opn_lt hj')]
  unfold opnV
  rw [hj']; rfl
def rawI (x : Ins) : Th := ⟨x.pool, x.wt, x.spot, x.ver, false, false, false, false⟩
theorem at_load (T : TypeId) {P : Program} {ops : Array Oper} {rest : List Oper} {a : Act} {w : World} {Q : Exit → Act → World → Prop} {x : Operand} {dst : Option Tmp} {ty : TypeId} {pos : String} {after : Array Edge}
    (h : wpList P ops Q ({ dst, op := .load T x, type := ty, pos, after, guard := none } :: rest) a w) : wpList P ops Q ({ dst, op := .load T x, type := ty, pos, after, guard := none } :: rest) a w := h
theorem at_store (T : TypeId) {P : Program} {ops : Array Oper} {rest : List Oper} {a : Act} {w : World} {Q : Exit → Act → World → Prop} {x y : Operand} {dst : Option Tmp} {ty : TypeId} {pos : String} {after : Array Edge}
    (h : wpList P ops Q ({ dst, op := .store T x y, type := ty, pos, after, guard := none } :: rest) a w) : wpList P ops Q ({ dst, op := .store T x y, type := ty, pos, after, guard := none } :: rest) a w := h
theorem load_th {ops : Array Oper} {rest : List Oper} {o : Oper} {a : Act} {w : World} {Q : Exit → Act → World → Prop} (hgd : o.guard = none) (x : Operand) (ho : o.op = .load 56 x)
    (g k : Nat) (hx : a.eval x = .pointer (some ⟨g, k, none⟩)) (c : Th) (hc : w.rangeAt g k c.cells.toList)
    (h : wpList Try.prog ops Q rest (a.put o.dst c.val) w) : wpList Try.prog ops Q (o :: rest) a w :=
  wpList_plain hgd fun _ hK => wp_load_mid 56 x ho g k hx c.cells.toList _ hc Try.underlying56 rfl (sizeThing.trans rfl) (hK _ _ h)
theorem store_th {ops : Array Oper} {rest : List Oper} {o : Oper} {a : Act} {w : World} {Q : Exit → Act → World → Prop} (hgd : o.guard = none) (x y : Operand) (ho : o.op = .store 56 x y)
    (c : Th) (old : Array Value) (t : TypeId) (hx : a.eval x = .pointer (some ⟨w.heap.size, 0, none⟩)) (hy : a.eval y = c.val) (hold : old.size = 8)
    (h : wpList Try.prog ops Q rest (a.put o.dst undef) (w.alloc (.cells c.cells t (0, 0)))) : wpList Try.prog ops Q (o :: rest) a (w.alloc (.cells old t (0, 0))) :=
  store_plain hgd 56 x y ho c.cells old t hx hy (sizeThing.trans rfl) (hold.trans rfl) c.one h
/-- a whole record is loaded inside the wide fence -/
theorem load_midIn {nn : Nat} {P : Program} {ops : Array Oper} {rest : List Oper} {op : Oper} {a : Act} {w : World} {Q : Exit → Act → World → Prop} (hgd : op.guard = none) (ty : TypeId) (x : Operand) (ho : op.op = .load ty x)
    (b o : Nat) (hx : a.eval x = .pointer (some ⟨b, o, none⟩)) (cs : List Value) (d : TypeDesc) (hc : w.rangeAt b o cs)
    (hu : P.underlying ty = some d) (hd : d.isRow = true) (hi : (P.info? ty).map (·.size) = some cs.length)
    (h : wpListIn Fence.wide nn P ops Q rest (a.put op.dst (.agg cs.toArray)) w) : wpListIn Fence.wide nn P ops Q (op :: rest) a w := by
  refine wpListIn_plain hgd fun K hK => ?_
  unfold Oper.wpIn
  refine ⟨fun _ _ => trivial, ?_⟩
  rw [show Fence.wide.round = none from rfl, Oper.semAt_none]
  unfold execOp
  simp only [ho, hx, Instr.loadAt, Instr.sureAddr, Sem.run_bind, Sem.run_pure, Result.andThen_ok, run_loadVar_mid w b o ty cs d hc hu hd hi]
  exact hK _ _ h
theorem load_thIn {nn : Nat} {ops : Array Oper} {rest : List Oper} {o : Oper} {a : Act} {w : World} {Q : Exit → Act → World → Prop} (hgd : o.guard = none) (x : Operand) (ho : o.op = .load 56 x)
    (g k : Nat) (hx : a.eval x = .pointer (some ⟨g, k, none⟩)) (c : Th) (hc : w.rangeAt g k c.cells.toList)
    (h : wpListIn Fence.wide nn Try.prog ops Q rest (a.put o.dst c.val) w) : wpListIn Fence.wide nn Try.prog ops Q (o :: rest) a w :=
  load_midIn hgd 56 x ho g k hx c.cells.toList _ hc Try.underlying56 rfl (sizeThing.trans rfl) h
theorem at_loadIn (T : TypeId) {F : Fence} {nn : Nat} {P : Program} {ops : Array Oper} {rest : List Oper} {a : Act} {w : World} {Q : Exit → Act → World → Prop} {x : Operand} {dst : Option Tmp} {ty : TypeId} {pos : String} {after : Array Edge}
    (h : wpListIn F nn P ops Q ({ dst, op := .load T x, type := ty, pos, after, guard := none } :: rest) a w) : wpListIn F nn P ops Q ({ dst, op := .load T x, type := ty, pos, after, guard := none } :: rest) a w := h
theorem set_else {w : World} {g g' k : Nat} {v : Value} (h : g' ≠ g) : (w.setCell ⟨g', k, none⟩ v).heap[g]? = w.heap[g]? := by
  unfold World.setCell
  simp [Array.getElem?_modify, h]
theorem run_insR (w : World) (g : Nat) (h : RecOK w g 12) : (loadRec 36 (.pointer (some ⟨g, 0, none⟩))).run Try.prog w = .ok (.value (.agg (recIn w g))) w :=
  run_loadRec 36 Try.underlying36 rfl Inst.sizeInst w g h
theorem thsI_part (L : Nat → Ins) (O : Nat → Opn) {n m k : Nat} {pre : List OkTh} {x : OkTh} (hp : pre.map (·.1) = insL L k) (hk : k < n) (hx : x.1 = thI (L k) := by rfl) : (pre ++ [x]).map (·.1) ++ ((List.range' (k + 1) (n - (k + 1))).map (fun i => thI (L i)) ++ (lau O m).map thO) = thsL L n O m := by
  have e : insL L n = insL L (k + 1) ++ (List.range' (k + 1) (n - (k + 1))).map (fun i => thI (L i)) := by
    unfold insL
    have e0 := @List.range'_append_1 0 (k + 1) (n - (k + 1))
    rw [Nat.zero_add] at e0
    rw [← List.map_append, List.range_eq_range', List.range_eq_range', e0, show k + 1 + (n - (k + 1)) = n by omega]
  unfold thsL
  rw [e, insL_succ, List.map_append, hp]
  simp [hx]
def rawO (x : Opn) : Th := ⟨x.pool, x.wt, x.spot, x.ver, false, false, false, true⟩
theorem cell_same {w w1 : World} {g k : Nat} (e : w1.heap[g]? = w.heap[g]?) : w1.cell? ⟨g, k, none⟩ = w.cell? ⟨g, k, none⟩ := by
  unfold World.cell?
  simp only [e]
theorem lau_part {O : Nat → Opn} : ∀ m k, k ≤ m → ∃ q, lau O k ++ q = lau O m := by
  intro m
  induction m with
  | zero => intro k hk; obtain rfl : k = 0 := by omega
            exact ⟨[], List.append_nil _⟩
  | succ m ih =>
    intro k hk
    by_cases h : k ≤ m
    · obtain ⟨q, hq⟩ := ih k h
      have e : lau O (m + 1) = if lauB (O m) = true ∧ (lau O m).length < 4096 then lau O m ++ [O m] else lau O m := rfl
      by_cases hc : lauB (O m) = true ∧ (lau O m).length < 4096
      · rw [if_pos hc] at e
        rw [e]
        exact ⟨q ++ [O m], by rw [← List.append_assoc, hq]⟩
      · rw [if_neg hc] at e
        rw [e]
        exact ⟨q, hq⟩
    · obtain rfl : k = m + 1 := by omega
      exact ⟨[], List.append_nil _⟩
theorem thsO_part (L : Nat → Ins) (O : Nat → Opn) {n m k : Nat} {pre : List OkTh} {x : OkTh} (hp : pre.map (·.1) = insL L n ++ (lau O k).map thO) (hk : k < m) (hl : lau O (k + 1) = lau O k ++ [O k]) (hx : x.1 = thO (O k)) : ∃ q, (pre ++ [x]).map (·.1) ++ q = thsL L n O m := by
  obtain ⟨q, hq⟩ := lau_part (O := O) m (k + 1) hk
  refine ⟨q.map thO, ?_⟩
  unfold thsL
  rw [← hq, hl, List.map_append, hp]
  simp [hx]
section
attribute [local go_sem ↓] exec_ins Go.wp_at_zero Go.wp_at_succ
attribute [local go_sem] run_insR
theorem things_any (A : Option Addr) (n c : Nat) (C : Option Addr) (m d : Nat) (w : World) : Calls Try.prog 26 #[.slice A n c, .slice C m d] w fun e w' => e = .returned (.func (.func 37) #[] #[.pointer (some ⟨w.heap.size, 0, none⟩), .pointer (some ⟨w.heap.size + 1, 0, none⟩)]) ∧ w' = (w.alloc (.cells #[.slice A n c] 22)).alloc (.cells #[.slice C m d] 23) := by
  go_enter Try.func26, Try.ntmps26
  go_wp2
  go_ret
  exact ⟨rfl, rfl⟩
set_option maxRecDepth 100000 in
set_option maxHeartbeats 4000000 in
theorem things_in (nn l n0 e0 : Nat) (A : Option Addr) (n c : Nat) (L : Nat → Ins) (C : Option Addr) (m d : Nat) (O : Nat → Opn) (J Jx : List OkTh → World → Prop)
    (hY : ∀ pre x W, J pre W → pre.length < n + 4096 → YieldAt Fence.wide (nn - 1) Try.prog l (encs x) W fun e W' =>
      (e = .returned (.bool true) ∧ J (pre ++ [x]) W' ∧ KX n0 e0 W W') ∨ (e = .returned (.bool false) ∧ Jx (pre ++ [x]) W'))
    (W : World) (hJ : AbidesFrom W.heap.size J) (hI : Recs W n0 A n 12 (insV L)) (hO : Recs W n0 C m 9 (opnV O)) (hm : mayB L n = true) (hmax : m ≤ 9223372036854775807)
    (h1 : W.cell? ⟨e0, 0, none⟩ = some (.slice A n c)) (h2 : W.cell? ⟨e0 + 1, 0, none⟩ = some (.slice C m d)) (hn0 : n0 ≤ W.heap.size) (he0 : e0 + 2 ≤ W.heap.size) (h0 : J [] W) :
    CallsIn Fence.wide nn Try.prog 37 #[.func (.yield l) #[] #[], .pointer (some ⟨e0, 0, none⟩), .pointer (some ⟨e0 + 1, 0, none⟩)] W fun e W' => (∃ v, e = .returned v) ∧
      ((∃ xs, xs.map (·.1) = thsL L n O m ∧ J xs W') ∨ (∃ pre, (∃ q, pre.map (·.1) ++ q = thsL L n O m) ∧ Jx pre W')) := by
  have hlen := may_len hm
  refine callsIn_of_wp Try.func37 rfl trivial ?_ rfl
  simp only [Try.ntmps37, List.size_toArray, List.length_cons, List.length_nil, Nat.reduceAdd, Nat.reduceSub, Array.replicate_succ, Array.replicate_zero, List.push_toArray, List.append_toArray, List.nil_append, List.cons_append]
  gi_wp2
  gi_loopw [13] (fun i wr => ∃ (k : Nat) (pre : List OkTh), k ≤ n ∧ i = .int .i64 k ∧ pre.map (·.1) = insL L k ∧ KX n0 e0 W wr ∧ W.heap.size ≤ wr.heap.size ∧ J pre wr) (fun i _ => n - (intOf i).toNat)
  case atStart => exact ⟨0, [], by omega, rfl, rfl, ⟨Below.refl _ _, fun _ _ _ => rfl⟩, Nat.le_refl _, h0⟩
  case round =>
    obtain ⟨k, pre, hk, rfl, hpre, hkx, hsz, hJs⟩ := hrel
    by_cases hlt : k < n
    · obtain ⟨b, off, rfl, hb, R⟩ := rec_ins (hI.below hkx.1) hlt
      have f2 := (L k).f2
      have f3 := (L k).f3
      have f4 := (L k).f4
      have f11 := (L k).f11
      refine wpIn_wide.2 ?_
      go_upto_region 4 with (first | ((with_reducible refine at_load 36 ?_); (refine load_ins rfl _ rfl _ _ rfl (L k) R ?_)) | ((with_reducible refine at_store 36 ?_); (refine store_inp rfl _ _ rfl (L k) _ _ rfl rfl rfl ?_)) | ((with_reducible refine at_store 56 ?_); (refine store_th rfl _ _ rfl (rawI (L k)) _ _ rfl rfl rfl ?_)))
      have BX : ∀ p : Grown ((wr.alloc (.cells (L k).cells 36)).alloc (.cells (rawI (L k)).cells 56)), RecOK p.w1 wr.heap.size 12 ∧ recIn p.w1 wr.heap.size = (L k).cells := fun p => rec_of ((p.below.block _ (by simp; omega)).trans (heap_under (heap_alloc_new wr (.cells (L k).cells 36)))) rfl
      have BT : ∀ p : Grown ((wr.alloc (.cells (L k).cells 36)).alloc (.cells (rawI (L k)).cells 56)), p.w1.heap[wr.heap.size + 1]? = some (.cells (rawI (L k)).cells 56 (0, 0)) := fun p => by have := box_row p; simpa using this
      have S0 := BX ⟨_, Below.refl _ _⟩
      go_region_held3 (fun w' => RecOK w' wr.heap.size 12 ∧ recIn w' wr.heap.size = (L k).cells) (first | exact BX ⟨_, Bn⟩ | exact BX ⟨_, bDrew (Below.refl _ _)⟩ | exact S0 | exact rec_same (set_else (by omega)) (BX ⟨_, Bn⟩) | exact rec_same ((set_else (by omega)).trans (set_else (by omega))) (BX ⟨_, Bn⟩)) (first
        | (go_at_call 38; refine (serves_any (L k) _).mono ?_; rintro e wn ⟨rfl, bn⟩; have Bn : Below ((wr.alloc (.cells (L k).cells 36)).alloc (.cells (rawI (L k)).cells 56)).heap.size ((wr.alloc (.cells (L k).cells 36)).alloc (.cells (rawI (L k)).cells 56)) wn := bTrans (by first | assumption | exact bDrew (Below.refl _ _) | exact Below.refl _ _) bn; have c4 := cell_row (BT ⟨wn, Bn⟩) (rawI (L k)).f4; have c5 := cell_row (BT ⟨wn, Bn⟩) (rawI (L k)).f5; have fr := free_row (BT ⟨wn, Bn⟩))
        | (go_at_call 39; refine (comes_any (L k) _).mono ?_; rintro e wn ⟨rfl, bn⟩; have Bn : Below ((wr.alloc (.cells (L k).cells 36)).alloc (.cells (rawI (L k)).cells 56)).heap.size ((wr.alloc (.cells (L k).cells 36)).alloc (.cells (rawI (L k)).cells 56)) wn := bTrans (by first | assumption | exact bDrew (Below.refl _ _) | exact Below.refl _ _) bn; have c4 := cell_row (BT ⟨wn, Bn⟩) (rawI (L k)).f4; have c5 := cell_row (BT ⟨wn, Bn⟩) (rawI (L k)).f5; have fr := free_row (BT ⟨wn, Bn⟩)))
      obtain ⟨st, hst⟩ : ∃ v, decide ((L k).st = 7 ∨ (L k).st = 8) = v := ⟨_, rfl⟩
      have RW : wn.heap[wr.heap.size + 1]? = some (.cells (rawI (L k)).cells 56 (0, 0)) := BT ⟨wn, Bn⟩
      have WX : wn.heap[wr.heap.size]? = some (.cells (L k).cells 36 (0, 0)) := (Bn.block _ (by simp; omega)).trans (heap_under (heap_alloc_new wr (.cells (L k).cells 36)))
      have B3 := bTrans (bAlloc (bAlloc (Below.refl _ wr) (.cells (L k).cells 36)) (.cells (rawI (L k)).cells 56)) Bn
      have R1 : (wn.setCell ⟨wr.heap.size + 1, 4, none⟩ (.bool (servesB (L k)))).heap[wr.heap.size + 1]? = some (.cells ((rawI (L k)).cells.setIfInBounds 4 (.bool (servesB (L k)))) 56 (0, 0)) := by rw [setCell_row RW]; exact row_at RW
      have R2 : ((wn.setCell ⟨wr.heap.size + 1, 4, none⟩ (.bool (servesB (L k)))).setCell ⟨wr.heap.size + 1, 5, none⟩ (.bool (comesB (L k)))).heap[wr.heap.size + 1]? = some (.cells (((rawI (L k)).cells.setIfInBounds 4 (.bool (servesB (L k)))).setIfInBounds 5 (.bool (comesB (L k)))) 56 (0, 0)) := by rw [setCell_row R1]; exact row_at R1
      have B4 := bSet (bSet B3 (p := ⟨wr.heap.size + 1, 4, none⟩) (Nat.le_succ _) (.bool (servesB (L k)))) (p := ⟨wr.heap.size + 1, 5, none⟩) (Nat.le_succ _) (.bool (comesB (L k)))
      have X2 := ((set_else (w := wn.setCell ⟨wr.heap.size + 1, 4, none⟩ (.bool (servesB (L k)))) (k := 5) (v := .bool (comesB (L k))) (show wr.heap.size + 1 ≠ wr.heap.size by omega)).trans (set_else (k := 4) (v := .bool (servesB (L k))) (by omega))).trans WX
      clear RW WX B3 R1 BX BT S0
      clear c4 c5 fr
      generalize ((wn.setCell ⟨wr.heap.size + 1, 4, none⟩ (.bool (servesB (L k)))).setCell ⟨wr.heap.size + 1, 5, none⟩ (.bool (comesB (L k)))) = wS at R2 B4 X2 ⊢
      have s5 := cell_row X2 (L k).f5
      have s6 : wS.cell? ⟨wr.heap.size + 1, 6, none⟩ = some (.bool false) := cell_row R2 (k := 6) (by rfl)
      have fr6 := free_row R2
      have R6 : ∀ v, decide ((L k).st = 7 ∨ (L k).st = 8) = v → (wS.setCell ⟨wr.heap.size + 1, 6, none⟩ (.bool v)).heap[wr.heap.size + 1]? = some (.cells (thI (L k)).cells 56 (0, 0)) := fun v hv => by
        rw [setCell_row R2]; exact (row_at R2).trans (by rw [← hv]; rfl)
      have B6 : ∀ v, Below wr.heap.size wr (wS.setCell ⟨wr.heap.size + 1, 6, none⟩ (.bool v)) := fun v => bSet B4 (p := ⟨wr.heap.size + 1, 6, none⟩) (Nat.le_succ _) _
      have J6 := fun v => hJ pre wr _ none hJs (grown_none (B6 v)) (fun r e => by cases e)
      have K6 := fun v => hkx.t (KX.of (B6 v) (by omega) (by omega))
      have y := ok_yes (may_ok hm hlt)
      obtain ⟨xx, hxx⟩ : ∃ xx : OkTh, xx.1 = thI (L k) := ⟨⟨thI (L k), y.2.2.2.2.2.1, y.2.2.2.2.2.2.1⟩, rfl⟩
      have YY := fun v => hY pre xx _ (J6 v) (by have := congrArg List.length hpre; simp [insL_len] at this; omega)
      have F6 := Lib.hid (And.intro R6 (And.intro K6 (And.intro YY B6)))
      clear y R6 B6 K6 J6 YY R2 X2 B4 hJs
      by_cases h7 : (L k).st = 7
      · have d7 : ((L k).st == 7) = true := by simp [h7]
        go_upto_region 6 with fail
        obtain ⟨R6, K6, YY, B6⟩ := F6.out
        have RT := range_row (R6 true (by first | exact decide_eq_true (by omega) | exact decide_eq_false (by omega)))
        have K6 := Lib.hid (K6 true)
        have B6 := (B6 true).size
        obtain ⟨fn, tmps, assign, body, hy, hR⟩ := YY true
        dsimp only [encs] at hy
        rw [hxx] at hy
        clear YY F6 R6
        refine (wpIn_wide (n := nn)).1 ?_
        gi_wp2_with ((with_reducible refine at_loadIn 56 ?_); refine load_thIn rfl _ rfl (wr.heap.size + 1) 0 rfl (thI (L k)) RT ?_)
        refine ⟨fun h => absurd h (by decide), hR.mono ?_⟩
        rintro e W3 (⟨rfl, hJ3, hk3⟩ | ⟨rfl, hJx3⟩)
        · gi_wp2
          go_wp2
          go_roundw
          case rel => exact ⟨k + 1, _, by omega, by go_num, by simp [hpre, insL_succ, hxx], K6.out.t hk3, by have := hk3.1.size; omega, hJ3⟩
          case measure => simp [intOf]; omega
        · gi_wp2
          go_wp2
          refine bodyPost_ret (results_none rfl _ _ _) rfl ?_
          exact ⟨⟨_, rfl⟩, .inr ⟨_, ⟨_, thsI_part L O hpre hlt hxx⟩, hJx3⟩⟩
      · have d7 : ((L k).st == 7) = false := by simp [h7]
        by_cases h8 : (L k).st = 8
        · have d8 : ((L k).st == 8) = true := by simp [h8]
          go_upto_region 6 with fail
          obtain ⟨R6, K6, YY, B6⟩ := F6.out
          have RT := range_row (R6 true (by first | exact decide_eq_true (by omega) | exact decide_eq_false (by omega)))
          have K6 := Lib.hid (K6 true)
          have B6 := (B6 true).size
          obtain ⟨fn, tmps, assign, body, hy, hR⟩ := YY true
          dsimp only [encs] at hy
          rw [hxx] at hy
          clear YY F6 R6
          refine (wpIn_wide (n := nn)).1 ?_
          gi_wp2_with ((with_reducible refine at_loadIn 56 ?_); refine load_thIn rfl _ rfl (wr.heap.size + 1) 0 rfl (thI (L k)) RT ?_)
          refine ⟨fun h => absurd h (by decide), hR.mono ?_⟩
          rintro e W3 (⟨rfl, hJ3, hk3⟩ | ⟨rfl, hJx3⟩)
          · gi_wp2
            go_wp2
            go_roundw
            case rel => exact ⟨k + 1, _, by omega, by go_num, by simp [hpre, insL_succ, hxx], K6.out.t hk3, by have := hk3.1.size; omega, hJ3⟩
            case measure => simp [intOf]; omega
          · gi_wp2
            go_wp2
            refine bodyPost_ret (results_none rfl _ _ _) rfl ?_
            exact ⟨⟨_, rfl⟩, .inr ⟨_, ⟨_, thsI_part L O hpre hlt hxx⟩, hJx3⟩⟩
        · have d8 : ((L k).st == 8) = false := by simp [h8]
          go_upto_region 6 with fail
          obtain ⟨R6, K6, YY, B6⟩ := F6.out
          have RT := range_row (R6 false (by first | exact decide_eq_true (by omega) | exact decide_eq_false (by omega)))
          have K6 := Lib.hid (K6 false)
          have B6 := (B6 false).size
          obtain ⟨fn, tmps, assign, body, hy, hR⟩ := YY false
          dsimp only [encs] at hy
          rw [hxx] at hy
          clear YY F6 R6
          refine (wpIn_wide (n := nn)).1 ?_
          gi_wp2_with ((with_reducible refine at_loadIn 56 ?_); refine load_thIn rfl _ rfl (wr.heap.size + 1) 0 rfl (thI (L k)) RT ?_)
          refine ⟨fun h => absurd h (by decide), hR.mono ?_⟩
          rintro e W3 (⟨rfl, hJ3, hk3⟩ | ⟨rfl, hJx3⟩)
          · gi_wp2
            go_wp2
            go_roundw
            case rel => exact ⟨k + 1, _, by omega, by go_num, by simp [hpre, insL_succ, hxx], K6.out.t hk3, by have := hk3.1.size; omega, hJ3⟩
            case measure => simp [intOf]; omega
          · gi_wp2
            go_wp2
            refine bodyPost_ret (results_none rfl _ _ _) rfl ?_
            exact ⟨⟨_, rfl⟩, .inr ⟨_, ⟨_, thsI_part L O hpre hlt hxx⟩, hJx3⟩⟩
    · have e : n = k := by omega
      subst e
      have x2 : wr.cell? ⟨e0 + 1, 0, none⟩ = some (.slice C m d) := (cell_same (hkx.2 (e0 + 1) (by omega) (by omega))).trans h2
      gi_wp2
      gi_loopw [7, 48] (fun q i wr => ∃ (k : Nat) (pre : List OkTh), k ≤ m ∧ i = .int .i64 k ∧ q = .int .i64 (4096 - ((lau O k).length : Int)) ∧ pre.map (·.1) = insL L n ++ (lau O k).map thO ∧ KX n0 e0 W wr ∧ W.heap.size ≤ wr.heap.size ∧ J pre wr) (fun _ i _ => m - (intOf i).toNat)
      case atStart => exact ⟨0, pre, by omega, rfl, rfl, by rw [hpre]; simp [lau], hkx, hsz, hJs⟩
      clear x2 hpre hkx hsz hJs pre hlt hk
      case round =>
        obtain ⟨k, pre, hk, rfl, rfl, hpre, hkx, hsz, hJs⟩ := hrel
        by_cases hlt : k < m
        · obtain ⟨b, off, rfl, hb, R⟩ := rec_opn (hO.below hkx.1) hlt
          have ll := lau_len O k
          have f0 := (O k).f0
          have f2 := (O k).f2
          have f3 := (O k).f3
          have f6 := (O k).f6
          have f7 := (O k).f7
          have f8 := (O k).f8
          have JA := hJ pre wr (wr.alloc (.cells (O k).cells 49)) none hJs (grown_none (bAlloc (Below.refl _ _) _)) (fun r e => by cases e)
          have KA := hkx.t (KX.of (bAlloc (Below.refl _ wr) (.cells (O k).cells 49)) (by omega) (by omega))
          have SA : W.heap.size ≤ (wr.alloc (.cells (O k).cells 49)).heap.size := by simp; omega
          refine wpIn_wide.2 ?_
          by_cases hq : lauB (O k) = true
          · obtain ⟨q1, q2, q3⟩ : (O k).kind = 1 ∧ 1 ≤ (O k).wt ∧ (O k).wt ≤ 100 := of_decide_eq_true hq
            have e1 : ((O k).kind != 1) = false := by simp [q1]
            have e2 : decide ((O k).wt < 1) = false := decide_eq_false (by omega)
            have e3 : decide (100 < (O k).wt) = false := decide_eq_false (by omega)
            by_cases hfull : (lau O k).length = 4096
            · have E := lau_full hfull m (by omega)
              rw [hfull]
              go_wp2_with (first | ((with_reducible refine at_load 49 ?_); (refine load_opn rfl _ rfl _ _ rfl (O k) R ?_)) | ((with_reducible refine at_store 49 ?_); (refine store_opn rfl _ _ rfl (O k) _ _ rfl rfl rfl ?_)))
              refine bodyPost_ret (results_none rfl _ _ _) rfl ?_
              exact ⟨⟨_, rfl⟩, .inl ⟨pre, by unfold thsL; rw [E]; exact hpre, JA⟩⟩
            · have E := lau_on hq (by omega)
              have z1 : ¬ (4096 - ((lau O k).length : Int)) = 0 := by omega
              have z2 : ((4096 - ((lau O k).length : Int)) == 0) = false := by simp; omega
              have z3 : IntKind.i64.wrap (4096 - ((lau O k).length : Int) - 1) = 4096 - ((lau O k).length : Int) - 1 := IntWalk.i64_in _ (by omega)
              have RX : ((wr.alloc (.cells (O k).cells 49)).alloc (.cells (rawO (O k)).cells 56)).heap[wr.heap.size]? = some (.cells (O k).cells 49 (0, 0)) := heap_under (heap_alloc_new wr _)
              have RT : ((wr.alloc (.cells (O k).cells 49)).alloc (.cells (rawO (O k)).cells 56)).heap[wr.heap.size + 1]? = some (.cells (rawO (O k)).cells 56 (0, 0)) := by have := heap_alloc_new (wr.alloc (.cells (O k).cells 49)) (.cells (rawO (O k)).cells 56); simpa using this
              go_upto_region 16 with (first | ((with_reducible refine at_load 49 ?_); (refine load_opn rfl _ rfl _ _ rfl (O k) R ?_)) | ((with_reducible refine at_store 49 ?_); (refine store_opn rfl _ _ rfl (O k) _ _ rfl rfl rfl ?_)) | ((with_reducible refine at_store 56 ?_); (refine store_th rfl _ _ rfl (rawO (O k)) _ _ rfl rfl rfl ?_)))
              have B3 := bAlloc (bAlloc (Below.refl _ wr) (.cells (O k).cells 49)) (.cells (rawO (O k)).cells 56)
              generalize hW : ((wr.alloc (.cells (O k).cells 49)).alloc (.cells #[.int .i64 (O k).pool, .int .i64 (O k).wt, .bool (O k).spot, .int .u32 (O k).ver, .bool false, .bool false, .bool false, .bool true] 56)) = w3
              have RX : w3.heap[wr.heap.size]? = _ := (congrArg (fun W : World => W.heap[wr.heap.size]?) hW.symm).trans RX
              have RT : w3.heap[wr.heap.size + 1]? = _ := (congrArg (fun W : World => W.heap[wr.heap.size + 1]?) hW.symm).trans RT
              have B3 : Below wr.heap.size wr w3 := hW ▸ B3
              have c5 := cell_row RT (rawO (O k)).f5
              have c6 := cell_row RT (rawO (O k)).f6
              have fr := free_row RT
              have c3 := cell_row RX (O k).f3
              go_region_held3 (fun w' => w'.cell? ⟨wr.heap.size, 3, none⟩ = some (.bool (O k).warm)) (first | exact c3 | exact (cell_same (set_else (by omega))).trans c3 | exact (cell_same ((set_else (by omega)).trans (set_else (by omega)))).trans c3) (first | fail)
              have R1 : (w3.setCell ⟨wr.heap.size + 1, 5, none⟩ (.bool !(O k).warm)).heap[wr.heap.size + 1]? = some (.cells ((rawO (O k)).cells.setIfInBounds 5 (.bool !(O k).warm)) 56 (0, 0)) := by rw [setCell_row RT]; exact row_at RT
              have R2 : ((w3.setCell ⟨wr.heap.size + 1, 5, none⟩ (.bool !(O k).warm)).setCell ⟨wr.heap.size + 1, 6, none⟩ (.bool (O k).warm)).drew.heap[wr.heap.size + 1]? = some (.cells (thO (O k)).cells 56 (0, 0)) := by
                show ((w3.setCell ⟨wr.heap.size + 1, 5, none⟩ (.bool !(O k).warm)).setCell ⟨wr.heap.size + 1, 6, none⟩ (.bool (O k).warm)).heap[wr.heap.size + 1]? = _
                rw [setCell_row R1]; exact row_at R1
              have B4 := bDrew (bSet (bSet B3 (p := ⟨wr.heap.size + 1, 5, none⟩) (Nat.le_succ _) (.bool !(O k).warm)) (p := ⟨wr.heap.size + 1, 6, none⟩) (Nat.le_succ _) (.bool (O k).warm))
              clear c3 c5 c6 fr RX RT B3 R1 JA KA SA
              generalize ((w3.setCell ⟨wr.heap.size + 1, 5, none⟩ (.bool !(O k).warm)).setCell ⟨wr.heap.size + 1, 6, none⟩ (.bool (O k).warm)).drew = wS at R2 B4 ⊢
              have RT := range_row R2
              obtain ⟨xx, hxx⟩ : ∃ xx : OkTh, xx.1 = thO (O k) := ⟨⟨thO (O k), q2, q3⟩, rfl⟩
              have J6 := hJ pre wr _ none hJs (grown_none B4) (fun r e => by cases e)
              have K6 := Lib.hid (hkx.t (KX.of B4 (by omega) (by omega)))
              have B6 := B4.size
              obtain ⟨fn, tmps, assign, body, hy, hR⟩ := hY pre xx _ J6 (by have := congrArg List.length hpre; simp [insL_len] at this; omega)
              dsimp only [encs] at hy
              rw [hxx] at hy
              clear R2 B4 hJs J6
              go_upto_region 17 with fail
              refine (wpIn_wide (n := nn)).1 ?_
              gi_wp2_with ((with_reducible refine at_loadIn 56 ?_); refine load_thIn rfl _ rfl (wr.heap.size + 1) 0 rfl (thO (O k)) RT ?_)
              refine ⟨fun h => absurd h (by decide), hR.mono ?_⟩
              rintro e W3 (⟨rfl, hJ3, hk3⟩ | ⟨rfl, hJx3⟩)
              · gi_wp2
                go_wp2
                go_roundw
                case rel => exact ⟨k + 1, _, by omega, by go_num, by rw [E]; simp; omega, by rw [E]; simp [hpre, hxx], K6.out.t hk3, by have := hk3.1.size; omega, hJ3⟩
                case measure => simp [intOf]; omega
              · gi_wp2
                go_wp2
                refine bodyPost_ret (results_none rfl _ _ _) rfl ?_
                exact ⟨⟨_, rfl⟩, .inr ⟨_, thsO_part L O hpre hlt E hxx, hJx3⟩⟩
          · have hq := eq_false_of_ne_true hq
            have hno := of_decide_eq_false hq
            have E := lau_off hq
            clear hq
            by_cases q1 : (O k).kind = 1
            · have e1 : ((O k).kind != 1) = false := by simp [q1]
              by_cases q2 : (O k).wt < 1
              · have e2 := decide_eq_true q2
                go_wp2_with (first | ((with_reducible refine at_load 49 ?_); (refine load_opn rfl _ rfl _ _ rfl (O k) R ?_)) | ((with_reducible refine at_store 49 ?_); (refine store_opn rfl _ _ rfl (O k) _ _ rfl rfl rfl ?_)))
                go_roundw
                case rel => exact ⟨k + 1, pre, by omega, by go_num, by rw [E], by rw [E]; exact hpre, KA, SA, JA⟩
                case measure => simp [intOf]; omega
              · have e2 := decide_eq_false q2
                have q3 : 100 < (O k).wt := by omega
                have e3 := decide_eq_true q3
                go_wp2_with (first | ((with_reducible refine at_load 49 ?_); (refine load_opn rfl _ rfl _ _ rfl (O k) R ?_)) | ((with_reducible refine at_store 49 ?_); (refine store_opn rfl _ _ rfl (O k) _ _ rfl rfl rfl ?_)))
                go_roundw
                case rel => exact ⟨k + 1, pre, by omega, by go_num, by rw [E], by rw [E]; exact hpre, KA, SA, JA⟩
                case measure => simp [intOf]; omega
            · have e1 : ((O k).kind != 1) = true := by simp [q1]
              go_wp2_with (first | ((with_reducible refine at_load 49 ?_); (refine load_opn rfl _ rfl _ _ rfl (O k) R ?_)) | ((with_reducible refine at_store 49 ?_); (refine store_opn rfl _ _ rfl (O k) _ _ rfl rfl rfl ?_)))
              go_roundw
              case rel => exact ⟨k + 1, pre, by omega, by go_num, by rw [E], by rw [E]; exact hpre, KA, SA, JA⟩
              case measure => simp [intOf]; omega
        · have e : m = k := by omega
          subst e
          gi_wp2
          go_end0
          exact ⟨⟨_, rfl⟩, .inl ⟨pre, hpre, hJs⟩⟩
end
end Go.Proofs.Ytcgeoaegalloaaa.Thg
