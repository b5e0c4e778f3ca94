
/- Events of three fields, as values; rows of them; what comes of what is told, as lists. -/
import Derived.Test.YtoiofdoipmdajaaTold
import Derived.Test.YtoiofdoipmdajaaPush
import Derived.Test.YtoiofdoipmdajaaFlw
namespace Go.Proofs.Ytoiofdoipmdajaa.Evs
open Go.ChangeShapes Go.WideShapes Go.ChangeAt Go.RowKit
open Mem Arr Lst Rec Inst Grown Sums Fnd St0 Opens Tld Push
set_option linter.unusedVariables false
structure Ev where
  kind : Int
  tok : Int
  id : Int
def Ev.cells (x : Ev) : Array Value := #[.int .u8 x.kind, .int .u64 x.tok, .int .u64 x.id, .int .i64 0, .int .i64 0, .int .i64 0, .bool false, .int .u64 0, .slice none 0 0, .int .u8 0, .int .i64 0, .bool false, .int .i64 0, .int .i64 0, .int .i64 0, .int .i64 0, .int .i64 0, .int .i64 0, .int .u64 0, .int .u64 0, .int .u64 0, .int .u64 0, .int .u64 0, .int .u64 0, .bool false, .int .i64 0, .slice none 0 0, .slice none 0 0]
@[reducible] def Ev.val (x : Ev) : Value := .agg x.cells
theorem Ev.one (x : Ev) : x.cells.all (·.oneCell') = true := by unfold Ev.cells; simp [Value.oneCell']
theorem Ev.size (x : Ev) : x.cells.size = 28 := rfl
def noEv : Ev := ⟨0, 0, 0⟩
theorem infoEv : (Try.prog.info? 45).map (fun i => (i.zero, i.size, i.bytes)) = some (some noEv.val, 28, 272) := by kernel_rfl
theorem sizeEv : (Try.prog.info? 45).map (·.size) = some 28 := by kernel_rfl
theorem build2 (k i : Int) (W : World) : (Instr.build 45 #[(0, .int .u8 k), (2, .int .u64 i)]).run Try.prog W = .ok (Ev.val ⟨k, 0, i⟩) W := by kernel_rfl
theorem build3 (k t i : Int) (W : World) : (Instr.build 45 #[(0, .int .u8 k), (1, .int .u64 t), (2, .int .u64 i)]).run Try.prog W = .ok (Ev.val ⟨k, t, i⟩) W := by kernel_rfl
theorem buildS (y : Ev) (W : World) : (Instr.buildSlice 25 1 #[(0, y.val)]).run Try.prog W = .ok (.slice (some ⟨W.heap.size, 0, none⟩) 1 1) (W.alloc (.cells y.cells 45 (0, 0))) := by kernel_rfl
def evV (E : List Ev) (i j : Nat) : Value := ((E.getD i noEv).cells[j]?).getD undef
theorem evV_one (E : List Ev) (i j : Nat) (hj : j < 28) : (evV E i j).oneCell' = true := by
  unfold evV
  have h : j < (E.getD i noEv).cells.size := hj
  rw [Array.getElem?_eq_getElem h]
  exact (Array.all_eq_true_iff_forall_mem.1 (Ev.one _)) _ (Array.getElem_mem h)
/-- a row of events of the call's own -/
def OwnE (w : World) (base : Nat) (v : Value) (E : List Ev) : Prop := Row.Own w base 45 28 v E.length (evV E)
theorem evV_push (E : List Ev) (y : Ev) (i j : Nat) (hi : i < E.length + 1) : (if i < E.length then evV E i j else (y.cells[j]?).getD undef) = evV (E ++ [y]) i j := by
  unfold evV
  by_cases h : i < E.length
  · rw [if_pos h, List.getD_eq_getElem?_getD, List.getD_eq_getElem?_getD, List.getElem?_append_left h]
  · rw [if_neg h, List.getD_eq_getElem?_getD, List.getElem?_append_right (by omega), show i - E.length = 0 by omega]; rfl
theorem ownE_push {w : World} {base : Nat} {v : Value} {E : List Ev} {y : Ev} (h : Row.Own w base 45 28 v (E.length + 1) (fun i j => if i < E.length then evV E i j else (y.cells[j]?).getD undef)) : OwnE w base v (E ++ [y]) := by
  unfold OwnE
  rw [List.length_append, List.length_singleton]
  exact h.congr (by omega) fun i j hi _ => evV_push E y i j hi
/-- an event more: what the append comes to -/
theorem run_ev {w : World} {base g c1 : Nat} {v : Value} {E : List Ev} {y : Ev} (h : OwnE w base v E) (hy : w.heap[g]? = some (.cells y.cells 45 (0, 0))) (hE : E.length ≤ 1000000) (hb : base ≤ w.heap.size) :
    ∃ v' w', (Builtin.append_ #[25, 25] 25 #[v, .slice (some ⟨g, 0, none⟩) 1 c1]).run Try.prog w = .ok v' w' ∧ OwnE w' base v' (E ++ [y]) ∧ w.grownBy w' v.ownBlock ∧ SameOr w v v' := by
  obtain ⟨i, hi, hz0, hz1, hz2⟩ := info_parts infoEv
  obtain ⟨v', w', h1, h2, h3, h4⟩ := run_push (P := Try.prog) w base 25 25 45 i noEv.val 28 272 (by omega) Try.underlying25 hi hz0 hz1 hz2 rfl v E.length (evV E) h g c1 y.cells y.size y.one hy (by unfold maxLen; omega) (by omega) hb
  exact ⟨v', w', h1, ownE_push h2, h3, h4⟩
/-- behind an event that was pushed: the box, the row, all else -/
structure Pushed (g base : Nat) (v : Value) (E : List Ev) (y : Ev) (W W' : World) (v' : Value) : Prop where
  box : W'.heap[g]? = some (.cells #[v'] 25 (0, 0))
  own : OwnE W' base v' (E ++ [y])
  os : W'.os = W.os
  tape : W'.tape = W.tape
  out : W'.output = W.output
  size : W.heap.size ≤ W'.heap.size
  else_ : ∀ k, k < W.heap.size → k ≠ g → v.ownBlock ≠ some k → W'.heap[k]? = W.heap[k]?
  blk : v'.ownBlock = v.ownBlock ∨ ∃ k, v'.ownBlock = some k ∧ W.heap.size ≤ k
def PI (s ap g base : Nat) (v : Value) (E : List Ev) (y : Ev) (W0 : World) (L : Nat → Bool) (W : World) : Prop :=
  (L s = true → ∃ v', Pushed g base v E y W0 W v') ∧ (L s = false → W0.grownBy W v.ownBlock ∧ (L ap = false → OwnE W base v E))
def GS (y : Ev) (W0 : World) (x : Value) (W : World) : Prop := ∃ q, x = .slice (some ⟨q, 0, none⟩) 1 1 ∧ W0.heap.size ≤ q ∧ W.heap[q]? = some (.cells y.cells 45 (0, 0))
def GA (base : Nat) (v : Value) (E : List Ev) (y : Ev) (W0 : World) (x : Value) (W : World) : Prop := OwnE W base x (E ++ [y]) ∧ (x.ownBlock = v.ownBlock ∨ ∃ k, x.ownBlock = some k ∧ W0.heap.size ≤ k)
section
variable {s ap g base i : Nat} {v x : Value} {E : List Ev} {y : Ev} {W0 W : World} {L : Nat → Bool}
theorem PI.start (h : OwnE W0 base v E) : PI s ap g base v E y W0 (fun _ => false) { W0 with drawn := W0.drawn + 1 } :=
  ⟨fun e => (by cases e), fun _ => ⟨grown_of (bDrew (Below.refl _ _)), fun _ => h⟩⟩
theorem PI.same (h : PI s ap g base v E y W0 L W) (hL : L i = false) (hs : L s = false) (h1 : s ≠ i) (h2 : ap ≠ i) : PI s ap g base v E y W0 (fun j => if j = i then true else L j) W := by
  unfold PI
  simp only [if_neg h1, if_neg h2]
  exact h
theorem PI.alloc (h : PI s ap g base v E y W0 L W) (hs : L s = false) (h1 : s ≠ i) (h2 : ap ≠ i) (o : Obj) : PI s ap g base v E y W0 (fun j => if j = i then true else L j) (W.alloc o) := by
  unfold PI
  simp only [if_neg h1, if_neg h2]
  refine ⟨fun e => (by rw [hs] at e; cases e), fun _ => ?_⟩
  obtain ⟨a, b⟩ := h.2 hs
  exact ⟨grown_t a (grown_of (bAlloc (Below.refl _ _) _)), fun e => Row.Own.alloc (b e) o⟩
theorem GS.alloc (h : GS y W0 x W) (o : Obj) : GS y W0 x (W.alloc o) := by
  obtain ⟨q, e, hq, hr⟩ := h
  exact ⟨q, e, hq, heap_under hr⟩
theorem GA.alloc (h : GA base v E y W0 x W) (o : Obj) : GA base v E y W0 x (W.alloc o) := ⟨Row.Own.alloc h.1 o, h.2⟩
theorem GS.grown (h : GS y W0 x W) {W' : World} {r : Option Nat} (hg : W.grownBy W' r) (hr : ∀ k, r = some k → k < W0.heap.size) : GS y W0 x W' := by
  obtain ⟨q, e, hq, hc⟩ := h
  exact ⟨q, e, hq, grown_box hg hc (fun e2 => by have := hr q e2; omega)⟩
/-- the append -/
theorem PI.push (h : PI s ap g base v E y W0 L W) (h0 : OwnE W0 base v E) (hs : L s = false) (hap : L ap = false) (h1 : s ≠ ap) {q : Nat} (hq : W.heap[q]? = some (.cells y.cells 45 (0, 0))) (hE : E.length ≤ 1000000) (hb : base ≤ W0.heap.size) :
    ∃ v' W', (Builtin.append_ #[25, 25] 25 #[v, .slice (some ⟨q, 0, none⟩) 1 1]).run Try.prog W = .ok v' W' ∧ PI s ap g base v E y W0 (fun j => if j = ap then true else L j) W' ∧ W.grownBy W' v.ownBlock ∧ (∀ k, v.ownBlock = some k → k < W0.heap.size) ∧ GA base v E y W0 v' W' := by
  obtain ⟨a, b⟩ := h.2 hs
  obtain ⟨v', W', r1, r2, r3, r4⟩ := run_ev (c1 := 1) (b hap) hq hE (Nat.le_trans hb a.size)
  refine ⟨v', W', r1, ?_, r3, fun k hk => (own_lt h0 k hk).2, r2, ?_⟩
  · unfold PI
    simp only [if_neg h1]
    refine ⟨fun e => (by rw [hs] at e; cases e), fun _ => ⟨grown_t a r3, fun e => (by simp at e)⟩⟩
  · rcases r4 with e | e
    · exact .inl e
    · exact .inr ⟨_, e, a.size⟩
/-- the store -/
theorem PI.store (h : PI s ap g base v E y W0 L W) (hs : L s = false) (hx : GA base v E y W0 x W) (hg : W0.heap[g]? = some (.cells #[v] 25 (0, 0))) (hgb : g < base) (hv : OwnE W0 base v E) :
    PI s ap g base v E y W0 (fun j => if j = s then true else L j) (W.setCell ⟨g, 0, none⟩ x) ∧ W.heap[g]? = some (.cells #[v] 25 (0, 0)) := by
  obtain ⟨a, b⟩ := h.2 hs
  have hb : W.heap[g]? = some (.cells #[v] 25 (0, 0)) := grown_box a hg (fun e => by have := (own_lt hv g e).1; omega)
  refine ⟨⟨fun _ => ⟨x, ?_⟩, fun e => (by simp at e)⟩, hb⟩
  rw [setCell_row hb]
  exact { box := row_at hb
          own := own_row hx.1 hgb _
          os := a.os
          tape := a.tape
          out := a.output
          size := by have := a.size; unfold World.setRow; simpa using this
          else_ := fun k hk hne he => (row_else (Ne.symm hne)).trans (a.block k hk (fun e => he e.symm))
          blk := hx.2 }
theorem GS.store (h : GS y W0 x W) {g : Nat} (hg : g < W0.heap.size) (u : Value) {C : Array Value} {t : TypeId} {fr : Nat × Nat} (hb : W.heap[g]? = some (.cells C t fr)) : GS y W0 x (W.setCell ⟨g, 0, none⟩ u) := by
  obtain ⟨q, e, hq, hr⟩ := h
  rw [setCell_row hb]
  exact ⟨q, e, hq, (row_else (by omega)).trans hr⟩
theorem GA.store (h : GA base v E y W0 x W) {g : Nat} (hg : g < base) (u : Value) {C : Array Value} {t : TypeId} {fr : Nat × Nat} (hb : W.heap[g]? = some (.cells C t fr)) : GA base v E y W0 x (W.setCell ⟨g, 0, none⟩ u) := by
  rw [setCell_row hb]
  exact ⟨own_row h.1 hg _, h.2⟩
end
end Go.Proofs.Ytoiofdoipmdajaa.Evs
