
/- The table of what becomes of an instance, as a list; the map that the program makes of it, entry by entry. -/
import Derived.Test.YtmbafedpbmldmaaInst
import Derived.Test.YtmbafedpbmldmaaCfg
import Derived.ChangeKeysEq
import Derived.DeepKeys3
import Derived.MapKept
import Derived.Maps.OwnOps
namespace Go.Proofs.Ytmbafedpbmldmaa.Does
open Go.RowKit Go.ChangeShapes Go.WideShapes Go.ChangeAt
open Mem Arr Lst Rec Inst
attribute [local go_sem] Oper.semAt_some
/-- what happens, to which state, what becomes of it: state, wait, ask -/
structure Rw where
  what : Int
  st : Int
  to : Int
  wait : Int
  ask : Int
  deriving DecidableEq
def tab : List Rw := [⟨1, 1, 2, 2, 0⟩, ⟨1, 9, 2, 2, 0⟩, ⟨1, 7, 7, 5, 3⟩, ⟨7, 7, 8, 0, 0⟩, ⟨2, 3, 4, 4, 0⟩, ⟨2, 4, 4, 1, 0⟩, ⟨2, 5, 5, 1, 0⟩, ⟨2, 1, 6, 0, 2⟩, ⟨2, 2, 6, 0, 2⟩, ⟨2, 7, 6, 0, 2⟩, ⟨2, 8, 6, 0, 2⟩, ⟨2, 9, 6, 0, 2⟩, ⟨3, 3, 3, 1, 0⟩, ⟨4, 2, 2, 2, 0⟩, ⟨4, 5, 5, 3, 0⟩, ⟨5, 2, 3, 0, 0⟩, ⟨5, 5, 6, 0, 2⟩, ⟨6, 5, 6, 0, 2⟩, ⟨6, 2, 6, 0, 2⟩, ⟨9, 3, 4, 4, 0⟩, ⟨10, 8, 6, 0, 2⟩, ⟨10, 7, 6, 0, 2⟩, ⟨10, 1, 6, 0, 2⟩, ⟨10, 2, 6, 0, 2⟩, ⟨10, 9, 6, 0, 2⟩, ⟨11, 8, 9, 5, 4⟩, ⟨8, 4, 5, 3, 0⟩, ⟨8, 5, 6, 0, 2⟩, ⟨8, 2, 6, 0, 2⟩, ⟨8, 1, 6, 0, 2⟩, ⟨8, 7, 6, 0, 2⟩, ⟨8, 9, 6, 0, 2⟩]
@[reducible] def kv (a b : Int) : Value := .agg #[.int .u8 a, .int .u8 b]
@[reducible] def rv (a b c : Int) : Value := .agg #[.int .u8 a, .int .u8 b, .int .u8 c]
theorem run_eq (a b c d : Int) (w : World) : (Op.equal 55 (kv a b) (kv c d)).run Try.prog w = .ok (decide (a = c ∧ b = d)) w := by
  obtain ⟨i, hi⟩ : ∃ i, Try.prog.info? 5 = some i := ⟨_, rfl⟩
  have e : Try.prog.cellsOf 5 = 1 := by kernel_rfl
  have hp : Try.prog.plainKey 5 = true := by kernel_rfl
  have h := run_equalIn_array (P := Try.prog) (w := w) 9999 #[.int .u8 a, .int .u8 b] #[.int .u8 c, .int .u8 d] Try.underlying55 hi
  show (Op.equalIn (9999 + 1) 55 (kv a b) (kv c d)).run Try.prog w = _
  rw [h, e]
  have p0 := fun (x y : Int) => run_part_plain (P := Try.prog) w hp (xs := #[.int .u8 x, .int .u8 y]) (off := 0) (v := .int .u8 x) rfl
  have p1 := fun (x y : Int) => run_part_plain (P := Try.prog) w hp (xs := #[.int .u8 x, .int .u8 y]) (off := 1) (v := .int .u8 y) rfl
  have q : ∀ x y : Int, (Op.equalIn 9999 5 (.int .u8 x) (.int .u8 y)).run Try.prog w = .ok (x == y) w := fun (x y : Int) => run_equalIn_int (P := Try.prog) w 9998 5 .u8 .u8 x y Try.underlying5
  have r2 : List.range 2 = [0, 1] := rfl
  rw [r2]
  simp only [Op.eqItems, Sem.run_bind, Nat.zero_mul, Nat.one_mul, p0, Result.andThen_ok]
  rw [q]
  by_cases h1 : a = c
  · subst h1
    simp only [Result.andThen_ok, beq_self_eq_true, Bool.not_true, Bool.false_eq_true, if_false, Sem.run_bind, p1]
    rw [q]
    by_cases h2 : b = d
    · subst h2; simp
    · simp [h2]
  · simp [h1]
theorem run_check (e : Bool) (a b : Int) (w : World) : (Instr.checkKey e 10000 55 (kv a b)).run Try.prog w = .ok () w := by
  obtain ⟨i, hi⟩ : ∃ i, Try.prog.info? 5 = some i := ⟨_, rfl⟩
  have ec : Try.prog.cellsOf 5 = 1 := by kernel_rfl
  have hp : Try.prog.plainKey 5 = true := by kernel_rfl
  have p0 := run_part_plain (P := Try.prog) w hp (xs := #[.int .u8 a, .int .u8 b]) (off := 0) (v := .int .u8 a) rfl
  have p1 := run_part_plain (P := Try.prog) w hp (xs := #[.int .u8 a, .int .u8 b]) (off := 1) (v := .int .u8 b) rfl
  have q : ∀ x : Int, (Instr.checkKey e 9999 5 (.int .u8 x)).run Try.prog w = .ok () w := fun x => MapKept.run_checkKey Try.underlying5 (by simp [MapKept.IsKey]) e 9998
  show (Instr.checkKey e (9999 + 1) 55 (kv a b)).run Try.prog w = _
  rw [Instr.checkKey]
  simp only [Sem.run_bind, run_underlying Try.underlying55, Result.andThen_ok]
  simp only [Std.Legacy.Range.forIn_eq_forIn_range', Std.Legacy.Range.size, Nat.sub_zero, Nat.add_one_sub_one, Nat.div_one]
  have r2 : List.range' 0 2 1 = [0, 1] := rfl
  rw [r2]
  have hs := run_sizeOf (P := Try.prog) w hi
  rw [ec] at hs
  simp [hs, p0, p1, q]
def tabF (k : Nat) : Rw := (tab[k]?).getD ⟨0, 0, 0, 0, 0⟩
/-- the entry of a row -/
@[reducible] def kvF (k : Nat) : Value := kv (tabF k).what (tabF k).st
@[reducible] def rvF (k : Nat) : Value := rv (tabF k).to (tabF k).wait (tabF k).ask
/-- the first of some rows that tells of this -/
def findL (a c : Int) : Nat → List Nat → Option (Nat × Nat)
  | _, [] => none
  | i, k :: l => if a = (tabF k).what ∧ c = (tabF k).st then some (i, k) else findL a c (i + 1) l
theorem findL_in {a c : Int} : ∀ {l : List Nat} {i : Nat} {p : Nat × Nat}, findL a c i l = some p → p.2 ∈ l ∧ a = (tabF p.2).what ∧ c = (tabF p.2).st := by
  intro l
  induction l with
  | nil => intro i p h; cases h
  | cons k l ih =>
    intro i p h
    unfold findL at h
    split at h
    · rename_i hk
      cases h
      exact ⟨List.mem_cons_self, hk⟩
    · obtain ⟨h1, h2⟩ := ih h
      exact ⟨List.mem_cons_of_mem _ h1, h2⟩
theorem findL_no {a c : Int} : ∀ {l : List Nat} {i : Nat}, findL a c i l = none → ∀ k ∈ l, ¬ (a = (tabF k).what ∧ c = (tabF k).st) := by
  intro l
  induction l with
  | nil => intro i _ k hk; cases hk
  | cons j l ih =>
    intro i h k hk
    unfold findL at h
    split at h
    · cases h
    · rename_i hj
      rcases List.mem_cons.1 hk with rfl | hk
      · exact hj
      · exact ih h k hk
theorem run_find (a c : Int) (w : World) : ∀ (es : List MapEntry) (l : List Nat) (i : Nat), es.map (fun e => (e.key, e.val)) = l.map (fun k => (kvF k, rvF k)) →
    (Instr.findAsking 55 (kv a c) es i).run Try.prog w = .ok ((findL a c i l).map fun p => (p.1, rvF p.2)) w := by
  intro es
  induction es with
  | nil =>
    intro l i h
    cases l with
    | nil => simp [findL, Instr.findAsking]
    | cons k l => simp at h
  | cons e es ih =>
    intro l i h
    cases l with
    | nil => simp at h
    | cons k l =>
      simp only [List.map_cons, List.cons.injEq, Prod.mk.injEq] at h
      obtain ⟨⟨h1, h2⟩, h3⟩ := h
      by_cases hk : a = (tabF k).what ∧ c = (tabF k).st
      · simp [findL, Instr.findAsking, h1, h2, run_eq, hk]
      · simp [findL, Instr.findAsking, h1, run_eq, hk, ih l (i + 1) h3]
theorem keys_apart : ∀ j k : Fin 32, (tabF j.1).what = (tabF k.1).what → (tabF j.1).st = (tabF k.1).st → j = k := by decide +kernel
/-- a map that holds some rows of the table, in whatever order they came -/
structure MapL (w : World) (b : Nat) (l : List Nat) (W : World) : Prop where
  r : ∃ es clock, W.heap[b]? = some (.map es clock) ∧ es.toList.map (fun e => (e.key, e.val)) = l.map (fun k => (kvF k, rvF k))
  below : Below w.heap.size w W
  le : w.heap.size ≤ b
  lt : ∀ k ∈ l, k < 32
theorem MapL.call {w W W' : World} {b : Nat} {l : List Nat} (h : MapL w b l W) (u : Below W.heap.size W W') : MapL w b l W' := by
  obtain ⟨es, clock, hr, he⟩ := h.r
  exact ⟨⟨es, clock, (u.block _ (Array.getElem?_eq_some_iff.1 hr).1).trans hr, he⟩, bTrans h.below u, h.le, h.lt⟩
theorem MapL.ins {w W : World} {b k : Nat} {l : List Nat} (h : MapL w b l W) (hk : k < 32) (hn : k ∉ l) :
    ∃ W', (Instr.mapUpdate 53 (.map (some b)) (kvF k) (rvF k)).run Try.prog W = .ok () W' ∧ MapL w b (l ++ [k]) W' := by
  obtain ⟨es, clock, hr, he⟩ := h.r
  have h2 : findL (tabF k).what (tabF k).st 0 l = none := by
    cases hq : findL (tabF k).what (tabF k).st 0 l with
    | none => rfl
    | some p =>
      obtain ⟨h1, h2, h3⟩ := findL_in hq
      have := keys_apart ⟨k, hk⟩ ⟨p.2, h.lt _ h1⟩ h2 h3
      have e : k = p.2 := congrArg Fin.val this
      exact absurd (e ▸ h1) hn
  have hf : (Instr.findKey 55 (kvF k) es.toList).run Try.prog W = .ok none W := by
    rw [run_findKey_eq (P := Try.prog) W (by kernel_rfl), run_find _ _ _ _ _ _ he, h2]; rfl
  have hlt := (Array.getElem?_eq_some_iff.1 hr).1
  refine ⟨{ W with heap := W.heap.setIfInBounds b (.map (es.push ⟨kvF k, rvF k, clock⟩) (clock + 1)) }, ?_, ⟨⟨es.push ⟨kvF k, rvF k, clock⟩, clock + 1, by simp [hlt], by simp [he]⟩, ⟨h.below.os, h.below.tape, h.below.output, ?_, fun j hj => ?_⟩, h.le, ?_⟩⟩
  · simp [Instr.mapUpdate, run_underlying Try.underlying53, MapKept.run_getObj_map hr, run_check, hf, MapKept.run_setObj_map _ hr, Result.andThen]
  · have := h.below.size; simpa using this
  · have := h.le
    show (W.heap.setIfInBounds b _)[j]? = _
    rw [Array.getElem?_setIfInBounds_ne (by omega)]
    exact h.below.block j hj
  · intro j hj
    rcases List.mem_append.1 hj with hj | hj
    · exact h.lt j hj
    · rw [List.mem_singleton.1 hj]; exact hk
theorem zeroRow (w : World) : (zeroValue 51).run Try.prog w = .ok (rv 0 0 0) w := by rfl
/-- the row that tells of this, if any -/
def rowOf (a c : Int) : Option Rw := tab.find? fun r => decide (a = r.what ∧ c = r.st)
def rowV (a c : Int) : Rw := (rowOf a c).getD ⟨0, 0, 0, 0, 0⟩
theorem row_of : ∀ k : Fin 32, rowOf (tabF k.1).what (tabF k.1).st = some (tabF k.1) := by decide +kernel
theorem look_of {a c : Int} {l : List Nat} (hl : ∀ k, k ∈ l ↔ k < 32) : (findL a c 0 l).map (fun p => tabF p.2) = rowOf a c := by
  cases hq : findL a c 0 l with
  | some p =>
    obtain ⟨h1, h2, h3⟩ := findL_in hq
    rw [h2, h3]
    exact (row_of ⟨p.2, (hl _).1 h1⟩).symm
  | none =>
    have hn := findL_no hq
    symm
    show rowOf a c = none
    unfold rowOf
    rw [List.find?_eq_none]
    intro r hr
    obtain ⟨k, hk, e⟩ := List.mem_iff_getElem.1 hr
    have := hn k ((hl k).2 hk)
    have et : tabF k = r := by unfold tabF; rw [List.getElem?_eq_getElem hk, e]; rfl
    rw [et] at this
    simpa using this
theorem run_look {w W : World} {b : Nat} {l : List Nat} (h : MapL w b l W) (hl : ∀ k, k ∈ l ↔ k < 32) (a c : Int) :
    (Instr.lookup 53 (.map (some b)) (kv a c) true).run Try.prog W = .ok (.tuple #[rv (rowV a c).to (rowV a c).wait (rowV a c).ask, .bool (rowOf a c).isSome]) W := by
  obtain ⟨es, clock, hr, he⟩ := h.r
  have hf : (Instr.findKey 55 (kv a c) es.toList).run Try.prog W = .ok ((findL a c 0 l).map fun p => (p.1, rvF p.2)) W := by
    rw [run_findKey_eq (P := Try.prog) W (by kernel_rfl), run_find _ _ _ _ _ _ he]
  have ho := look_of (a := a) (c := c) hl
  unfold rowV
  rw [← ho]
  cases hq : findL a c 0 l with
  | none =>
    rw [hq] at hf
    simp [Instr.lookup, run_underlying Try.underlying53, MapKept.run_getObj_map hr, run_check, hf, Result.andThen]
  | some p =>
    rw [hq] at hf
    simp [Instr.lookup, run_underlying Try.underlying53, MapKept.run_getObj_map hr, run_check, hf, Result.andThen]
end Go.Proofs.Ytmbafedpbmldmaa.Does
