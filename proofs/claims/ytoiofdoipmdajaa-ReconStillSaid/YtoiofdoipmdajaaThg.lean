
/- Things as the sums see them, as values; lists of them. No code of the program. -/
import Derived.Test.YtoiofdoipmdajaaOpens
import Derived.Test.YtoiofdoipmdajaaStX0
namespace Go.Proofs.Ytoiofdoipmdajaa.Thg
open Go.ChangeShapes Go.WideShapes Go.ChangeAt Go.RowKit
open Mem Arr Lst Rec Inst Grown Sums Opens St0
structure Th where
  pool : Int
  wt : Int
  spot : Bool
  ver : Int
  serves : Bool
  comes : Bool
  stands : Bool
  opn : Bool
def Th.cells (x : Th) : Array Value := #[.int .i64 x.pool, .int .i64 x.wt, .bool x.spot, .int .u32 x.ver, .bool x.serves, .bool x.comes, .bool x.stands, .bool x.opn]
@[reducible] def Th.val (x : Th) : Value := .agg x.cells
theorem Th.one (x : Th) : x.cells.all (·.oneCell') = true := by unfold Th.cells; simp [Value.oneCell']
theorem Th.f0 (x : Th) : x.cells[0]? = some (.int .i64 x.pool) := rfl
theorem Th.f1 (x : Th) : x.cells[1]? = some (.int .i64 x.wt) := rfl
theorem Th.f2 (x : Th) : x.cells[2]? = some (.bool x.spot) := rfl
theorem Th.f3 (x : Th) : x.cells[3]? = some (.int .u32 x.ver) := rfl
theorem Th.f4 (x : Th) : x.cells[4]? = some (.bool x.serves) := rfl
theorem Th.f5 (x : Th) : x.cells[5]? = some (.bool x.comes) := rfl
theorem Th.f6 (x : Th) : x.cells[6]? = some (.bool x.stands) := rfl
theorem Th.f7 (x : Th) : x.cells[7]? = some (.bool x.opn) := rfl
def noTh : Th := ⟨0, 0, false, 0, false, false, false, false⟩
def thI (x : Ins) : Th := ⟨x.pool, x.wt, x.spot, x.ver, servesB x, comesB x, decide (x.st = 7 ∨ x.st = 8), false⟩
def thO (x : Opn) : Th := ⟨x.pool, x.wt, x.spot, x.ver, false, !x.warm, x.warm, true⟩
/-- an open launch that counts -/
def lauB (x : Opn) : Bool := decide (x.kind = 1 ∧ 1 ≤ x.wt ∧ x.wt ≤ 100)
/-- the first of them, at most 4096 -/
def lau (O : Nat → Opn) : Nat → List Opn
  | 0 => []
  | k + 1 => if lauB (O k) = true ∧ (lau O k).length < 4096 then lau O k ++ [O k] else lau O k
theorem lau_len (O : Nat → Opn) : ∀ k, (lau O k).length ≤ 4096 ∧ (lau O k).length ≤ k := by
  intro k
  induction k with
  | zero => exact ⟨Nat.zero_le _, Nat.le_refl _⟩
  | succ k ih =>
    unfold lau
    split
    · rename_i h; rw [List.length_append]; simp; omega
    · omega
theorem lau_on {O : Nat → Opn} {k : Nat} (h : lauB (O k) = true) (hl : (lau O k).length < 4096) : lau O (k + 1) = lau O k ++ [O k] := by
  conv => lhs; unfold lau
  rw [if_pos ⟨h, hl⟩]
theorem lau_off {O : Nat → Opn} {k : Nat} (h : lauB (O k) = false) : lau O (k + 1) = lau O k := by
  conv => lhs; unfold lau
  rw [h]; simp
theorem lau_full {O : Nat → Opn} {k : Nat} (h : (lau O k).length = 4096) : ∀ m, k ≤ m → lau O m = lau O k := by
  intro m
  induction m with
  | zero => intro e; obtain rfl : k = 0 := by omega
            rfl
  | succ m ih =>
    intro e
    by_cases hk : k ≤ m
    · have := ih hk
      conv => lhs; unfold lau
      rw [this, if_neg (by omega)]
    · obtain rfl : k = m + 1 := by omega
      rfl
theorem lau_ok {O : Nat → Opn} : ∀ k x, x ∈ lau O k → lauB x = true := by
  intro k
  induction k with
  | zero => intro x h; cases h
  | succ k ih =>
    intro x h
    unfold lau at h
    split at h
    · rename_i hc
      rcases List.mem_append.1 h with h | h
      · exact ih x h
      · simp at h; subst h; exact hc.1
    · exact ih x h
/-- the things of instances and open launches, in their order -/
def insL (L : Nat → Ins) (n : Nat) : List Th := (List.range n).map fun i => thI (L i)
def thsL (L : Nat → Ins) (n : Nat) (O : Nat → Opn) (m : Nat) : List Th := insL L n ++ (lau O m).map thO
theorem insL_succ (L : Nat → Ins) (k : Nat) : insL L (k + 1) = insL L k ++ [thI (L k)] := by unfold insL; simp [List.range_succ]
theorem insL_len (L : Nat → Ins) (k : Nat) : (insL L k).length = k := by unfold insL; simp
/-- a thing of a weight that may be -/
abbrev OkTh := { t : Th // 1 ≤ t.wt ∧ t.wt ≤ 100 }
abbrev encs (x : OkTh) : Array Value := #[x.1.val]
/-- what a round keeps: all below n, and two boxes from e on -/
def KX (n e : Nat) (W W' : World) : Prop := Below n W W' ∧ ∀ k, e ≤ k → k < e + 2 → W'.heap[k]? = W.heap[k]?
theorem KX.t {n e : Nat} {A B C : World} (h : KX n e A B) (k : KX n e B C) : KX n e A C := ⟨h.1.trans k.1, fun j h1 h2 => (k.2 j h1 h2).trans (h.2 j h1 h2)⟩
theorem KX.b {n e : Nat} {w : World} (hn : n ≤ w.heap.size) (he : e + 2 ≤ w.heap.size) (W : World) (l : Nat) (o o' : Obj) (hl : w.heap.size ≤ l) (h : W.heap[l]? = some o) (_ : o.isCells = false) (_ : o.isWalk = false) : KX n e W (W.putObj l o') :=
  ⟨belowK_b hn W l o o' hl h (by assumption) (by assumption), fun k _ h2 => World.putObj_heap_other (by omega)⟩
theorem KX.of {n e : Nat} {A B : World} (h : Below A.heap.size A B) (hn : n ≤ A.heap.size) (he : e + 2 ≤ A.heap.size) : KX n e A B :=
  ⟨h.mono hn, fun k _ h2 => h.block k (by omega)⟩
theorem grown_none {A B : World} (h : Below A.heap.size A B) : A.grownBy B none := ⟨h.os, h.tape, h.output, h.size, fun k hk _ => h.block k hk⟩
end Go.Proofs.Ytoiofdoipmdajaa.Thg
