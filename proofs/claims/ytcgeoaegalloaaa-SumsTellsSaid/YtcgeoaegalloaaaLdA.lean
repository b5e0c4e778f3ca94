
/- The load of pools, as a function; the program's (sums.Load). -/
import Derived.Test.YtcgeoaegalloaaaSumP
import Derived.Laws.MakeOwn
namespace Go.Proofs.Ytcgeoaegalloaaa.Thg
open Go.RowKit Go.Shelf
open Go.ChangeShapes Go.WideShapes Go.ChangeAt
open Mem Arr Lst Rec Inst Grown Sums Opens St0
attribute [local go_sem] Oper.semAt_some
def loadB (v p : Int) (t : Th) : Bool := decide (t.ver = v ∧ 0 ≤ t.pool ∧ t.pool < p) && (t.serves || t.comes || t.opn)
def loadT (v p : Int) (f : Nat → Int) (t : Th) : Nat → Int := if loadB v p t = true then fun i => if i = t.pool.toNat then f i + t.wt else f i else f
def loadL (v p : Int) (l : List Th) : Nat → Int := l.foldl (loadT v p) (fun _ => 0)
theorem load_snoc (v p : Int) (l : List Th) (t : Th) : loadL v p (l ++ [t]) = loadT v p (loadL v p l) t := by unfold loadL; rw [List.foldl_append]; rfl
theorem load_fold (v p : Int) : ∀ (l : List Th) (f : Nat → Int) (b : Int), (∀ i, 0 ≤ f i ∧ f i ≤ b) → (∀ t ∈ l, 1 ≤ t.wt ∧ t.wt ≤ 100) → ∀ i, 0 ≤ l.foldl (loadT v p) f i ∧ l.foldl (loadT v p) f i ≤ b + 100 * (l.length : Int) := by
  intro l
  induction l with
  | nil => intro f b h _ i; have := h i; simp; omega
  | cons t l ih =>
    intro f b h hl i
    have ht := hl t List.mem_cons_self
    have := ih (loadT v p f t) (b + 100) (fun j => by
      have := h j
      unfold loadT
      split
      · show 0 ≤ (if j = t.pool.toNat then f j + t.wt else f j) ∧ (if j = t.pool.toNat then f j + t.wt else f j) ≤ b + 100
        split <;> omega
      · omega) (fun x hx => hl x (List.mem_cons_of_mem _ hx)) i
    rw [List.foldl_cons, List.length_cons]
    push_cast at this ⊢
    omega
theorem load_in (v p : Int) (l : List Th) (hl : ∀ t ∈ l, 1 ≤ t.wt ∧ t.wt ≤ 100) (i : Nat) : 0 ≤ loadL v p l i ∧ loadL v p l i ≤ 100 * (l.length : Int) := by
  have := load_fold v p l (fun _ => 0) 0 (fun _ => by omega) hl i
  unfold loadL
  omega
def rowA (f : Nat → Int) (n : Nat) : Array Value := (vals n (fun i => .int .i64 (f i))).toArray
theorem rowA_size (f : Nat → Int) (n : Nat) : (rowA f n).size = n := by unfold rowA; rw [List.size_toArray, vals_length]
theorem rowA_at {f : Nat → Int} {n i : Nat} (h : i < n) : (rowA f n)[i]? = some (.int .i64 (f i)) := by unfold rowA; rw [List.getElem?_toArray]; exact vals_at h
theorem rowA_set (f : Nat → Int) (n k : Nat) (z : Int) : (rowA f n).setIfInBounds k (.int .i64 z) = rowA (fun i => if i = k then z else f i) n := by
  unfold rowA
  rw [List.setIfInBounds_toArray, vals_set]
  congr 1
  refine vals_congr fun i _ => ?_
  show _ = Value.int .i64 (if i = k then z else f i)
  by_cases h : i = k
  · rw [if_pos h, if_pos h]
  · rw [if_neg h, if_neg h]
theorem made_vals (z : Value) (n : Nat) : madeCells #[z] n = (vals n (fun _ => z)).toArray := by
  apply Array.ext_getElem?
  intro i
  rcases Nat.lt_or_ge i n with h | h
  · simp [madeCells, vals, h, Nat.mod_one]
  · simp [madeCells, vals, h]
theorem infoI64 : (Try.prog.info? 2).map (fun i => (i.zero, i.size, i.bytes)) = some (some (.int .i64 0), 1, 8) := by kernel_rfl
theorem mkL (n : Nat) (hn : n ≤ 8796093022208) (w : World) :
    (Instr.makeSlice 27 (.int .i64 n) (.int .i64 n)).run Try.prog w = .ok (.slice (some ⟨w.heap.size, 0, none⟩) n n) (w.alloc (.cells (rowA (fun _ => 0) n) 2)) := by
  obtain ⟨i, hi, h0, h1, h2⟩ := info_parts infoI64
  have hm : i.bytes * n ≤ 16 * n := Nat.mul_le_mul_right n (by omega)
  have := run_make (P := Try.prog) w 27 2 i (.int .i64 0) Try.underlying27 hi h0 .i64 .i64 n n (by omega) (Int.le_refl _) (by
    have : ((i.bytes * n : Nat) : Int) ≤ 281474976710656 := by omega
    rwa [Int.natCast_mul] at this) (by omega)
  rw [show (Value.int .i64 0).cells = #[.int .i64 0] from rfl, h1, Nat.mul_one, made_vals] at this
  simpa [rowA] using this
def loadOk (L : Nat → Ins) (n : Nat) (p : Int) : Bool := mayB L n && decide (1 ≤ p ∧ p ≤ 64)
end Go.Proofs.Ytcgeoaegalloaaa.Thg
