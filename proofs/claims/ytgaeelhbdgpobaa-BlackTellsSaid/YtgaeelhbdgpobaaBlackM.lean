
/- Layer 14: rows that are spoiled; the pools of a configuration that came in. -/
import Derived.Test.YtgaeelhbdgpobaaBlackL
import Derived.Test.YtgaeelhbdgpobaaCfgA
import Derived.Deep.MidRow
namespace Go.Proofs.Ytgaeelhbdgpobaa.Black
open Go.ChangeShapes Go.WideShapes Go.ChangeAt Go.RowKit Go.Deep
open Mem Arr Lst Rec

/-- a row of n records of three cells may be written -/
def Th (w : World) (A : Option Addr) (n : Nat) : Prop := ∀ g, A = some ⟨g, 0, none⟩ → w.there g 0 (n * 3)
theorem th_of {w : World} {base : Nat} {E : TypeId} {A : Option Addr} {cap n : Nat} {V : Nat → Nat → Value} (h : Row.Own w base E 3 (.slice A n cap) n V) : Th w A n := by
  rintro g rfl
  intro j hj
  have e : j = j / 3 * 3 + j % 3 := by omega
  refine ⟨?_, by rw [Nat.zero_add]; exact h.free j⟩
  rw [Nat.zero_add, e, h.cell (by omega) (by omega)]; rfl
theorem th_later {w w' : World} {A : Option Addr} {n : Nat} (h : Th w A n) (hlt : ∀ g, A = some ⟨g, 0, none⟩ → g < w.heap.size) (hb : Below w.heap.size w w') : Th w' A n := by
  intro g e j hj
  obtain ⟨h1, h2⟩ := h g e j hj
  obtain ⟨c1, c2⟩ := bcell hb
  exact ⟨by rw [c1 _ _ (hlt g e)]; exact h1, by rw [c2 _ _ (hlt g e)]; exact h2⟩
theorem th_set {w : World} {A : Option Addr} {n : Nat} (h : Th w A n) (b o : Nat) (vs : List Value) : Th (w.setCells b o vs) A n := fun g e => World.there_setCells (h g e) b o vs
theorem th_at {w : World} {g n k : Nat} (h : Th w (some ⟨g, 0, none⟩) n) (hk : k < n) : w.there g (k * 3) 3 := by
  intro j hj
  have := h g rfl (k * 3 + j) (by omega)
  rw [Nat.zero_add] at this
  exact this
theorem below_cells {a w : World} (h : Below a.heap.size a w) {g : Nat} (hg : a.heap.size ≤ g) : ∀ (vs : List Value) (o : Nat), Below a.heap.size a (w.setCells g o vs) := by
  intro vs
  induction vs generalizing w with
  | nil => intro o; exact h
  | cons v r ih => intro o; exact ih (bSet h hg v) (o + 1)

/-- the pools' markets -/
theorem pools_arg {H : Type} {enc : TypeId × Value → H} {w : World} {A : Option Addr} {n c : Nat} {d : DataW H} {p : List MemPlace} (h : DataW.Trod enc Try.prog w 0 (fun _ => true) true 22 (.slice A n c) d p) : ∃ M, Pools w w.heap.size A n M ∧ n ≤ 9223372036854775807 := by
  obtain ⟨V, hr, hn, hl, hm, he⟩ := recs_of (sz := 4) Try.underlying22 (by kernel_rfl) (by omega) h
  exact ⟨fun i => boolV (V i 1), ⟨V, hr, fun i hi => elem_bool (he i hi) Try.underlying53 (by kernel_rfl) 1 rfl (by omega) Try.underlying4⟩, by unfold maxLen at hm; omega⟩
/-- what the walk is told of a configuration: its pools' markets -/
theorem cfg14_arg {H : Type} {enc : TypeId × Value → H} {w : World} {r : Reach} {b0 : Nat} {v : Value} {d : DataW H} {p : List MemPlace} (hv : Value.okWide Try.prog w r b0 27 v) (h : DataW.Trod enc Try.prog w 0 (fun _ => true) true 27 v d p) :
    ∃ c : Cfg, ∃ M, v = c.val ∧ Pools w w.heap.size c.pA c.pN M ∧ c.pN ≤ 9223372036854775807 := by
  obtain ⟨c, e, _, ⟨_, _, hp⟩, _, _⟩ := cfg_arg hv h
  obtain ⟨M, hM, hl⟩ := pools_arg hp
  exact ⟨c, M, e, hM, hl⟩
end Go.Proofs.Ytgaeelhbdgpobaa.Black
