
/- A region that draws its order, whose operations read and whose callees lay blocks of their own: walked once. No code of the program. -/
import Derived.Test.YtoiofdoipmdajaaRec
import Derived.Deep.MidRow
namespace Go.Proofs.Ytoiofdoipmdajaa.Grown
open Go.ChangeShapes Go.WideShapes Go.ChangeAt Go.RowKit
open Mem Rec

/-- a world that has come of w by blocks and draws alone -/
structure Grown (w : World) where
  w1 : World
  below : Below w.heap.size w w1
instance (w : World) : Nonempty (Grown w) := ⟨⟨w, Below.refl _ _⟩⟩
theorem region_grown {P : Program} {id : Nat} {Q : Exit → Act → World → Prop} {a : Act} {w : World} {l : List Oper} (hm : P.follows .mixedOrders = true) (hB : Region.lexB .any l.toArray = true)
    (h : wpQuiet P l.toArray (fun w' => ∃ p : Grown w, w' = p.w1) (fun a' => ∀ w', (∃ p : Grown w, w' = p.w1) → Q .normal a' w') l a) : (Code.region id l.toArray true).wp P Q a w :=
  wp_region_quiet (C := fun w' => ∃ p : Grown w, w' = p.w1) hm hB ⟨⟨w.drew, bDrew (Below.refl _ _)⟩, rfl⟩ (by simpa using h)
theorem call_grown {P : Program} {f : FuncId} {args : Array Value} {w : World} {p : Grown w} {v : Value} (h : Calls P f args p.w1 fun e w' => e = .returned v ∧ Below p.w1.heap.size p.w1 w') : Calls P f args p.w1 fun e w' => e = .returned v ∧ ∃ q : Grown w, w' = q.w1 :=
  h.mono fun _ _ ⟨he, hb⟩ => ⟨he, ⟨_, bTrans p.below hb⟩, rfl⟩
theorem call_still {P : Program} {f : FuncId} {args : Array Value} {w : World} {p : Grown w} {v : Value} (h : Calls P f args p.w1 fun e w' => e = .returned v ∧ p.w1 = w') : Calls P f args p.w1 fun e w' => e = .returned v ∧ ∃ q : Grown w, w' = q.w1 :=
  h.mono fun _ _ ⟨he, hb⟩ => ⟨he, p, hb.symm⟩
theorem cell_in {w : World} {b o : Nat} {v : Value} (hb : b < w.heap.size) (h : w.cell? ⟨b, o, none⟩ = some v) (p : Grown w) : p.w1.cell? ⟨b, o, none⟩ = some v := ((bcell p.below).1 b o hb).trans h
theorem range_in {w : World} {b o : Nat} {cs : List Value} (hb : b < w.heap.size) (h : w.rangeAt b o cs) (p : Grown w) : p.w1.rangeAt b o cs := fun j v hj => cell_in hb (h j v hj) p
theorem range_later {w w1 : World} {b o : Nat} {cs : List Value} (hb : Below w.heap.size w w1) (hlt : b < w.heap.size) (h : w.rangeAt b o cs) : w1.rangeAt b o cs := fun j v hj => ((bcell hb).1 b _ hlt).trans (h j v hj)
theorem range_new (w : World) (cs : Array Value) (t : TypeId) : (w.alloc (.cells cs t)).rangeAt w.heap.size 0 cs.toList := fun j v hj => by
  rw [cell_of_row _ _ _ _ _ _ (heap_alloc_new w _), Nat.zero_add]; simpa using hj
/-- a whole record out of the middle of a block, as such a region loads it -/
theorem run_loadMid {P : Program} (T : TypeId) {d : TypeDesc} (hu : P.underlying T = some d) (hd : d.isRow = true) {cs : List Value} (hi : (P.info? T).map (·.size) = some cs.length) {w : World} {b o : Nat} (h : w.rangeAt b o cs) :
    (loadRec T (.pointer (some ⟨b, o, none⟩))).run P w = .ok (.value (.agg cs.toArray)) w := by
  unfold loadRec
  simp only [Instr.loadAt, Instr.sureAddr, Sem.run_bind, Sem.run_pure, Result.andThen_ok, run_loadVar_mid w b o T cs d h hu hd hi]
theorem at_op {P : Program} {ops : Array Oper} {l : List Oper} {a : Act} {w : World} {Q : Exit → Act → World → Prop} (h : wpList P ops Q l a w) : wpList P ops Q l a w := h
end Go.Proofs.Ytoiofdoipmdajaa.Grown
