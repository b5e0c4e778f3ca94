
/- Contracts of layer 22: the document's band, and capacity. -/
import Derived.Test.YtgfiimllehmnoaaStairR
namespace Go.Proofs.Ytgfiimllehmnoaa.Stair
open Go.ChangeShapes Go.WideShapes Go.ChangeAt Go.RowKit
open NumM NumA Mem Arr

theorem want_is (A : Option Addr) (n c : Nat) (F G : Nat → Int) (d m t v f : Int) (w : World) (h : Bands w w.heap.size A n F G) (hn : n ≤ 9223372036854775807) (hv : Hid (wantV F G n d m t = v ∧ wantE F G n d m t = f)) :
    Calls Try.prog 14 #[.slice A n c, .int .i64 d, .int .i64 m, .int .i64 t] w fun e w' => e = .returned (.tuple #[.int .i64 v, .int .i64 f]) ∧ Below w.heap.size w w' := by
  have := want_any A n c F G d m t w h hn
  rw [hv.out.1, hv.out.2] at this; exact this
/-- the document's three bands -/
def F3 (i : Nat) : Int := if i = 0 then -20 else if i = 1 then 0 else 10
def G3 (i : Nat) : Int := if i = 0 then -1 else if i = 1 then 0 else 2
theorem may3 : mayB F3 G3 3 = true := by decide
/-- what a walk is told of a list of bands that came in -/
structure BandArg (w : World) (A : Option Addr) (n c : Nat) (F G : Nat → Int) : Prop where
  bands : Bands w w.heap.size A n F G
  le : n ≤ c
  cap : c ≤ 9223372036854775807
  inF : ∀ i, i < n → -9223372036854775808 ≤ F i ∧ F i ≤ 9223372036854775807
  inG : ∀ i, i < n → -9223372036854775808 ≤ G i ∧ G i ≤ 9223372036854775807
theorem bands_arg {H : Type} {enc : TypeId × Value → H} {w : World} {A : Option Addr} {n c : Nat} {d : DataW H} {p : List MemPlace} (h : DataW.Trod enc Try.prog w 0 (fun _ => true) true 24 (.slice A n c) d p) : ∃ F G, BandArg w A n c F G := by
  obtain ⟨V, hr, _, hl, hm, he⟩ := recs_of (sz := 2) Try.underlying24 (by kernel_rfl) (by omega) h
  have hF : ∀ i, i < n → V i 0 = .int .i64 (intV (V i 0)) ∧ (Lit.int .i64 (intV (V i 0))).wf = true := fun i hi => elem_int (he i hi) Try.underlying52 (by kernel_rfl) 0 rfl (by omega) Try.underlying2
  have hG : ∀ i, i < n → V i 1 = .int .i64 (intV (V i 1)) ∧ (Lit.int .i64 (intV (V i 1))).wf = true := fun i hi => elem_int (he i hi) Try.underlying52 (by kernel_rfl) 1 rfl (by omega) Try.underlying2
  refine ⟨fun i => intV (V i 0), fun i => intV (V i 1), ⟨⟨hr.1, fun h0 => ?_⟩, hl, by unfold maxLen at hm; omega, fun i hi => bounds_i64 (hF i hi).2, fun i hi => bounds_i64 (hG i hi).2⟩⟩
  obtain ⟨b, off, e, hlt, hc⟩ := hr.2 h0
  refine ⟨b, off, e, hlt, fun i j hi hj => ?_⟩
  rw [hc i j hi hj]
  rcases (show j = 0 ∨ j = 1 by omega) with rfl | rfl
  · rw [(hF i hi).1]; rfl
  · rw [(hG i hi).1]; rfl
end Go.Proofs.Ytgfiimllehmnoaa.Stair
