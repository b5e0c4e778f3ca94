
/- What is known of the arguments of layer 14's statements. -/
import Derived.Test.YtgaeelhbdgpobaaBlackK
namespace Go.Proofs.Ytgaeelhbdgpobaa.Black
open Go.ChangeShapes Go.WideShapes Go.ChangeAt Go.RowKit
open Mem Arr Lst Rec

/-- what a walk is told of a list of quotes that came in -/
structure QuoteArg (w : World) (A : Option Addr) (n c : Nat) (P S U : Nat → Int) : Prop where
  quotes : Quotes w w.heap.size A n P S U
  none_ : A = none → c = 0
  le : n ≤ c
  cap : c ≤ 9223372036854775807
  inP : ∀ i, i < n → -9223372036854775808 ≤ P i ∧ P i ≤ 9223372036854775807
  inS : ∀ i, i < n → -9223372036854775808 ≤ S i ∧ S i ≤ 9223372036854775807
  inU : ∀ i, i < n → 0 ≤ U i ∧ U i ≤ 18446744073709551615
theorem quotes_arg {H : Type} {enc : TypeId × Value → H} {w : World} {A : Option Addr} {n c : Nat} {d : DataW H} {p : List MemPlace} (h : DataW.Trod enc Try.prog w 0 (fun _ => true) true 28 (.slice A n c) d p) : ∃ P S U, QuoteArg w A n c P S U := by
  obtain ⟨V, hr, hn, hl, hm, he⟩ := recs_of (sz := 3) Try.underlying28 (by kernel_rfl) (by omega) h
  have h0 : ∀ i, i < n → V i 0 = .int .i64 (intV (V i 0)) ∧ (Lit.int .i64 (intV (V i 0))).wf = true := fun i hi => elem_int (he i hi) Try.underlying34 (by kernel_rfl) 0 rfl (by omega) Try.underlying2
  have h1 : ∀ i, i < n → V i 1 = .int .i64 (intV (V i 1)) ∧ (Lit.int .i64 (intV (V i 1))).wf = true := fun i hi => elem_int (he i hi) Try.underlying34 (by kernel_rfl) 1 rfl (by omega) Try.underlying2
  have h2 : ∀ i, i < n → V i 2 = .int .u64 (intV (V i 2)) ∧ (Lit.int .u64 (intV (V i 2))).wf = true := fun i hi => elem_int (he i hi) Try.underlying34 (by kernel_rfl) 2 rfl (by omega) Try.underlying23
  refine ⟨fun i => intV (V i 0), fun i => intV (V i 1), fun i => intV (V i 2), ⟨⟨hr.1, fun h0' => ?_⟩, hn, hl, by unfold maxLen at hm; omega, fun i hi => bounds_i64 (h0 i hi).2, fun i hi => bounds_i64 (h1 i hi).2, fun i hi => bounds_u64 (h2 i hi).2⟩⟩
  obtain ⟨b, off, e, hlt, hc⟩ := hr.2 h0'
  refine ⟨b, off, e, hlt, fun i j hi hj => ?_⟩
  rw [hc i j hi hj]
  rcases (show j = 0 ∨ j = 1 ∨ j = 2 by omega) with rfl | rfl | rfl
  · rw [(h0 i hi).1]; rfl
  · rw [(h1 i hi).1]; rfl
  · rw [(h2 i hi).1]; rfl
end Go.Proofs.Ytgaeelhbdgpobaa.Black
