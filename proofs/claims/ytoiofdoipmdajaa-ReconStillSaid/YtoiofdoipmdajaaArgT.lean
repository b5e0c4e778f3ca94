
/- A list of what is told that came in. No code of the program. -/
import Derived.Test.YtoiofdoipmdajaaTold
import Derived.Test.YtoiofdoipmdajaaArgI
namespace Go.Proofs.Ytoiofdoipmdajaa.ArgT
open Go.ChangeShapes Go.WideShapes Go.ChangeAt Go.RowKit Go.Deep
open Mem Arr Lst Rec Grown Tld ArgI
structure TdOk (x : Td) : Prop where
  id : (Lit.int .u64 x.id).wf = true
  tok : (Lit.int .u64 x.tok).wf = true
  st : (Lit.int .u8 x.st).wf = true
theorem td_of {H : Type} {enc : TypeId × Value → H} {w : World} {m : Nat} {x : DataW H × List MemPlace} {cs : List Value} (h : DataW.trod enc Try.prog w 0 (fun _ => true) true m 47 cs = some x) : ∃ i : Td, cs = i.cells.toList ∧ TdOk i := by
  have hl := flen h Try.underlying47 (n := 3) (by kernel_rfl)
  obtain ⟨_, _, t0⟩ := fld h Try.underlying47 0 0 1 rfl rfl (by kernel_rfl)
  obtain ⟨z0, e0, w0⟩ := f_int t0 Try.underlying33
  obtain ⟨_, _, t1⟩ := fld h Try.underlying47 1 1 1 rfl rfl (by kernel_rfl)
  obtain ⟨z1, e1, w1⟩ := f_int t1 Try.underlying33
  obtain ⟨_, _, t2⟩ := fld h Try.underlying47 2 2 1 rfl rfl (by kernel_rfl)
  obtain ⟨z2, e2, w2⟩ := f_int t2 Try.underlying5
  have q0 := cut cs 0 1 1 rfl
  rw [e0] at q0
  have q1 := cut cs 1 1 2 rfl
  rw [e1] at q1
  have q2 := cut cs 2 1 3 rfl
  rw [e2] at q2
  refine ⟨⟨z0, z1, z2⟩, ?_, ⟨w0, w1, w2⟩⟩
  show cs.drop 0 = _
  rw [q0, q1, q2, end_of cs 3 hl]
  rfl
theorem tolds_arg {H : Type} {enc : TypeId × Value → H} {w : World} {A : Option Addr} {n c : Nat} {d : DataW H} {p : List MemPlace} (h : DataW.Trod enc Try.prog w 0 (fun _ => true) true 22 (.slice A n c) d p) :
    ∃ T : Nat → Td, Tolds w w.heap.size A n T ∧ (∀ i, i < n → TdOk (T i)) ∧ (A = none → c = 0) ∧ n ≤ c ∧ c ≤ maxLen := by
  obtain ⟨V, hr, h0, h1, h2, he⟩ := recs_of Try.underlying22 (sz := 3) (by kernel_rfl) (by omega) h
  obtain ⟨L, hk, hL⟩ := as_records noTd Td.cells (ok := TdOk) (V := V) (n := n) (sz := 3) (fun i hi => by
    obtain ⟨cs, m, x, hl, hv, ht⟩ := he i hi
    obtain ⟨y, e, k⟩ := td_of ht
    refine ⟨y, k, fun j hj => ?_⟩
    have := hv j hj
    rw [e, Array.getElem?_toList] at this
    rw [this]; rfl)
  exact ⟨L, recs_like hr hL, hk, h0, h1, h2⟩
theorem insts_arg {H : Type} {enc : TypeId × Value → H} {w : World} {A : Option Addr} {n c : Nat} {d : DataW H} {p : List MemPlace} (h : DataW.Trod enc Try.prog w 0 (fun _ => true) true 23 (.slice A n c) d p) :
    ∃ L : Nat → Inst.Ins, Sums.Insts w w.heap.size A n L ∧ (∀ i, i < n → InsOk (L i)) ∧ (A = none → c = 0) ∧ n ≤ c ∧ c ≤ maxLen := insts_in ⟨d, p, h⟩
end Go.Proofs.Ytoiofdoipmdajaa.ArgT
