
/- Lists of instances and of open requests that came in. No code of the program. -/
import Derived.Test.YtoiofdoipmdajaaOpens
import Derived.Deep.Slices
import Derived.Deep.Fields
namespace Go.Proofs.Ytoiofdoipmdajaa.ArgI
open Go.ChangeShapes Go.WideShapes Go.ChangeAt Go.RowKit Go.Deep
open Mem Arr Lst Rec Grown Inst Sums Opens
section
variable {H : Type} {enc : TypeId × Value → H} {P : Program} {w : World} {base : Nat} {spare : Nat → Bool} {held : Bool}
theorem cut (l : List Value) (k n m : Nat) (hm : k + n = m) : l.drop k = (l.drop k).take n ++ l.drop m := by
  subst hm
  have h := (List.take_append_drop n (l.drop k)).symm
  rw [List.drop_drop] at h
  exact h
/-- a field of a record, of however many cells -/
theorem fld {t : TypeId} {fs : Array Field} {fuel : Nat} {cs : List Value} {x : DataW H × List MemPlace} (h : DataW.trod enc P w base spare held fuel t cs = some x) (ht : P.underlying t = some (.struct fs)) (i o n : Nat) {f : Field} (hf : fs[i]? = some f) (ho : f.offset = o) (hn : P.cellsOf f.type = n) :
    ∃ m y, DataW.trod enc P w base spare held m f.type ((cs.drop o).take n) = some y := by
  obtain ⟨xs, m, _, _, _, hxl, hg⟩ := DataW.trod_struct ht h
  have h1 := hg i f hf
  rw [ho, hn] at h1
  have hi : i < xs.length := by rw [hxl]; exact (Array.getElem?_eq_some_iff.1 hf).1
  rw [List.getElem?_eq_getElem hi] at h1
  exact ⟨m, _, h1⟩
theorem flen {t : TypeId} {fs : Array Field} {fuel : Nat} {cs : List Value} {x : DataW H × List MemPlace} (h : DataW.trod enc P w base spare held fuel t cs = some x) (ht : P.underlying t = some (.struct fs)) {n : Nat} (hn : P.cellsOf t = n) : cs.length = n := by
  obtain ⟨_, _, _, _, hl, _⟩ := DataW.trod_struct ht h
  exact hl.trans hn
theorem f_int {k : IntKind} {t : TypeId} {m : Nat} {l : List Value} {y : DataW H × List MemPlace} (h : DataW.trod enc P w base spare held m t l = some y) (hk : P.underlying t = some (.int k)) : ∃ z, l = [.int k z] ∧ (Lit.int k z).wf = true := by
  obtain ⟨z, hz, _, hw⟩ := DataW.trod_int hk h
  exact ⟨z, hz, hw⟩
theorem f_bool {t : TypeId} {m : Nat} {l : List Value} {y : DataW H × List MemPlace} (h : DataW.trod enc P w base spare held m t l = some y) (hk : P.underlying t = some .bool) : ∃ z, l = [.bool z] := by
  obtain ⟨z, hz, _⟩ := DataW.trod_bool hk h
  exact ⟨z, hz⟩
theorem f_slice {t E : TypeId} {m : Nat} {l : List Value} {y : DataW H × List MemPlace} (h : DataW.trod enc P w base spare held m t l = some y) (hk : P.underlying t = some (.slice E)) : ∃ A n c, l = [.slice A n c] ∧ ∃ d p, DataW.Trod enc P w base spare held t (.slice A n c) d p := by
  rcases open_slice hk h with ⟨rfl, _⟩ | ⟨a, len, cap, _, _, _, _, rfl, _⟩
  · exact ⟨none, 0, 0, rfl, y.1, y.2, m, h⟩
  · exact ⟨some a, len, cap, rfl, y.1, y.2, m, h⟩
theorem end_of (l : List Value) (n : Nat) (h : l.length = n) : l.drop n = [] := by rw [← h]; simp
/-- the elements of a list of records, as records -/
theorem as_records {X : Type} (d : X) (cells : X → Array Value) {n sz : Nat} {V : Nat → Nat → Value} {ok : X → Prop} (h : ∀ i, i < n → ∃ x, ok x ∧ ∀ j, j < sz → V i j = ((cells x)[j]?).getD undef) :
    ∃ L : Nat → X, (∀ i, i < n → ok (L i)) ∧ ∀ i j, i < n → j < sz → V i j = ((cells (L i))[j]?).getD undef := by
  refine ⟨fun i => if hi : i < n then Classical.choose (h i hi) else d, fun i hi => ?_, fun i j hi hj => ?_⟩
  · simp only [hi, dif_pos]
    exact (Classical.choose_spec (h i hi)).1
  · simp only [hi, dif_pos]
    exact (Classical.choose_spec (h i hi)).2 j hj
theorem recs_like {w : World} {B n sz : Nat} {A : Option Addr} {V V' : Nat → Nat → Value} (h : Recs w B A n sz V) (he : ∀ i j, i < n → j < sz → V i j = V' i j) : Recs w B A n sz V' :=
  ⟨h.1, fun hn => by
    obtain ⟨b, off, e, hlt, hc⟩ := h.2 hn
    exact ⟨b, off, e, hlt, fun i j hi hj => by rw [← he i j hi hj]; exact hc i j hi hj⟩⟩
theorem elem_as {E : TypeId} {sz : Nat} {V : Nat → Value} (h : Elem enc P w E sz V) {cells : Array Value} (hs : ∀ (cs : List Value) (m : Nat) (x : DataW H × List MemPlace), cs.length = sz → DataW.trod enc P w 0 (fun _ => true) true m E cs = some x → cs = cells.toList) :
    ∀ j, j < sz → V j = (cells[j]?).getD undef := by
  obtain ⟨cs, m, x, hl, hv, ht⟩ := h
  intro j hj
  have e := hs cs m x hl ht
  have := hv j hj
  rw [e] at this
  rw [Array.getElem?_toList] at this
  rw [this]; rfl
end

structure InsOk (x : Ins) : Prop where
  id : (Lit.int .u64 x.id).wf = true
  tok : (Lit.int .u64 x.tok).wf = true
  pool : (Lit.int .i64 x.pool).wf = true
  wt : (Lit.int .i64 x.wt).wf = true
  st : (Lit.int .u8 x.st).wf = true
  due : (Lit.int .u64 x.due).wf = true
  kill : (Lit.int .u64 x.kill).wf = true
  ver : (Lit.int .u32 x.ver).wf = true
theorem ins_of {H : Type} {enc : TypeId × Value → H} {w : World} {m : Nat} {x : DataW H × List MemPlace} {cs : List Value} (h : DataW.trod enc Try.prog w 0 (fun _ => true) true m 36 cs = some x) : ∃ i : Ins, cs = i.cells.toList ∧ InsOk i := by
  have hl := flen h Try.underlying36 (n := 12) (by kernel_rfl)
  obtain ⟨_, _, t0⟩ := fld h Try.underlying36 0 0 1 rfl rfl (by kernel_rfl)
  obtain ⟨z0, e0, w0⟩ := f_int t0 Try.underlying33
  obtain ⟨_, _, t1⟩ := fld h Try.underlying36 1 1 1 rfl rfl (by kernel_rfl)
  obtain ⟨z1, e1, w1⟩ := f_int t1 Try.underlying33
  obtain ⟨_, _, t2⟩ := fld h Try.underlying36 2 2 1 rfl rfl (by kernel_rfl)
  obtain ⟨z2, e2, w2⟩ := f_int t2 Try.underlying3
  obtain ⟨_, _, t3⟩ := fld h Try.underlying36 3 3 1 rfl rfl (by kernel_rfl)
  obtain ⟨z3, e3, w3⟩ := f_int t3 Try.underlying2
  obtain ⟨_, _, t4⟩ := fld h Try.underlying36 4 4 1 rfl rfl (by kernel_rfl)
  obtain ⟨z4, e4⟩ := f_bool t4 Try.underlying4
  obtain ⟨_, _, t5⟩ := fld h Try.underlying36 5 5 1 rfl rfl (by kernel_rfl)
  obtain ⟨z5, e5, w5⟩ := f_int t5 Try.underlying5
  obtain ⟨_, _, t6⟩ := fld h Try.underlying36 6 6 1 rfl rfl (by kernel_rfl)
  obtain ⟨z6, e6, w6⟩ := f_int t6 Try.underlying33
  obtain ⟨_, _, t7⟩ := fld h Try.underlying36 7 7 1 rfl rfl (by kernel_rfl)
  obtain ⟨z7, e7⟩ := f_bool t7 Try.underlying4
  obtain ⟨_, _, t8⟩ := fld h Try.underlying36 8 8 1 rfl rfl (by kernel_rfl)
  obtain ⟨z8, e8, w8⟩ := f_int t8 Try.underlying33
  obtain ⟨_, _, t9⟩ := fld h Try.underlying36 9 9 1 rfl rfl (by kernel_rfl)
  obtain ⟨z9, e9⟩ := f_bool t9 Try.underlying4
  obtain ⟨_, _, t10⟩ := fld h Try.underlying36 10 10 1 rfl rfl (by kernel_rfl)
  obtain ⟨z10, e10⟩ := f_bool t10 Try.underlying4
  obtain ⟨_, _, t11⟩ := fld h Try.underlying36 11 11 1 rfl rfl (by kernel_rfl)
  obtain ⟨z11, e11, w11⟩ := f_int t11 Try.underlying34
  have q0 := cut cs 0 1 1 rfl
  rw [e0] at q0
  have q1 := cut cs 1 1 2 rfl
  rw [e1] at q1
  have q2 := cut cs 2 1 3 rfl
  rw [e2] at q2
  have q3 := cut cs 3 1 4 rfl
  rw [e3] at q3
  have q4 := cut cs 4 1 5 rfl
  rw [e4] at q4
  have q5 := cut cs 5 1 6 rfl
  rw [e5] at q5
  have q6 := cut cs 6 1 7 rfl
  rw [e6] at q6
  have q7 := cut cs 7 1 8 rfl
  rw [e7] at q7
  have q8 := cut cs 8 1 9 rfl
  rw [e8] at q8
  have q9 := cut cs 9 1 10 rfl
  rw [e9] at q9
  have q10 := cut cs 10 1 11 rfl
  rw [e10] at q10
  have q11 := cut cs 11 1 12 rfl
  rw [e11] at q11
  refine ⟨⟨z0, z1, z2, z3, z4, z5, z6, z7, z8, z9, z10, z11⟩, ?_, ⟨w0, w1, w2, w3, w5, w6, w8, w11⟩⟩
  show cs.drop 0 = _
  rw [q0, q1, q2, q3, q4, q5, q6, q7, q8, q9, q10, q11, end_of cs 12 hl]
  rfl
theorem ins_arg {H : Type} {enc : TypeId × Value → H} {w : World} {r : Reach} {b0 : Nat} {v : Value} {d : DataW H} {p : List MemPlace} (hv : Value.okWide Try.prog w r b0 36 v) (h : DataW.Trod enc Try.prog w 0 (fun _ => true) true 36 v d p) :
    ∃ i : Ins, v = i.val ∧ InsOk i := by
  obtain ⟨cs, rfl, _⟩ := okWide_struct Try.underlying36 hv
  obtain ⟨fuel, hf⟩ := h
  obtain ⟨i, e, k⟩ := ins_of (cs := cs.toList) hf
  exact ⟨i, congrArg Value.agg (by
    have e2 := congrArg List.toArray e
    simpa using e2), k⟩
/-- a list of instances that came in -/
theorem insts_in {H : Type} {enc : TypeId × Value → H} {w : World} {A : Option Addr} {n c : Nat} (h : ∃ d p, DataW.Trod enc Try.prog w 0 (fun _ => true) true 23 (.slice A n c) d p) :
    ∃ L : Nat → Ins, Insts w w.heap.size A n L ∧ (∀ i, i < n → InsOk (L i)) ∧ (A = none → c = 0) ∧ n ≤ c ∧ c ≤ maxLen := by
  obtain ⟨d, p, h⟩ := h
  obtain ⟨V, hr, h0, h1, h2, he⟩ := recs_of Try.underlying23 (sz := 12) (by kernel_rfl) (by omega) h
  obtain ⟨L, hk, hL⟩ := as_records Inst.none_ Ins.cells (ok := InsOk) (V := V) (n := n) (sz := 12) (fun i hi => by
    obtain ⟨cs, m, x, hl, hv, ht⟩ := he i hi
    obtain ⟨y, e, k⟩ := ins_of ht
    refine ⟨y, k, fun j hj => ?_⟩
    have := hv j hj
    rw [e, Array.getElem?_toList] at this
    rw [this]; rfl)
  exact ⟨L, recs_like hr hL, hk, h0, h1, h2⟩
structure OpnOk (x : Opn) : Prop where
  kind : (Lit.int .u8 x.kind).wf = true
  tok : (Lit.int .u64 x.tok).wf = true
  pool : (Lit.int .i64 x.pool).wf = true
  id : (Lit.int .u64 x.id).wf = true
  since : (Lit.int .u64 x.since).wf = true
  wt : (Lit.int .i64 x.wt).wf = true
  ver : (Lit.int .u32 x.ver).wf = true
end Go.Proofs.Ytoiofdoipmdajaa.ArgI
