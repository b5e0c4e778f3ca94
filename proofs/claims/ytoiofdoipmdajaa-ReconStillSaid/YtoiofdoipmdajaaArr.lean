
/- Slices of records that came in: where their cells lie, and of what kind they are. No code of the program. -/
import Derived.Test.YtoiofdoipmdajaaMem
import Derived.Deep.Slices
import Derived.Deep.Fields
namespace Go.Proofs.Ytoiofdoipmdajaa.Arr
open Go.ChangeShapes Go.WideShapes Go.ChangeAt Go.RowKit Go.Deep
open Mem

/-- the slice '.slice A n _' holds n records of sz cells each, below block B: cell j of record i is V i j -/
def Recs (w : World) (B : Nat) (A : Option Addr) (n sz : Nat) (V : Nat → Nat → Value) : Prop :=
  (A = none → n = 0) ∧ (0 < n → ∃ b off, A = some ⟨b, off, none⟩ ∧ b < B ∧ ∀ i j, i < n → j < sz → w.cell? ⟨b, off + (i * sz + j), none⟩ = some (V i j))
section
variable {w w' : World} {B B' n sz : Nat} {A : Option Addr} {V : Nat → Nat → Value}
theorem Recs.below (h : Recs w B A n sz V) (hb : Below B w w') : Recs w' B A n sz V :=
  ⟨h.1, fun hn => by
    obtain ⟨b, off, e, hlt, hc⟩ := h.2 hn
    exact ⟨b, off, e, hlt, fun i j hi hj => (hb.cell (p := ⟨b, off + (i * sz + j), none⟩) hlt).trans (hc i j hi hj)⟩⟩
theorem Recs.more (h : Recs w B A n sz V) (hB : B ≤ B') : Recs w B' A n sz V :=
  ⟨h.1, fun hn => by
    obtain ⟨b, off, e, hlt, hc⟩ := h.2 hn
    exact ⟨b, off, e, by omega, hc⟩⟩
theorem Recs.later (h : Recs w w.heap.size A n sz V) (hb : Below w.heap.size w w') : Recs w' w'.heap.size A n sz V := (h.below hb).more hb.size
theorem Recs.drew (h : Recs w B A n sz V) : Recs w.drew B A n sz V := h
theorem Recs.fewer {m : Nat} (h : Recs w B A n sz V) (hm : m ≤ n) : Recs w B A m sz V :=
  ⟨fun e => by have := h.1 e; omega, fun h0 => by
    obtain ⟨b, off, e, hlt, hc⟩ := h.2 (by omega)
    exact ⟨b, off, e, hlt, fun i j hi hj => hc i j (by omega) hj⟩⟩
end

theorem add_form (b off k : Nat) : (⟨b, off, none⟩ : Addr).add k = ⟨b, off + k, none⟩ := by unfold Addr.add; split <;> simp_all
/-- what stands at a cell -/
def cellAt (w : World) (a : Addr) (k : Nat) : Value := (w.cell? (a.add k)).getD undef
theorem cellAt_of {w : World} {a : Addr} {k : Nat} {v : Value} (h : w.cell? (a.add k) = some v) : cellAt w a k = v := by unfold cellAt; rw [h]; rfl

section
variable {H : Type} {enc : TypeId × Value → H} {P : Program} {w : World} {base : Nat} {spare : Nat → Bool} {held : Bool}
/-- a record's cells, one a field -/
theorem fields_of {E : TypeId} {fs : Array Field} {fuel : Nat} {cs : List Value} {x : DataW H × List MemPlace} (hE : P.underlying E = some (.struct fs)) (hone : oneCellFields P fs = true)
    (h : DataW.trod enc P w base spare held fuel E cs = some x) : cs.length = P.cellsOf E ∧ ∀ (j : Nat) (f : Field), fs[j]? = some f → j < cs.length → ∃ (v : Value) (m : Nat) (y : DataW H × List MemPlace), cs[j]? = some v ∧ DataW.trod enc P w base spare held m f.type [v] = some y := by
  obtain ⟨ys, m, _, _, hlen, hyl, hf⟩ := DataW.trod_struct hE h
  refine ⟨hlen, fun j f hj hjl => ?_⟩
  obtain ⟨ho, hk⟩ := hone_of hone j f hj
  have h1 := hf j f hj
  rw [ho, hk, List.drop_eq_getElem_cons hjl] at h1
  have hjy : j < ys.length := by rw [hyl]; exact (Array.getElem?_eq_some_iff.1 hj).1
  rw [List.getElem?_eq_getElem hjy] at h1
  exact ⟨cs[j], m, ys[j], List.getElem?_eq_getElem hjl, h1⟩
/-- what is known of an element behind 'recs_of' -/
def Elem (enc : TypeId × Value → H) (P : Program) (w : World) (E : TypeId) (sz : Nat) (V : Nat → Value) : Prop :=
  ∃ (cs : List Value) (m : Nat) (x : DataW H × List MemPlace), cs.length = sz ∧ (∀ j, j < sz → cs[j]? = some (V j)) ∧ DataW.trod enc P w 0 (fun _ => true) true m E cs = some x
/-- a slice of records: its elements' cells -/
theorem recs_of {T E : TypeId} {A : Option Addr} {n c sz : Nat} {d : DataW H} {p : List MemPlace} (hT : P.underlying T = some (.slice E)) (hC : P.cellsOf E = sz) (hpos : 0 < sz)
    (h : DataW.Trod enc P w 0 (fun _ => true) true T (.slice A n c) d p) :
    ∃ V : Nat → Nat → Value, Recs w w.heap.size A n sz V ∧ (A = none → c = 0) ∧ n ≤ c ∧ c ≤ maxLen ∧ ∀ i, i < n → Elem enc P w E sz (V i) := by
  obtain ⟨fuel, hf⟩ := h
  rcases open_slice hT hf with ⟨hcs, _⟩ | ⟨a, len, cap, m, k, D, Pl, hcs, _, hl, hm, hmm, hx, hi⟩
  · simp [Value.cells] at hcs
    obtain ⟨rfl, rfl, rfl⟩ := hcs
    exact ⟨fun _ _ => undef, ⟨fun _ => rfl, fun h0 => absurd h0 (by omega)⟩, fun _ => rfl, Nat.le_refl _, by unfold maxLen; omega, fun i hi => absurd hi (by omega)⟩
  · simp [Value.cells] at hcs
    obtain ⟨rfl, rfl, rfl⟩ := hcs
    simp only [if_true] at hmm
    subst hmm
    rw [hC] at hi
    have hrow : ∀ i, i < n → ∃ cs : List Value, cs.length = sz ∧ (∀ j, j < sz → w.cell? (a.add (i * sz + j)) = cs[j]?) ∧ ∃ x : DataW H × List MemPlace, DataW.trod enc P w 0 (fun _ => true) true k E cs = some x := by
      intro i hin
      obtain ⟨cs, hc, ht⟩ := hi i (by omega)
      obtain ⟨_, hcl, hat⟩ := World.cells?_some hc
      refine ⟨cs, hcl, fun j hj => ?_, _, ht⟩
      rw [← hat j hj, add_add]
    have hcell : ∀ i j, i < n → j < sz → w.cell? (a.add (i * sz + j)) = some (cellAt w a (i * sz + j)) := by
      intro i j hin hj
      obtain ⟨cs, hcl, hat, _⟩ := hrow i hin
      have h1 := hat j hj
      rw [List.getElem?_eq_getElem (by omega)] at h1
      rw [h1, cellAt_of h1]
    refine ⟨fun i j => cellAt w a (i * sz + j), ⟨fun e => (by cases e), fun h0 => ?_⟩, fun e => (by cases e), hl, hm, fun i hin => ?_⟩
    · obtain ⟨b, off, spot⟩ := a
      have h1 := hcell 0 0 h0 hpos
      have hspot : spot = none := by simpa [Addr.add] using World.cell?_spot h1
      subst hspot
      refine ⟨b, off, rfl, ?_, fun i j hin hj => ?_⟩
      · rcases Nat.lt_or_ge b w.heap.size with hlt | hge
        · exact hlt
        · rw [add_form] at h1; simp [World.cell?, Array.getElem?_eq_none hge] at h1
      · have := hcell i j hin hj
        rw [add_form] at this; rw [this]
    · obtain ⟨cs, hcl, hat, x, hx⟩ := hrow i hin
      refine ⟨cs, k, x, hcl, fun j hj => ?_, hx⟩
      rw [← hat j hj]
      exact hcell i j hin hj
theorem elem_field {E : TypeId} {sz : Nat} {V : Nat → Value} {fs : Array Field} (h : Elem enc P w E sz V) (hE : P.underlying E = some (.struct fs)) (hone : oneCellFields P fs = true) {j : Nat} {f : Field} (hf : fs[j]? = some f) (hj : j < sz) :
    ∃ (m : Nat) (y : DataW H × List MemPlace), DataW.trod enc P w 0 (fun _ => true) true m f.type [V j] = some y := by
  obtain ⟨cs, m, x, hl, hv, ht⟩ := h
  obtain ⟨_, hg⟩ := fields_of hE hone ht
  obtain ⟨v, m', y, h1, h2⟩ := hg j f hf (by omega)
  have := hv j hj
  rw [h1] at this
  injection this with this
  subst this
  exact ⟨m', y, h2⟩
end
def intV (v : Value) : Int := match v with | .int _ z => z | _ => 0
def boolV (v : Value) : Bool := match v with | .bool b => b | _ => false
section
variable {H : Type} {enc : TypeId × Value → H} {P : Program} {w : World}
theorem elem_int {E : TypeId} {sz : Nat} {V : Nat → Value} {fs : Array Field} {k : IntKind} (h : Elem enc P w E sz V) (hE : P.underlying E = some (.struct fs)) (hone : oneCellFields P fs = true) (j : Nat) {f : Field} (hf : fs[j]? = some f) (hj : j < sz) (hk : P.underlying f.type = some (.int k)) :
    V j = .int k (intV (V j)) ∧ (Lit.int k (intV (V j))).wf = true := by
  obtain ⟨m, y, ht⟩ := elem_field h hE hone hf hj
  obtain ⟨z, hz, _, hw⟩ := DataW.trod_int hk ht
  injection hz with hz
  rw [hz]
  exact ⟨rfl, hw⟩
theorem elem_bool {E : TypeId} {sz : Nat} {V : Nat → Value} {fs : Array Field} (h : Elem enc P w E sz V) (hE : P.underlying E = some (.struct fs)) (hone : oneCellFields P fs = true) (j : Nat) {f : Field} (hf : fs[j]? = some f) (hj : j < sz) (hk : P.underlying f.type = some .bool) :
    V j = .bool (boolV (V j)) := by
  obtain ⟨m, y, ht⟩ := elem_field h hE hone hf hj
  obtain ⟨z, hz, _⟩ := DataW.trod_bool hk ht
  injection hz with hz
  rw [hz]; rfl
end
/-! A record that came in by value. -/
def sA (v : Value) : Option Addr := match v with | .slice a _ _ => a | _ => none
def sN (v : Value) : Nat := match v with | .slice _ n _ => n | _ => 0
def sC (v : Value) : Nat := match v with | .slice _ _ c => c | _ => 0
section
variable {H : Type} {enc : TypeId × Value → H} {P : Program} {w : World} {base : Nat} {spare : Nat → Bool} {held : Bool}
theorem record_of {r : Reach} {b0 : Nat} {E : TypeId} {fs : Array Field} {v : Value} {d : DataW H} {p : List MemPlace} (hE : P.underlying E = some (.struct fs)) (hone : oneCellFields P fs = true) (hsz : P.cellsOf E = fs.size)
    (hv : Value.okWide P w r b0 E v) (h : DataW.Trod enc P w base spare held E v d p) :
    ∃ cs : List Value, v = .agg cs.toArray ∧ cs.length = fs.size ∧ ∀ (j : Nat) (f : Field), fs[j]? = some f → ∃ (u : Value) (m : Nat) (y : DataW H × List MemPlace), cs[j]? = some u ∧ DataW.trod enc P w base spare held m f.type [u] = some y := by
  obtain ⟨cs, rfl, hcs⟩ := okWide_struct hE hv
  obtain ⟨fuel, hf⟩ := h
  obtain ⟨_, hg⟩ := fields_of hE hone hf
  have hl : cs.toList.length = fs.size := by rw [Array.length_toList, hcs, hsz]
  exact ⟨cs.toList, by simp, hl, fun j f hj => hg j f hj (by
    show j < cs.toList.length
    rw [hl]; exact (Array.getElem?_eq_some_iff.1 hj).1)⟩
theorem one_int {T : TypeId} {k : IntKind} {m : Nat} {u : Value} {y : DataW H × List MemPlace} (hk : P.underlying T = some (.int k)) (h : DataW.trod enc P w base spare held m T [u] = some y) : u = .int k (intV u) ∧ (Lit.int k (intV u)).wf = true := by
  obtain ⟨z, hz, _, hw⟩ := DataW.trod_int hk h
  injection hz with hz
  subst hz
  exact ⟨rfl, hw⟩
theorem one_bool {T : TypeId} {m : Nat} {u : Value} {y : DataW H × List MemPlace} (hk : P.underlying T = some .bool) (h : DataW.trod enc P w base spare held m T [u] = some y) : u = .bool (boolV u) := by
  obtain ⟨z, hz, _⟩ := DataW.trod_bool hk h
  injection hz with hz
  subst hz; rfl
theorem one_slice {T E : TypeId} {m : Nat} {u : Value} {y : DataW H × List MemPlace} (hT : P.underlying T = some (.slice E)) (h : DataW.trod enc P w base spare held m T [u] = some y) : u = .slice (sA u) (sN u) (sC u) ∧ DataW.Trod enc P w base spare held T (.slice (sA u) (sN u) (sC u)) y.1 y.2 := by
  have hu : u = .slice (sA u) (sN u) (sC u) := by
    rcases open_slice hT h with ⟨hcs, _⟩ | ⟨a, len, cap, _, _, _, _, hcs, _⟩
    · injection hcs with hcs; subst hcs; rfl
    · injection hcs with hcs; subst hcs; rfl
  refine ⟨hu, m, ?_⟩
  rw [← hu]
  rw [hu] at h
  rw [hu]
  exact h
end
end Go.Proofs.Ytoiofdoipmdajaa.Arr
