
/- Lists of one-cell things, as functions of the place: lists that came in, and rows of the call's own. No code of the program. -/
import Derived.Test.YtoiofdoipmdajaaArr
import Derived.OwnWalk
import Derived.Deep.AppendLies
namespace Go.Proofs.Ytoiofdoipmdajaa.Lst
open Go.ChangeShapes Go.WideShapes Go.ChangeAt Go.RowKit Go.Deep
open Mem Arr

/-- the cells of a list of n things -/
def vals (n : Nat) (f : Nat → Value) : List Value := (List.range n).map f
theorem vals_length (n : Nat) (f : Nat → Value) : (vals n f).length = n := by simp [vals]
theorem vals_at {n : Nat} {f : Nat → Value} {i : Nat} (h : i < n) : (vals n f)[i]? = some (f i) := by simp [vals, h]
theorem vals_get {n : Nat} {f : Nat → Value} {i : Nat} {u : Value} (h : (vals n f)[i]? = some u) : i < n ∧ u = f i := by
  have hi : i < n := by
    rcases Nat.lt_or_ge i n with h' | h'
    · exact h'
    · rw [List.getElem?_eq_none (by rw [vals_length]; exact h')] at h; cases h
  rw [vals_at hi] at h
  injection h with h
  exact ⟨hi, h.symm⟩
theorem vals_congr {n : Nat} {f g : Nat → Value} (h : ∀ i, i < n → f i = g i) : vals n f = vals n g := by
  unfold vals
  exact List.map_congr_left fun i hi => h i (by simpa using hi)
theorem vals_append (n m : Nat) (f g : Nat → Value) : vals n f ++ vals m g = vals (n + m) (fun i => if i < n then f i else g (i - n)) := by
  apply List.ext_getElem?
  intro i
  rcases Nat.lt_or_ge i n with h | h
  · rw [List.getElem?_append_left (by rw [vals_length]; exact h), vals_at h, vals_at (by omega), if_pos h]
  · rw [List.getElem?_append_right (by rw [vals_length]; exact h), vals_length]
    rcases Nat.lt_or_ge i (n + m) with h' | h'
    · rw [vals_at (by omega), vals_at h', if_neg (by omega)]
    · rw [List.getElem?_eq_none (by rw [vals_length]; omega), List.getElem?_eq_none (by rw [vals_length]; omega)]
theorem vals_set {n k : Nat} (f : Nat → Value) (u : Value) : (vals n f).set k u = vals n (fun i => if i = k then u else f i) := by
  apply List.ext_getElem?
  intro i
  rw [List.getElem?_set, vals_length]
  by_cases hk : k = i
  · subst hk
    rw [if_pos rfl]
    by_cases h : k < n
    · rw [if_pos h, vals_at h, if_pos rfl]
    · rw [if_neg h, List.getElem?_eq_none (by rw [vals_length]; omega)]
  · rw [if_neg hk]
    by_cases h : i < n
    · rw [vals_at h, vals_at h, if_neg (fun e => hk e.symm)]
    · rw [List.getElem?_eq_none (by rw [vals_length]; omega), List.getElem?_eq_none (by rw [vals_length]; omega)]

/-- a list that is read: n things, one cell each -/
def Reads (w : World) (B : Nat) (A : Option Addr) (n : Nat) (f : Nat → Value) : Prop := Recs w B A n 1 (fun i _ => f i)
theorem Reads.later {w w' : World} {A : Option Addr} {n : Nat} {f : Nat → Value} (h : Reads w w.heap.size A n f) (hb : Below w.heap.size w w') : Reads w' w'.heap.size A n f := Recs.later h hb
theorem reads_at {w wr : World} {A : Option Addr} {n : Nat} {f : Nat → Value} (h : Reads w w.heap.size A n f) (hb : Below w.heap.size w wr) {b off : Nat} (hA : A = some ⟨b, off, none⟩) {k : Nat} (hk : k < n) :
    b < wr.heap.size ∧ wr.cell? ⟨b, off + k, none⟩ = some (f k) := by
  obtain ⟨b', off', e, hlt, hc⟩ := (h.later hb).2 (by omega)
  rw [hA] at e
  injection e with e
  injection e with e1 e2
  subst e1; subst e2
  refine ⟨hlt, ?_⟩
  have := hc k 0 hk (by omega)
  rw [Nat.mul_one, Nat.add_zero] at this; exact this
theorem reads_form {w : World} {B : Nat} {A : Option Addr} {n : Nat} {f : Nat → Value} (h : Reads w B A n f) (hn : 0 < n) : ∃ b off, A = some ⟨b, off, none⟩ ∧ b < B := by
  obtain ⟨b, off, e, hlt, _⟩ := h.2 hn
  exact ⟨b, off, e, hlt⟩
theorem reads_nil (w : World) (B : Nat) (f : Nat → Value) : Reads w B none 0 f := ⟨fun _ => rfl, fun h => absurd h (by omega)⟩
theorem reads_congr {w : World} {B : Nat} {A : Option Addr} {n : Nat} {f g : Nat → Value} (h : Reads w B A n f) (he : ∀ i, i < n → f i = g i) : Reads w B A n g :=
  ⟨h.1, fun h0 => by
    obtain ⟨b, off, e, hlt, hc⟩ := h.2 h0
    exact ⟨b, off, e, hlt, fun i j hi hj => (hc i j hi hj).trans (by show some (f i) = some (g i); rw [he i hi])⟩⟩

/-- a row of the call's own -/
def Own (w : World) (base : Nat) (E : TypeId) (v : Value) (n : Nat) (f : Nat → Value) : Prop := w.ownsRow base E 1 v n (vals n f)
section
variable {w : World} {base : Nat} {E : TypeId} {v : Value} {n c : Nat} {A : Option Addr} {f : Nat → Value}
theorem Own.reads (h : Own w base E (.slice A n c) n f) : Reads w w.heap.size A n f := by
  rcases h.2 with ⟨h', hn⟩ | ⟨g, cap, cur, h', hb, hg, hnc, hcm, hcs, ht⟩
  · injection h' with h1 h2 h3
    exact ⟨fun _ => hn, fun h0 => absurd h0 (by omega)⟩
  · injection h' with h1 h2 h3
    subst h1
    subst h3
    refine ⟨fun h0 => (by cases h0), fun _ => ⟨g, 0, rfl, ?_, fun i j hi hj => ?_⟩⟩
    · rcases Nat.lt_or_ge g w.heap.size with hlt | hge
      · exact hlt
      · rw [Array.getElem?_eq_none hge] at hg; cases hg
    · obtain rfl : j = 0 := by omega
      rw [Nat.mul_one, Nat.add_zero, Nat.zero_add]
      rw [World.ownsRow.cellAt h i (by omega)]
      exact vals_at hi
/-- a value that reads as a list, whatever its form -/
def RdV (w : World) (v : Value) (n : Nat) (f : Nat → Value) : Prop := ∃ A c, v = .slice A n c ∧ Reads w w.heap.size A n f ∧ (A = none → c = 0) ∧ n ≤ c ∧ c ≤ 9223372036854775807
theorem RdV.later {w' : World} (h : RdV w v n f) (hb : Below w.heap.size w w') : RdV w' v n f := by
  obtain ⟨A, c, e, hr, h1, h2, h3⟩ := h
  exact ⟨A, c, e, hr.later hb, h1, h2, h3⟩
theorem Own.form (h : Own w base E v n f) (hn : 0 < n) : ∃ g cap, v = .slice (some ⟨g, 0, none⟩) n cap ∧ base ≤ g ∧ g < w.heap.size ∧ n ≤ cap ∧ cap ≤ 9223372036854775807 := by
  rcases h.2 with ⟨_, h0⟩ | ⟨g, cap, cur, h', hb, hg, hnc, hm, _⟩
  · omega
  · refine ⟨g, cap, h', hb, ?_, hnc, by unfold maxLen at hm; omega⟩
    rcases Nat.lt_or_ge g w.heap.size with hlt | hge
    · exact hlt
    · rw [Array.getElem?_eq_none hge] at hg; cases hg
/-- whether empty or not -/
theorem Own.shape (h : Own w base E v n f) : ∃ A cap, v = .slice A n cap ∧ n ≤ cap ∧ cap ≤ 9223372036854775807 ∧ (A = none → n = 0 ∧ cap = 0) ∧ (∀ a, A = some a → ∃ g, a = ⟨g, 0, none⟩ ∧ base ≤ g ∧ g < w.heap.size) := by
  rcases h.2 with ⟨h', h0⟩ | ⟨g, cap, cur, h', hb, hg, hnc, hm, _⟩
  · subst h0
    exact ⟨none, 0, h', Nat.le_refl _, by omega, fun _ => ⟨rfl, rfl⟩, fun a e => by cases e⟩
  · refine ⟨_, cap, h', hnc, by unfold maxLen at hm; omega, fun e => (by cases e), fun a e => ?_⟩
    injection e with e
    subst e
    refine ⟨g, rfl, hb, ?_⟩
    rcases Nat.lt_or_ge g w.heap.size with hlt | hge
    · exact hlt
    · rw [Array.getElem?_eq_none hge] at hg; cases hg
theorem Own.reads' (h : Own w base E v n f) : RdV w v n f := by
  obtain ⟨A, cap, rfl, h1, h2, h3, _⟩ := h.shape
  exact ⟨A, cap, rfl, h.reads, fun e => (h3 e).2, h1, h2⟩
theorem Own.congr {g : Nat → Value} (h : Own w base E v n f) (he : ∀ i, i < n → f i = g i) : Own w base E v n g := by
  unfold Own; rw [← vals_congr he]; exact h
theorem Own.cell {g cap k : Nat} (h : Own w base E (.slice (some ⟨g, 0, none⟩) n cap) n f) (hk : k < n) : w.cell? ⟨g, k, none⟩ = some (f k) := by
  rw [World.ownsRow.cellAt h k (by omega)]
  exact vals_at hk
theorem Own.free {g cap : Nat} (h : Own w base E (.slice (some ⟨g, 0, none⟩) n cap) n f) (k : Nat) : w.frozen? ⟨g, k, none⟩ = false := World.ownsRow.frozenAt h k
theorem Own.alloc (h : Own w base E v n f) (o : Obj) : Own (w.alloc o) base E v n f := World.ownsRow.alloc h o
theorem Own.later {w' : World} {B : Nat} (h : Own w base E v n f) (hb : Below B w w') (hB : w.heap.size ≤ B) : Own w' base E v n f := by
  refine ⟨h.1, ?_⟩
  rcases h.2 with h' | ⟨g, cap, cur, h', hbg, hg, hnc, hcm, hcs, ht⟩
  · exact .inl h'
  · have hlt : g < w.heap.size := by
      rcases Nat.lt_or_ge g w.heap.size with hlt | hge
      · exact hlt
      · rw [Array.getElem?_eq_none hge] at hg; cases hg
    exact .inr ⟨g, cap, cur, h', hbg, (hb.block g (by omega)).trans hg, hnc, hcm, hcs, ht⟩
theorem Own.stored {g cap k : Nat} (h : Own w base E (.slice (some ⟨g, 0, none⟩) n cap) n f) (u : Value) :
    Own (w.setCell ⟨g, k, none⟩ u) base E (.slice (some ⟨g, 0, none⟩) n cap) n (fun i => if i = k then u else f i) := by
  have := (World.ownsRow.stored h k u).1
  rw [vals_set] at this; exact this
theorem own_nil (w : World) (base : Nat) (E : TypeId) (f : Nat → Value) : Own w base E (.slice none 0 0) 0 f := World.ownsRow_nil w base E 1
theorem own_empty (w : World) (base : Nat) (E : TypeId) (f : Nat → Value) (hb : base ≤ w.heap.size) : Own (w.alloc (.cells #[] E)) base E (.slice (some ⟨w.heap.size, 0, none⟩) 0 0) 0 f :=
  World.ownsRow_lit w #[] 0 hb (by unfold maxLen; omega) rfl
theorem below_grown {W w' : World} (hb : Below W.heap.size W w) (h : Own w W.heap.size E v n f) (hg : w.grownBy w' v.ownBlock) : Below W.heap.size W w' :=
  hb.grown hg hb.size fun k hk => (World.ownsRow.lt h k hk).1
end

/-- an append of a whole list, nil or not, to a row of the call's own -/
theorem append_list {P : Program} {w : World} {ops : Array Oper} {rest : List Oper} {o : Oper} {a : Act} {Q : Exit → Act → World → Prop} (hgd : o.guard = none) (s x : Operand) (t : TypeId)
    (ho : o.op = .call { callee := .builtin .append, args := #[s, x], argTypes := #[t, t] })
    (base : Nat) (E : TypeId) (i : TypeInfo) (z : Value) (by_ : Nat) (ht : P.underlying t = some (.slice E)) (hi : P.info? E = some i) (hz : i.zero = some z) (hsize : i.size = 1) (hby : i.bytes = by_) (hzc : z.cells.size = 1)
    (v : Value) (n : Nat) (f : Nat → Value) (hs : a.eval s = v) (hown : Own w base E v n f)
    (B : Nat) (A : Option Addr) (m c : Nat) (h : Nat → Value) (hx : a.eval x = .slice A m c) (hr : Reads w B A m h) (hone : ∀ i, i < m → (h i).oneCell' = true) (hnil : A = none → c = 0)
    (hn : n + m ≤ maxLen) (hn' : (n + m) * by_ ≤ 140737488355328) (hbase : base ≤ w.heap.size)
    (K : ∀ v' w', Own w' base E v' (n + m) (fun i => if i < n then f i else h (i - n)) → w.grownBy w' v.ownBlock → wpList P ops Q rest (a.put o.dst v') w') : wpList P ops Q (o :: rest) a w := by
  by_cases hA : A = none
  · subst hA
    obtain rfl := hnil rfl
    obtain rfl := hr.1 rfl
    refine wpList_append_own_none hgd s x t ho base E i 1 ht hi v n (vals n f) hs hown hx (K v w ?_ (grownBy_same w _))
    exact Own.congr (E := E) (f := f) hown (fun i hi => (if_pos (by omega)).symm)
  · have hcells : ∃ ad, A = some ad ∧ ∀ j u, (vals m h)[j]? = some u → w.cell? (ad.add j) = some u := by
      rcases A with _ | ad
      · exact absurd rfl hA
      · refine ⟨ad, rfl, fun j u hu => ?_⟩
        obtain ⟨hj, rfl⟩ := vals_get hu
        obtain ⟨b, off, e, _, hc⟩ := hr.2 (by omega)
        injection e with e
        subst e
        rw [add_form]
        have := hc j 0 hj (by omega)
        rw [Nat.mul_one, Nat.add_zero] at this; exact this
    obtain ⟨ad, rfl, hc⟩ := hcells
    refine wpList_append_own w hgd s x t ho base E i z 1 by_ ht hi hz hsize hby hzc (by decide) v n (vals n f) hs hown ad m c (vals m h) hx (by rw [vals_length]; omega) hc ?_ hn hn' hbase ?_
    · intro u hu
      simp only [vals, List.mem_map, List.mem_range] at hu
      obtain ⟨j, hj, rfl⟩ := hu
      exact hone j hj
    · intro v' w' h1 h2 _
      rw [vals_append] at h1
      exact K v' w' h1 h2
/-- a list of one thing that was just laid -/
theorem reads_new (w : World) (u : Value) (t : TypeId) : Reads (w.alloc (.cells #[u] t)) (w.heap.size + 1) (some ⟨w.heap.size, 0, none⟩) 1 (fun _ => u) :=
  ⟨fun e => (by cases e), fun _ => ⟨w.heap.size, 0, rfl, by omega, fun i j hi hj => by
    obtain rfl : i = 0 := by omega
    obtain rfl : j = 0 := by omega
    rw [cell_of_row _ _ _ _ _ _ (heap_alloc_new w _)]; rfl⟩⟩

/-- what a walk is told of a list of whole numbers that came in -/
structure IntsArg (k : IntKind) (by_ : Nat) (w : World) (A : Option Addr) (n c : Nat) (f : Nat → Int) : Prop where
  rd : Reads w w.heap.size A n (fun i => .int k (f i))
  nil_ : A = none → c = 0
  le : n ≤ c
  cap : c ≤ 9223372036854775807
  wf : ∀ i, i < n → (Lit.int k (f i)).wf = true
theorem ints_arg {H : Type} {enc : TypeId × Value → H} {P : Program} {w : World} {T E : TypeId} {k : IntKind} {A : Option Addr} {n c : Nat} {d : DataW H} {p : List MemPlace} (hT : P.underlying T = some (.slice E)) (hE : P.underlying E = some (.int k)) (hC : P.cellsOf E = 1)
    (h : DataW.Trod enc P w 0 (fun _ => true) true T (.slice A n c) d p) : ∃ f : Nat → Int, IntsArg k 8 w A n c f := by
  obtain ⟨V, hr, hnil, hl, hm, he⟩ := recs_of (sz := 1) hT hC (by omega) h
  have hV : ∀ i, i < n → V i 0 = .int k (intV (V i 0)) ∧ (Lit.int k (intV (V i 0))).wf = true := by
    intro i hi
    obtain ⟨cs, m, x, hcl, hv, ht⟩ := he i hi
    obtain ⟨z, hz, _, hw⟩ := DataW.trod_int hE ht
    have := hv 0 (by omega)
    rw [hz] at this
    have e : V i 0 = .int k z := by simpa using this.symm
    rw [e]; exact ⟨rfl, hw⟩
  refine ⟨fun i => intV (V i 0), ⟨⟨hr.1, fun h0 => ?_⟩, hnil, hl, by unfold maxLen at hm; omega, fun i hi => (hV i hi).2⟩⟩
  obtain ⟨b, off, e, hlt, hc⟩ := hr.2 h0
  refine ⟨b, off, e, hlt, fun i j hi hj => ?_⟩
  obtain rfl : j = 0 := by omega
  rw [hc i 0 hi hj, (hV i hi).1]
end Go.Proofs.Ytoiofdoipmdajaa.Lst
