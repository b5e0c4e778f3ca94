
/- Rows of records of the call's own, as functions of the place and of the field. No code of the program. -/
import Derived.Test.YtoiofdoipmdajaaList
namespace Go.Proofs.Ytoiofdoipmdajaa.Row
open Go.ChangeShapes Go.WideShapes Go.ChangeAt Go.RowKit Go.Deep
open Mem Arr Lst

/-- the cells of n records of sz cells each -/
def flat (n sz : Nat) (V : Nat → Nat → Value) : List Value := vals (n * sz) (fun k => V (k / sz) (k % sz))
theorem flat_length (n sz : Nat) (V : Nat → Nat → Value) : (flat n sz V).length = n * sz := vals_length _ _
theorem div_at {sz i j : Nat} (h : j < sz) : (i * sz + j) / sz = i := by
  rw [Nat.mul_comm, Nat.mul_add_div (by omega), Nat.div_eq_of_lt h, Nat.add_zero]
theorem mod_at {sz i j : Nat} (h : j < sz) : (i * sz + j) % sz = j := by
  rw [Nat.mul_comm, Nat.mul_add_mod, Nat.mod_eq_of_lt h]
theorem lt_at {n sz i j : Nat} (hi : i < n) (hj : j < sz) : i * sz + j < n * sz := by
  have : (i + 1) * sz ≤ n * sz := Nat.mul_le_mul_right sz (by omega)
  rw [Nat.add_mul, Nat.one_mul] at this
  omega
theorem flat_at {n sz i j : Nat} {V : Nat → Nat → Value} (hi : i < n) (hj : j < sz) : (flat n sz V)[i * sz + j]? = some (V i j) := by
  unfold flat
  rw [vals_at (lt_at hi hj), div_at hj, mod_at hj]
theorem flat_get {n sz k : Nat} {V : Nat → Nat → Value} {u : Value} (h : (flat n sz V)[k]? = some u) : k < n * sz ∧ u = V (k / sz) (k % sz) := vals_get h
theorem flat_congr {n sz : Nat} {V U : Nat → Nat → Value} (h : ∀ i j, i < n → j < sz → V i j = U i j) (hs : 0 < sz) : flat n sz V = flat n sz U :=
  vals_congr fun k hk => h _ _ (Nat.div_lt_of_lt_mul (by rw [Nat.mul_comm]; exact hk)) (Nat.mod_lt _ hs)
theorem flat_append (n m sz : Nat) (V U : Nat → Nat → Value) (hs : 0 < sz) : flat n sz V ++ flat m sz U = flat (n + m) sz (fun i j => if i < n then V i j else U (i - n) j) := by
  unfold flat
  rw [vals_append, ← Nat.add_mul]
  refine vals_congr fun k hk => ?_
  by_cases h : k < n * sz
  · rw [if_pos h]
    show _ = if k / sz < n then _ else _
    rw [if_pos (Nat.div_lt_of_lt_mul (by rw [Nat.mul_comm]; exact h))]
  · have e : k = n * sz + (k - n * sz) := by omega
    have e1 : k / sz = n + (k - n * sz) / sz := by
      conv => lhs; rw [e]
      rw [Nat.mul_comm n sz, Nat.mul_add_div hs]
    have e2 : k % sz = (k - n * sz) % sz := by
      conv => lhs; rw [e]
      rw [Nat.mul_comm n sz, Nat.mul_add_mod]
    rw [if_neg h]
    show _ = if k / sz < n then _ else U (k / sz - n) (k % sz)
    rw [e1, e2, if_neg (Nat.not_lt.2 (Nat.le_add_right _ _)), Nat.add_sub_cancel_left]
theorem flat_set {n sz i j : Nat} (V : Nat → Nat → Value) (u : Value) (hj : j < sz) : (flat n sz V).set (i * sz + j) u = flat n sz (fun a b => if a = i ∧ b = j then u else V a b) := by
  unfold flat
  rw [vals_set]
  refine vals_congr fun k _ => ?_
  by_cases h : k = i * sz + j
  · subst h; rw [if_pos rfl, div_at hj, mod_at hj]
    show _ = if i = i ∧ j = j then u else _
    rw [if_pos ⟨rfl, rfl⟩]
  · rw [if_neg h]
    show _ = if k / sz = i ∧ k % sz = j then u else _
    rw [if_neg]
    rintro ⟨h1, h2⟩
    apply h
    have := Nat.div_add_mod k sz
    rw [h1, h2, Nat.mul_comm] at this
    omega

/-- a row of n records of the call's own -/
def Own (w : World) (base : Nat) (E : TypeId) (sz : Nat) (v : Value) (n : Nat) (V : Nat → Nat → Value) : Prop := w.ownsRow base E sz v n (flat n sz V)
/-- a value that reads as a list of records, whatever its form -/
def RdR (w : World) (sz : Nat) (v : Value) (n : Nat) (V : Nat → Nat → Value) : Prop := ∃ A c, v = .slice A n c ∧ Recs w w.heap.size A n sz V ∧ (A = none → c = 0) ∧ n ≤ c ∧ c ≤ 9223372036854775807
section
variable {w : World} {base : Nat} {E : TypeId} {sz : Nat} {v : Value} {n c : Nat} {A : Option Addr} {V : Nat → Nat → Value}
theorem RdR.later {w' : World} (h : RdR w sz v n V) (hb : Below w.heap.size w w') : RdR w' sz v n V := by
  obtain ⟨A, c, e, hr, h1, h2, h3⟩ := h
  exact ⟨A, c, e, hr.later hb, h1, h2, h3⟩
theorem Own.shape (h : Own w base E sz v n V) : ∃ A cap, v = .slice A n cap ∧ n ≤ cap ∧ cap ≤ 9223372036854775807 ∧ (A = none → n = 0 ∧ cap = 0) ∧ (∀ a, A = some a → ∃ g, a = ⟨g, 0, none⟩ ∧ base ≤ g ∧ g < w.heap.size) := by
  rcases h.2 with ⟨h', h0⟩ | ⟨g, cap, cur, h', hb, hg, hnc, hm, _⟩
  · subst h0
    exact ⟨none, 0, h', Nat.le_refl _, by omega, fun _ => ⟨rfl, rfl⟩, fun a e => by cases e⟩
  · refine ⟨_, cap, h', hnc, by unfold maxLen at hm; omega, fun e => (by cases e), fun a e => ?_⟩
    injection e with e
    subst e
    refine ⟨g, rfl, hb, ?_⟩
    rcases Nat.lt_or_ge g w.heap.size with hlt | hge
    · exact hlt
    · rw [Array.getElem?_eq_none hge] at hg; cases hg
theorem Own.form (h : Own w base E sz v n V) (hn : 0 < n) : ∃ g cap, v = .slice (some ⟨g, 0, none⟩) n cap ∧ base ≤ g ∧ g < w.heap.size ∧ n ≤ cap ∧ cap ≤ 9223372036854775807 := by
  rcases h.2 with ⟨_, h0⟩ | ⟨g, cap, cur, h', hb, hg, hnc, hm, _⟩
  · omega
  · refine ⟨g, cap, h', hb, ?_, hnc, by unfold maxLen at hm; omega⟩
    rcases Nat.lt_or_ge g w.heap.size with hlt | hge
    · exact hlt
    · rw [Array.getElem?_eq_none hge] at hg; cases hg
theorem Own.cell {g cap i j : Nat} (h : Own w base E sz (.slice (some ⟨g, 0, none⟩) n cap) n V) (hi : i < n) (hj : j < sz) : w.cell? ⟨g, i * sz + j, none⟩ = some (V i j) := by
  rw [World.ownsRow.cellAt h _ (lt_at hi hj)]
  exact flat_at hi hj
theorem Own.free {g cap : Nat} (h : Own w base E sz (.slice (some ⟨g, 0, none⟩) n cap) n V) (k : Nat) : w.frozen? ⟨g, k, none⟩ = false := World.ownsRow.frozenAt h k
theorem Own.recs (h : Own w base E sz (.slice A n c) n V) : Recs w w.heap.size A n sz V := by
  obtain ⟨A', cap, e, _, _, h1, h2⟩ := h.shape
  injection e with e1 e2 e3
  subst e1
  subst e3
  refine ⟨fun e => (h1 e).1, fun h0 => ?_⟩
  rcases A with _ | a
  · have := (h1 rfl).1; omega
  · obtain ⟨g, rfl, _, hg⟩ := h2 a rfl
    refine ⟨g, 0, rfl, hg, fun i j hi hj => ?_⟩
    rw [Nat.zero_add]
    exact h.cell hi hj
theorem Own.rd (h : Own w base E sz v n V) : RdR w sz v n V := by
  obtain ⟨A, cap, rfl, h1, h2, h3, _⟩ := h.shape
  exact ⟨A, cap, rfl, h.recs, fun e => (h3 e).2, h1, h2⟩
theorem Own.congr {U : Nat → Nat → Value} (h : Own w base E sz v n V) (hs : 0 < sz) (he : ∀ i j, i < n → j < sz → V i j = U i j) : Own w base E sz v n U := by
  unfold Own; rw [← flat_congr he hs]; exact h
theorem Own.alloc (h : Own w base E sz v n V) (o : Obj) : Own (w.alloc o) base E sz v n V := World.ownsRow.alloc h o
theorem Own.later {w' : World} {B : Nat} (h : Own w base E sz v n V) (hb : Below B w w') (hB : w.heap.size ≤ B) : Own w' base E sz v n V := by
  refine ⟨h.1, ?_⟩
  rcases h.2 with h' | ⟨g, cap, cur, h', hbg, hg, hnc, hcm, hcs, ht⟩
  · exact .inl h'
  · have hlt : g < w.heap.size := by
      rcases Nat.lt_or_ge g w.heap.size with hlt | hge
      · exact hlt
      · rw [Array.getElem?_eq_none hge] at hg; cases hg
    exact .inr ⟨g, cap, cur, h', hbg, (hb.block g (by omega)).trans hg, hnc, hcm, hcs, ht⟩
theorem Own.drewN (h : Own w base E sz v n V) (k : Nat) : Own (w.drewN k) base E sz v n V := h
theorem Own.stored {g cap i j : Nat} (h : Own w base E sz (.slice (some ⟨g, 0, none⟩) n cap) n V) (u : Value) (hj : j < sz) :
    Own (w.setCell ⟨g, i * sz + j, none⟩ u) base E sz (.slice (some ⟨g, 0, none⟩) n cap) n (fun a b => if a = i ∧ b = j then u else V a b) := by
  have := (World.ownsRow.stored h (i * sz + j) u).1
  rw [flat_set V u hj] at this; exact this
theorem own_nil (w : World) (base : Nat) (E : TypeId) (sz : Nat) (V : Nat → Nat → Value) : Own w base E sz (.slice none 0 0) 0 V := by
  have : flat 0 sz V = [] := by unfold flat vals; simp
  unfold Own; rw [this]; exact World.ownsRow_nil w base E sz
theorem own_empty (w : World) (base : Nat) (E : TypeId) (sz : Nat) (V : Nat → Nat → Value) (hb : base ≤ w.heap.size) : Own (w.alloc (.cells #[] E)) base E sz (.slice (some ⟨w.heap.size, 0, none⟩) 0 0) 0 V := by
  have : flat 0 sz V = [] := by unfold flat vals; simp
  unfold Own; rw [this]
  exact World.ownsRow_lit w #[] 0 hb (by unfold maxLen; omega) (by simp)
theorem below_grown {W w' : World} (hb : Below W.heap.size W w) (h : Own w W.heap.size E sz v n V) (hg : w.grownBy w' v.ownBlock) : Below W.heap.size W w' :=
  hb.grown hg hb.size fun k hk => (World.ownsRow.lt h k hk).1
end

/-- an append of a whole list of records, nil or not, to a row of the call's own -/
theorem append_rows {P : Program} {w : World} {ops : Array Oper} {rest : List Oper} {o : Oper} {a : Act} {Q : Exit → Act → World → Prop} (hgd : o.guard = none) (s x : Operand) (t : TypeId)
    (ho : o.op = .call { callee := .builtin .append, args := #[s, x], argTypes := #[t, t] })
    (base : Nat) (E : TypeId) (i : TypeInfo) (z : Value) (sz by_ : Nat) (hs0 : 0 < sz) (ht : P.underlying t = some (.slice E)) (hi : P.info? E = some i) (hz : i.zero = some z) (hsize : i.size = sz) (hby : i.bytes = by_) (hzc : z.cells.size = sz)
    (v : Value) (n : Nat) (V : Nat → Nat → Value) (hs : a.eval s = v) (hown : Own w base E sz v n V)
    (B : Nat) (A : Option Addr) (m c : Nat) (U : Nat → Nat → Value) (hx : a.eval x = .slice A m c) (hr : Recs w B A m sz U) (hone : ∀ i j, i < m → j < sz → (U i j).oneCell' = true) (hnil : A = none → c = 0)
    (hn : n + m ≤ maxLen) (hn' : (n + m) * by_ ≤ 140737488355328) (hbase : base ≤ w.heap.size)
    (K : ∀ v' w', Own w' base E sz v' (n + m) (fun i j => if i < n then V i j else U (i - n) j) → w.grownBy w' v.ownBlock → wpList P ops Q rest (a.put o.dst v') w') : wpList P ops Q (o :: rest) a w := by
  by_cases hA : A = none
  · subst hA
    obtain rfl := hnil rfl
    obtain rfl := hr.1 rfl
    refine wpList_append_own_none hgd s x t ho base E i sz ht hi v n (flat n sz V) hs hown hx (K v w ?_ (grownBy_same w _))
    exact Own.congr (E := E) (V := V) hown hs0 (fun i j hi _ => (if_pos (by omega)).symm)
  · have hcells : ∃ ad, A = some ad ∧ ∀ j u, (flat m sz U)[j]? = some u → w.cell? (ad.add j) = some u := by
      rcases A with _ | ad
      · exact absurd rfl hA
      · refine ⟨ad, rfl, fun k u hu => ?_⟩
        obtain ⟨hk, rfl⟩ := flat_get hu
        have hm : 0 < m := by
          rcases Nat.eq_zero_or_pos m with h | h
          · subst h; omega
          · exact h
        obtain ⟨b, off, e, _, hc⟩ := hr.2 hm
        injection e with e
        subst e
        rw [add_form]
        have := hc (k / sz) (k % sz) (Nat.div_lt_of_lt_mul (by rw [Nat.mul_comm]; exact hk)) (Nat.mod_lt _ hs0)
        rw [Nat.mul_comm, Nat.div_add_mod] at this; exact this
    obtain ⟨ad, rfl, hc⟩ := hcells
    refine wpList_append_own w hgd s x t ho base E i z sz by_ ht hi hz hsize hby hzc hs0 v n (flat n sz V) hs hown ad m c (flat m sz U) hx (flat_length _ _ _) hc ?_ hn hn' hbase ?_
    · intro u hu
      obtain ⟨k, hk, rfl⟩ := List.getElem_of_mem hu
      have h2 := flat_get (List.getElem?_eq_getElem hk)
      rw [h2.2]
      exact hone _ _ (Nat.div_lt_of_lt_mul (by rw [Nat.mul_comm]; exact h2.1)) (Nat.mod_lt _ hs0)
    · intro v' w' h1 h2 _
      rw [flat_append _ _ _ _ _ hs0] at h1
      exact K v' w' h1 h2
end Go.Proofs.Ytoiofdoipmdajaa.Row
