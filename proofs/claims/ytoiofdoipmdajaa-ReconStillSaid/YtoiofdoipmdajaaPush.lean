
/- One record more behind a row of the call's own: what the append comes to, and which block the row lies in then. No code of the program. -/
import Derived.Test.YtoiofdoipmdajaaRow
import Derived.Test.YtoiofdoipmdajaaStX0
namespace Go.Proofs.Ytoiofdoipmdajaa.Push
open Go.ChangeShapes Go.WideShapes Go.ChangeAt Go.RowKit
open Mem Arr Lst St0
/-- the block that a value lies in is a given one, or a new one -/
def SameOr (w : World) (v v' : Value) : Prop := v'.ownBlock = v.ownBlock ∨ v'.ownBlock = some w.heap.size
theorem run_push {P : Program} (w : World) (base : Nat) (t ty E : TypeId) (i : TypeInfo) (z : Value) (sz by_ : Nat) (hs0 : 0 < sz) (ht : P.underlying t = some (.slice E)) (hi : P.info? E = some i) (hz : i.zero = some z) (hsize : i.size = sz) (hby : i.bytes = by_) (hzc : z.cells.size = sz)
    (v : Value) (n : Nat) (V : Nat → Nat → Value) (hown : Row.Own w base E sz v n V) (g c1 : Nat) (cs : Array Value) (hcs : cs.size = sz) (h1 : cs.all (·.oneCell') = true) (hy : w.heap[g]? = some (.cells cs E (0, 0)))
    (hn : n + 1 ≤ maxLen) (hn' : (n + 1) * by_ ≤ 140737488355328) (hbase : base ≤ w.heap.size) :
    ∃ v' w', (Builtin.append_ #[t, t] ty #[v, .slice (some ⟨g, 0, none⟩) 1 c1]).run P w = .ok v' w' ∧ Row.Own w' base E sz v' (n + 1) (fun i j => if i < n then V i j else (cs[j]?).getD undef) ∧ w.grownBy w' v.ownBlock ∧ SameOr w v v' := by
  have hl : cs.toList.length = 1 * sz := by simp [hcs]
  have hnews : ∀ j u, cs.toList[j]? = some u → w.cell? ((⟨g, 0, none⟩ : Addr).add j) = some u := fun j u hj => by
    have e : (⟨g, 0, none⟩ : Addr).add j = ⟨g, j, none⟩ := by unfold Addr.add; split <;> simp_all
    rw [e, cell_of_row _ _ _ _ _ _ hy]; simpa using hj
  have hone : ∀ u ∈ cs.toList, u.oneCell' = true := fun u hu => Array.all_eq_true_iff_forall_mem.1 h1 u (by simpa using hu)
  obtain ⟨v', w', hr, ho, hg, _⟩ := run_append_own (P := P) w base t ty E i z sz by_ ht hi hz hsize hby hzc hs0 v n (Row.flat n sz V) hown ⟨g, 0, none⟩ 1 c1 cs.toList hl hnews hone hn hn' hbase
  refine ⟨v', w', hr, ?_, hg, ?_⟩
  · have e : cs.toList = Row.flat 1 sz (fun _ j => (cs[j]?).getD undef) := by
      apply List.ext_getElem?
      intro k
      by_cases hk : k < sz
      · have := Row.flat_at (n := 1) (sz := sz) (i := 0) (j := k) (V := fun _ j => (cs[j]?).getD undef) (by omega) hk
        rw [Nat.zero_mul, Nat.zero_add] at this
        rw [this, Array.getElem?_toList, Array.getElem?_eq_getElem (by omega)]; rfl
      · rw [List.getElem?_eq_none (by simp; omega), List.getElem?_eq_none (by rw [Row.flat_length]; omega)]
    rw [e, Row.flat_append _ _ _ _ _ hs0] at ho
    exact ho
  · have hn2 : n + 1 ≤ 9223372036854775807 := by unfold maxLen at hn; omega
    subst hsize
    subst hby
    rcases hown.2 with ⟨rfl, rfl⟩ | ⟨g', cap, cur, rfl, hbg, hg', hnc, hcm, hc, htake⟩
    · have := run_append_nil (P := P) w t ty E i z ht hi hz ⟨g, 0, none⟩ 1 c1 cs.toList hl hnews (by omega) (by omega) (by omega)
      rw [hr] at this
      injection this with e1 e2
      subst e1
      exact .inr rfl
    · by_cases hroom : n + 1 ≤ cap
      · have hfit : n * i.size + cs.toList.length ≤ cur.size := by rw [hl, hc, ← Nat.add_mul]; exact Nat.mul_le_mul_right _ hroom
        have := run_append_room (P := P) w t ty E i ht hi g' n cap cur hg' ⟨g, 0, none⟩ 1 c1 cs.toList hl hnews hone hroom hfit
        rw [hr] at this
        injection this with e1 e2
        subst e1
        exact .inl rfl
      · have holds : ∀ j u, (Row.flat n i.size V)[j]? = some u → w.cell? ((⟨g', 0, none⟩ : Addr).add j) = some u := World.ownsRow.cells hown (g := g') rfl
        have := run_append_grow (P := P) w t ty E i z ht hi hz ⟨g', 0, none⟩ n cap (Row.flat n i.size V) hown.1 holds ⟨g, 0, none⟩ 1 c1 cs.toList hl hnews (by omega) (by omega) (growslice_fits (by omega) hn')
        rw [hr] at this
        injection this with e1 e2
        subst e1
        exact .inr rfl
theorem exec_append {P : Program} {o : Oper} {a : Act} {w w' : World} {v v' x : Value} {t : TypeId} (s y : Operand) (ho : o.op = .call { callee := .builtin .append, args := #[s, y], argTypes := #[t, t] }) (hs : a.eval s = v) (hx : a.eval y = x)
    (hr : (Builtin.append_ #[t, t] o.type #[v, x]).run P w = .ok v' w') : (execOp a.eval o).run P w = .ok (.value v') w' := by
  unfold execOp
  simp only [ho, resolve, invoke, builtin, Sem.run_bind, Sem.run_pure, Result.andThen_ok, List.map_toArray, List.map_cons, List.map_nil, hs, hx, hr]
theorem grown_t {w w1 w2 : World} {r : Option Nat} (h : w.grownBy w1 r) (k : w1.grownBy w2 r) : w.grownBy w2 r :=
  ⟨k.os.trans h.os, k.tape.trans h.tape, k.output.trans h.output, Nat.le_trans h.size k.size, fun q hq he => (k.block q (Nat.lt_of_lt_of_le hq h.size) he).trans (h.block q hq he)⟩
theorem grown_of {A B : World} {r : Option Nat} (h : Below A.heap.size A B) : A.grownBy B r := ⟨h.os, h.tape, h.output, h.size, fun k hk _ => h.block k hk⟩
theorem grown_box {w w' : World} {r : Option Nat} (h : w.grownBy w' r) {k : Nat} {o : Obj} (hk : w.heap[k]? = some o) (hne : r ≠ some k) : w'.heap[k]? = some o :=
  (h.block k (Array.getElem?_eq_some_iff.1 hk).1 (fun e => hne e.symm)).trans hk
theorem own_grown {w w' : World} {base : Nat} {E : TypeId} {sz n : Nat} {v : Value} {V : Nat → Nat → Value} {r : Option Nat} (h : Row.Own w base E sz v n V) (hg : w.grownBy w' r) (hne : v.ownBlock = none ∨ v.ownBlock ≠ r) : Row.Own w' base E sz v n V :=
  World.ownsRow.kept h hg hne
theorem own_lt {w : World} {base : Nat} {E : TypeId} {sz n : Nat} {v : Value} {V : Nat → Nat → Value} (h : Row.Own w base E sz v n V) : ∀ k, v.ownBlock = some k → base ≤ k ∧ k < w.heap.size := World.ownsRow.lt h
theorem below_own {w w' : World} {r : Option Nat} {B : Nat} (h : w.grownBy w' r) (hB : B ≤ w.heap.size) (hr : ∀ k, r = some k → B ≤ k) : Below B w w' :=
  ⟨h.os, h.tape, h.output, h.size, fun k hk => h.block k (by omega) (fun e => by have := hr k e.symm; omega)⟩
/-- of a check over the operations: what stands behind another is not done while that is not -/
def after_ (ops : Array Oper) (j i : Nat) : Bool := match ops[j]? with | some o => o.after.any fun e => Region.binds .any e && decide (e.on = i) | none => false
theorem not_yet {ops : Array Oper} {L : Nat → Bool} (hcl : ∀ i o, ops[i]? = some o → L i = true → ∀ e ∈ o.after, Region.binds .any e = true → L e.on = true) {i j : Nat} (hi : L i = false) (h : after_ ops j i = true) : L j = false := by
  unfold after_ at h
  cases hj : L j with
  | false => rfl
  | true =>
    cases ho : ops[j]? with
    | none => rw [ho] at h; cases h
    | some o =>
      rw [ho] at h
      simp only [Array.any_eq_true'] at h
      obtain ⟨e, he, hb⟩ := h
      simp only [Bool.and_eq_true, decide_eq_true_eq] at hb
      have := hcl j o ho hj e he hb.1
      rw [hb.2, hi] at this; cases this
end Go.Proofs.Ytoiofdoipmdajaa.Push
