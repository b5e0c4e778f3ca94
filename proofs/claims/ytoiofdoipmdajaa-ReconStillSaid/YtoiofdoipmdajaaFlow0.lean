
/- A region that draws its order, walked operation by operation: each says what it leaves, and leaves the others' what they have. No code of the program. -/
import Derived.Test.YtoiofdoipmdajaaDrw
import Derived.Test.YtoiofdoipmdajaaStX0
import Derived.Deep.MidRow
namespace Go.Proofs.Ytoiofdoipmdajaa.Flow
open Drw
open Go.ChangeShapes Go.WideShapes Go.ChangeAt Go.RowKit Go.Deep
abbrev Fact := Value → World → Prop
def gOf (Gs : List Fact) (i : Nat) : Fact := Gs.getD i fun _ _ => True
def sOf (sls : List Nat) (i : Nat) : Nat := sls.getD i 0
/-- what stands behind the operations that go ahead -/
def deps (Gs : List Fact) (sls : List Nat) (a : Act) (w : World) : List Edge → Prop
  | [] => True
  | e :: r => if Region.binds .any e = true then (∃ v, a.tmps[sOf sls e.on]? = some v ∧ gOf Gs e.on v w) ∧ deps Gs sls a w r else deps Gs sls a w r
/-- what is done, all that it stands behind is done -/
def closed (ops : Array Oper) (L : Nat → Bool) : Prop := ∀ i o, ops[i]? = some o → L i = true → ∀ e ∈ o.after, Region.binds .any e = true → L e.on = true
def stepGoal (P : Program) (Q : Exit → Act → World → Prop) (I : (Nat → Bool) → World → Prop) (Gs : List Fact) (sls : List Nat) (i : Nat) (o : Oper) (L : Nat → Bool) (a : Act) (w : World) : Prop :=
  o.wp P a w (fun a' w' => ∃ v, a' = a.put o.dst v ∧ I (fun j => if j = i then true else L j) w' ∧ (∀ j x, j ≠ i → gOf Gs j x w → gOf Gs j x w') ∧ gOf Gs i (a'.tmps.getD (sOf sls i) undef) w') Q
def stepOk (P : Program) (Q : Exit → Act → World → Prop) (ops : Array Oper) (I : (Nat → Bool) → World → Prop) (Gs : List Fact) (sls W : List Nat) (a0 : Act) (i : Nat) (o : Oper) : Prop :=
  ∀ L a w, a.tmps.size = a0.tmps.size → a.defers = a0.defers → (∀ s, s ∉ W → a.tmps[s]? = a0.tmps[s]?) → I L w → L i = false → closed ops L → deps Gs sls a w o.after.toList →
    stepGoal P Q I Gs sls i o L a w
def stepsOk (P : Program) (Q : Exit → Act → World → Prop) (ops : Array Oper) (I : (Nat → Bool) → World → Prop) (Gs : List Fact) (sls W : List Nat) (a0 : Act) : Nat → List Oper → Prop
  | _, [] => True
  | i, o :: r => stepOk P Q ops I Gs sls W a0 i o ∧ stepsOk P Q ops I Gs sls W a0 (i + 1) r
/-- how it goes on; x: what stands in the slots that were written -/
def endOk (Q : Exit → Act → World → Prop) (Gs : List Fact) (sls : List Nat) (a0 : Act) (w : World) (x : Nat → Value) : Nat → List Oper → Array Value → Prop
  | _, [], T => Q .normal { a0 with tmps := T } w
  | i, o :: r, T => match o.dst with
    | some s => gOf Gs i (x s) w → endOk Q Gs sls a0 w x (i + 1) r (T.setIfInBounds s (x s))
    | none => gOf Gs i (x (sOf sls i)) w → endOk Q Gs sls a0 w x (i + 1) r T
/-- what is asked of the operations themselves -/
def opOk (ops : Array Oper) (sls : List Nat) (N : Nat) (i : Nat) (o : Oper) : Bool :=
  o.guard.isNone && decide (sOf sls i < N) && (o.after.toList.all fun e => !Region.binds .any e || decide (e.on < i)) &&
  (match o.dst with
  | some s => decide (s = sOf sls i) && (ops.toList.zipIdx.all fun (p, j) => decide (j = i) || decide (s ≠ sOf sls j) || p.after.toList.any fun e => Region.binds .any e && decide (e.on = i))
  | none => true)
def flowOk (ops : Array Oper) (sls : List Nat) (N : Nat) : Bool := decide (sls.length = ops.size) && ops.toList.zipIdx.all fun (o, i) => opOk ops sls N i o
/-- each fact but one is kept from one world to another -/
def stab (w w' : World) (i : Nat) : Nat → List Fact → Prop
  | _, [] => True
  | k, G :: r => (k = i ∨ ∀ v, G v w → G v w') ∧ stab w w' i (k + 1) r
theorem stab_at {w w' : World} {i : Nat} : ∀ (l : List Fact) (k : Nat), stab w w' i k l → ∀ j x, k + j ≠ i → gOf l j x w → gOf l j x w' := by
  intro l
  induction l with
  | nil => intro k _ j x _ h; exact h
  | cons G l ih =>
    intro k hs j x hj h
    cases j with
    | zero =>
      rcases hs.1 with e | e
      · omega
      · exact e x h
    | succ j => exact ih (k + 1) hs.2 j x (by omega) h
theorem stab_of {w w' : World} {i : Nat} {Gs : List Fact} (h : stab w w' i 0 Gs) : ∀ j x, j ≠ i → gOf Gs j x w → gOf Gs j x w' := fun j x hj => stab_at Gs 0 h j x (by omega)
section
variable {P : Program} {Q : Exit → Act → World → Prop} {ops : Array Oper} {I : (Nat → Bool) → World → Prop} {Gs : List Fact} {sls W : List Nat} {a0 : Act}
theorem steps_at : ∀ (l : List Oper) (k : Nat), stepsOk P Q ops I Gs sls W a0 k l → ∀ i o, l[i]? = some o → stepOk P Q ops I Gs sls W a0 (k + i) o := by
  intro l
  induction l with
  | nil => intro k _ i o h; simp at h
  | cons p l ih =>
    intro k hs i o h
    cases i with
    | zero => simp at h; subst h; exact hs.1
    | succ i =>
      have := ih (k + 1) hs.2 i o (by simpa using h)
      rw [show k + (i + 1) = k + 1 + i by omega]; exact this
theorem deps_of {a : Act} {w : World} : ∀ l : List Edge, (∀ e ∈ l, Region.binds .any e = true → ∃ v, a.tmps[sOf sls e.on]? = some v ∧ gOf Gs e.on v w) → deps Gs sls a w l := by
  intro l
  induction l with
  | nil => intro _; trivial
  | cons e l ih =>
    intro h
    unfold deps
    have ht := ih fun e he => h e (List.mem_cons_of_mem _ he)
    split
    · rename_i hb
      exact ⟨h e List.mem_cons_self hb, ht⟩
    · exact ht
structure FJ (ops : Array Oper) (I : (Nat → Bool) → World → Prop) (Gs : List Fact) (sls W : List Nat) (a0 : Act) (listed : Array Bool) (a : Act) (w : World) : Prop where
  sz : listed.size = ops.size
  tz : a.tmps.size = a0.tmps.size
  df : { a with tmps := a0.tmps } = a0
  kp : ∀ s, s ∉ W → a.tmps[s]? = a0.tmps[s]?
  inv : I (fun j => listed.getD j false) w
  done : ∀ i, i < ops.size → listed.getD i false = true → gOf Gs i (a.tmps.getD (sOf sls i) undef) w
  cl : closed ops fun j => listed.getD j false
theorem chk_at {N : Nat} (h : flowOk ops sls N = true) {i : Nat} {o : Oper} (ho : ops[i]? = some o) : opOk ops sls N i o = true := by
  unfold flowOk at h
  rw [Bool.and_eq_true, List.all_eq_true] at h
  have := h.2 (o, i) (List.mem_zipIdx_iff_getElem?.2 (by simpa using ho))
  exact this
theorem all_done' (hdown : ∀ (i : Nat) (o : Oper), ops[i]? = some o → ∀ e : Edge, e ∈ o.after → Region.binds .any e = true → e.on < i) {listed : Array Bool} (hs : listed.size = ops.size) (hr : Region.ready .any ops listed = []) : ∀ i, i < ops.size → listed.getD i false = true := by
  intro i
  induction i using Nat.strongRecOn with
  | _ i ih =>
    intro hi
    by_cases hf : listed.getD i true = true
    · rw [Array.getD_eq_getD_getElem?, Array.getElem?_eq_getElem (by omega)] at hf ⊢; exact hf
    · exfalso
      have : i ∈ Region.ready .any ops listed := Drw.mem_ready.2 ⟨hi, by simpa using hf, _, Array.getElem?_eq_getElem hi, fun e he hb => ih e.on (hdown i _ (Array.getElem?_eq_getElem hi) e he hb) (Nat.lt_trans (hdown i _ (Array.getElem?_eq_getElem hi) e he hb) hi)⟩
      rw [hr] at this; cases this
theorem put_get {a : Act} {d : Option Nat} {v : Value} {s : Nat} (h : d ≠ some s) : (a.put d v).tmps[s]? = a.tmps[s]? := by
  cases d with
  | none => rfl
  | some t =>
    show (a.tmps.setIfInBounds t v)[s]? = _
    rw [Array.getElem?_setIfInBounds, if_neg (fun e => h (by rw [e]))]
theorem put_size {a : Act} {d : Option Nat} {v : Value} : (a.put d v).tmps.size = a.tmps.size := by
  cases d with
  | none => rfl
  | some t => show (a.tmps.setIfInBounds t v).size = _; rw [Array.size_setIfInBounds]
theorem put_rest {a : Act} {d : Option Nat} {v : Value} {t : Array Value} : { a.put d v with tmps := t } = { a with tmps := t } := by
  cases d <;> rfl
theorem getD_of {t : Array Value} {s : Nat} {v : Value} (h : t[s]? = some v) : t.getD s undef = v := by
  rw [Array.getD_eq_getD_getElem?, h]; rfl
theorem getD_same {t t' : Array Value} {s : Nat} (h : t[s]? = t'[s]?) : t.getD s undef = t'.getD s undef := by
  rw [Array.getD_eq_getD_getElem?, h, ← Array.getD_eq_getD_getElem?]
theorem get_of {t : Array Value} {s : Nat} (h : s < t.size) : t[s]? = some (t.getD s undef) := by
  rw [Array.getD_eq_getD_getElem?, Array.getElem?_eq_getElem h]; rfl
theorem flow_end {x : Array Value} {w : World} {df : Act} : ∀ (l : List Oper) (k : Nat) (T : Array Value), (∀ i o, l[i]? = some o → ∀ s, o.dst = some s → s = sOf sls (k + i)) →
    T.size = x.size → (∀ s, s < x.size → (∀ o ∈ l, o.dst ≠ some s) → T[s]? = x[s]?) → (∀ i, i < l.length → gOf Gs (k + i) (x.getD (sOf sls (k + i)) undef) w) →
    endOk Q Gs sls df w (fun s => x.getD s undef) k l T → Q .normal { df with tmps := x } w := by
  intro l
  induction l with
  | nil =>
    intro k T _ hz ht _ h
    have : T = x := by
      apply Array.ext_getElem?
      intro s
      by_cases hs : s < x.size
      · exact ht s hs fun o ho => by cases ho
      · rw [Array.getElem?_eq_none (by omega), Array.getElem?_eq_none (by omega)]
    rw [← this]; exact h
  | cons o l ih =>
    intro k T hd hz ht hg h
    have hg0 := hg 0 (by simp)
    have hg' : ∀ i, i < l.length → gOf Gs (k + 1 + i) (x.getD (sOf sls (k + 1 + i)) undef) w := fun i hi => by
      have := hg (i + 1) (by simpa using hi)
      rw [show k + (i + 1) = k + 1 + i by omega] at this; exact this
    have hd' : ∀ i p, l[i]? = some p → ∀ s, p.dst = some s → s = sOf sls (k + 1 + i) := fun i p hp s hs => by
      have := hd (i + 1) p (by simpa using hp) s hs
      rw [show k + (i + 1) = k + 1 + i by omega] at this; exact this
    unfold endOk at h
    cases hds : o.dst with
    | none =>
      rw [hds] at h
      refine ih (k + 1) T hd' hz (fun s hs hl => ht s hs fun p hp => ?_) hg' (h hg0)
      rcases List.mem_cons.1 hp with rfl | hp
      · rw [hds]; exact fun e => by cases e
      · exact hl p hp
    | some s0 =>
      rw [hds] at h
      have es : s0 = sOf sls k := hd 0 o rfl s0 hds
      subst es
      refine ih (k + 1) _ hd' (by rw [Array.size_setIfInBounds]; exact hz) (fun s hs hl => ?_) hg' (h hg0)
      by_cases ee : sOf sls k = s
      · subst ee
        rw [Array.getElem?_setIfInBounds, if_pos rfl, if_pos (by omega)]
        exact (get_of hs).symm
      · rw [Array.getElem?_setIfInBounds, if_neg ee]
        exact ht s hs fun p hp => by
          rcases List.mem_cons.1 hp with rfl | hp
          · rw [hds]; exact fun e => ee (by injection e)
          · exact hl p hp
theorem flow {id : Nat} {a : Act} {w : World} (I : (Nat → Bool) → World → Prop) (Gs : List Fact) (sls W : List Nat) (N : Nat) (hm : P.follows .mixedOrders = true) (hN : a.tmps.size = N) (hchk : flowOk ops sls N = true) (hW : ops.toList.filterMap (·.dst) = W)
    (h0 : I (fun _ => false) { w with drawn := w.drawn + 1 }) (hs : stepsOk P Q ops I Gs sls W a 0 ops.toList) (he : ∀ w' x, I (fun j => decide (j < sls.length)) w' → endOk Q Gs sls a w' x 0 ops.toList a.tmps) : (Code.region id ops true).wp P Q a w := by
  subst hN
  refine region_inv (J := FJ ops I Gs sls W a) hm (fun _ _ _ h => h.sz) ?_ ?_ ?_
  · intro i listed b u hi h
    obtain ⟨h1, h2, o, ho, hed⟩ := Drw.mem_ready.1 hi
    have c := chk_at hchk ho
    unfold opOk at c
    simp only [Bool.and_eq_true, decide_eq_true_eq, Option.isNone_iff_eq_none] at c
    obtain ⟨⟨⟨cg, cs⟩, ce⟩, cd⟩ := c
    have st := steps_at _ 0 hs i o (by simpa using ho)
    rw [Nat.zero_add] at st
    have p : listed.getD i false = false := by
      rw [Array.getD_eq_getD_getElem?] at h2 ⊢
      rw [Array.getElem?_eq_getElem (by rw [h.sz]; exact h1)] at h2 ⊢
      exact h2
    have dp : deps Gs sls b u o.after.toList := deps_of _ fun e hel hb => by
      have hd := hed e (by simpa using hel) hb
      have hlt : e.on < i := by
        have := List.all_eq_true.1 ce e hel
        rw [hb] at this
        simpa using this
      have hlo : e.on < ops.size := by omega
      have c2 := chk_at hchk (Array.getElem?_eq_getElem hlo)
      unfold opOk at c2
      simp only [Bool.and_eq_true, decide_eq_true_eq] at c2
      exact ⟨_, get_of (by rw [h.tz]; exact c2.1.1.2), h.done _ hlo hd⟩
    have hw := st _ b u h.tz (show ({ b with tmps := a.tmps } : Act).defers = a.defers from congrArg Act.defers h.df) h.kp h.inv p h.cl dp
    have hop : wpOp P ops Q i (fun a' w' => ∃ v, a' = b.put o.dst v ∧ I (fun j => if j = i then true else listed.getD j false) w' ∧ (∀ j x, j ≠ i → gOf Gs j x u → gOf Gs j x w') ∧ gOf Gs i (a'.tmps.getD (sOf sls i) undef) w') b u := by
      unfold wpOp
      rw [ho]
      show (if Region.wanted o (yielded ops b.tmps) = true then _ else _)
      rw [if_pos (by unfold Region.wanted; rw [cg])]
      exact .inl hw
    refine wpOp_mono ?_ hop
    rintro _ u' ⟨v, rfl, hI, hst, hgi⟩
    have g := fun j => set_get (listed := listed) (i := i) (j := j) (d := false) (by rw [h.sz]; exact h1)
    have hin : ∀ s, s ∉ W → o.dst ≠ some s := fun s hsn e => hsn (by
      rw [← hW]
      exact List.mem_filterMap.2 ⟨o, by simpa using Array.mem_of_getElem? ho, e⟩)
    refine ⟨by rw [Array.size_setIfInBounds]; exact h.sz, by rw [put_size]; exact h.tz, by rw [put_rest]; exact h.df, fun s hsn => by rw [put_get (hin s hsn)]; exact h.kp s hsn, by rw [show (fun j => (listed.setIfInBounds i true).getD j false) = fun j => if j = i then true else listed.getD j false from funext g]; exact hI, ?_, ?_⟩
    · intro j hj hl
      by_cases e : j = i
      · subst e; exact hgi
      · rw [g, if_neg e] at hl
        have hne : o.dst ≠ some (sOf sls j) := fun ed => by
          rw [ed] at cd
          simp only [Bool.and_eq_true, decide_eq_true_eq] at cd
          have := List.all_eq_true.1 cd.2 (ops[j], j) (List.mem_zipIdx_iff_getElem?.2 (by simp [hj]))
          simp only [Bool.or_eq_true, decide_eq_true_eq, ne_eq, not_true_eq_false, or_false, List.any_eq_true, Bool.and_eq_true] at this
          rcases this with this | ⟨e', hel, hb, heq⟩
          · exact e this
          · have := h.cl j _ (Array.getElem?_eq_getElem hj) hl e' (by simpa using hel) hb
            rw [heq] at this; exact absurd (p.symm.trans this) (by simp)
        rw [getD_same (put_get hne)]
        exact hst j _ e (h.done j hj hl)
    · intro j q hq hl e hel hb
      replace hl : (listed.setIfInBounds i true).getD j false = true := hl
      show (listed.setIfInBounds i true).getD e.on false = true
      rw [g]
      by_cases ee : e.on = i
      · rw [if_pos ee]
      · rw [if_neg ee]
        rw [g] at hl
        by_cases ej : j = i
        · subst ej
          have := ho.symm.trans hq
          injection this with this
          subst this
          exact hed e hel hb
        · rw [if_neg ej] at hl
          exact h.cl j q hq hl e hel hb
  · intro listed b u hr h
    have hd := all_done' (fun i o ho e hel hb => by
      have c := chk_at hchk ho
      unfold opOk at c
      simp only [Bool.and_eq_true] at c
      have := List.all_eq_true.1 c.1.2 e (by simpa using hel)
      rw [hb] at this
      simpa using this) h.sz hr
    have hlen : sls.length = ops.size := by
      unfold flowOk at hchk
      simp only [Bool.and_eq_true, decide_eq_true_eq] at hchk
      exact hchk.1
    have hL : (fun j => listed.getD j false) = fun j => decide (j < sls.length) := by
      funext j
      by_cases hj : j < ops.size
      · rw [hd j hj, decide_eq_true (by omega)]
      · rw [decide_eq_false (by omega), Array.getD_eq_getD_getElem?, Array.getElem?_eq_none (by have := h.sz; omega)]; rfl
    have hb : b = { a with tmps := b.tmps } := by
      have := h.df
      rw [← this]
    rw [hb]
    refine flow_end (x := b.tmps) ops.toList 0 a.tmps ?_ h.tz.symm ?_ ?_ (he u _ (by rw [← hL]; exact h.inv))
    · intro i o ho s hds
      rw [Nat.zero_add]
      have c := chk_at hchk (o := o) (i := i) (by simpa using ho)
      unfold opOk at c
      simp only [Bool.and_eq_true] at c
      have cd := c.2
      rw [hds] at cd
      simp only [Bool.and_eq_true, decide_eq_true_eq] at cd
      exact cd.1
    · intro s hsz hl
      exact (h.kp s fun hmem => by
        rw [← hW] at hmem
        obtain ⟨p, hp, hpd⟩ := List.mem_filterMap.1 hmem
        exact hl p hp hpd).symm
    · intro i hi
      rw [Nat.zero_add]
      exact h.done i (by simpa using hi) (hd i (by simpa using hi))
  · refine ⟨Array.size_replicate, rfl, rfl, fun _ _ => rfl, by rw [show (fun j => (Array.replicate ops.size false).getD j false) = fun _ => false from funext fun j => by rw [Array.getD_eq_getD_getElem?, Array.getElem?_replicate]; split <;> rfl]; exact h0, ?_, ?_⟩
    · intro i hi hl
      rw [Array.getD_eq_getD_getElem?, Array.getElem?_replicate] at hl
      split at hl <;> cases hl
    · intro i o ho hl
      replace hl : (Array.replicate ops.size false).getD i false = true := hl
      rw [Array.getD_eq_getD_getElem?, Array.getElem?_replicate] at hl
      split at hl <;> cases hl
theorem stab_refl (w : World) (i : Nat) : ∀ (l : List Fact) (k : Nat), stab w w i k l
  | [], _ => trivial
  | _ :: r, k => ⟨.inr fun _ h => h, stab_refl w i r (k + 1)⟩
theorem put_self {a : Act} {s : Nat} {v : Value} (h : s < a.tmps.size) : (a.put (some s) v).tmps.getD s undef = v := by
  show (a.tmps.setIfInBounds s v).getD s undef = v
  rw [Array.getD_eq_getD_getElem?, Array.getElem?_setIfInBounds, if_pos rfl, if_pos h]; rfl
theorem eval_of {a : Act} {t : Nat} {v : Value} (h : a.tmps[t]? = some v) : a.eval (.tmp t) = v := getD_of h
theorem idx {t : Array Value} {s : Nat} {v : Value} {h : s < t.size} (e : t[s]? = some v) : t[s] = v := (Array.getElem?_eq_some_iff.1 e).2
theorem step_val {L : Nat → Bool} {a : Act} {w w' : World} {o : Oper} {i s : Nat} {v : Value} (hrun : (execOp a.eval o).run P w = .ok (.value v) w') (ho : o.dst = some s) (hs : sOf sls i = s) (hz : s < a.tmps.size)
    (hI : I (fun j => if j = i then true else L j) w') (hst : stab w w' i 0 Gs) (hG : gOf Gs i v w') :
    stepGoal P Q I Gs sls i o L a w := by
  unfold stepGoal Oper.wp
  rw [hrun, Oper.upon_value]
  exact ⟨v, rfl, hI, stab_of hst, by rw [ho, hs, put_self hz]; exact hG⟩
theorem step_skip {L : Nat → Bool} {a : Act} {w w' : World} {o : Oper} {i : Nat} (hrun : (execOp a.eval o).run P w = .ok .skip w') (ho : o.dst = none)
    (hI : I (fun j => if j = i then true else L j) w') (hst : stab w w' i 0 Gs) (hG : gOf Gs i (a.tmps.getD (sOf sls i) undef) w') :
    stepGoal P Q I Gs sls i o L a w := by
  unfold stepGoal Oper.wp
  rw [hrun, Oper.upon_skip]
  exact ⟨undef, rfl, hI, stab_of hst, by rw [ho]; exact hG⟩
theorem step_call {L : Nat → Bool} {a : Act} {w : World} {o : Oper} {i s : Nat} {f : FuncId} {args : Array Value} (hrun : (execOp a.eval o).run P w = .ok (.enter f args) w) (ho : o.dst = some s) (hs : sOf sls i = s) (hz : s < a.tmps.size)
    (hc : Calls P f args w fun e w' => ∃ v, e = .returned v ∧ I (fun j => if j = i then true else L j) w' ∧ stab w w' i 0 Gs ∧ gOf Gs i v w') :
    stepGoal P Q I Gs sls i o L a w := by
  unfold stepGoal Oper.wp
  rw [hrun, Oper.upon_enter]
  refine hc.mono ?_
  rintro _ w' ⟨v, rfl, hI, hst, hG⟩
  exact ⟨v, rfl, hI, stab_of hst, by rw [ho, hs, put_self hz]; exact hG⟩
theorem exec_store_row {a : Act} {w : World} {o : Oper} (ty : TypeId) (x y : Operand) (ho : o.op = .store ty x y) {g : Nat} {cells old : Array Value} {t : TypeId} (hx : a.eval x = .pointer (some ⟨g, 0, none⟩)) (hy : a.eval y = .agg cells)
    (hg : w.heap[g]? = some (.cells old t (0, 0))) (hi : (P.info? ty).map (·.size) = some cells.size) (hold : old.size = cells.size) (h1 : cells.all (·.oneCell') = true) : (execOp a.eval o).run P w = .ok .skip (w.setRow g cells) := by
  unfold execOp
  simp only [ho, hx, hy, Instr.storeAt, Instr.sureAddr, Sem.run_bind, Sem.run_pure, Result.andThen_ok, run_storeVar_row w g t ty old cells hg hi hold h1]
theorem exec_load_row {a : Act} {w : World} {o : Oper} (ty : TypeId) (x : Operand) (ho : o.op = .load ty x) {g : Nat} {cs : Array Value} {t : TypeId} {fr : Nat × Nat} {d : TypeDesc} (hx : a.eval x = .pointer (some ⟨g, 0, none⟩))
    (hg : w.heap[g]? = some (.cells cs t fr)) (hu : P.underlying ty = some d) (hd : d.isRow = true) (hi : (P.info? ty).map (·.size) = some cs.size) : (execOp a.eval o).run P w = .ok (.value (.agg cs)) w := by
  unfold execOp
  simp only [ho, hx, Instr.loadAt, Instr.sureAddr, Sem.run_bind, Sem.run_pure, Result.andThen_ok, run_loadVar_mid w g 0 ty cs.toList d (St0.range_row hg) hu hd (by rw [hi]; simp)]
end
end Go.Proofs.Ytoiofdoipmdajaa.Flow
