
/- A region that draws its order, walked operation by operation, with guards, and in a round of a loop over a function. No code of the program. -/
import Derived.Test.YtoiofdoipmdajaaFlow0
import Derived.OrdersIn
import Derived.RangeFuncCalls
namespace Go.Proofs.Ytoiofdoipmdajaa.Flw
set_option linter.unusedVariables false
open Drw Flow
open Go.ChangeShapes Go.WideShapes Go.ChangeAt Go.RowKit Go.Deep
def noDefer (o : Oper) : Bool := match o.op with | .defer _ => false | _ => true
/-- what an operation comes to -/
def stepRes (P : Program) (I : (Nat → Bool) → World → Prop) (Gs : List Fact) (sls : List Nat) (i : Nat) (o : Oper) (L : Nat → Bool) (a : Act) (w : World) : Prop :=
  (∃ v w', (execOp a.eval o).run P w = .ok (.value v) w' ∧ o.dst = some (sOf sls i) ∧ I (fun j => if j = i then true else L j) w' ∧ stab w w' i 0 Gs ∧ gOf Gs i v w') ∨
  (∃ w', (execOp a.eval o).run P w = .ok .skip w' ∧ o.dst = none ∧ I (fun j => if j = i then true else L j) w' ∧ stab w w' i 0 Gs ∧ gOf Gs i (a.tmps.getD (sOf sls i) undef) w') ∨
  (∃ f args, (execOp a.eval o).run P w = .ok (.enter f args) w ∧ o.dst = some (sOf sls i) ∧ Calls P f args w fun e w' => ∃ v, e = .returned v ∧ I (fun j => if j = i then true else L j) w' ∧ stab w w' i 0 Gs ∧ gOf Gs i v w')
def stepOk (P : Program) (ops : Array Oper) (I : (Nat → Bool) → World → Prop) (Gs : List Fact) (sls W : List Nat) (a0 : Act) (i : Nat) (o : Oper) : Prop :=
  ∀ L a w, a.tmps.size = a0.tmps.size → a.defers = a0.defers → (∀ s, s ∉ W → a.tmps[s]? = a0.tmps[s]?) → I L w → L i = false → closed ops L → deps Gs sls a w o.after.toList →
    (Region.wanted o (yielded ops a.tmps) = true ∧ stepRes P I Gs sls i o L a w) ∨
    (Region.wanted o (yielded ops a.tmps) = false ∧ o.dst = some (sOf sls i) ∧ I (fun j => if j = i then true else L j) w ∧ gOf Gs i undef w)
def stepsOk (P : Program) (ops : Array Oper) (I : (Nat → Bool) → World → Prop) (Gs : List Fact) (sls W : List Nat) (a0 : Act) : Nat → List Oper → Prop
  | _, [] => True
  | i, o :: r => stepOk P ops I Gs sls W a0 i o ∧ stepsOk P ops I Gs sls W a0 (i + 1) r
def opOk (ops : Array Oper) (sls : List Nat) (N : Nat) (i : Nat) (o : Oper) : Bool :=
  noDefer o && decide (sOf sls i < N) && (o.after.toList.all fun e => !Region.binds .any e || decide (e.on < i)) &&
  (match o.dst with
  | some s => decide (s = sOf sls i) && (ops.toList.zipIdx.all fun (p, j) => decide (j = i) || decide (s ≠ sOf sls j) || p.after.toList.any fun e => Region.binds .any e && decide (e.on = i))
  | none => true)
def flowOk (ops : Array Oper) (sls : List Nat) (N : Nat) : Bool := decide (sls.length = ops.size) && ops.toList.zipIdx.all fun (o, i) => opOk ops sls N i o
section
variable {P : Program} {Q : Exit → Act → World → Prop} {ops : Array Oper} {I : (Nat → Bool) → World → Prop} {Gs : List Fact} {sls W : List Nat} {a0 : Act}
theorem steps_at : ∀ (l : List Oper) (k : Nat), stepsOk P ops I Gs sls W a0 k l → ∀ i o, l[i]? = some o → stepOk P ops I Gs sls W a0 (k + i) o := by
  intro l
  induction l with
  | nil => intro k _ i o h; simp at h
  | cons p l ih =>
    intro k hs i o h
    cases i with
    | zero => simp at h; subst h; exact hs.1
    | succ i =>
      have := ih (k + 1) hs.2 i o (by simpa using h)
      rw [show k + (i + 1) = k + 1 + i by omega]; exact this
theorem chk_at {N : Nat} (h : flowOk ops sls N = true) {i : Nat} {o : Oper} (ho : ops[i]? = some o) : opOk ops sls N i o = true := by
  unfold flowOk at h
  rw [Bool.and_eq_true, List.all_eq_true] at h
  exact h.2 (o, i) (List.mem_zipIdx_iff_getElem?.2 (by simpa using ho))
theorem chk_parts {N i : Nat} {o : Oper} (c : opOk ops sls N i o = true) : noDefer o = true ∧ sOf sls i < N ∧ (∀ e ∈ o.after.toList, Region.binds .any e = true → e.on < i) ∧
    ∀ s, o.dst = some s → s = sOf sls i ∧ ∀ p j, (p, j) ∈ ops.toList.zipIdx → j = i ∨ s ≠ sOf sls j ∨ ∃ e ∈ p.after.toList, Region.binds .any e = true ∧ e.on = i := by
  unfold opOk at c
  simp only [Bool.and_eq_true, decide_eq_true_eq] at c
  obtain ⟨⟨⟨cg, cs⟩, ce⟩, cd⟩ := c
  refine ⟨cg, cs, fun e he hb => ?_, fun s hs => ?_⟩
  · have := List.all_eq_true.1 ce e he
    rw [hb] at this
    simpa using this
  · rw [hs] at cd
    simp only [Bool.and_eq_true, decide_eq_true_eq] at cd
    refine ⟨cd.1, fun p j hpj => ?_⟩
    have := List.all_eq_true.1 cd.2 (p, j) hpj
    simp only [Bool.or_eq_true, decide_eq_true_eq, ne_eq, List.any_eq_true, Bool.and_eq_true] at this
    rcases this with (h | h) | h
    · exact .inl h
    · exact .inr (.inl h)
    · exact .inr (.inr h)
/-- what is done, and one more -/
theorem core {N : Nat} {a : Act} {u u' : World} {b : Act} {listed : Array Bool} {i : Nat} {o : Oper} {v : Value} (hN : a.tmps.size = N) (hchk : flowOk ops sls N = true) (hW : ops.toList.filterMap (·.dst) = W)
    (h : FJ ops I Gs sls W a listed b u) (h1 : i < ops.size) (ho : ops[i]? = some o) (p : listed.getD i false = false) (hed : ∀ e ∈ o.after, Region.binds .any e = true → listed.getD e.on false = true)
    (hI : I (fun j => if j = i then true else listed.getD j false) u') (hst : stab u u' i 0 Gs) (hgi : gOf Gs i ((b.put o.dst v).tmps.getD (sOf sls i) undef) u') :
    FJ ops I Gs sls W a (listed.setIfInBounds i true) (b.put o.dst v) u' := by
  obtain ⟨_, _, _, cd⟩ := chk_parts (chk_at hchk ho)
  have g := fun j => set_get (listed := listed) (i := i) (j := j) (d := false) (by rw [h.sz]; exact h1)
  have hin : ∀ s, s ∉ W → o.dst ≠ some s := fun s hsn e => hsn (by
    rw [← hW]
    exact List.mem_filterMap.2 ⟨o, by simpa using Array.mem_of_getElem? ho, e⟩)
  refine ⟨by rw [Array.size_setIfInBounds]; exact h.sz, by rw [put_size]; exact h.tz, by rw [put_rest]; exact h.df, fun s hsn => by rw [put_get (hin s hsn)]; exact h.kp s hsn, by rw [show (fun j => (listed.setIfInBounds i true).getD j false) = fun j => if j = i then true else listed.getD j false from funext g]; exact hI, ?_, ?_⟩
  · intro j hj hl
    by_cases e : j = i
    · subst e; exact hgi
    · rw [g, if_neg e] at hl
      have hne : o.dst ≠ some (sOf sls j) := fun ed => by
        have := (cd _ ed).2 ops[j] j (List.mem_zipIdx_iff_getElem?.2 (by simp [hj]))
        rcases this with this | this | ⟨e', hel, hb, heq⟩
        · exact e this
        · exact this rfl
        · have := h.cl j _ (Array.getElem?_eq_getElem hj) hl e' (by simpa using hel) hb
          rw [heq] at this; exact absurd (p.symm.trans this) (by simp)
      rw [getD_same (put_get hne)]
      exact stab_of hst j _ e (h.done j hj hl)
  · intro j q hq hl e hel hb
    replace hl : (listed.setIfInBounds i true).getD j false = true := hl
    show (listed.setIfInBounds i true).getD e.on false = true
    rw [g]
    by_cases ee : e.on = i
    · rw [if_pos ee]
    · rw [if_neg ee]
      rw [g] at hl
      by_cases ej : j = i
      · subst ej
        have := ho.symm.trans hq
        injection this with this
        subst this
        exact hed e hel hb
      · rw [if_neg ej] at hl
        exact h.cl j q hq hl e hel hb
theorem self_put {a : Act} {o : Oper} {i : Nat} {v : Value} (ho : o.dst = some (sOf sls i)) (hz : sOf sls i < a.tmps.size) : (a.put o.dst v).tmps.getD (sOf sls i) undef = v := by
  rw [ho]; exact put_self hz
theorem none_put {a : Act} {o : Oper} {v : Value} (ho : o.dst = none) : (a.put o.dst v) = a := by
  rw [ho]; rfl
/-- what may come next: facts of it -/
theorem at_next {N : Nat} {a b : Act} {u : World} {listed : Array Bool} {i : Nat} (hN : a.tmps.size = N) (hchk : flowOk ops sls N = true) (hi : i ∈ Region.ready .any ops listed) (h : FJ ops I Gs sls W a listed b u) (hs : stepsOk P ops I Gs sls W a 0 ops.toList) :
    ∃ o, ops[i]? = some o ∧ noDefer o = true ∧ i < ops.size ∧ listed.getD i false = false ∧ (∀ e ∈ o.after, Region.binds .any e = true → listed.getD e.on false = true) ∧ sOf sls i < b.tmps.size ∧
      ((Region.wanted o (yielded ops b.tmps) = true ∧ stepRes P I Gs sls i o (fun j => listed.getD j false) b u) ∨
      (Region.wanted o (yielded ops b.tmps) = false ∧ o.dst = some (sOf sls i) ∧ I (fun j => if j = i then true else listed.getD j false) u ∧ gOf Gs i undef u)) := by
  obtain ⟨h1, h2, o, ho, hed⟩ := Drw.mem_ready.1 hi
  obtain ⟨cn, cs, ce, cd⟩ := chk_parts (chk_at hchk ho)
  have st := steps_at _ 0 hs i o (by simpa using ho)
  rw [Nat.zero_add] at st
  have p : listed.getD i false = false := by
    rw [Array.getD_eq_getD_getElem?] at h2 ⊢
    rw [Array.getElem?_eq_getElem (by rw [h.sz]; exact h1)] at h2 ⊢
    exact h2
  have dp : deps Gs sls b u o.after.toList := deps_of _ fun e hel hb => by
    have hd := hed e (by simpa using hel) hb
    have hlt : e.on < i := ce e hel hb
    have hlo : e.on < ops.size := by omega
    have c2 := chk_parts (chk_at hchk (Array.getElem?_eq_getElem hlo))
    exact ⟨_, get_of (by rw [h.tz]; omega), h.done _ hlo hd⟩
  exact ⟨o, ho, cn, h1, p, hed, by rw [h.tz]; omega, st _ b u h.tz (show ({ b with tmps := a.tmps } : Act).defers = a.defers from congrArg Act.defers h.df) h.kp h.inv p h.cl dp⟩
theorem next_wp {N : Nat} {a b : Act} {u : World} {listed : Array Bool} {i : Nat} (hN : a.tmps.size = N) (hchk : flowOk ops sls N = true) (hW : ops.toList.filterMap (·.dst) = W) (hi : i ∈ Region.ready .any ops listed) (h : FJ ops I Gs sls W a listed b u) (hs : stepsOk P ops I Gs sls W a 0 ops.toList) :
    wpOp P ops Q i (FJ ops I Gs sls W a (listed.setIfInBounds i true)) b u := by
  obtain ⟨o, ho, cn, h1, p, hed, hz, hw⟩ := at_next hN hchk hi h hs
  unfold wpOp
  rw [ho]
  show (if Region.wanted o (yielded ops b.tmps) = true then _ else _)
  rcases hw with ⟨hw, hr⟩ | ⟨hw, hd, hI, hg⟩
  · rw [if_pos hw]
    refine .inl ?_
    unfold Oper.wp
    rcases hr with ⟨v, w', hrun, hd, hI, hst, hg⟩ | ⟨w', hrun, hd, hI, hst, hg⟩ | ⟨f, args, hrun, hd, hc⟩
    · rw [hrun, Oper.upon_value]
      exact core hN hchk hW h h1 ho p hed hI hst (by rw [self_put hd hz]; exact hg)
    · rw [hrun, Oper.upon_skip]
      exact core hN hchk hW h h1 ho p hed hI hst (by rw [none_put hd]; exact hg)
    · rw [hrun, Oper.upon_enter]
      refine hc.mono ?_
      rintro _ w' ⟨v, rfl, hI, hst, hg⟩
      exact core hN hchk hW h h1 ho p hed hI hst (by rw [self_put hd hz]; exact hg)
  · rw [if_neg (by rw [hw]; exact Bool.false_ne_true)]
    exact core hN hchk hW h h1 ho p hed hI (stab_refl _ _ _ _) (by rw [self_put hd hz]; exact hg)
theorem next_wpIn {N l n : Nat} {a b : Act} {u : World} {listed : Array Bool} {i : Nat} (hN : a.tmps.size = N) (hchk : flowOk ops sls N = true) (hW : ops.toList.filterMap (·.dst) = W) (hi : i ∈ Region.ready .any ops listed) (h : FJ ops I Gs sls W a listed b u) (hs : stepsOk P ops I Gs sls W a 0 ops.toList) :
    wpOpIn (Fence.wide.inRound l) n P ops Q i (FJ ops I Gs sls W a (listed.setIfInBounds i true)) b u := by
  obtain ⟨o, ho, cn, h1, p, hed, hz, hw⟩ := at_next hN hchk hi h hs
  unfold wpOpIn
  rw [ho]
  show (if Region.wanted o (yielded ops b.tmps) = true then _ else _)
  rcases hw with ⟨hw, hr⟩ | ⟨hw, hd, hI, hg⟩
  · rw [if_pos hw]
    refine ⟨fun _ _ => trivial, ?_⟩
    rw [Oper.semAt_eq _ _ _ (fun c e => by unfold noDefer at cn; rw [e] at cn; cases cn)]
    rcases hr with ⟨v, w', hrun, hd, hI, hst, hg⟩ | ⟨w', hrun, hd, hI, hst, hg⟩ | ⟨f, args, hrun, hd, hc⟩
    · rw [hrun, Oper.uponIn_value]
      exact core hN hchk hW h h1 ho p hed hI hst (by rw [self_put hd hz]; exact hg)
    · rw [hrun, Oper.uponIn_skip]
      exact core hN hchk hW h h1 ho p hed hI hst (by rw [none_put hd]; exact hg)
    · rw [hrun, Oper.uponIn_enter]
      refine ⟨(fun e => by cases e), CallsIn.inRound l (callsIn_wide.2 (hc.mono ?_))⟩
      rintro _ w' ⟨v, rfl, hI, hst, hg⟩
      exact core hN hchk hW h h1 ho p hed hI hst (by rw [self_put hd hz]; exact hg)
  · rw [if_neg (by rw [hw]; exact Bool.false_ne_true)]
    exact ⟨fun _ _ => trivial, core hN hchk hW h h1 ho p hed hI (stab_refl _ _ _ _) (by rw [self_put hd hz]; exact hg)⟩
theorem wpAnyIn_inv {F : Fence} {n : Nat} {J : Array Bool → Act → World → Prop} (hsz : ∀ listed a w, J listed a w → listed.size = ops.size)
    (hstep : ∀ i listed a w, i ∈ Region.ready .any ops listed → J listed a w → wpOpIn F n P ops Q i (J (listed.setIfInBounds i true)) a w)
    (hend : ∀ listed a w, Region.ready .any ops listed = [] → J listed a w → Q .normal a w) :
    ∀ fuel listed a w, left_ ops.size listed ≤ fuel → J listed a w → wpAnyIn F n P .any ops Q fuel listed a w := by
  intro fuel
  induction fuel with
  | zero =>
    intro listed a w hl hJ
    have hr : Region.ready .any ops listed = [] := by
      apply List.eq_nil_iff_forall_not_mem.2
      intro i hi
      obtain ⟨h1, h2, _⟩ := Drw.mem_ready.1 hi
      have : i ∈ (List.range ops.size).filter fun i => !listed.getD i true := List.mem_filter.2 ⟨List.mem_range.2 h1, by rw [h2]; rfl⟩
      have h0 : ((List.range ops.size).filter fun i => !listed.getD i true).length = 0 := Nat.le_zero.1 hl
      rw [List.length_eq_zero_iff.1 h0] at this
      cases this
    exact ⟨hr, hend _ _ _ hr hJ⟩
  | succ fuel ih =>
    intro listed a w hl hJ
    refine ⟨fun hr => hend _ _ _ hr hJ, fun i hi => ?_⟩
    refine wpOpIn_mono (fun a' w' hJ' => ih _ _ _ ?_ hJ') (hstep i listed a w hi hJ)
    obtain ⟨h1, h2, _⟩ := Drw.mem_ready.1 hi
    have hs := hsz _ _ _ hJ
    have : left_ ops.size (listed.setIfInBounds i true) < left_ ops.size listed := by
      refine Drw.filter_lt (fun j hj => ?_) (i := i) (by rw [h2]; rfl) (by rw [set_get (by omega), if_pos rfl]; rfl) _ (List.mem_range.2 h1)
      rw [set_get (by omega)] at hj
      by_cases e : j = i
      · rw [if_pos e] at hj; cases hj
      · rw [if_neg e] at hj; exact hj
    omega
theorem fj_end {N : Nat} {a b : Act} {u : World} {listed : Array Bool} (hN : a.tmps.size = N) (hchk : flowOk ops sls N = true) (hW : ops.toList.filterMap (·.dst) = W) (hr : Region.ready .any ops listed = []) (h : FJ ops I Gs sls W a listed b u)
    (he : ∀ w' x, I (fun j => decide (j < sls.length)) w' → endOk Q Gs sls a w' x 0 ops.toList a.tmps) : Q .normal b u := by
  have hd := all_done' (fun i o ho e hel hb => (chk_parts (chk_at hchk ho)).2.2.1 e (by simpa using hel) hb) h.sz hr
  have hlen : sls.length = ops.size := by
    unfold flowOk at hchk
    simp only [Bool.and_eq_true, decide_eq_true_eq] at hchk
    exact hchk.1
  have hL : (fun j => listed.getD j false) = fun j => decide (j < sls.length) := by
    funext j
    by_cases hj : j < ops.size
    · rw [hd j hj, decide_eq_true (by omega)]
    · rw [decide_eq_false (by omega), Array.getD_eq_getD_getElem?, Array.getElem?_eq_none (by have := h.sz; omega)]; rfl
  have hb : b = { a with tmps := b.tmps } := by
    have := h.df
    rw [← this]
  rw [hb]
  refine flow_end (x := b.tmps) ops.toList 0 a.tmps ?_ h.tz.symm ?_ ?_ (he u _ (by rw [← hL]; exact h.inv))
  · intro i o ho s hds
    rw [Nat.zero_add]
    exact ((chk_parts (chk_at hchk (o := o) (i := i) (by simpa using ho))).2.2.2 s hds).1
  · intro s hsz hl
    exact (h.kp s fun hmem => by
      rw [← hW] at hmem
      obtain ⟨p, hp, hpd⟩ := List.mem_filterMap.1 hmem
      exact hl p hp hpd).symm
  · intro i hi
    rw [Nat.zero_add]
    exact h.done i (by simpa using hi) (hd i (by simpa using hi))
theorem fj_start {a : Act} {w : World} (h0 : I (fun _ => false) w) : FJ ops I Gs sls W a (Array.replicate ops.size false) a w := by
  refine ⟨Array.size_replicate, rfl, rfl, fun _ _ => rfl, by rw [show (fun j => (Array.replicate ops.size false).getD j false) = fun _ => false from funext fun j => by rw [Array.getD_eq_getD_getElem?, Array.getElem?_replicate]; split <;> rfl]; exact h0, ?_, ?_⟩
  · intro i hi hl
    rw [Array.getD_eq_getD_getElem?, Array.getElem?_replicate] at hl
    split at hl <;> cases hl
  · intro i o ho hl
    replace hl : (Array.replicate ops.size false).getD i false = true := hl
    rw [Array.getD_eq_getD_getElem?, Array.getElem?_replicate] at hl
    split at hl <;> cases hl
theorem flow {id : Nat} {a : Act} {w : World} (I : (Nat → Bool) → World → Prop) (Gs : List Fact) (sls W : List Nat) (N : Nat) (hm : P.follows .mixedOrders = true) (hN : a.tmps.size = N) (hchk : flowOk ops sls N = true) (hW : ops.toList.filterMap (·.dst) = W)
    (h0 : I (fun _ => false) { w with drawn := w.drawn + 1 }) (hs : stepsOk P ops I Gs sls W a 0 ops.toList) (he : ∀ w' x, I (fun j => decide (j < sls.length)) w' → endOk Q Gs sls a w' x 0 ops.toList a.tmps) : (Code.region id ops true).wp P Q a w :=
  region_inv (J := FJ ops I Gs sls W a) hm (fun _ _ _ h => h.sz) (fun _ _ _ _ hi h => next_wp hN hchk hW hi h hs) (fun _ _ _ hr h => fj_end hN hchk hW hr h he) (fj_start h0)
theorem flowR {id l n : Nat} {a : Act} {w : World} (I : (Nat → Bool) → World → Prop) (Gs : List Fact) (sls W : List Nat) (N : Nat) (hm : P.follows .mixedOrders = true) (hN : a.tmps.size = N) (hchk : flowOk ops sls N = true) (hW : ops.toList.filterMap (·.dst) = W)
    (h0 : I (fun _ => false) { w with drawn := w.drawn + 1 }) (hs : stepsOk P ops I Gs sls W a 0 ops.toList) (he : ∀ w' x, I (fun j => decide (j < sls.length)) w' → endOk Q Gs sls a w' x 0 ops.toList a.tmps) : (Code.region id ops true).wpIn (Fence.wide.inRound l) n P Q a w := by
  refine wpIn_region_any hm (wpAnyIn_inv (J := FJ ops I Gs sls W a) (fun _ _ _ h => h.sz) (fun _ _ _ _ hi h => next_wpIn hN hchk hW hi h hs) (fun _ _ _ hr h => fj_end hN hchk hW hr h he) _ _ _ _ ?_ (fj_start h0))
  unfold left_
  exact Nat.le_trans (List.length_filter_le _ _) (by rw [List.length_range]; exact Nat.le_refl _)
/-- the step of an operation that stands behind no guard, or behind one that says yes -/
theorem step_val {L : Nat → Bool} {a : Act} {w : World} {o : Oper} {i : Nat} (w' : World) (v : Value) (hw : Region.wanted o (yielded ops a.tmps) = true) (hrun : (execOp a.eval o).run P w = .ok (.value v) w') (ho : o.dst = some (sOf sls i))
    (hI : I (fun j => if j = i then true else L j) w') (hst : stab w w' i 0 Gs) (hG : gOf Gs i v w') :
    (Region.wanted o (yielded ops a.tmps) = true ∧ stepRes P I Gs sls i o L a w) ∨ (Region.wanted o (yielded ops a.tmps) = false ∧ o.dst = some (sOf sls i) ∧ I (fun j => if j = i then true else L j) w ∧ gOf Gs i undef w) :=
  .inl ⟨hw, .inl ⟨v, w', hrun, ho, hI, hst, hG⟩⟩
theorem step_skip {L : Nat → Bool} {a : Act} {w : World} {o : Oper} {i : Nat} (w' : World) (hw : Region.wanted o (yielded ops a.tmps) = true) (hrun : (execOp a.eval o).run P w = .ok .skip w') (ho : o.dst = none)
    (hI : I (fun j => if j = i then true else L j) w') (hst : stab w w' i 0 Gs) (hG : gOf Gs i (a.tmps.getD (sOf sls i) undef) w') :
    (Region.wanted o (yielded ops a.tmps) = true ∧ stepRes P I Gs sls i o L a w) ∨ (Region.wanted o (yielded ops a.tmps) = false ∧ o.dst = some (sOf sls i) ∧ I (fun j => if j = i then true else L j) w ∧ gOf Gs i undef w) :=
  .inl ⟨hw, .inr (.inl ⟨w', hrun, ho, hI, hst, hG⟩)⟩
theorem step_call {L : Nat → Bool} {a : Act} {w : World} {o : Oper} {i : Nat} (f : FuncId) (args : Array Value) (hw : Region.wanted o (yielded ops a.tmps) = true) (hrun : (execOp a.eval o).run P w = .ok (.enter f args) w) (ho : o.dst = some (sOf sls i))
    (hc : Calls P f args w fun e w' => ∃ v, e = .returned v ∧ I (fun j => if j = i then true else L j) w' ∧ stab w w' i 0 Gs ∧ gOf Gs i v w') :
    (Region.wanted o (yielded ops a.tmps) = true ∧ stepRes P I Gs sls i o L a w) ∨ (Region.wanted o (yielded ops a.tmps) = false ∧ o.dst = some (sOf sls i) ∧ I (fun j => if j = i then true else L j) w ∧ gOf Gs i undef w) :=
  .inl ⟨hw, .inr (.inr ⟨f, args, hrun, ho, hc⟩)⟩
theorem step_no {L : Nat → Bool} {a : Act} {w : World} {o : Oper} {i : Nat} (hw : Region.wanted o (yielded ops a.tmps) = false) (ho : o.dst = some (sOf sls i))
    (hI : I (fun j => if j = i then true else L j) w) (hG : gOf Gs i undef w) :
    (Region.wanted o (yielded ops a.tmps) = true ∧ stepRes P I Gs sls i o L a w) ∨ (Region.wanted o (yielded ops a.tmps) = false ∧ o.dst = some (sOf sls i) ∧ I (fun j => if j = i then true else L j) w ∧ gOf Gs i undef w) :=
  .inr ⟨hw, ho, hI, hG⟩
theorem wanted_none {a : Act} {o : Oper} (h : o.guard = none) : Region.wanted o (yielded ops a.tmps) = true := by unfold Region.wanted; rw [h]
theorem wanted_some {a : Act} {o p : Oper} {j s : Nat} {b b' : Bool} (h : o.guard = some (j, b)) (hp : ops[j]? = some p) (hs : p.dst = some s) (ht : a.tmps[s]? = some (.bool b')) : Region.wanted o (yielded ops a.tmps) = (b' == b) := by
  unfold Region.wanted yielded
  rw [h]
  simp only [hp, Option.bind_some, hs, ht]
  cases b <;> cases b' <;> rfl
end
end Go.Proofs.Ytoiofdoipmdajaa.Flw
