
/- A region that draws its order, by an invariant over what is done already. No code of the program. -/
import Derived.Orders
namespace Go.Proofs.Ytoiofdoipmdajaa.Drw
theorem filter_le {p q : Nat → Bool} (h : ∀ j, q j = true → p j = true) : ∀ L : List Nat, (L.filter q).length ≤ (L.filter p).length := by
  intro L
  induction L with
  | nil => exact Nat.le_refl _
  | cons x L ih =>
    by_cases hq : q x = true
    · rw [List.filter_cons_of_pos hq, List.filter_cons_of_pos (h x hq)]
      exact Nat.succ_le_succ ih
    · rw [List.filter_cons_of_neg hq]
      by_cases hp : p x = true
      · rw [List.filter_cons_of_pos hp]; exact Nat.le_succ_of_le ih
      · rw [List.filter_cons_of_neg hp]; exact ih
theorem filter_lt {p q : Nat → Bool} (h : ∀ j, q j = true → p j = true) {i : Nat} (hp : p i = true) (hq : q i = false) : ∀ L : List Nat, i ∈ L → (L.filter q).length < (L.filter p).length := by
  intro L
  induction L with
  | nil => intro hi; cases hi
  | cons x L ih =>
    intro hi
    by_cases hx : x = i
    · subst hx
      rw [List.filter_cons_of_pos hp, List.filter_cons_of_neg (by rw [hq]; simp)]
      exact Nat.lt_succ_of_le (filter_le h L)
    · have hi' : i ∈ L := by
        rcases List.mem_cons.1 hi with e | e
        · exact absurd e.symm hx
        · exact e
      by_cases hqx : q x = true
      · rw [List.filter_cons_of_pos hqx, List.filter_cons_of_pos (h x hqx)]
        exact Nat.succ_lt_succ (ih hi')
      · rw [List.filter_cons_of_neg hqx]
        by_cases hpx : p x = true
        · rw [List.filter_cons_of_pos hpx]; exact Nat.lt_succ_of_lt (ih hi')
        · rw [List.filter_cons_of_neg hpx]; exact ih hi'
/-- how many of n are not done yet -/
def left_ (n : Nat) (listed : Array Bool) : Nat := ((List.range n).filter fun i => !listed.getD i true).length
theorem set_get {listed : Array Bool} {i j : Nat} {d : Bool} (hi : i < listed.size) : (listed.setIfInBounds i true).getD j d = if j = i then true else listed.getD j d := by
  rw [Array.getD_eq_getD_getElem?, Array.getD_eq_getD_getElem?, Array.getElem?_setIfInBounds]
  by_cases h : i = j
  · subst h; simp [hi]
  · rw [if_neg h, if_neg (fun e => h e.symm)]
theorem mem_ready {ops : Array Oper} {listed : Array Bool} {i : Nat} : i ∈ Region.ready .any ops listed ↔ i < ops.size ∧ listed.getD i true = false ∧ ∃ o, ops[i]? = some o ∧ ∀ e ∈ o.after, Region.binds .any e = true → listed.getD e.on false = true := by
  unfold Region.ready
  rw [List.mem_filter, List.mem_range]
  refine and_congr_right fun hi => ?_
  rw [Array.getElem?_eq_getElem hi]
  simp only [Option.map_some, Option.getD_some, Bool.and_eq_true, Bool.not_eq_true', Option.some.injEq, Array.all_eq_true_iff_forall_mem, Bool.or_eq_true]
  refine and_congr_right fun _ => ⟨fun h => ⟨_, rfl, fun e he hb => ?_⟩, ?_⟩
  · rcases h e he with h | h
    · rw [hb] at h; cases h
    · exact h
  · rintro ⟨o, rfl, h⟩ e he
    by_cases hb : Region.binds .any e = true
    · exact .inr (h e he hb)
    · exact .inl (by simpa using hb)
section
variable {P : Program} {ops : Array Oper} {Q : Exit → Act → World → Prop} {J : Array Bool → Act → World → Prop}
theorem wpAny_inv (hsz : ∀ listed a w, J listed a w → listed.size = ops.size)
    (hstep : ∀ i listed a w, i ∈ Region.ready .any ops listed → J listed a w → wpOp P ops Q i (J (listed.setIfInBounds i true)) a w)
    (hend : ∀ listed a w, Region.ready .any ops listed = [] → J listed a w → Q .normal a w) :
    ∀ fuel listed a w, left_ ops.size listed ≤ fuel → J listed a w → wpAny P .any ops Q fuel listed a w := by
  intro fuel
  induction fuel with
  | zero =>
    intro listed a w hl hJ
    have hr : Region.ready .any ops listed = [] := by
      apply List.eq_nil_iff_forall_not_mem.2
      intro i hi
      obtain ⟨h1, h2, _⟩ := mem_ready.1 hi
      have : i ∈ (List.range ops.size).filter fun i => !listed.getD i true := List.mem_filter.2 ⟨List.mem_range.2 h1, by rw [h2]; rfl⟩
      have h0 : ((List.range ops.size).filter fun i => !listed.getD i true).length = 0 := Nat.le_zero.1 hl
      rw [List.length_eq_zero_iff.1 h0] at this
      cases this
    exact ⟨hr, hend _ _ _ hr hJ⟩
  | succ fuel ih =>
    intro listed a w hl hJ
    refine ⟨fun hr => hend _ _ _ hr hJ, fun i hi => ?_⟩
    refine wpOp_mono (fun a' w' hJ' => ih _ _ _ ?_ hJ') (hstep i listed a w hi hJ)
    obtain ⟨h1, h2, _⟩ := mem_ready.1 hi
    have hs := hsz _ _ _ hJ
    have : left_ ops.size (listed.setIfInBounds i true) < left_ ops.size listed := by
      refine filter_lt (fun j hj => ?_) (i := i) (by rw [h2]; rfl) (by rw [set_get (by omega), if_pos rfl]; rfl) _ (List.mem_range.2 h1)
      rw [set_get (by omega)] at hj
      by_cases e : j = i
      · rw [if_pos e] at hj; cases hj
      · rw [if_neg e] at hj; exact hj
    omega
/-- where the edges go down all is done in the end -/
theorem all_done (hdown : ∀ (i : Nat) (o : Oper), ops[i]? = some o → ∀ e : Edge, e ∈ o.after → e.on < i) {listed : Array Bool} (hs : listed.size = ops.size) (hr : Region.ready .any ops listed = []) : ∀ i, i < ops.size → listed.getD i false = true := by
  intro i
  induction i using Nat.strongRecOn with
  | _ i ih =>
    intro hi
    by_cases hf : listed.getD i true = true
    · rw [Array.getD_eq_getD_getElem?, Array.getElem?_eq_getElem (by omega)] at hf ⊢; exact hf
    · exfalso
      have : i ∈ Region.ready .any ops listed := mem_ready.2 ⟨hi, by simpa using hf, _, Array.getElem?_eq_getElem hi, fun e he _ => ih e.on (hdown i _ (Array.getElem?_eq_getElem hi) e he) (Nat.lt_trans (hdown i _ (Array.getElem?_eq_getElem hi) e he) hi)⟩
      rw [hr] at this; cases this
theorem region_inv {id : Nat} {a : Act} {w : World} (hm : P.follows .mixedOrders = true) (hsz : ∀ listed a w, J listed a w → listed.size = ops.size)
    (hstep : ∀ i listed a w, i ∈ Region.ready .any ops listed → J listed a w → wpOp P ops Q i (J (listed.setIfInBounds i true)) a w)
    (hend : ∀ listed a w, Region.ready .any ops listed = [] → J listed a w → Q .normal a w)
    (h0 : J (Array.replicate ops.size false) a { w with drawn := w.drawn + 1 }) : (Code.region id ops true).wp P Q a w := by
  refine wp_region_any hm (wpAny_inv hsz hstep hend _ _ _ _ ?_ h0)
  unfold left_
  exact Nat.le_trans (List.length_filter_le _ _) (by rw [List.length_range]; exact Nat.le_refl _)
end
end Go.Proofs.Ytoiofdoipmdajaa.Drw
