
/- Layer 27: the pool's weight when one instance that stands by is gone. No code of the program. -/
import Derived.Test.YtflnamahaclidaaWrmE
import Derived.Test.YtflnamahaclidaaDrp
namespace Go.Proofs.Ytflnamahaclidaa.Wrm
open Go.ChangeShapes Go.WideShapes Go.ChangeAt Go.RowKit
open Mem Arr Lst Rec Inst Grown Sums St Opens Extra
open Thg (ofS Th thI thO insL thsL lau addT sumT)
open Fnd (cutL may_cut)
def wT (v : Int) (t : Th) : Int := if v ≠ 0 ∧ t.ver ≠ v then 0 else if t.serves = true then 0 else if t.comes = true then 0 else if t.stands = true then t.wt else 0
def wsL (v : Int) : List Th → Int
  | [] => 0
  | t :: l => wT v t + wsL v l
theorem ws_cons (v : Int) (t : Th) (l : List Th) : wsL v (t :: l) = wT v t + wsL v l := rfl
theorem warm_step (v : Int) (s : Thg.Sm) (t : Th) : (addT v s t).warm = s.warm + wT v t := by
  unfold addT wT
  split
  · simp
  · split
    · simp
    · split
      · simp
      · split
        · rfl
        · simp
theorem warm_fold (v : Int) : ∀ (l : List Th) (s : Thg.Sm), (l.foldl (addT v) s).warm = s.warm + wsL v l := by
  intro l
  induction l with
  | nil => intro s; simp [wsL]
  | cons t l ih =>
    intro s
    rw [List.foldl_cons, ih, warm_step, ws_cons]
    omega
theorem ws_append (v : Int) : ∀ a b : List Th, wsL v (a ++ b) = wsL v a + wsL v b := by
  intro a
  induction a with
  | nil => intro b; simp [wsL]
  | cons t a ih =>
    intro b
    rw [List.cons_append, ws_cons, ws_cons, ih]
    omega
theorem warm_sum (v : Int) (l : List Th) : (sumT v l).warm = wsL v l := by
  unfold sumT
  rw [warm_fold]
  show (0 : Int) + _ = _
  omega
def restL (L : Nat → Ins) (k n : Nat) : List Th := (List.range' (k + 1) (n - (k + 1))).map (fun i => thI (L i))
theorem ins_split (L : Nat → Ins) {k n : Nat} (hk : k < n) : insL L n = insL L k ++ (thI (L k) :: restL L k n) := by
  have e0 := @List.range'_append_1 0 (k + 1) (n - (k + 1))
  rw [Nat.zero_add] at e0
  have e : insL L n = insL L (k + 1) ++ restL L k n := by
    unfold insL restL
    rw [← List.map_append, List.range_eq_range', List.range_eq_range', e0, show k + 1 + (n - (k + 1)) = n by omega]
  rw [e, Thg.insL_succ, List.append_assoc]
  rfl
theorem ins_cut (L : Nat → Ins) {k n : Nat} (hk : k < n) : insL (cutL L k) (n - 1) = insL L k ++ restL L k n := by
  have e0 := @List.range'_append_1 0 k (n - (k + 1))
  rw [Nat.zero_add] at e0
  unfold insL restL
  rw [List.range_eq_range', show n - 1 = k + (n - (k + 1)) by omega, ← e0, List.map_append, List.range_eq_range']
  congr 1
  · refine List.map_congr_left fun i hi => ?_
    have := List.mem_range'_1.1 hi
    unfold cutL
    rw [if_pos (by omega)]
  · have e1 : List.range' (k + 1) (n - (k + 1)) = (List.range' k (n - (k + 1))).map (fun i => i + 1) := by
      rw [List.range'_eq_map_range, List.range'_eq_map_range, List.map_map]
      refine List.map_congr_left fun i _ => ?_
      show k + 1 + i = k + i + 1
      omega
    rw [e1, List.map_map]
    refine List.map_congr_left fun i hi => ?_
    have := List.mem_range'_1.1 hi
    show thI (cutL L k i) = thI (L (i + 1))
    unfold cutL
    rw [if_neg (by omega)]
theorem warm_cut {v : Int} {L : Nat → Ins} {O : Nat → Opn} {n m k : Nat} (hm : mayB L n = true) (hk : k < n) : (ofS v (cutL L k) (n - 1) O m).warm = (ofS v L n O m).warm - wT v (thI (L k)) := by
  unfold ofS
  rw [if_pos hm, if_pos (may_cut hm hk), warm_sum, warm_sum]
  unfold thsL
  rw [ins_split L hk, ins_cut L hk, ws_append, ws_append, ws_append, ws_append]
  rw [ws_cons]
  omega
theorem warm_in {v : Int} {L : Nat → Ins} {O : Nat → Opn} {n m : Nat} (hm : mayB L n = true) : 0 ≤ (ofS v L n O m).warm ∧ (ofS v L n O m).warm ≤ 900000 := by
  unfold ofS
  rw [if_pos hm]
  have h := Thg.inSm_sum v (thsL L n O m) (by
    intro t ht
    rcases List.mem_append.1 ht with ht | ht
    · exact Thg.insL_ok hm (Nat.le_refl _) t ht
    · exact Thg.lauL_ok t ht)
  have hl : ((thsL L n O m).length : Int) ≤ 8192 := by
    unfold thsL
    rw [List.length_append, Thg.insL_len, List.length_map]
    have := Thg.lau_len O m
    have := may_len hm
    omega
  have := h.e
  omega
/-- what is too much leaves not too little, or is old -/
theorem much_some {s : State} {L : Nat → Ins} {O : Nat → Opn} {k : Nat} (h : muchO s L O = some k) : mayW s L = true ∧ k < s.iN ∧ (L k).st = 8 ∧ (oldB s (L k) = true ∨ oldB s (L k) = false ∧ s.c.warm ≤ wtW s L O - (L k).wt) := by
  unfold muchO at h
  rcases hm : mayW s L with _ | _
  · rw [hm] at h; cases h
  · rw [if_pos hm] at h
    have hM := (mayW_yes hm).1
    rcases ho : oldO s L with _ | j
    · rw [ho] at h
      replace h : roomO s L (wtW s L O) = some k := h
      unfold roomO at h
      rcases fst_is (p := fun x => decide (x.st = 8) && roomB s (wtW s L O) x) (L := L) s.iN with ⟨e, _⟩ | ⟨j, e, hj, hp, _⟩
      · rw [e] at h; cases h
      · rw [e] at h
        injection h with h
        subst h
        obtain ⟨p1, p2⟩ := Bool.and_eq_true_iff.1 hp
        have p1 := of_decide_eq_true p1
        have y := ok_yes (may_ok hM hj)
        have z := warm_in (v := if goesB s = true then s.ver else 0) (O := O) (m := s.oN) hM
        have p2 := of_decide_eq_true p2
        rw [IntWalk.i64_in _ (by unfold wtW; omega)] at p2
        refine ⟨rfl, hj, p1, ?_⟩
        rcases hold : oldB s (L j) with _ | _
        · exact .inr ⟨rfl, p2⟩
        · exact .inl rfl
    · rw [ho] at h
      replace h : some j = some k := h
      injection h with h
      subst h
      unfold oldO at ho
      rcases fst_is (p := fun x => decide (x.st = 8) && oldB s x) (L := L) s.iN with ⟨e, _⟩ | ⟨i, e, hj, hp, _⟩
      · rw [e] at ho; cases ho
      · rw [e] at ho
        injection ho with ho
        subst ho
        obtain ⟨p1, p2⟩ := Bool.and_eq_true_iff.1 hp
        exact ⟨rfl, hj, of_decide_eq_true p1, .inl p2⟩
theorem draw_some {s : State} {L : Nat → Ins} {sp : Bool} {k : Nat} (h : drawO s L sp = some k) : mayW s L = true ∧ k < s.iN ∧ (L k).st = 8 ∧ (L k).spot = sp ∧ oldB s (L k) = false := by
  unfold drawO at h
  rcases hm : mayW s L with _ | _
  · rw [hm] at h; cases h
  · rw [if_pos hm] at h
    rcases fst_is (p := fun x => decide (x.st = 8) && (x.spot == sp) && freshB s x) (L := L) s.iN with ⟨e, _⟩ | ⟨j, e, hj, hp, _⟩
    · rw [e] at h; cases h
    · rw [e] at h
      injection h with h
      subst h
      obtain ⟨p1, p2⟩ := Bool.and_eq_true_iff.1 hp
      obtain ⟨p1, p3⟩ := Bool.and_eq_true_iff.1 p1
      unfold freshB at p2
      obtain ⟨_, p4⟩ := Bool.and_eq_true_iff.1 p2
      exact ⟨rfl, hj, of_decide_eq_true p1, by simpa using p3, by simpa using p4⟩
def dropS (s : State) (A : Option Addr) (c : Nat) : State := { s with iA := A, iN := s.iN - 1, iC := c }
theorem drop_cells (s : State) (A : Option Addr) (c : Nat) : s.cells.setIfInBounds 46 (.slice A (s.iN - 1) c) = (dropS s A c).cells := by kernel_rfl
theorem drop_little {s : State} {L : Nat → Ins} {O : Nat → Opn} {k : Nat} (A : Option Addr) (c : Nat) (hm : mayW s L = true) (hk : k < s.iN) (h8 : (L k).st = 8) (ho : oldB s (L k) = false) (hw : s.c.warm ≤ wtW s L O - (L k).wt) : littleB (dropS s A c) (cutL L k) O = false := by
  have hM := (mayW_yes hm).1
  have e : wtW (dropS s A c) (cutL L k) O = wtW s L O - (L k).wt := by
    have hg : goesB (dropS s A c) = goesB s := rfl
    have hv : (dropS s A c).ver = s.ver := rfl
    have hn : (dropS s A c).iN = s.iN - 1 := rfl
    have hq : (dropS s A c).oN = s.oN := rfl
    unfold wtW
    rw [hg, hv, hn, hq, warm_cut hM hk]
    have ew : wT (if goesB s = true then s.ver else 0) (thI (L k)) = (L k).wt := by
      unfold wT
      rw [if_neg, show (thI (L k)).serves = false from decide_eq_false (by omega), show (thI (L k)).comes = false from decide_eq_false (by omega), show (thI (L k)).stands = true from decide_eq_true (.inr h8)]
      · rfl
      · rintro ⟨a, b⟩
        unfold oldB at ho
        rcases hgo : goesB s with _ | _
        · rw [hgo] at a; exact a rfl
        · rw [hgo] at b ho
          have : decide ((L k).ver ≠ s.ver) = false := by simpa using ho
          exact (of_decide_eq_false this) b
    rw [ew]
  unfold littleB
  rw [e]
  have : (dropS s A c).c.warm = s.c.warm := rfl
  rw [this, decide_eq_false (by omega), Bool.and_false]
theorem not_little {s : State} {L : Nat → Ins} {O : Nat → Opn} {k : Nat} (hm : mayW s L = true) (hk : k < s.iN) (hw : s.c.warm ≤ wtW s L O - (L k).wt) : littleB s L O = false := by
  have y := ok_yes (may_ok (mayW_yes hm).1 hk)
  unfold littleB
  rw [decide_eq_false (by omega), Bool.and_false]
end Go.Proofs.Ytflnamahaclidaa.Wrm
