
/- What Set and Drop of the program answer, whatever is handed in. -/
import Derived.Test.YtcgeoaegalloaaaSdA
namespace Go.Proofs.Ytcgeoaegalloaaa.Cat
open Go.ChangeShapes Go.WideShapes Go.ChangeAt Go.RowKit
open Mem Arr Lst Rec Inst Grown Sums St0 Fnd Flow
attribute [local go_sem] Oper.semAt_some
set_option linter.unusedSimpArgs false
set_option linter.unusedVariables false
theorem kept_lt {w w1 : World} {g : Nat} {o : Obj} (hb : Below w.heap.size w w1) (h : w.heap[g]? = some o) : w1.heap[g]? = some o := kept_box' hb h
def setL (L : Nat → Ins) (k : Nat) (x : Ins) (i : Nat) : Ins := if i = k then x else L i
/-- what is answered: how many, which, what error -/
def SetR (L : Nat → Ins) (n : Nat) (x : Ins) (m : Nat) (V : Nat → Ins) (er : Int) : Prop :=
  ((mayB L n = false ∨ okB x = false) ∧ m = 0 ∧ er = 2) ∨ (mayB L n = true ∧ okB x = true ∧ (∀ i, i < n → (L i).id ≠ x.id) ∧ m = 0 ∧ er = 7) ∨
    (mayB L n = true ∧ okB x = true ∧ ∃ k, k < n ∧ (L k).id = x.id ∧ m = n ∧ er = 0 ∧ ∀ i, i < n → V i = setL L k x i)
def DropR (L : Nat → Ins) (n : Nat) (id : Int) (m : Nat) (V : Nat → Ins) (er : Int) : Prop :=
  (mayB L n = false ∧ m = 0 ∧ er = 2) ∨ (mayB L n = true ∧ (∀ i, i < n → (L i).id ≠ id) ∧ m = 0 ∧ er = 7) ∨
    (mayB L n = true ∧ ∃ k, k < n ∧ (L k).id = id ∧ m = n - 1 ∧ er = 0 ∧ ∀ i, i < n - 1 → V i = cutL L k i)
theorem place_cut {L : Nat → Ins} {n k : Nat} {t : Bool} {id : Int} (hlo : ∀ i, i < k → (L i).id < id) (hno : t = false → ∀ i, k ≤ i → i < n → id < (L i).id) (ht : t = false) : ∀ i, i < n → (L i).id ≠ id := fun i hi => by
  by_cases h : i < k
  · have := hlo i h; omega
  · have := hno ht i (by omega) hi; omega
theorem own_cells {base g cap n k : Nat} (hk : k < n) : ∀ (vs : List Value) (j0 : Nat) (w : World) (V : Nat → Nat → Value), Row.Own w base 36 12 (.slice (some ⟨g, 0, none⟩) n cap) n V → j0 + vs.length ≤ 12 →
    Row.Own (w.setCells g (k * 12 + j0) vs) base 36 12 (.slice (some ⟨g, 0, none⟩) n cap) n (fun a b => if a = k ∧ j0 ≤ b ∧ b < j0 + vs.length then vs.getD (b - j0) undef else V a b) := by
  intro vs
  induction vs with
  | nil =>
    intro j0 w V h _
    exact h.congr (by omega) fun a b _ _ => by rw [if_neg (by simp <;> omega)]
  | cons v vs ih =>
    intro j0 w V h hl
    simp only [List.length_cons] at hl
    have h1 := h.stored (i := k) (j := j0) v (by omega)
    have h2 := ih (j0 + 1) _ _ h1 (by omega)
    show Row.Own ((w.setCell ⟨g, k * 12 + j0, none⟩ v).setCells g (k * 12 + j0 + 1) vs) _ _ _ _ _ _
    rw [Nat.add_assoc]
    refine h2.congr (by omega) fun a b _ _ => ?_
    show (if a = k ∧ j0 + 1 ≤ b ∧ b < j0 + 1 + vs.length then vs.getD (b - (j0 + 1)) undef else if a = k ∧ b = j0 then v else V a b) = _
    by_cases c1 : a = k ∧ b = j0
    · obtain ⟨rfl, rfl⟩ := c1
      rw [if_neg (by omega), if_pos ⟨rfl, rfl⟩, if_pos (by simp), Nat.sub_self]; rfl
    · by_cases c2 : a = k ∧ j0 + 1 ≤ b ∧ b < j0 + 1 + vs.length
      · rw [if_pos c2, if_pos (by simp <;> omega), show b - j0 = (b - (j0 + 1)) + 1 by omega]; rfl
      · rw [if_neg c2, if_neg c1, if_neg (by simp <;> omega)]
theorem own_store {w : World} {base : Nat} {g cap n k : Nat} {L : Nat → Ins} {x : Ins} (h : Row.Own w base 36 12 (.slice (some ⟨g, 0, none⟩) n cap) n (insV L)) (hk : k < n := by omega) :
    w.there g (k * 12) x.cells.size ∧ Row.Own (w.setCells g (k * 12) x.cells.toList) base 36 12 (.slice (some ⟨g, 0, none⟩) n cap) n (insV (setL L k x)) ∧ ∀ w0 : World, Below w0.heap.size w0 w → w0.heap.size ≤ g → Below w0.heap.size w0 (w.setCells g (k * 12) x.cells.toList) := by
  have hs : x.cells.size = 12 := rfl
  have hw : ∃ cur : Array Value, w.heap[g]? = some (.cells cur 36 (0, 0)) ∧ n * 12 ≤ cur.size := by
    rcases h.2 with ⟨e, h0⟩ | ⟨g', cap', cur, e, hbg, hg, hnc, hcm, hcs, ht⟩
    · cases e
    · injection e with e1 e2 e3
      injection e1 with e1
      injection e1 with e1
      subst e1
      exact ⟨cur, hg, by rw [hcs]; exact Nat.mul_le_mul_right 12 hnc⟩
  obtain ⟨cur, hg, hsz⟩ := hw
  refine ⟨there_row hg (by rw [hs]; omega), ?_, fun w0 hb h0 => ?_⟩
  · have key := own_cells hk x.cells.toList 0 w _ h (by simp [hs])
    refine key.congr (by omega) fun a b ha hb => ?_
    unfold insV setL
    by_cases e : a = k
    · rw [if_pos ⟨e, Nat.zero_le _, by simp [hs]; omega⟩, if_pos e, Nat.sub_zero]
      rw [List.getD_eq_getElem?_getD, Array.getElem?_toList]
    · rw [if_neg (fun h => e h.1), if_neg e]
  · rw [setCells_row _ _ _ _ hg]
    exact below_row _ hb h0
theorem may_is (x : Ins) (v : Bool) (hv : okB x = v) (w : World) : Calls Try.prog 30 #[x.val] w fun e w' => e = .returned (.bool v) ∧ Below w.heap.size w w' := by
  have := may_any x w; rw [hv] at this; exact this
set_option maxHeartbeats 2000000 in
theorem drop_all (A : Option Addr) (n c : Nat) (L : Nat → Ins) (id : Int) (w : World) (h : Insts w w.heap.size A n L) (hn : n ≤ 9223372036854775807) (hnc : n ≤ c) (hc : c ≤ 9223372036854775807) : Calls Try.prog 18 #[.slice A n c, .int .u64 id] w fun e w' => ∃ v m V er, e = .returned (.tuple #[v, .int .i64 er]) ∧ Hid (Row.Own w' w.heap.size 36 12 v m (insV V)) ∧ Hid (DropR L n id m V er) ∧ Below w.heap.size w w' := by
  rcases hm : mayB L n with _ | _
  · have M := Lib.hid (mayL_is A n c L false hm w h hn)
    have HR : Hid (DropR L n id 0 (fun _ => Inst.none_) 2) := Lib.hid (.inl ⟨hm, rfl, rfl⟩)
    clear hm h
    go_enter Try.func18, Try.ntmps18
    go_wp2_with fail
    refine (M.out).mono ?_
    rintro _ u ⟨rfl, bu⟩
    go_wp2
    go_ret2
    exact ⟨_, 0, _, 2, rfl, Lib.hid (Row.own_nil _ _ _ _ _), HR, bu⟩
  by_cases hk : ∃ k, k < n ∧ (L k).id = id
  · obtain ⟨k, hk, he⟩ := hk
    refine (drop_yes A n c L id k w h hm hk he hnc hc).mono ?_
    rintro _ w' ⟨v, rfl, own, hb⟩
    exact ⟨v, _, _, 0, rfl, Lib.hid own, Lib.hid (.inr (.inr ⟨hm, k, hk, he, rfl, rfl, fun i _ => rfl⟩)), hb⟩
  · have hno : ∀ i, i < n → (L i).id ≠ id := fun i hi e => hk ⟨i, hi, e⟩
    have M := Lib.hid (mayL_is A n c L true hm w h hn)
    have P := Lib.hid (fun p : Grown w => place_any A n c L id p.w1 (h.later p.below) hm)
    have HR : Hid (DropR L n id 0 (fun _ => Inst.none_) 7) := Lib.hid (.inr (.inl ⟨hm, hno, rfl, rfl⟩))
    have HO := Lib.hid hno
    clear hm h hk hno
    go_enter Try.func18, Try.ntmps18
    go_wp2_with fail
    refine (M.out).mono ?_
    rintro _ u ⟨rfl, bu⟩
    go_wp2_with fail
    refine (P.out ⟨u, bu⟩).mono ?_
    rintro _ w1 ⟨⟨k', t, rfl, hk', hlo, hyes, hno⟩, hb1⟩
    obtain rfl : t = false := by
      cases t with
      | false => rfl
      | true => obtain ⟨h1, h2, _⟩ := hyes rfl; exact absurd h2 (HO.out _ h1)
    clear hyes hno hlo
    go_wp2
    go_ret2
    exact ⟨_, 0, _, 7, rfl, Lib.hid (Row.own_nil _ _ _ _ _), HR, bTrans bu hb1⟩
set_option maxHeartbeats 4000000 in
theorem set_all (A : Option Addr) (n c : Nat) (L : Nat → Ins) (x : Ins) (w : World) (h : Insts w w.heap.size A n L) (hn : n ≤ 9223372036854775807) (hnil : A = none → c = 0) : Calls Try.prog 16 #[.slice A n c, x.val] w fun e w' => ∃ v m V er, e = .returned (.tuple #[v, .int .i64 er]) ∧ Hid (Row.Own w' w.heap.size 36 12 v m (insV V)) ∧ Hid (SetR L n x m V er) ∧ Below w.heap.size w w' := by
  have H0 := heap_alloc_new w (.cells x.cells 36)
  have B0 := bAlloc (Below.refl _ w) (.cells x.cells 36)
  have MM : ∀ v, mayB L n = v → Hid (∀ p : Grown w, Calls Try.prog 10 #[.slice A n c] p.w1 fun e w' => e = .returned (.bool v) ∧ Below p.w1.heap.size p.w1 w') := fun v hv => Lib.hid (fun p => mayL_is A n c L v hv p.w1 (h.later p.below) hn)
  have HL := Lib.hid (fun p : Grown w => (show Insts p.w1 p.w1.heap.size A n L from h.later p.below))
  rcases hm : mayB L n with _ | _
  · have M := MM false hm
    have HR : Hid (SetR L n x 0 (fun _ => Inst.none_) 2) := Lib.hid (.inl ⟨.inl hm, rfl, rfl⟩)
    clear hm h MM
    go_enter Try.func16, Try.ntmps16
    go_wp2_with fail
    refine (M.out ⟨_, B0⟩).mono ?_
    rintro _ u ⟨rfl, bu⟩
    go_wp2
    go_ret2
    exact ⟨_, 0, _, 2, rfl, Lib.hid (Row.own_nil _ _ _ _ _), HR, bTrans B0 bu⟩
  have M := MM true hm
  clear MM
  rcases hx : okB x with _ | _
  · have HR : Hid (SetR L n x 0 (fun _ => Inst.none_) 2) := Lib.hid (.inl ⟨.inr hx, rfl, rfl⟩)
    have X := Lib.hid (fun W => may_is x false hx W)
    clear hm h hx
    go_enter Try.func16, Try.ntmps16
    go_wp2_with fail
    refine (M.out ⟨_, B0⟩).mono ?_
    rintro _ u ⟨rfl, bu⟩
    have HX := kept_lt bu H0
    go_wp2_with (refine load_whole rfl 36 _ rfl w.heap.size rfl _ x.cells _ _ HX Try.underlying36 rfl (sizeInst.trans rfl) ?_)
    refine (X.out _).mono ?_
    rintro _ u2 ⟨rfl, bu2⟩
    go_wp2
    go_ret2
    exact ⟨_, 0, _, 2, rfl, Lib.hid (Row.own_nil _ _ _ _ _), HR, bTrans (bTrans B0 bu) bu2⟩
  have X := Lib.hid (fun W => may_is x true hx W)
  have P := Lib.hid (fun p : Grown w => place_any A n c L x.id p.w1 (h.later p.below) hm)
  have hn4 := may_len hm
  have HM := Lib.hid hm
  have HK := Lib.hid hx
  clear hm h hx
  go_enter Try.func16, Try.ntmps16
  go_wp2_with fail
  refine (M.out ⟨_, B0⟩).mono ?_
  rintro _ u ⟨rfl, bu⟩
  have HX := kept_lt bu H0
  go_wp2_with (refine load_whole rfl 36 _ rfl w.heap.size rfl _ x.cells _ _ HX Try.underlying36 rfl (sizeInst.trans rfl) ?_)
  refine (X.out _).mono ?_
  rintro _ u2 ⟨rfl, bu2⟩
  have HX2 := kept_lt bu2 HX
  have cx := cell_row HX2 x.f0
  go_wp2_with fail
  refine (P.out ⟨u2, bTrans (bTrans B0 bu) bu2⟩).mono ?_
  rintro _ w1 ⟨⟨k, t, rfl, hk', hlo, hyes, hno⟩, hb1⟩
  have B1 := bTrans (bTrans (bTrans B0 bu) bu2) hb1
  have HX3 := kept_lt hb1 HX2
  clear cx HX HX2 bu bu2 H0 B0 M X P hb1
  cases t with
  | false =>
    have HR : Hid (SetR L n x 0 (fun _ => Inst.none_) 7) := Lib.hid (.inr (.inl ⟨HM.out, HK.out, place_cut hlo hno rfl, rfl, rfl⟩))
    clear hyes hno hlo
    go_wp2
    go_ret2
    exact ⟨_, 0, _, 7, rfl, Lib.hid (Row.own_nil _ _ _ _ _), HR, B1⟩
  | true =>
    obtain ⟨hk, he, _⟩ := hyes rfl
    have HR : Hid (SetR L n x n (setL L k x) 0) := Lib.hid (.inr (.inr ⟨HM.out, HK.out, k, hk, he, rfl, rfl, fun i _ => rfl⟩))
    clear hyes hno hlo he
    have C := Lib.hid (clone_any A n c L w1 (HL.out ⟨w1, B1⟩) hnil (by omega))
    have d0 : decide ((k : Int) < 0) = false := decide_eq_false (by omega)
    have d1 : decide ((k : Int) < n) = true := decide_eq_true (by omega)
    go_wp2_with fail
    refine (C.out).mono ?_
    rintro _ w2 ⟨v, rfl, own, hb2⟩
    obtain ⟨g, cap, rfl, hg, hgl, hcap, hcm⟩ := Row.Own.form own.out (by omega)
    have HX4 := kept_lt hb2 HX3
    have B2 := bTrans B1 hb2
    have st := own_store own.out (k := k) (x := x)
    go_wp2_with (first | (refine load_whole rfl 36 _ rfl w.heap.size rfl _ x.cells _ _ HX4 Try.underlying36 rfl (sizeInst.trans rfl) ?_) | (refine wpList_store_mid rfl 36 _ _ rfl g (k * 12) x.cells rfl rfl st.1 (sizeInst.trans rfl) x.one ?_))
    go_ret2
    exact ⟨_, n, _, 0, rfl, Lib.hid (own_lower st.2.1 B1.size), HR, st.2.2 w B2 (by have := B1.size; omega)⟩
end Go.Proofs.Ytcgeoaegalloaaa.Cat
