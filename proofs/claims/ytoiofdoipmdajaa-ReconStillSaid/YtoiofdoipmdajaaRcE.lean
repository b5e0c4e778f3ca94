
/- What comes of what is told: the program's Events. -/
import Derived.Test.YtoiofdoipmdajaaBoth
import Derived.Test.YtoiofdoipmdajaaKnw
namespace Go.Proofs.Ytoiofdoipmdajaa.RcE
open Go.RowKit Go.Shelf
open Go.ChangeShapes Go.WideShapes Go.ChangeAt
open Mem Arr Lst Rec Inst Grown Sums Opens St0 Tld Thg Evs Push Both Knw
attribute [local go_sem] Oper.semAt_some
set_option linter.unusedVariables false
set_option linter.unusedSimpArgs false
theorem both_stops (nn n0 e0 : Nat) (A : Option Addr) (n c : Nat) (T : Nat → Td) (C : Option Addr) (m d : Nat) (L : Nat → Ins) (w0 : World)
    (hT : Recs w0 n0 A n 3 (tdV T)) (hL : Recs w0 n0 C m 12 (insV L)) (hn : n ≤ 1000000000) (hm : m ≤ 1000000000)
    (h1 : w0.cell? ⟨e0, 0, none⟩ = some (.slice A n c)) (h2 : w0.cell? ⟨e0 + 1, 0, none⟩ = some (.slice C m d)) (hn0 : n0 ≤ w0.heap.size) (he0 : e0 + 2 ≤ w0.heap.size) :
    SeqStopsK Fence.wide nn Try.prog 22 #[.pointer (some ⟨e0, 0, none⟩), .pointer (some ⟨e0 + 1, 0, none⟩)] (encP (n := n) (m := m) A C) (KX n0 e0) (fun xs => xs.map (·.1) = mgA T L n m) (fun pre => ∃ q, pre.map (·.1) ++ q = mgA T L n m) (n + m) w0 :=
  fun l J Jx W hW hJ hJx hY h0 => both_in nn l n0 e0 A n c T C m d L J Jx hY W hJ (hT.below (hW.mono hn0)) (hL.below (hW.mono hn0)) hn hm
    (((bcell hW).1 _ _ (by omega)).trans h1) (((bcell hW).1 _ _ (by omega)).trans h2) (Nat.le_trans hn0 hW.size) (Nat.le_trans he0 hW.size) h0
theorem mayT_is (A : Option Addr) (n c : Nat) (T : Nat → Td) (v : Bool) (hv : mayT T n = v) (w : World) (h : Tolds w w.heap.size A n T) (hn : n ≤ 9223372036854775807) :
    Calls Try.prog 9 #[.slice A n c] w fun e w' => e = .returned (.bool v) ∧ Below w.heap.size w w' := by
  have := mayT_any A n c T w h hn; rw [hv] at this; exact this
theorem mayL_is (A : Option Addr) (n c : Nat) (L : Nat → Ins) (v : Bool) (hv : mayB L n = v) (w : World) (h : Insts w w.heap.size A n L) (hn : n ≤ 9223372036854775807) :
    Calls Try.prog 14 #[.slice A n c] w fun e w' => e = .returned (.bool v) ∧ Below w.heap.size w w' := by
  have := mayL_any A n c L w h hn; rw [hv] at this; exact this
/-- what comes of a pair -/
def upE (x : Td) : List Ev := if x.st = 2 then [⟨12, 0, x.id⟩] else []
def evC (T : Nat → Td) (L : Nat → Ins) : Pr → List Ev
  | (some t, none) => [⟨10, (T t).tok, (T t).id⟩] ++ upE (T t)
  | (some t, some i) => knownE (T t) (L i)
  | _ => []
def evG (L : Nat → Ins) : Pr → List Ev
  | (none, some i) => [⟨15, 0, (L i).id⟩]
  | _ => []
def evA (T : Nat → Td) (L : Nat → Ins) (n m : Nat) : List Ev := (mgA T L n m).flatMap (evC T L) ++ (mgA T L n m).flatMap (evG L)
theorem len_c (T : Nat → Td) (L : Nat → Ins) : ∀ l : List Pr, (l.flatMap (evC T L)).length ≤ 2 * l.length := by
  intro l
  induction l with
  | nil => exact Nat.le_refl _
  | cons x l ih =>
    rw [List.flatMap_cons, List.length_append, List.length_cons]
    have : (evC T L x).length ≤ 2 := by
      obtain ⟨px, py⟩ := x
      rcases px with _ | t <;> rcases py with _ | i
      · exact Nat.zero_le _
      · exact Nat.zero_le _
      · show ([_] ++ upE (T t)).length ≤ 2
        unfold upE
        split <;> simp
      · show (knownE _ _).length ≤ 2
        unfold knownE
        split <;> simp
    omega
theorem len_g (L : Nat → Ins) : ∀ l : List Pr, (l.flatMap (evG L)).length ≤ l.length := by
  intro l
  induction l with
  | nil => exact Nat.le_refl _
  | cons x l ih =>
    rw [List.flatMap_cons, List.length_append, List.length_cons]
    have : (evG L x).length ≤ 1 := by
      obtain ⟨px, py⟩ := x
      rcases px with _ | t <;> rcases py with _ | i
      · exact Nat.zero_le _
      · exact Nat.le_refl _
      · exact Nat.zero_le _
      · exact Nat.zero_le _
    omega
theorem mg_len {T : Nat → Td} {L : Nat → Ins} {n m : Nat} : ∀ f t i, (mg T L n m f t i).length ≤ f := by
  intro f
  induction f with
  | zero => intro t i; exact Nat.le_refl _
  | succ f ih =>
    intro t i
    unfold mg
    split
    · rw [List.length_cons]; exact Nat.succ_le_succ (ih _ _)
    · exact Nat.zero_le _
theorem own_base {w : World} {B B' : Nat} {v : Value} {E : List Ev} (h : OwnE w B v E) (hb : B' ≤ B) : OwnE w B' v E := by
  refine ⟨h.1, ?_⟩
  rcases h.2 with h' | ⟨g1, cap, cur, h', hbg, r⟩
  · exact .inl h'
  · exact .inr ⟨g1, cap, cur, h', Nat.le_trans hb hbg, r⟩
theorem own_cat {w : World} {B : Nat} {v : Value} {E F : List Ev} (h : Row.Own w B 45 28 v (E.length + F.length) (fun i j => if i < E.length then evV E i j else evV F (i - E.length) j)) : OwnE w B v (E ++ F) := by
  unfold OwnE
  rw [List.length_append]
  refine h.congr (by omega) fun i j hi _ => ?_
  unfold evV
  by_cases hlt : i < E.length
  · rw [if_pos hlt, List.getD_eq_getElem?_getD, List.getD_eq_getElem?_getD, List.getElem?_append_left hlt]
  · rw [if_neg hlt, List.getD_eq_getElem?_getD, List.getD_eq_getElem?_getD, List.getElem?_append_right (by omega)]
/-- the two boxes, and the rows in them -/
def InvE (w : World) (g6 g7 B : Nat) (C G : List Ev) (W : World) : Prop :=
  ∃ v6 v7, W.heap[g6]? = some (.cells #[v6] 25 (0, 0)) ∧ W.heap[g7]? = some (.cells #[v7] 25 (0, 0)) ∧ OwnE W B v6 C ∧ OwnE W B v7 G ∧ (v6.ownBlock = none ∨ v6.ownBlock ≠ v7.ownBlock) ∧ B ≤ W.heap.size ∧ Below w.heap.size w W
theorem own_cells_ {W : World} {B : Nat} {v : Value} {E : List Ev} (h : OwnE W B v E) {k : Nat} (hk : v.ownBlock = some k) : ∃ C t f, W.heap[k]? = some (.cells C t f) := by
  rcases h.2 with ⟨rfl, _⟩ | ⟨g, cap, cur, rfl, _, hg, _⟩
  · cases hk
  · have : g = k := by simpa [Value.ownBlock] using hk
    subst this
    exact ⟨_, _, _, hg⟩
theorem InvE.keep {w : World} {g6 g7 B : Nat} {C G : List Ev} {X Y : World} {row : Option Nat} (h : InvE w g6 g7 B C G X) (hg : X.grownBy Y row) (hr : ∀ r, row = some r → B ≤ r ∧ ∃ o : Obj, X.heap[r]? = some o ∧ o.isCells = false) (hw : w.heap.size ≤ B) : InvE w g6 g7 B C G Y := by
  obtain ⟨v6, v7, a, b, c, d, e, f, g⟩ := h
  have key : ∀ k C t f, X.heap[k]? = some (.cells C t f) → row ≠ some k := fun k C t f hk e => by
    obtain ⟨_, o, ho, hc⟩ := hr k e
    rw [hk] at ho; cases ho; cases hc
  have ko : ∀ {v : Value} {E : List Ev}, OwnE X B v E → v.ownBlock = none ∨ v.ownBlock ≠ row := fun {v E} h => by
    cases hv : v.ownBlock with
    | none => exact .inl rfl
    | some k =>
      obtain ⟨C, t, f, hk⟩ := own_cells_ h hv
      exact .inr (fun e => key _ _ _ _ hk e.symm)
  exact ⟨v6, v7, grown_box hg a (key _ _ _ _ a), grown_box hg b (key _ _ _ _ b), own_grown c hg (ko c), own_grown d hg (ko d), e, Nat.le_trans f hg.size,
    g.trans (below_own hg (Nat.le_trans g.size (Nat.le_refl _)) (fun k e => by have := (hr k e).1; omega))⟩
theorem exec_load_mid {P : Program} {a : Act} {w : World} {o : Oper} (ty : TypeId) (x : Operand) (ho : o.op = .load ty x) {b k : Nat} {cs : List Value} {d : TypeDesc} (hx : a.eval x = .pointer (some ⟨b, k, none⟩))
    (hc : w.rangeAt b k cs) (hu : P.underlying ty = some d) (hd : d.isRow = true) (hi : (P.info? ty).map (·.size) = some cs.length) : (execOp a.eval o).run P w = .ok (.value (.agg cs.toArray)) w := by
  unfold execOp
  simp only [ho, hx, Instr.loadAt, Instr.sureAddr, Sem.run_bind, Sem.run_pure, Result.andThen_ok, run_loadVar_mid w b k ty cs d hc hu hd hi]
theorem kept_of {B n0 e0 : Nat} {W U : World} (h : Below W.heap.size W U) (hn : n0 ≤ W.heap.size) (he : e0 + 2 ≤ W.heap.size) : KeepsFrom B W U ∧ KX n0 e0 W U :=
  ⟨⟨h.size, fun k o _ hk _ => (h.block k (Array.getElem?_eq_some_iff.1 hk).1).trans hk⟩, KX.of h hn he⟩
theorem pushed_cell {g B : Nat} {v v' : Value} {E : List Ev} {y : Ev} {W W' : World} (p : Pushed g B v E y W W' v') {b o : Nat} {u : Value} (h : W.cell? ⟨b, o, none⟩ = some u) (hb : b < W.heap.size) (hg : b ≠ g) (hne : v.ownBlock ≠ some b) : W'.cell? ⟨b, o, none⟩ = some u :=
  (cell_same (p.else_ b hb hg hne)).trans h
/-- what a round keeps besides -/
def Kept (B n0 e0 : Nat) (W W' : World) : Prop := KeepsFrom B W W' ∧ KX n0 e0 W W'
theorem Kept.t {B n0 e0 : Nat} {A C D : World} (h : Kept B n0 e0 A C) (k : Kept B n0 e0 C D) : Kept B n0 e0 A D := ⟨h.1.trans k.1, h.2.t k.2⟩
theorem pushed_kept {g B n0 e0 : Nat} {v v' : Value} {E : List Ev} {y : Ev} {W W' : World} (p : Pushed g B v E y W W' v') (hv : OwnE W B v E) (hg : g < B) (hge : g < e0) (hng : n0 ≤ g) (heB : e0 + 2 ≤ B) (hB : B ≤ W.heap.size) : Kept B n0 e0 W W' := by
  have ne : ∀ k, k < B → v.ownBlock ≠ some k := fun k hk e => by have := (own_lt hv k e).1; omega
  refine ⟨⟨p.size, fun k o hBk hk ho => ?_⟩, ⟨⟨p.os, p.tape, p.out, p.size, fun k hk => p.else_ k (by omega) (by omega) (ne k (by omega))⟩, fun k h1 h2 => p.else_ k (by omega) (by omega) (ne k (by omega))⟩⟩
  have hlt := (Array.getElem?_eq_some_iff.1 hk).1
  refine (p.else_ k hlt (by omega) (fun e => ?_)).trans hk
  obtain ⟨C, t, f, hc⟩ := own_cells_ hv e
  rw [hk] at hc; cases hc; cases ho
theorem own_else {w w' : World} {B : Nat} {v : Value} {E : List Ev} (h : OwnE w B v E) (he : ∀ k, v.ownBlock = some k → w'.heap[k]? = w.heap[k]?) : OwnE w' B v E := by
  refine ⟨h.1, ?_⟩
  rcases h.2 with h' | ⟨g1, cap, cur, h', hbg, hg1, hnc, hcm, hcs, ht⟩
  · exact .inl h'
  · exact .inr ⟨g1, cap, cur, h', hbg, (he g1 (by rw [h']; rfl)).trans hg1, hnc, hcm, hcs, ht⟩
theorem InvE.push6 {w : World} {g6 g7 B : Nat} {C G : List Ev} {v6 v7 v' : Value} {y : Ev} {W W' : World} (b6 : W.heap[g6]? = some (.cells #[v6] 25 (0, 0))) (b7 : W.heap[g7]? = some (.cells #[v7] 25 (0, 0))) (o6 : OwnE W B v6 C) (o7 : OwnE W B v7 G) (ap : v6.ownBlock = none ∨ v6.ownBlock ≠ v7.ownBlock) (hB : B ≤ W.heap.size) (hbl : Below w.heap.size w W)
    (p : Pushed g6 B v6 C y W W' v') (h6 : g6 < B) (h7 : g7 < B) (h67 : g7 ≠ g6) (hw : w.heap.size ≤ g6) : InvE w g6 g7 B (C ++ [y]) G W' := by
  have l6 := own_lt o6
  have l7 := own_lt o7
  refine ⟨v', v7, p.box, (p.else_ g7 (by omega) h67 (fun e => by have := (l6 _ e).1; omega)).trans b7, p.own, own_else o7 (fun k e => p.else_ k (l7 k e).2 (fun e2 => by have := (l7 k e).1; omega) (fun e2 => ?_)), ?_, Nat.le_trans hB p.size,
    hbl.trans ⟨p.os, p.tape, p.out, p.size, fun k hk => p.else_ k (by have := hbl.size; omega) (by omega) (fun e => by have := (l6 _ e).1; omega)⟩⟩
  · rcases ap with h | h
    · rw [h] at e2; cases e2
    · exact h (e2.trans e.symm)
  · rcases p.blk with h | ⟨k, h, hk⟩
    · rw [h]; exact ap
    · rw [h]; exact .inr (fun e => by have := (l7 k e.symm).2; omega)
theorem InvE.push7 {w : World} {g6 g7 B : Nat} {C G : List Ev} {v6 v7 v' : Value} {y : Ev} {W W' : World} (b6 : W.heap[g6]? = some (.cells #[v6] 25 (0, 0))) (b7 : W.heap[g7]? = some (.cells #[v7] 25 (0, 0))) (o6 : OwnE W B v6 C) (o7 : OwnE W B v7 G) (ap : v6.ownBlock = none ∨ v6.ownBlock ≠ v7.ownBlock) (hB : B ≤ W.heap.size) (hbl : Below w.heap.size w W)
    (p : Pushed g7 B v7 G y W W' v') (h6 : g6 < B) (h7 : g7 < B) (h67 : g7 ≠ g6) (hw : w.heap.size ≤ g7) : InvE w g6 g7 B C (G ++ [y]) W' := by
  have l6 := own_lt o6
  have l7 := own_lt o7
  have hne : ∀ k, v6.ownBlock = some k → v7.ownBlock ≠ some k := fun k e e2 => by
    rcases ap with h | h
    · rw [h] at e; cases e
    · exact h (e.trans e2.symm)
  refine ⟨v6, v', (p.else_ g6 (by omega) (Ne.symm h67) (fun e => by have := (l7 _ e).1; omega)).trans b6, p.box, own_else o6 (fun k e => p.else_ k (l6 k e).2 (fun e2 => by have := (l6 k e).1; omega) (hne k e)), p.own, ?_, Nat.le_trans hB p.size,
    hbl.trans ⟨p.os, p.tape, p.out, p.size, fun k hk => p.else_ k (by have := hbl.size; omega) (by omega) (fun e => by have := (l7 _ e).1; omega)⟩⟩
  rcases p.blk with h | ⟨k, h, hk⟩
  · rw [h]; exact ap
  · rw [h]
    cases hv : v6.ownBlock with
    | none => exact .inl rfl
    | some q => exact .inr (fun e => by have := (l6 q hv).2; injection e with e; omega)
set_option maxHeartbeats 4000000 in
set_option maxRecDepth 100000 in
theorem events_any (A : Option Addr) (n c : Nat) (T : Nat → Td) (C : Option Addr) (m d : Nat) (L : Nat → Ins) (w : World) (h : Tolds w w.heap.size A n T) (hL : Insts w w.heap.size C m L) (hn : n ≤ 100000) (hm : m ≤ 100000) :
    Calls Try.prog 7 #[.slice A n c, .slice C m d] w fun e w' => (∃ v, e = .returned (.tuple #[v, .int .i64 (if mayT T n && mayB L m then 0 else 2)]) ∧ Hid (OwnE w' w.heap.size v (if mayT T n && mayB L m then evA T L n m else []))) ∧ Below w.heap.size w w' := by
  have HT := Lib.hid (fun p : Grown w => (show Tolds p.w1 p.w1.heap.size A n T from h.later p.below))
  have HL := Lib.hid (fun p : Grown w => (show Insts p.w1 p.w1.heap.size C m L from hL.later p.below))
  clear h hL
  rcases hmt : mayT T n with _ | _
  · have M := Lib.hid (fun p : Grown w => mayT_is A n c T false hmt p.w1 (HT.out p) (by omega))
    clear hmt
    go_enter Try.func7, Try.ntmps7
    go_wp2_with fail
    refine (M.out ⟨w, Below.refl _ _⟩).mono ?_
    rintro _ w1 ⟨rfl, b1⟩
    go_wp2
    go_ret2
    exact ⟨⟨_, rfl, Lib.hid (Row.own_nil _ _ _ _ _)⟩, b1⟩
  · rcases hml : mayB L m with _ | _
    · have M := Lib.hid (fun p : Grown w => mayT_is A n c T true hmt p.w1 (HT.out p) (by omega))
      have N := Lib.hid (fun p : Grown w => mayL_is C m d L false hml p.w1 (HL.out p) (by omega))
      clear hmt hml
      go_enter Try.func7, Try.ntmps7
      go_wp2_with fail
      refine (M.out ⟨w, Below.refl _ _⟩).mono ?_
      rintro _ w1 ⟨rfl, b1⟩
      go_wp2_with fail
      refine (N.out ⟨w1, b1⟩).mono ?_
      rintro _ w2 ⟨rfl, b2⟩
      go_wp2
      go_ret2
      exact ⟨⟨_, rfl, Lib.hid (Row.own_nil _ _ _ _ _)⟩, bTrans b1 b2⟩
    · have M := Lib.hid (fun p : Grown w => mayT_is A n c T true hmt p.w1 (HT.out p) (by omega))
      have N := Lib.hid (fun p : Grown w => mayL_is C m d L true hml p.w1 (HL.out p) (by omega))
      clear hmt hml
      simp only [Bool.and_self, if_true]
      refine (callsIn_wide (n := 5)).1 ?_
      refine callsIn_of_wp_marks Try.func7 rfl trivial ?_ rfl
      simp only [Try.ntmps7, List.size_toArray, List.length_cons, List.length_nil, Nat.reduceAdd, Nat.reduceSub, Array.replicate_succ, Array.replicate_zero, List.push_toArray, List.append_toArray, List.nil_append, List.cons_append]
      refine wpIn_wide.2 ?_
      go_wp2_with fail
      refine (M.out ⟨w, Below.refl _ _⟩).mono ?_
      rintro _ w1 ⟨rfl, b1⟩
      go_wp2_with fail
      refine (N.out ⟨w1, b1⟩).mono ?_
      rintro _ w2 ⟨rfl, b2⟩
      replace b2 := bTrans b1 b2
      go_wp2_with fail
      refine (both_any A n c C m d _).mono ?_
      rintro _ _ ⟨rfl, rfl⟩
      go_wp2_with fail
      have R6 : ((((w2.alloc (.cells #[.slice none 0 0] 25)).alloc (.cells #[.slice none 0 0] 25)).alloc (.cells #[.slice A n c] 22)).alloc (.cells #[.slice C m d] 23)).heap[w2.heap.size]? = some (.cells #[.slice none 0 0] 25 (0, 0)) := heap_under (heap_under (heap_under (heap_alloc_new _ _)))
      have R7 : ((((w2.alloc (.cells #[.slice none 0 0] 25)).alloc (.cells #[.slice none 0 0] 25)).alloc (.cells #[.slice A n c] 22)).alloc (.cells #[.slice C m d] 23)).heap[w2.heap.size + 1]? = some (.cells #[.slice none 0 0] 25 (0, 0)) := heap_under (heap_under (by have := heap_alloc_new (w2.alloc (.cells #[.slice none 0 0] 25)) (.cells #[.slice none 0 0] 25); simpa using this))
      have x1 : ((((w2.alloc (.cells #[.slice none 0 0] 25)).alloc (.cells #[.slice none 0 0] 25)).alloc (.cells #[.slice A n c] 22)).alloc (.cells #[.slice C m d] 23)).cell? ⟨w2.heap.size + 1 + 1, 0, none⟩ = some (.slice A n c) := cell_row (heap_under (by have := heap_alloc_new ((w2.alloc (.cells #[.slice none 0 0] 25)).alloc (.cells #[.slice none 0 0] 25)) (.cells #[.slice A n c] 22); simpa using this)) (by rfl)
      have x2 : ((((w2.alloc (.cells #[.slice none 0 0] 25)).alloc (.cells #[.slice none 0 0] 25)).alloc (.cells #[.slice A n c] 22)).alloc (.cells #[.slice C m d] 23)).cell? ⟨w2.heap.size + 1 + 1 + 1, 0, none⟩ = some (.slice C m d) := cell_row (by have := heap_alloc_new (((w2.alloc (.cells #[.slice none 0 0] 25)).alloc (.cells #[.slice none 0 0] 25)).alloc (.cells #[.slice A n c] 22)) (.cells #[.slice C m d] 23); simpa using this) (by rfl)
      have bW : Below w2.heap.size w2 ((((w2.alloc (.cells #[.slice none 0 0] 25)).alloc (.cells #[.slice none 0 0] 25)).alloc (.cells #[.slice A n c] 22)).alloc (.cells #[.slice C m d] 23)) := bAlloc (bAlloc (bAlloc (bAlloc (Below.refl _ _) _) _) _) _
      have s2 : ((((w2.alloc (.cells #[.slice none 0 0] 25)).alloc (.cells #[.slice none 0 0] 25)).alloc (.cells #[.slice A n c] 22)).alloc (.cells #[.slice C m d] 23)).heap.size = w2.heap.size + 1 + 3 := by simp
      generalize ((((w2.alloc (.cells #[.slice none 0 0] 25)).alloc (.cells #[.slice none 0 0] 25)).alloc (.cells #[.slice A n c] 22)).alloc (.cells #[.slice C m d] 23)) = W2 at R6 R7 x1 x2 bW s2 ⊢
      have hw6 : w.heap.size ≤ w2.heap.size := b2.size
      have B2 := bTrans b2 bW
      have hT2 : Recs W2 w.heap.size A n 3 (tdV T) := Recs.below (HT.out ⟨w, Below.refl _ _⟩) B2
      have hL2 : Recs W2 w.heap.size C m 12 (insV L) := Recs.below (HL.out ⟨w, Below.refl _ _⟩) B2
      have hT0 : Recs w w.heap.size A n 3 (tdV T) := HT.out ⟨w, Below.refl _ _⟩
      have hL0 : Recs w w.heap.size C m 12 (insV L) := HL.out ⟨w, Below.refl _ _⟩
      obtain ⟨g6, hg6⟩ : ∃ g, w2.heap.size = g := ⟨_, rfl⟩
      rw [hg6] at R6 R7 x1 x2 s2 hw6 ⊢
      obtain ⟨g7, hg7⟩ : ∃ g, g6 + 1 = g := ⟨_, rfl⟩
      rw [hg7] at R7 x1 x2 s2 ⊢
      obtain ⟨B, hB⟩ : ∃ B, W2.heap.size = B := ⟨_, rfl⟩
      have he6 : g6 < g7 := by omega
      have he7 : g7 + 1 + 2 ≤ B := by omega
      clear bW hg6 b2 b1 M N
      refine (wpIn_wide (n := 5)).1 ?_
      refine wpIn_rangeFunc_ownH rfl (by omega) (gf := 22) (lb := #[.pointer (some ⟨g7 + 1, 0, none⟩), .pointer (some ⟨g7 + 1 + 1, 0, none⟩)]) rfl trivial (enters_of Try.func22 (by kernel_rfl) rfl)
        (both_stops (5 - 1) w.heap.size (g7 + 1) A n c T C m d L W2 hT2 hL2 (by omega) (by omega) x1 x2 (by omega) (by omega)) KX.t (KX.b (by omega) (by omega)) (Below.refl _ _) (fun _ => rfl)
        (fun pre W => InvE w g6 g7 B ((pre.map (·.1)).flatMap (evC T L)) ((pre.map (·.1)).flatMap (evG L)) W)
        (fun _ _ _ => False) ?hI (fun _ _ _ _ _ hs _ _ => hs) ⟨_, _, R6, R7, Row.own_nil _ _ _ _ _, Row.own_nil _ _ _ _ _, .inl rfl, by omega, B2⟩
        (fun x a' W => a' = { tmps := #[.slice A n c, .slice C m d, undef, undef, .slice none 0 0, .int .i64 0, .pointer (some ⟨g6, 0, none⟩), .pointer (some ⟨g7, 0, none⟩), ptr A 3 x.1.1, ptr C 12 x.1.2, undef, undef, .slice A n c, .bool true, .bool false, .bool false, .slice C m d, .bool true, .bool false, .bool false, .slice A n c, .slice C m d, .func (.func 22) #[] #[.pointer (some ⟨g7 + 1, 0, none⟩), .pointer (some ⟨g7 + 1 + 1, 0, none⟩)], ptr A 3 x.1.1, ptr C 12 x.1.2, undef, undef, undef, undef, undef, undef, undef, undef, undef, undef, undef, undef, undef, undef, undef, undef, undef, undef, undef, undef, undef, undef, undef, undef, undef, undef, undef, undef, undef, undef, undef, undef, undef, undef, undef, undef, undef, undef, undef, undef, undef, undef, undef, undef, undef, undef, undef, undef, undef, undef, undef, undef, undef, undef, undef, undef, undef, undef, undef, undef, undef, undef], defers := [] }) ?hA ?assign ?body ?done ?stop
      case hI =>
        intro s X Y row hs hg hr
        exact hs.keep hg (fun r e => by have := hr r e; rw [hB] at this; exact this) (by omega)
      case hA =>
        intro x a' _ X Y row hs hg hr
        exact hs
      case assign =>
        intro l pre x W K hi hK
        have hK := Lib.hid hK
        gi_wp2
        exact hK.out _ _ ⟨Nat.le_refl _, fun _ _ _ h _ => h⟩ ⟨Below.refl _ _, fun _ _ _ => rfl⟩ hi rfl

      case body =>
        rintro l pre x a' W hl hlr hinv rfl hlen
        obtain ⟨v6, v7, b6, b7, o6, o7, ap, hBW, hbl⟩ := hinv
        have l6 := len_c T L (pre.map (·.1))
        have l7 := len_g L (pre.map (·.1))
        rw [List.length_map] at l6 l7
        have hl6 : ((pre.map (·.1)).flatMap (evC T L)).length ≤ 999999 := by omega
        have hl7 : ((pre.map (·.1)).flatMap (evG L)).length ≤ 1000000 := by omega
        clear l6 l7 hlen
        have n6 : ∀ k, k < B → v6.ownBlock ≠ some k := fun k hk e => by have := (own_lt o6 k e).1; omega
        have n7 : ∀ k, k < B → v7.ownBlock ≠ some k := fun k hk e => by have := (own_lt o7 k e).1; omega
        obtain ⟨⟨px, py⟩, ok⟩ := x
        have hg6B : g6 < B := by omega
        have hg7B : g7 < B := by omega
        rcases px with _ | t
        · rcases py with _ | i
          · exact absurd rfl (ok.2.2 rfl)
          · have hi : i < m := ok.2.1 i rfl
            obtain ⟨b, off, rfl, hb, R⟩ := rec_ins (Recs.below hL0 hbl) hi
            have C0 := ins_id R
            have hne := n7 b (by omega)
            have FIN : ∀ W' v', Pushed g7 B v7 ((pre.map (·.1)).flatMap (evG L)) (Ev.mk 15 0 (L i).id) W W' v' → KeepsFrom B W W' ∧ KX w.heap.size (g7 + 1) W W' ∧ InvE w g6 g7 B (((pre ++ [(⟨(none, some i), ok⟩ : OkPr n m)]).map (·.1)).flatMap (evC T L)) (((pre ++ [(⟨(none, some i), ok⟩ : OkPr n m)]).map (·.1)).flatMap (evG L)) W' := fun W' v' P => by
              have k := pushed_kept P (n0 := w.heap.size) (e0 := g7 + 1) o7 hg7B (by omega) (by omega) (by omega) hBW
              refine ⟨k.1, k.2, ?_⟩
              rw [List.map_append, List.flatMap_append, List.flatMap_append]
              have := InvE.push7 b6 b7 o6 o7 ap hBW hbl P hg6B hg7B (by omega) (by omega)
              rw [show List.flatMap (evC T L) (List.map (·.1) [(⟨(none, some i), ok⟩ : OkPr n m)]) = [] from rfl, List.append_nil]
              exact this
            obtain ⟨GL, hGL⟩ : ∃ l, (pre.map (·.1)).flatMap (evG L) = l := ⟨_, rfl⟩
            rw [hGL] at o7 hl7 FIN
            replace FIN := Lib.hid FIN
            clear hGL o6 hl6
            clear ap hL2 hT2 R n6 n7 x1 x2 HT HL hT0 hL0
            simp only [ptr, adr]
            gi_wp2
            refine Flw.flowR (PI 8 7 g7 B v7 GL (Ev.mk 15 0 (L i).id) W) [fun v _ => v = v7, fun v _ => v = .pointer (some ⟨b, off + i * 12, none⟩), fun v _ => v = .pointer (some ⟨b, off + i * 12, none⟩), fun v _ => v = .pointer (some ⟨b, off + i * 12, none⟩), fun v _ => v = .int .u64 (L i).id, fun v _ => v = (Ev.mk 15 0 (L i).id).val, GS (Ev.mk 15 0 (L i).id) W, GA B v7 GL (Ev.mk 15 0 (L i).id) W, fun _ _ => True] [48, 49, 50, 51, 52, 53, 54, 55, 7] [48, 49, 50, 51, 52, 53, 54, 55] 87 (by kernel_rfl) rfl (by kernel_rfl) rfl (PI.start o7) ⟨?_, ?_, ?_, ?_, ?_, ?_, ?_, ?_, ?_, trivial⟩ ?_
            · intro fL fa fU hz hd fk hI hL hcl hdep
              have hN : fa.tmps.size = 87 := hz
              have k7 : fa.eval (.tmp 7) = .pointer (some ⟨g7, 0, none⟩) := Flow.eval_of ((fk 7 (by decide)).trans rfl)
              have hs := not_yet (j := 8) hcl hL (by kernel_rfl)
              have c0 : fU.cell? ⟨g7, 0, none⟩ = some v7 := cell_row (k := 0) (grown_box (hI.2 hs).1 b7 (fun e => by have := (own_lt o7 _ e).1; omega)) rfl
              refine Flw.step_val fU (v7) (Flw.wanted_none rfl) ?_ rfl (hI.same hL hs (by decide) (by decide)) (Flow.stab_refl _ _ _ _) rfl
              clear hI hL hcl hs
              simp only [execOp, k7]
              go_simp
            · intro fL fa fU hz hd fk hI hL hcl hdep
              have hN : fa.tmps.size = 87 := hz
              have k9 : fa.eval (.tmp 9) = .pointer (some ⟨b, off + i * 12, none⟩) := Flow.eval_of ((fk 9 (by decide)).trans rfl)
              have hs := not_yet (j := 8) hcl hL (by kernel_rfl)
              refine Flw.step_val fU (.pointer (some ⟨b, off + i * 12, none⟩)) (Flw.wanted_none rfl) ?_ rfl (hI.same hL hs (by decide) (by decide)) (Flow.stab_refl _ _ _ _) rfl
              clear hI hL hcl hs
              simp [execOp, k9] <;> go_simp
            · intro fL fa fU hz hd fk hI hL hcl hdep
              have hN : fa.tmps.size = 87 := hz
              obtain ⟨⟨fv1, fe1, fg1⟩, -⟩ := hdep
              have k49 : fa.eval (.tmp 49) = .pointer (some ⟨b, off + i * 12, none⟩) := Flow.eval_of (fe1.trans (congrArg some (show fv1 = .pointer (some ⟨b, off + i * 12, none⟩) from fg1)))
              have hs := not_yet (j := 8) hcl hL (by kernel_rfl)
              refine Flw.step_val fU (.pointer (some ⟨b, off + i * 12, none⟩)) (Flw.wanted_none rfl) ?_ rfl (hI.same hL hs (by decide) (by decide)) (Flow.stab_refl _ _ _ _) rfl
              clear hI hL hcl hs
              simp only [execOp, k49]
              go_simp
            · intro fL fa fU hz hd fk hI hL hcl hdep
              have hN : fa.tmps.size = 87 := hz
              obtain ⟨⟨fv2, fe2, fg2⟩, -⟩ := hdep
              have k50 : fa.eval (.tmp 50) = .pointer (some ⟨b, off + i * 12, none⟩) := Flow.eval_of (fe2.trans (congrArg some (show fv2 = .pointer (some ⟨b, off + i * 12, none⟩) from fg2)))
              have hs := not_yet (j := 8) hcl hL (by kernel_rfl)
              refine Flw.step_val fU (.pointer (some ⟨b, off + i * 12, none⟩)) (Flw.wanted_none rfl) ?_ rfl (hI.same hL hs (by decide) (by decide)) (Flow.stab_refl _ _ _ _) rfl
              clear hI hL hcl hs
              simp only [execOp, k50]
              go_simp
            · intro fL fa fU hz hd fk hI hL hcl hdep
              have hN : fa.tmps.size = 87 := hz
              obtain ⟨⟨fv3, fe3, fg3⟩, -⟩ := hdep
              have k51 : fa.eval (.tmp 51) = .pointer (some ⟨b, off + i * 12, none⟩) := Flow.eval_of (fe3.trans (congrArg some (show fv3 = .pointer (some ⟨b, off + i * 12, none⟩) from fg3)))
              have hs := not_yet (j := 8) hcl hL (by kernel_rfl)
              have c0 : fU.cell? ⟨b, off + i * 12, none⟩ = some (.int .u64 (L i).id) := (hI.2 hs).1.cell C0 (fun e => hne e.symm)
              refine Flw.step_val fU (.int .u64 (L i).id) (Flw.wanted_none rfl) ?_ rfl (hI.same hL hs (by decide) (by decide)) (Flow.stab_refl _ _ _ _) rfl
              clear hI hL hcl hs
              simp only [execOp, k51]
              go_simp
            · intro fL fa fU hz hd fk hI hL hcl hdep
              have hN : fa.tmps.size = 87 := hz
              obtain ⟨⟨fv4, fe4, fg4⟩, -⟩ := hdep
              have k52 : fa.eval (.tmp 52) = .int .u64 (L i).id := Flow.eval_of (fe4.trans (congrArg some (show fv4 = .int .u64 (L i).id from fg4)))
              have hs := not_yet (j := 8) hcl hL (by kernel_rfl)
              exact Flw.step_val fU ((Ev.mk 15 0 (L i).id).val) (Flw.wanted_none rfl) (exec_b2 _ _ rfl rfl k52) rfl (hI.same hL hs (by decide) (by decide)) (Flow.stab_refl _ _ _ _) rfl
            · intro fL fa fU hz hd fk hI hL hcl hdep
              have hN : fa.tmps.size = 87 := hz
              obtain ⟨⟨fv5, fe5, fg5⟩, -⟩ := hdep
              have k53 : fa.eval (.tmp 53) = (Ev.mk 15 0 (L i).id).val := Flow.eval_of (fe5.trans (congrArg some (show fv5 = (Ev.mk 15 0 (L i).id).val from fg5)))
              have hs := not_yet (j := 8) hcl hL (by kernel_rfl)
              exact Flw.step_val (fU.alloc (.cells (Ev.mk 15 0 (L i).id).cells 45 (0, 0))) (.slice (some ⟨fU.heap.size, 0, none⟩) 1 1) (Flw.wanted_none rfl) (exec_bS _ rfl k53) rfl (hI.alloc hs (by decide) (by decide) _) ⟨.inr fun _ h => h, .inr fun _ h => h, .inr fun _ h => h, .inr fun _ h => h, .inr fun _ h => h, .inr fun _ h => h, .inl rfl, .inr fun _ h => h.alloc _, .inr fun _ h => h, trivial⟩ ⟨fU.heap.size, rfl, (hI.2 hs).1.size, heap_alloc_new _ _⟩
            · intro fL fa fU hz hd fk hI hL hcl hdep
              have hN : fa.tmps.size = 87 := hz
              obtain ⟨⟨fv0, fe0, fg0⟩, ⟨fv6, fe6, fg6⟩, -⟩ := hdep
              have k48 : fa.eval (.tmp 48) = v7 := Flow.eval_of (fe0.trans (congrArg some (show fv0 = v7 from fg0)))
              have hs := not_yet (j := 8) hcl hL (by kernel_rfl)
              obtain ⟨q, rfl, hq, hr⟩ := (show GS (Ev.mk 15 0 (L i).id) W fv6 fU from fg6)
              have k54 := Flow.eval_of fe6
              obtain ⟨v', W', r1, r2, r3, r4, r5⟩ := hI.push o7 hs hL (by decide) hr hl7 hBW
              exact Flw.step_val W' v' (Flw.wanted_none rfl) (exec_append _ _ rfl k48 k54 r1) rfl r2 ⟨.inr fun _ h => h, .inr fun _ h => h, .inr fun _ h => h, .inr fun _ h => h, .inr fun _ h => h, .inr fun _ h => h, .inr fun _ h => h.grown r3 r4, .inl rfl, .inr fun _ h => h, trivial⟩ r5
            · intro fL fa fU hz hd fk hI hL hcl hdep
              have hN : fa.tmps.size = 87 := hz
              have k7 : fa.eval (.tmp 7) = .pointer (some ⟨g7, 0, none⟩) := Flow.eval_of ((fk 7 (by decide)).trans rfl)
              obtain ⟨⟨fv7, fe7, fg7⟩, -, ⟨fv0, fe0, fg0⟩, ⟨fv1, fe1, fg1⟩, ⟨fv2, fe2, fg2⟩, ⟨fv3, fe3, fg3⟩, ⟨fv4, fe4, fg4⟩, ⟨fv5, fe5, fg5⟩, ⟨fv6, fe6, fg6⟩, -, -⟩ := hdep
              obtain ⟨p1, p2⟩ := hI.store hL (show GA B v7 GL (Ev.mk 15 0 (L i).id) W fv7 fU from fg7) b7 hg7B o7
              have ga := (show GA B v7 GL (Ev.mk 15 0 (L i).id) W fv7 fU from fg7)
              obtain ⟨pA, pc, hsv, _⟩ := Row.Own.shape ga.1
              have k55 : fa.eval (.tmp 55) = _ := (Flow.eval_of fe7).trans hsv
              have c0 := cell_row (k := 0) p2 rfl
              have c1 := free_row p2 0
              refine Flw.step_skip (fU.setCell ⟨g7, 0, none⟩ fv7) (Flw.wanted_none rfl) ?_ rfl p1 ⟨.inr fun _ h => h, .inr fun _ h => h, .inr fun _ h => h, .inr fun _ h => h, .inr fun _ h => h, .inr fun _ h => h, .inr fun _ h => h.store (by omega) _ p2, .inr fun _ h => h.store hg7B _ p2, .inl rfl, trivial⟩ trivial
              rw [hsv]
              clear hI hL hcl p1 p2 ga
              simp only [execOp, k7, k55]
              go_simp
            intro W9 Y HI
            obtain ⟨v9, PW9⟩ := (show PI 8 7 g7 B v7 GL (Ev.mk 15 0 (L i).id) W _ W9 from HI).1 (by rfl)
            refine fun g0 g1 g2 g3 g4 g5 g6 g7 g8 => ?_
            replace g0 : Y 48 = v7 := g0
            replace g1 : Y 49 = .pointer (some ⟨b, off + i * 12, none⟩) := g1
            replace g2 : Y 50 = .pointer (some ⟨b, off + i * 12, none⟩) := g2
            replace g3 : Y 51 = .pointer (some ⟨b, off + i * 12, none⟩) := g3
            replace g4 : Y 52 = .int .u64 (L i).id := g4
            replace g5 : Y 53 = (Ev.mk 15 0 (L i).id).val := g5
            clear g6
            clear g7
            clear g8
            unfold Flow.endOk
            rw [g0, g1, g2, g3, g4, g5]
            clear HI g0 g1 g2 g3 g4 g5
            try simp only [Act.put, List.setIfInBounds_toArray, List.set_cons_succ, List.set_cons_zero]
            gi_wp2
            rw [hB]
            exact FIN.out _ _ PW9
        · have ht : t < n := ok.1 t rfl
          obtain ⟨b, off, rfl, hb, R⟩ := tolds_rec (Recs.below hT0 hbl) ht
          have C0 := td_id R
          have C1 := td_cell R (T t).f1
          have C2 := td_cell R (T t).f2
          have hne := n6 b (by omega)
          have hne7 := n7 b (by omega)
          obtain ⟨CL, hCL⟩ : ∃ l, (pre.map (·.1)).flatMap (evC T L) = l := ⟨_, rfl⟩
          obtain ⟨GL, hGL⟩ : ∃ l, (pre.map (·.1)).flatMap (evG L) = l := ⟨_, rfl⟩
          rw [hCL] at o6 hl6
          rw [hGL] at o7 hl7
          have KP := Lib.hid (fun (W1 W2 : World) (v v' : Value) (E : List Ev) (y : Ev) (P : Pushed g6 B v E y W1 W2 v') (h : OwnE W1 B v E) (hB : B ≤ W1.heap.size) => (show KeepsFrom B W1 W2 ∧ KX w.heap.size (g7 + 1) W1 W2 from pushed_kept P h hg6B (by omega) (by omega) (by omega) hB))
          rcases py with _ | i
          · have FIN : ∀ W', (KeepsFrom B W W' ∧ KX w.heap.size (g7 + 1) W W') → InvE w g6 g7 B (CL ++ ([Ev.mk 10 (T t).tok (T t).id] ++ upE (T t))) GL W' → KeepsFrom B W W' ∧ KX w.heap.size (g7 + 1) W W' ∧ InvE w g6 g7 B (((pre ++ [(⟨(some t, none), ok⟩ : OkPr n m)]).map (·.1)).flatMap (evC T L)) (((pre ++ [(⟨(some t, none), ok⟩ : OkPr n m)]).map (·.1)).flatMap (evG L)) W' := fun W' k I => by
              refine ⟨k.1, k.2, ?_⟩
              rw [List.map_append, List.flatMap_append, List.flatMap_append, hCL, hGL]
              rw [show List.flatMap (evG L) (List.map (·.1) [(⟨(some t, none), ok⟩ : OkPr n m)]) = [] from rfl, List.append_nil]
              rw [show List.flatMap (evC T L) (List.map (·.1) [(⟨(some t, none), ok⟩ : OkPr n m)]) = ([Ev.mk 10 (T t).tok (T t).id] ++ upE (T t)) ++ [] from rfl, List.append_nil]
              exact I
            replace FIN := Lib.hid FIN
            have HI6 : ∀ W' v', Pushed g6 B v6 CL (Ev.mk 10 (T t).tok (T t).id) W W' v' → InvE w g6 g7 B (CL ++ [Ev.mk 10 (T t).tok (T t).id]) GL W' := fun W' v' P => InvE.push6 b6 b7 o6 o7 ap hBW hbl P hg6B hg7B (by omega) (by omega)
            replace HI6 := Lib.hid HI6
            have hbW : b < W.heap.size := by omega
            clear ap hL2 hT2 R n6 n7 x1 x2 HT HL hT0 hL0 hCL hGL hne7 o7 b7
            simp only [ptr, adr]
            gi_wp2
            refine Flw.flowR (PI 12 11 g6 B v6 CL (Ev.mk 10 (T t).tok (T t).id) W) [fun v _ => v = v6, fun v _ => v = .pointer (some ⟨b, off + t * 3, none⟩), fun v _ => v = .pointer (some ⟨b, off + t * 3, none⟩), fun v _ => v = .pointer (some ⟨b, off + t * 3 + 1, none⟩), fun v _ => v = .int .u64 (T t).tok, fun v _ => v = .pointer (some ⟨b, off + t * 3, none⟩), fun v _ => v = .pointer (some ⟨b, off + t * 3, none⟩), fun v _ => v = .pointer (some ⟨b, off + t * 3, none⟩), fun v _ => v = .int .u64 (T t).id, fun v _ => v = (Ev.mk 10 (T t).tok (T t).id).val, GS (Ev.mk 10 (T t).tok (T t).id) W, GA B v6 CL (Ev.mk 10 (T t).tok (T t).id) W, fun _ _ => True] [59, 60, 61, 62, 63, 64, 65, 66, 67, 68, 69, 70, 6] [59, 60, 61, 62, 63, 64, 65, 66, 67, 68, 69, 70] 87 (by kernel_rfl) rfl (by kernel_rfl) rfl (PI.start o6) ⟨?_, ?_, ?_, ?_, ?_, ?_, ?_, ?_, ?_, ?_, ?_, ?_, ?_, trivial⟩ ?_
            · intro fL fa fU hz hd fk hI hL hcl hdep
              have hN : fa.tmps.size = 87 := hz
              have k6 : fa.eval (.tmp 6) = .pointer (some ⟨g6, 0, none⟩) := Flow.eval_of ((fk 6 (by decide)).trans rfl)
              have hs := not_yet (j := 12) hcl hL (by kernel_rfl)
              have c0 : fU.cell? ⟨g6, 0, none⟩ = some v6 := cell_row (k := 0) (grown_box (hI.2 hs).1 b6 (fun e => by have := (own_lt o6 _ e).1; omega)) rfl
              refine Flw.step_val fU (v6) (Flw.wanted_none rfl) ?_ rfl (hI.same hL hs (by decide) (by decide)) (Flow.stab_refl _ _ _ _) rfl
              clear hI hL hcl hs
              simp only [execOp, k6]
              go_simp
            · intro fL fa fU hz hd fk hI hL hcl hdep
              have hN : fa.tmps.size = 87 := hz
              have k8 : fa.eval (.tmp 8) = .pointer (some ⟨b, off + t * 3, none⟩) := Flow.eval_of ((fk 8 (by decide)).trans rfl)
              have hs := not_yet (j := 12) hcl hL (by kernel_rfl)
              refine Flw.step_val fU (.pointer (some ⟨b, off + t * 3, none⟩)) (Flw.wanted_none rfl) ?_ rfl (hI.same hL hs (by decide) (by decide)) (Flow.stab_refl _ _ _ _) rfl
              clear hI hL hcl hs
              simp [execOp, k8] <;> go_simp
            · intro fL fa fU hz hd fk hI hL hcl hdep
              have hN : fa.tmps.size = 87 := hz
              obtain ⟨⟨fv1, fe1, fg1⟩, -⟩ := hdep
              have k60 : fa.eval (.tmp 60) = .pointer (some ⟨b, off + t * 3, none⟩) := Flow.eval_of (fe1.trans (congrArg some (show fv1 = .pointer (some ⟨b, off + t * 3, none⟩) from fg1)))
              have hs := not_yet (j := 12) hcl hL (by kernel_rfl)
              refine Flw.step_val fU (.pointer (some ⟨b, off + t * 3, none⟩)) (Flw.wanted_none rfl) ?_ rfl (hI.same hL hs (by decide) (by decide)) (Flow.stab_refl _ _ _ _) rfl
              clear hI hL hcl hs
              simp only [execOp, k60]
              go_simp
            · intro fL fa fU hz hd fk hI hL hcl hdep
              have hN : fa.tmps.size = 87 := hz
              obtain ⟨⟨fv2, fe2, fg2⟩, -⟩ := hdep
              have k61 : fa.eval (.tmp 61) = .pointer (some ⟨b, off + t * 3, none⟩) := Flow.eval_of (fe2.trans (congrArg some (show fv2 = .pointer (some ⟨b, off + t * 3, none⟩) from fg2)))
              have hs := not_yet (j := 12) hcl hL (by kernel_rfl)
              refine Flw.step_val fU (.pointer (some ⟨b, off + t * 3 + 1, none⟩)) (Flw.wanted_none rfl) ?_ rfl (hI.same hL hs (by decide) (by decide)) (Flow.stab_refl _ _ _ _) rfl
              clear hI hL hcl hs
              simp only [execOp, k61]
              go_simp
            · intro fL fa fU hz hd fk hI hL hcl hdep
              have hN : fa.tmps.size = 87 := hz
              obtain ⟨⟨fv3, fe3, fg3⟩, -⟩ := hdep
              have k62 : fa.eval (.tmp 62) = .pointer (some ⟨b, off + t * 3 + 1, none⟩) := Flow.eval_of (fe3.trans (congrArg some (show fv3 = .pointer (some ⟨b, off + t * 3 + 1, none⟩) from fg3)))
              have hs := not_yet (j := 12) hcl hL (by kernel_rfl)
              have c0 : fU.cell? ⟨b, off + t * 3 + 1, none⟩ = some (.int .u64 (T t).tok) := (hI.2 hs).1.cell C1 (fun e => hne e.symm)
              refine Flw.step_val fU (.int .u64 (T t).tok) (Flw.wanted_none rfl) ?_ rfl (hI.same hL hs (by decide) (by decide)) (Flow.stab_refl _ _ _ _) rfl
              clear hI hL hcl hs
              simp only [execOp, k62]
              go_simp
            · intro fL fa fU hz hd fk hI hL hcl hdep
              have hN : fa.tmps.size = 87 := hz
              have k8 : fa.eval (.tmp 8) = .pointer (some ⟨b, off + t * 3, none⟩) := Flow.eval_of ((fk 8 (by decide)).trans rfl)
              have hs := not_yet (j := 12) hcl hL (by kernel_rfl)
              refine Flw.step_val fU (.pointer (some ⟨b, off + t * 3, none⟩)) (Flw.wanted_none rfl) ?_ rfl (hI.same hL hs (by decide) (by decide)) (Flow.stab_refl _ _ _ _) rfl
              clear hI hL hcl hs
              simp [execOp, k8] <;> go_simp
            · intro fL fa fU hz hd fk hI hL hcl hdep
              have hN : fa.tmps.size = 87 := hz
              obtain ⟨⟨fv5, fe5, fg5⟩, -⟩ := hdep
              have k64 : fa.eval (.tmp 64) = .pointer (some ⟨b, off + t * 3, none⟩) := Flow.eval_of (fe5.trans (congrArg some (show fv5 = .pointer (some ⟨b, off + t * 3, none⟩) from fg5)))
              have hs := not_yet (j := 12) hcl hL (by kernel_rfl)
              refine Flw.step_val fU (.pointer (some ⟨b, off + t * 3, none⟩)) (Flw.wanted_none rfl) ?_ rfl (hI.same hL hs (by decide) (by decide)) (Flow.stab_refl _ _ _ _) rfl
              clear hI hL hcl hs
              simp only [execOp, k64]
              go_simp
            · intro fL fa fU hz hd fk hI hL hcl hdep
              have hN : fa.tmps.size = 87 := hz
              obtain ⟨⟨fv6, fe6, fg6⟩, -⟩ := hdep
              have k65 : fa.eval (.tmp 65) = .pointer (some ⟨b, off + t * 3, none⟩) := Flow.eval_of (fe6.trans (congrArg some (show fv6 = .pointer (some ⟨b, off + t * 3, none⟩) from fg6)))
              have hs := not_yet (j := 12) hcl hL (by kernel_rfl)
              refine Flw.step_val fU (.pointer (some ⟨b, off + t * 3, none⟩)) (Flw.wanted_none rfl) ?_ rfl (hI.same hL hs (by decide) (by decide)) (Flow.stab_refl _ _ _ _) rfl
              clear hI hL hcl hs
              simp only [execOp, k65]
              go_simp
            · intro fL fa fU hz hd fk hI hL hcl hdep
              have hN : fa.tmps.size = 87 := hz
              obtain ⟨⟨fv7, fe7, fg7⟩, -⟩ := hdep
              have k66 : fa.eval (.tmp 66) = .pointer (some ⟨b, off + t * 3, none⟩) := Flow.eval_of (fe7.trans (congrArg some (show fv7 = .pointer (some ⟨b, off + t * 3, none⟩) from fg7)))
              have hs := not_yet (j := 12) hcl hL (by kernel_rfl)
              have c0 : fU.cell? ⟨b, off + t * 3, none⟩ = some (.int .u64 (T t).id) := (hI.2 hs).1.cell C0 (fun e => hne e.symm)
              refine Flw.step_val fU (.int .u64 (T t).id) (Flw.wanted_none rfl) ?_ rfl (hI.same hL hs (by decide) (by decide)) (Flow.stab_refl _ _ _ _) rfl
              clear hI hL hcl hs
              simp only [execOp, k66]
              go_simp
            · intro fL fa fU hz hd fk hI hL hcl hdep
              have hN : fa.tmps.size = 87 := hz
              obtain ⟨⟨fv4, fe4, fg4⟩, ⟨fv8, fe8, fg8⟩, -⟩ := hdep
              have k63 : fa.eval (.tmp 63) = .int .u64 (T t).tok := Flow.eval_of (fe4.trans (congrArg some (show fv4 = .int .u64 (T t).tok from fg4)))
              have k67 : fa.eval (.tmp 67) = .int .u64 (T t).id := Flow.eval_of (fe8.trans (congrArg some (show fv8 = .int .u64 (T t).id from fg8)))
              have hs := not_yet (j := 12) hcl hL (by kernel_rfl)
              exact Flw.step_val fU ((Ev.mk 10 (T t).tok (T t).id).val) (Flw.wanted_none rfl) (exec_b3 _ _ _ rfl rfl k63 k67) rfl (hI.same hL hs (by decide) (by decide)) (Flow.stab_refl _ _ _ _) rfl
            · intro fL fa fU hz hd fk hI hL hcl hdep
              have hN : fa.tmps.size = 87 := hz
              obtain ⟨⟨fv9, fe9, fg9⟩, -⟩ := hdep
              have k68 : fa.eval (.tmp 68) = (Ev.mk 10 (T t).tok (T t).id).val := Flow.eval_of (fe9.trans (congrArg some (show fv9 = (Ev.mk 10 (T t).tok (T t).id).val from fg9)))
              have hs := not_yet (j := 12) hcl hL (by kernel_rfl)
              exact Flw.step_val (fU.alloc (.cells (Ev.mk 10 (T t).tok (T t).id).cells 45 (0, 0))) (.slice (some ⟨fU.heap.size, 0, none⟩) 1 1) (Flw.wanted_none rfl) (exec_bS _ rfl k68) rfl (hI.alloc hs (by decide) (by decide) _) ⟨.inr fun _ h => h, .inr fun _ h => h, .inr fun _ h => h, .inr fun _ h => h, .inr fun _ h => h, .inr fun _ h => h, .inr fun _ h => h, .inr fun _ h => h, .inr fun _ h => h, .inr fun _ h => h, .inl rfl, .inr fun _ h => h.alloc _, .inr fun _ h => h, trivial⟩ ⟨fU.heap.size, rfl, (hI.2 hs).1.size, heap_alloc_new _ _⟩
            · intro fL fa fU hz hd fk hI hL hcl hdep
              have hN : fa.tmps.size = 87 := hz
              obtain ⟨⟨fv0, fe0, fg0⟩, ⟨fv10, fe10, fg10⟩, -⟩ := hdep
              have k59 : fa.eval (.tmp 59) = v6 := Flow.eval_of (fe0.trans (congrArg some (show fv0 = v6 from fg0)))
              have hs := not_yet (j := 12) hcl hL (by kernel_rfl)
              obtain ⟨q, rfl, hq, hr⟩ := (show GS (Ev.mk 10 (T t).tok (T t).id) W fv10 fU from fg10)
              have k69 := Flow.eval_of fe10
              obtain ⟨v', W', r1, r2, r3, r4, r5⟩ := hI.push o6 hs hL (by decide) hr (by omega) hBW
              exact Flw.step_val W' v' (Flw.wanted_none rfl) (exec_append _ _ rfl k59 k69 r1) rfl r2 ⟨.inr fun _ h => h, .inr fun _ h => h, .inr fun _ h => h, .inr fun _ h => h, .inr fun _ h => h, .inr fun _ h => h, .inr fun _ h => h, .inr fun _ h => h, .inr fun _ h => h, .inr fun _ h => h, .inr fun _ h => h.grown r3 r4, .inl rfl, .inr fun _ h => h, trivial⟩ r5
            · intro fL fa fU hz hd fk hI hL hcl hdep
              have hN : fa.tmps.size = 87 := hz
              have k6 : fa.eval (.tmp 6) = .pointer (some ⟨g6, 0, none⟩) := Flow.eval_of ((fk 6 (by decide)).trans rfl)
              obtain ⟨⟨fv11, fe11, fg11⟩, -, ⟨fv0, fe0, fg0⟩, ⟨fv1, fe1, fg1⟩, ⟨fv2, fe2, fg2⟩, ⟨fv3, fe3, fg3⟩, ⟨fv4, fe4, fg4⟩, ⟨fv5, fe5, fg5⟩, ⟨fv6, fe6, fg6⟩, ⟨fv7, fe7, fg7⟩, ⟨fv8, fe8, fg8⟩, ⟨fv9, fe9, fg9⟩, ⟨fv10, fe10, fg10⟩, -, -⟩ := hdep
              obtain ⟨p1, p2⟩ := hI.store hL (show GA B v6 CL (Ev.mk 10 (T t).tok (T t).id) W fv11 fU from fg11) b6 hg6B o6
              have ga := (show GA B v6 CL (Ev.mk 10 (T t).tok (T t).id) W fv11 fU from fg11)
              obtain ⟨pA, pc, hsv, _⟩ := Row.Own.shape ga.1
              have k70 : fa.eval (.tmp 70) = _ := (Flow.eval_of fe11).trans hsv
              have c0 := cell_row (k := 0) p2 rfl
              have c1 := free_row p2 0
              refine Flw.step_skip (fU.setCell ⟨g6, 0, none⟩ fv11) (Flw.wanted_none rfl) ?_ rfl p1 ⟨.inr fun _ h => h, .inr fun _ h => h, .inr fun _ h => h, .inr fun _ h => h, .inr fun _ h => h, .inr fun _ h => h, .inr fun _ h => h, .inr fun _ h => h, .inr fun _ h => h, .inr fun _ h => h, .inr fun _ h => h.store (by omega) _ p2, .inr fun _ h => h.store hg6B _ p2, .inl rfl, trivial⟩ trivial
              rw [hsv]
              clear hI hL hcl p1 p2 ga
              simp only [execOp, k6, k70]
              go_simp
            intro W9 Y HI
            obtain ⟨v9, PW9⟩ := (show PI 12 11 g6 B v6 CL (Ev.mk 10 (T t).tok (T t).id) W _ W9 from HI).1 (by rfl)
            refine fun g0 g1 g2 g3 g4 g5 g6 g7 g8 g9 g10 g11 g12 => ?_
            replace g0 : Y 59 = v6 := g0
            replace g1 : Y 60 = .pointer (some ⟨b, off + t * 3, none⟩) := g1
            replace g2 : Y 61 = .pointer (some ⟨b, off + t * 3, none⟩) := g2
            replace g3 : Y 62 = .pointer (some ⟨b, off + t * 3 + 1, none⟩) := g3
            replace g4 : Y 63 = .int .u64 (T t).tok := g4
            replace g5 : Y 64 = .pointer (some ⟨b, off + t * 3, none⟩) := g5
            replace g6 : Y 65 = .pointer (some ⟨b, off + t * 3, none⟩) := g6
            replace g7 : Y 66 = .pointer (some ⟨b, off + t * 3, none⟩) := g7
            replace g8 : Y 67 = .int .u64 (T t).id := g8
            replace g9 : Y 68 = (Ev.mk 10 (T t).tok (T t).id).val := g9
            clear g10
            clear g11
            clear g12
            unfold Flow.endOk
            rw [g0, g1, g2, g3, g4, g5, g6, g7, g8, g9]
            clear HI g0 g1 g2 g3 g4 g5 g6 g7 g8 g9
            try simp only [Act.put, List.setIfInBounds_toArray, List.set_cons_succ, List.set_cons_zero]
            have I9 := HI6.out _ _ PW9
            have K9 := KP.out _ _ _ _ _ _ PW9 o6 hBW
            have D0 := pushed_cell PW9 C0 hbW (by omega) hne
            have D2 := pushed_cell PW9 C2 hbW (by omega) hne
            have hsW := PW9.size
            clear HI6 PW9 C0 C1 C2 o6 b6
            by_cases hs : (T t).st = 2
            · have d2 : ((T t).st == 2) = true := by simp [hs]
              have hup : upE (T t) = [Ev.mk 12 0 (T t).id] := if_pos hs
              rw [hup, ← List.append_assoc] at FIN
              clear hup
              obtain ⟨w6, w7, c6, c7, q6, q7, ap, hB9, hbl9⟩ := I9
              have hne : w6.ownBlock ≠ some b := fun e => by have := (own_lt q6 b e).1; omega
              obtain ⟨CM, hCM⟩ : ∃ l, CL ++ [Ev.mk 10 (T t).tok (T t).id] = l := ⟨_, rfl⟩
              have hlM : CM.length ≤ 1000000 := by rw [← hCM, List.length_append, List.length_singleton]; omega
              rw [hCM] at q6 FIN
              have HI6 : ∀ W' v', Pushed g6 B w6 CM (Ev.mk 12 0 (T t).id) W9 W' v' → InvE w g6 g7 B (CM ++ [Ev.mk 12 0 (T t).id]) GL W' := fun W' v' P => InvE.push6 c6 c7 q6 q7 ap hB9 hbl9 P hg6B hg7B (by omega) (by omega)
              replace HI6 := Lib.hid HI6
              clear hs hCM q7 c7 ap
              gi_wp2
              refine Flw.flowR (PI 8 7 g6 B w6 CM (Ev.mk 12 0 (T t).id) W9) [fun v _ => v = w6, fun v _ => v = .pointer (some ⟨b, off + t * 3, none⟩), fun v _ => v = .pointer (some ⟨b, off + t * 3, none⟩), fun v _ => v = .pointer (some ⟨b, off + t * 3, none⟩), fun v _ => v = .int .u64 (T t).id, fun v _ => v = (Ev.mk 12 0 (T t).id).val, GS (Ev.mk 12 0 (T t).id) W9, GA B w6 CM (Ev.mk 12 0 (T t).id) W9, fun _ _ => True] [76, 77, 78, 79, 80, 81, 82, 83, 6] [76, 77, 78, 79, 80, 81, 82, 83] 87 (by kernel_rfl) rfl (by kernel_rfl) rfl (PI.start q6) ⟨?_, ?_, ?_, ?_, ?_, ?_, ?_, ?_, ?_, trivial⟩ ?_
              · intro fL fa fU hz hd fk hI hL hcl hdep
                have hN : fa.tmps.size = 87 := hz
                have k6 : fa.eval (.tmp 6) = .pointer (some ⟨g6, 0, none⟩) := Flow.eval_of ((fk 6 (by decide)).trans rfl)
                have hs := not_yet (j := 8) hcl hL (by kernel_rfl)
                have c0 : fU.cell? ⟨g6, 0, none⟩ = some w6 := cell_row (k := 0) (grown_box (hI.2 hs).1 c6 (fun e => by have := (own_lt q6 _ e).1; omega)) rfl
                refine Flw.step_val fU (w6) (Flw.wanted_none rfl) ?_ rfl (hI.same hL hs (by decide) (by decide)) (Flow.stab_refl _ _ _ _) rfl
                clear hI hL hcl hs
                simp only [execOp, k6]
                go_simp
              · intro fL fa fU hz hd fk hI hL hcl hdep
                have hN : fa.tmps.size = 87 := hz
                have k8 : fa.eval (.tmp 8) = .pointer (some ⟨b, off + t * 3, none⟩) := Flow.eval_of ((fk 8 (by decide)).trans rfl)
                have hs := not_yet (j := 8) hcl hL (by kernel_rfl)
                refine Flw.step_val fU (.pointer (some ⟨b, off + t * 3, none⟩)) (Flw.wanted_none rfl) ?_ rfl (hI.same hL hs (by decide) (by decide)) (Flow.stab_refl _ _ _ _) rfl
                clear hI hL hcl hs
                simp [execOp, k8] <;> go_simp
              · intro fL fa fU hz hd fk hI hL hcl hdep
                have hN : fa.tmps.size = 87 := hz
                obtain ⟨⟨fv1, fe1, fg1⟩, -⟩ := hdep
                have k77 : fa.eval (.tmp 77) = .pointer (some ⟨b, off + t * 3, none⟩) := Flow.eval_of (fe1.trans (congrArg some (show fv1 = .pointer (some ⟨b, off + t * 3, none⟩) from fg1)))
                have hs := not_yet (j := 8) hcl hL (by kernel_rfl)
                refine Flw.step_val fU (.pointer (some ⟨b, off + t * 3, none⟩)) (Flw.wanted_none rfl) ?_ rfl (hI.same hL hs (by decide) (by decide)) (Flow.stab_refl _ _ _ _) rfl
                clear hI hL hcl hs
                simp only [execOp, k77]
                go_simp
              · intro fL fa fU hz hd fk hI hL hcl hdep
                have hN : fa.tmps.size = 87 := hz
                obtain ⟨⟨fv2, fe2, fg2⟩, -⟩ := hdep
                have k78 : fa.eval (.tmp 78) = .pointer (some ⟨b, off + t * 3, none⟩) := Flow.eval_of (fe2.trans (congrArg some (show fv2 = .pointer (some ⟨b, off + t * 3, none⟩) from fg2)))
                have hs := not_yet (j := 8) hcl hL (by kernel_rfl)
                refine Flw.step_val fU (.pointer (some ⟨b, off + t * 3, none⟩)) (Flw.wanted_none rfl) ?_ rfl (hI.same hL hs (by decide) (by decide)) (Flow.stab_refl _ _ _ _) rfl
                clear hI hL hcl hs
                simp only [execOp, k78]
                go_simp
              · intro fL fa fU hz hd fk hI hL hcl hdep
                have hN : fa.tmps.size = 87 := hz
                obtain ⟨⟨fv3, fe3, fg3⟩, -⟩ := hdep
                have k79 : fa.eval (.tmp 79) = .pointer (some ⟨b, off + t * 3, none⟩) := Flow.eval_of (fe3.trans (congrArg some (show fv3 = .pointer (some ⟨b, off + t * 3, none⟩) from fg3)))
                have hs := not_yet (j := 8) hcl hL (by kernel_rfl)
                have c0 : fU.cell? ⟨b, off + t * 3, none⟩ = some (.int .u64 (T t).id) := (hI.2 hs).1.cell D0 (fun e => hne e.symm)
                refine Flw.step_val fU (.int .u64 (T t).id) (Flw.wanted_none rfl) ?_ rfl (hI.same hL hs (by decide) (by decide)) (Flow.stab_refl _ _ _ _) rfl
                clear hI hL hcl hs
                simp only [execOp, k79]
                go_simp
              · intro fL fa fU hz hd fk hI hL hcl hdep
                have hN : fa.tmps.size = 87 := hz
                obtain ⟨⟨fv4, fe4, fg4⟩, -⟩ := hdep
                have k80 : fa.eval (.tmp 80) = .int .u64 (T t).id := Flow.eval_of (fe4.trans (congrArg some (show fv4 = .int .u64 (T t).id from fg4)))
                have hs := not_yet (j := 8) hcl hL (by kernel_rfl)
                exact Flw.step_val fU ((Ev.mk 12 0 (T t).id).val) (Flw.wanted_none rfl) (exec_b2 _ _ rfl rfl k80) rfl (hI.same hL hs (by decide) (by decide)) (Flow.stab_refl _ _ _ _) rfl
              · intro fL fa fU hz hd fk hI hL hcl hdep
                have hN : fa.tmps.size = 87 := hz
                obtain ⟨⟨fv5, fe5, fg5⟩, -⟩ := hdep
                have k81 : fa.eval (.tmp 81) = (Ev.mk 12 0 (T t).id).val := Flow.eval_of (fe5.trans (congrArg some (show fv5 = (Ev.mk 12 0 (T t).id).val from fg5)))
                have hs := not_yet (j := 8) hcl hL (by kernel_rfl)
                exact Flw.step_val (fU.alloc (.cells (Ev.mk 12 0 (T t).id).cells 45 (0, 0))) (.slice (some ⟨fU.heap.size, 0, none⟩) 1 1) (Flw.wanted_none rfl) (exec_bS _ rfl k81) rfl (hI.alloc hs (by decide) (by decide) _) ⟨.inr fun _ h => h, .inr fun _ h => h, .inr fun _ h => h, .inr fun _ h => h, .inr fun _ h => h, .inr fun _ h => h, .inl rfl, .inr fun _ h => h.alloc _, .inr fun _ h => h, trivial⟩ ⟨fU.heap.size, rfl, (hI.2 hs).1.size, heap_alloc_new _ _⟩
              · intro fL fa fU hz hd fk hI hL hcl hdep
                have hN : fa.tmps.size = 87 := hz
                obtain ⟨⟨fv0, fe0, fg0⟩, ⟨fv6, fe6, fg6⟩, -⟩ := hdep
                have k76 : fa.eval (.tmp 76) = w6 := Flow.eval_of (fe0.trans (congrArg some (show fv0 = w6 from fg0)))
                have hs := not_yet (j := 8) hcl hL (by kernel_rfl)
                obtain ⟨q, rfl, hq, hr⟩ := (show GS (Ev.mk 12 0 (T t).id) W9 fv6 fU from fg6)
                have k82 := Flow.eval_of fe6
                obtain ⟨v', W', r1, r2, r3, r4, r5⟩ := hI.push q6 hs hL (by decide) hr hlM hB9
                exact Flw.step_val W' v' (Flw.wanted_none rfl) (exec_append _ _ rfl k76 k82 r1) rfl r2 ⟨.inr fun _ h => h, .inr fun _ h => h, .inr fun _ h => h, .inr fun _ h => h, .inr fun _ h => h, .inr fun _ h => h, .inr fun _ h => h.grown r3 r4, .inl rfl, .inr fun _ h => h, trivial⟩ r5
              · intro fL fa fU hz hd fk hI hL hcl hdep
                have hN : fa.tmps.size = 87 := hz
                have k6 : fa.eval (.tmp 6) = .pointer (some ⟨g6, 0, none⟩) := Flow.eval_of ((fk 6 (by decide)).trans rfl)
                obtain ⟨⟨fv7, fe7, fg7⟩, -, ⟨fv0, fe0, fg0⟩, ⟨fv1, fe1, fg1⟩, ⟨fv2, fe2, fg2⟩, ⟨fv3, fe3, fg3⟩, ⟨fv4, fe4, fg4⟩, ⟨fv5, fe5, fg5⟩, ⟨fv6, fe6, fg6⟩, -, -⟩ := hdep
                obtain ⟨p1, p2⟩ := hI.store hL (show GA B w6 CM (Ev.mk 12 0 (T t).id) W9 fv7 fU from fg7) c6 hg6B q6
                have ga := (show GA B w6 CM (Ev.mk 12 0 (T t).id) W9 fv7 fU from fg7)
                obtain ⟨pA, pc, hsv, _⟩ := Row.Own.shape ga.1
                have k83 : fa.eval (.tmp 83) = _ := (Flow.eval_of fe7).trans hsv
                have c0 := cell_row (k := 0) p2 rfl
                have c1 := free_row p2 0
                refine Flw.step_skip (fU.setCell ⟨g6, 0, none⟩ fv7) (Flw.wanted_none rfl) ?_ rfl p1 ⟨.inr fun _ h => h, .inr fun _ h => h, .inr fun _ h => h, .inr fun _ h => h, .inr fun _ h => h, .inr fun _ h => h, .inr fun _ h => h.store (by omega) _ p2, .inr fun _ h => h.store hg6B _ p2, .inl rfl, trivial⟩ trivial
                rw [hsv]
                clear hI hL hcl p1 p2 ga
                simp only [execOp, k6, k83]
                go_simp
              intro W10 Y HI
              obtain ⟨v10, PW10⟩ := (show PI 8 7 g6 B w6 CM (Ev.mk 12 0 (T t).id) W9 _ W10 from HI).1 (by rfl)
              refine fun g0 g1 g2 g3 g4 g5 g6 g7 g8 => ?_
              replace g0 : Y 76 = w6 := g0
              replace g1 : Y 77 = .pointer (some ⟨b, off + t * 3, none⟩) := g1
              replace g2 : Y 78 = .pointer (some ⟨b, off + t * 3, none⟩) := g2
              replace g3 : Y 79 = .pointer (some ⟨b, off + t * 3, none⟩) := g3
              replace g4 : Y 80 = .int .u64 (T t).id := g4
              replace g5 : Y 81 = (Ev.mk 12 0 (T t).id).val := g5
              clear g6
              clear g7
              clear g8
              unfold Flow.endOk
              rw [g0, g1, g2, g3, g4, g5]
              clear HI g0 g1 g2 g3 g4 g5
              try simp only [Act.put, List.setIfInBounds_toArray, List.set_cons_succ, List.set_cons_zero]
              gi_wp2
              rw [hB]
              have K10 := KP.out _ _ _ _ _ _ PW10 q6 hB9
              exact FIN.out _ ⟨K9.1.trans K10.1, K9.2.t K10.2⟩ (HI6.out _ _ PW10)
            · have d2 : ((T t).st == 2) = false := by simp [hs]
              have hup : upE (T t) = [] := if_neg hs
              rw [hup, List.append_nil] at FIN
              clear hup hs
              gi_wp2
              rw [hB]
              exact FIN.out _ K9 I9
          · have hi : i < m := ok.2.1 i rfl
            obtain ⟨b2, off2, rfl, hb2, R2⟩ := rec_ins (Recs.below hL0 hbl) hi
            have FIN : ∀ W', (KeepsFrom B W W' ∧ KX w.heap.size (g7 + 1) W W') → InvE w g6 g7 B (CL ++ knownE (T t) (L i)) GL W' → KeepsFrom B W W' ∧ KX w.heap.size (g7 + 1) W W' ∧ InvE w g6 g7 B (((pre ++ [(⟨(some t, some i), ok⟩ : OkPr n m)]).map (·.1)).flatMap (evC T L)) (((pre ++ [(⟨(some t, some i), ok⟩ : OkPr n m)]).map (·.1)).flatMap (evG L)) W' := fun W' k I => by
              refine ⟨k.1, k.2, ?_⟩
              rw [List.map_append, List.flatMap_append, List.flatMap_append, hCL, hGL]
              rw [show List.flatMap (evG L) (List.map (·.1) [(⟨(some t, some i), ok⟩ : OkPr n m)]) = [] from rfl, List.append_nil]
              rw [show List.flatMap (evC T L) (List.map (·.1) [(⟨(some t, some i), ok⟩ : OkPr n m)]) = knownE (T t) (L i) ++ [] from rfl, List.append_nil]
              exact I
            replace FIN := Lib.hid FIN
            have hbW : b < W.heap.size := by omega
            have hbW2 : b2 < W.heap.size := by omega
            have IW : InvE w g6 g7 B CL GL W := ⟨v6, v7, b6, b7, o6, o7, ap, hBW, hbl⟩
            have IU : ∀ U, Below W.heap.size W U → InvE w g6 g7 B CL GL U := fun U hU => IW.keep (row := none) (grown_of hU) (fun r e => by cases e) (by omega)
            have KU : ∀ U, Below W.heap.size W U → KeepsFrom B W U ∧ KX w.heap.size (g7 + 1) W U := fun U hU => kept_of hU (by omega) (by omega)
            replace IU := Lib.hid IU
            replace KU := Lib.hid KU
            clear ap hL2 hT2 n6 n7 x1 x2 HT HL hT0 hL0 hCL hGL hne hne7 o7 b7 o6 b6 IW C1 C2
            simp only [ptr, adr]
            gi_wp2
            refine Flw.flowR (fun _ U => Below W.heap.size W U) [fun v _ => v = .pointer (some ⟨b, off + t * 3, none⟩), fun v _ => v = .pointer (some ⟨b, off + t * 3, none⟩), fun v _ => v = (T t).val, fun v _ => v = .pointer (some ⟨b2, off2 + i * 12, none⟩), fun v _ => v = .pointer (some ⟨b2, off2 + i * 12, none⟩), fun v _ => v = (L i).val, fun v _ => v = .tuple #[.int .u8 (knK (T t) (L i)), .bool (knB (T t) (L i))], fun v _ => v = .tuple #[.int .u8 (knK (T t) (L i)), .bool (knB (T t) (L i))], fun v _ => v = .int .u8 (knK (T t) (L i)), fun v _ => v = .bool (knB (T t) (L i)), fun v _ => v = .int .u8 (knK (T t) (L i)), fun v _ => v = .bool (knB (T t) (L i))] [26, 27, 28, 29, 30, 31, 32, 25, 33, 34, 10, 11] [26, 27, 28, 29, 30, 31, 32, 25, 33, 34, 10, 11] 87 (by kernel_rfl) rfl (by kernel_rfl) rfl (bDrew (Below.refl _ _)) ⟨?_, ?_, ?_, ?_, ?_, ?_, ?_, ?_, ?_, ?_, ?_, ?_, trivial⟩ ?_
            · intro fL fa fU hz hd fk hI hL hcl hdep
              have hN : fa.tmps.size = 87 := hz
              have k8 : fa.eval (.tmp 8) = .pointer (some ⟨b, off + t * 3, none⟩) := Flow.eval_of ((fk 8 (by decide)).trans rfl)
              replace hI : Below W.heap.size W fU := hI
              refine Flw.step_val fU (.pointer (some ⟨b, off + t * 3, none⟩)) (Flw.wanted_none rfl) ?_ rfl hI (Flow.stab_refl _ _ _ _) rfl
              clear hI hL hcl
              simp only [execOp, k8]
              go_simp
            · intro fL fa fU hz hd fk hI hL hcl hdep
              have hN : fa.tmps.size = 87 := hz
              obtain ⟨⟨fv0, fe0, fg0⟩, -⟩ := hdep
              have k26 : fa.eval (.tmp 26) = .pointer (some ⟨b, off + t * 3, none⟩) := Flow.eval_of (fe0.trans (congrArg some (show fv0 = .pointer (some ⟨b, off + t * 3, none⟩) from fg0)))
              replace hI : Below W.heap.size W fU := hI
              refine Flw.step_val fU (.pointer (some ⟨b, off + t * 3, none⟩)) (Flw.wanted_none rfl) ?_ rfl hI (Flow.stab_refl _ _ _ _) rfl
              clear hI hL hcl
              simp only [execOp, k26]
              go_simp
            · intro fL fa fU hz hd fk hI hL hcl hdep
              have hN : fa.tmps.size = 87 := hz
              obtain ⟨⟨fv1, fe1, fg1⟩, -⟩ := hdep
              have k27 : fa.eval (.tmp 27) = .pointer (some ⟨b, off + t * 3, none⟩) := Flow.eval_of (fe1.trans (congrArg some (show fv1 = .pointer (some ⟨b, off + t * 3, none⟩) from fg1)))
              replace hI : Below W.heap.size W fU := hI
              exact Flw.step_val fU ((T t).val) (Flw.wanted_none rfl) (exec_load_mid 47 _ rfl k27 (range_later hI hbW R) Try.underlying47 rfl (sizeTd.trans rfl)) rfl hI (Flow.stab_refl _ _ _ _) rfl
            · intro fL fa fU hz hd fk hI hL hcl hdep
              have hN : fa.tmps.size = 87 := hz
              have k9 : fa.eval (.tmp 9) = .pointer (some ⟨b2, off2 + i * 12, none⟩) := Flow.eval_of ((fk 9 (by decide)).trans rfl)
              replace hI : Below W.heap.size W fU := hI
              refine Flw.step_val fU (.pointer (some ⟨b2, off2 + i * 12, none⟩)) (Flw.wanted_none rfl) ?_ rfl hI (Flow.stab_refl _ _ _ _) rfl
              clear hI hL hcl
              simp only [execOp, k9]
              go_simp
            · intro fL fa fU hz hd fk hI hL hcl hdep
              have hN : fa.tmps.size = 87 := hz
              obtain ⟨⟨fv3, fe3, fg3⟩, -⟩ := hdep
              have k29 : fa.eval (.tmp 29) = .pointer (some ⟨b2, off2 + i * 12, none⟩) := Flow.eval_of (fe3.trans (congrArg some (show fv3 = .pointer (some ⟨b2, off2 + i * 12, none⟩) from fg3)))
              replace hI : Below W.heap.size W fU := hI
              refine Flw.step_val fU (.pointer (some ⟨b2, off2 + i * 12, none⟩)) (Flw.wanted_none rfl) ?_ rfl hI (Flow.stab_refl _ _ _ _) rfl
              clear hI hL hcl
              simp only [execOp, k29]
              go_simp
            · intro fL fa fU hz hd fk hI hL hcl hdep
              have hN : fa.tmps.size = 87 := hz
              obtain ⟨⟨fv4, fe4, fg4⟩, -⟩ := hdep
              have k30 : fa.eval (.tmp 30) = .pointer (some ⟨b2, off2 + i * 12, none⟩) := Flow.eval_of (fe4.trans (congrArg some (show fv4 = .pointer (some ⟨b2, off2 + i * 12, none⟩) from fg4)))
              replace hI : Below W.heap.size W fU := hI
              exact Flw.step_val fU ((L i).val) (Flw.wanted_none rfl) (exec_load_mid 36 _ rfl k30 (range_later hI hbW2 R2) Try.underlying36 rfl (sizeInst.trans rfl)) rfl hI (Flow.stab_refl _ _ _ _) rfl
            · intro fL fa fU hz hd fk hI hL hcl hdep
              have hN : fa.tmps.size = 87 := hz
              obtain ⟨⟨fv2, fe2, fg2⟩, ⟨fv5, fe5, fg5⟩, -⟩ := hdep
              have k28 : fa.eval (.tmp 28) = (T t).val := Flow.eval_of (fe2.trans (congrArg some (show fv2 = (T t).val from fg2)))
              have j28 : fa.tmps[28]? = some ((T t).val) := fe2.trans (congrArg some (show fv2 = (T t).val from fg2))
              have k31 : fa.eval (.tmp 31) = (L i).val := Flow.eval_of (fe5.trans (congrArg some (show fv5 = (L i).val from fg5)))
              have j31 : fa.tmps[31]? = some ((L i).val) := fe5.trans (congrArg some (show fv5 = (L i).val from fg5))
              replace hI : Below W.heap.size W fU := hI
              refine Flw.step_call 16 #[(T t).val, (L i).val] (Flw.wanted_none rfl) ?_ rfl ?_
              · simp only [execOp, k28, k31]; go_simp; exact ⟨Flow.idx j28, Flow.idx j31⟩
              · refine (known_any (T t) (L i) fU).mono ?_
                rintro _ fU' ⟨rfl, bw⟩
                exact ⟨_, rfl, bTrans hI bw, ⟨.inr fun _ h => h, .inr fun _ h => h, .inr fun _ h => h, .inr fun _ h => h, .inr fun _ h => h, .inr fun _ h => h, .inr fun _ h => h, .inr fun _ h => h, .inr fun _ h => h, .inr fun _ h => h, .inr fun _ h => h, .inr fun _ h => h, trivial⟩, rfl⟩
            · intro fL fa fU hz hd fk hI hL hcl hdep
              have hN : fa.tmps.size = 87 := hz
              obtain ⟨⟨fv6, fe6, fg6⟩, -⟩ := hdep
              have k32 : fa.eval (.tmp 32) = .tuple #[.int .u8 (knK (T t) (L i)), .bool (knB (T t) (L i))] := Flow.eval_of (fe6.trans (congrArg some (show fv6 = .tuple #[.int .u8 (knK (T t) (L i)), .bool (knB (T t) (L i))] from fg6)))
              replace hI : Below W.heap.size W fU := hI
              refine Flw.step_val fU (.tuple #[.int .u8 (knK (T t) (L i)), .bool (knB (T t) (L i))]) (Flw.wanted_none rfl) ?_ rfl hI (Flow.stab_refl _ _ _ _) rfl
              clear hI hL hcl
              simp only [execOp, k32]
              go_simp
            · intro fL fa fU hz hd fk hI hL hcl hdep
              have hN : fa.tmps.size = 87 := hz
              obtain ⟨⟨fv7, fe7, fg7⟩, -⟩ := hdep
              have k25 : fa.eval (.tmp 25) = .tuple #[.int .u8 (knK (T t) (L i)), .bool (knB (T t) (L i))] := Flow.eval_of (fe7.trans (congrArg some (show fv7 = .tuple #[.int .u8 (knK (T t) (L i)), .bool (knB (T t) (L i))] from fg7)))
              replace hI : Below W.heap.size W fU := hI
              refine Flw.step_val fU (.int .u8 (knK (T t) (L i))) (Flw.wanted_none rfl) ?_ rfl hI (Flow.stab_refl _ _ _ _) rfl
              clear hI hL hcl
              simp only [execOp, k25]
              go_simp
            · intro fL fa fU hz hd fk hI hL hcl hdep
              have hN : fa.tmps.size = 87 := hz
              obtain ⟨⟨fv7, fe7, fg7⟩, -⟩ := hdep
              have k25 : fa.eval (.tmp 25) = .tuple #[.int .u8 (knK (T t) (L i)), .bool (knB (T t) (L i))] := Flow.eval_of (fe7.trans (congrArg some (show fv7 = .tuple #[.int .u8 (knK (T t) (L i)), .bool (knB (T t) (L i))] from fg7)))
              replace hI : Below W.heap.size W fU := hI
              refine Flw.step_val fU (.bool (knB (T t) (L i))) (Flw.wanted_none rfl) ?_ rfl hI (Flow.stab_refl _ _ _ _) rfl
              clear hI hL hcl
              simp only [execOp, k25]
              go_simp
            · intro fL fa fU hz hd fk hI hL hcl hdep
              have hN : fa.tmps.size = 87 := hz
              obtain ⟨⟨fv8, fe8, fg8⟩, ⟨fv6, fe6, fg6⟩, ⟨fv0, fe0, fg0⟩, ⟨fv1, fe1, fg1⟩, ⟨fv2, fe2, fg2⟩, ⟨fv3, fe3, fg3⟩, ⟨fv4, fe4, fg4⟩, ⟨fv5, fe5, fg5⟩, -, ⟨fv7, fe7, fg7⟩, -, -⟩ := hdep
              have k33 : fa.eval (.tmp 33) = .int .u8 (knK (T t) (L i)) := Flow.eval_of (fe8.trans (congrArg some (show fv8 = .int .u8 (knK (T t) (L i)) from fg8)))
              replace hI : Below W.heap.size W fU := hI
              refine Flw.step_val fU (.int .u8 (knK (T t) (L i))) (Flw.wanted_none rfl) ?_ rfl hI (Flow.stab_refl _ _ _ _) rfl
              clear hI hL hcl
              simp only [execOp, k33]
              go_simp
            · intro fL fa fU hz hd fk hI hL hcl hdep
              have hN : fa.tmps.size = 87 := hz
              obtain ⟨⟨fv9, fe9, fg9⟩, ⟨fv10, fe10, fg10⟩, ⟨fv0, fe0, fg0⟩, ⟨fv1, fe1, fg1⟩, ⟨fv2, fe2, fg2⟩, ⟨fv3, fe3, fg3⟩, ⟨fv4, fe4, fg4⟩, ⟨fv5, fe5, fg5⟩, ⟨fv6, fe6, fg6⟩, ⟨fv7, fe7, fg7⟩, ⟨fv8, fe8, fg8⟩, -, -, -⟩ := hdep
              have k34 : fa.eval (.tmp 34) = .bool (knB (T t) (L i)) := Flow.eval_of (fe9.trans (congrArg some (show fv9 = .bool (knB (T t) (L i)) from fg9)))
              replace hI : Below W.heap.size W fU := hI
              refine Flw.step_val fU (.bool (knB (T t) (L i))) (Flw.wanted_none rfl) ?_ rfl hI (Flow.stab_refl _ _ _ _) rfl
              clear hI hL hcl
              simp only [execOp, k34]
              go_simp
            intro U Y bU
            replace bU : Below W.heap.size W U := bU
            refine fun g0 g1 g2 g3 g4 g5 g6 g7 g8 g9 g10 g11 => ?_
            replace g0 : Y 26 = .pointer (some ⟨b, off + t * 3, none⟩) := g0
            replace g1 : Y 27 = .pointer (some ⟨b, off + t * 3, none⟩) := g1
            replace g2 : Y 28 = (T t).val := g2
            replace g3 : Y 29 = .pointer (some ⟨b2, off2 + i * 12, none⟩) := g3
            replace g4 : Y 30 = .pointer (some ⟨b2, off2 + i * 12, none⟩) := g4
            replace g5 : Y 31 = (L i).val := g5
            replace g6 : Y 32 = .tuple #[.int .u8 (knK (T t) (L i)), .bool (knB (T t) (L i))] := g6
            replace g7 : Y 25 = .tuple #[.int .u8 (knK (T t) (L i)), .bool (knB (T t) (L i))] := g7
            replace g8 : Y 33 = .int .u8 (knK (T t) (L i)) := g8
            replace g9 : Y 34 = .bool (knB (T t) (L i)) := g9
            replace g10 : Y 10 = .int .u8 (knK (T t) (L i)) := g10
            replace g11 : Y 11 = .bool (knB (T t) (L i)) := g11
            unfold Flow.endOk
            rw [g0, g1, g2, g3, g4, g5, g6, g7, g8, g9, g10, g11]
            clear g0 g1 g2 g3 g4 g5 g6 g7 g8 g9 g10 g11
            try simp only [Act.put, List.setIfInBounds_toArray, List.set_cons_succ, List.set_cons_zero]
            have D0 := ((bcell bU).1 _ _ hbW).trans C0
            obtain ⟨w6, w7, c6, c7, q6, q7, ap, hB9, hbl9⟩ := IU.out U bU
            have K9 := KU.out U bU
            have hne : w6.ownBlock ≠ some b := fun e => by have := (own_lt q6 b e).1; omega
            obtain ⟨kb, hkb⟩ : ∃ v, knB (T t) (L i) = v := ⟨_, rfl⟩
            rw [hkb]
            rcases kb with _ | _
            · have hup : knownE (T t) (L i) = [] := by unfold knownE; rw [hkb]; rfl
              rw [hup, List.append_nil] at FIN
              have I9 : InvE w g6 g7 B CL GL U := ⟨w6, w7, c6, c7, q6, q7, ap, hB9, hbl9⟩
              clear hup hkb
              gi_wp2
              rw [hB]
              exact FIN.out _ K9 I9
            · have hup : knownE (T t) (L i) = [Ev.mk (knK (T t) (L i)) 0 (T t).id] := by unfold knownE; rw [hkb]; rfl
              rw [hup] at FIN
              have HI6 : ∀ W' v', Pushed g6 B w6 CL (Ev.mk (knK (T t) (L i)) 0 (T t).id) U W' v' → InvE w g6 g7 B (CL ++ [Ev.mk (knK (T t) (L i)) 0 (T t).id]) GL W' := fun W' v' P => InvE.push6 c6 c7 q6 q7 ap hB9 hbl9 P hg6B hg7B (by omega) (by omega)
              replace HI6 := Lib.hid HI6
              clear hkb hup q7 c7 ap IU KU
              gi_wp2
              refine Flw.flowR (PI 9 8 g6 B w6 CL (Ev.mk (knK (T t) (L i)) 0 (T t).id) U) [fun v _ => v = w6, fun v _ => v = .int .u8 (knK (T t) (L i)), fun v _ => v = .pointer (some ⟨b, off + t * 3, none⟩), fun v _ => v = .pointer (some ⟨b, off + t * 3, none⟩), fun v _ => v = .pointer (some ⟨b, off + t * 3, none⟩), fun v _ => v = .int .u64 (T t).id, fun v _ => v = (Ev.mk (knK (T t) (L i)) 0 (T t).id).val, GS (Ev.mk (knK (T t) (L i)) 0 (T t).id) U, GA B w6 CL (Ev.mk (knK (T t) (L i)) 0 (T t).id) U, fun _ _ => True] [36, 37, 38, 39, 40, 41, 42, 43, 44, 6] [36, 37, 38, 39, 40, 41, 42, 43, 44] 87 (by kernel_rfl) rfl (by kernel_rfl) rfl (PI.start q6) ⟨?_, ?_, ?_, ?_, ?_, ?_, ?_, ?_, ?_, ?_, trivial⟩ ?_
              · intro fL fa fU hz hd fk hI hL hcl hdep
                have hN : fa.tmps.size = 87 := hz
                have k6 : fa.eval (.tmp 6) = .pointer (some ⟨g6, 0, none⟩) := Flow.eval_of ((fk 6 (by decide)).trans rfl)
                have hs := not_yet (j := 9) hcl hL (by kernel_rfl)
                have c0 : fU.cell? ⟨g6, 0, none⟩ = some w6 := cell_row (k := 0) (grown_box (hI.2 hs).1 c6 (fun e => by have := (own_lt q6 _ e).1; omega)) rfl
                refine Flw.step_val fU (w6) (Flw.wanted_none rfl) ?_ rfl (hI.same hL hs (by decide) (by decide)) (Flow.stab_refl _ _ _ _) rfl
                clear hI hL hcl hs
                simp only [execOp, k6]
                go_simp
              · intro fL fa fU hz hd fk hI hL hcl hdep
                have hN : fa.tmps.size = 87 := hz
                have k10 : fa.eval (.tmp 10) = .int .u8 (knK (T t) (L i)) := Flow.eval_of ((fk 10 (by decide)).trans rfl)
                have hs := not_yet (j := 9) hcl hL (by kernel_rfl)
                refine Flw.step_val fU (.int .u8 (knK (T t) (L i))) (Flw.wanted_none rfl) ?_ rfl (hI.same hL hs (by decide) (by decide)) (Flow.stab_refl _ _ _ _) rfl
                clear hI hL hcl hs
                simp [execOp, k10] <;> go_simp
              · intro fL fa fU hz hd fk hI hL hcl hdep
                have hN : fa.tmps.size = 87 := hz
                have k8 : fa.eval (.tmp 8) = .pointer (some ⟨b, off + t * 3, none⟩) := Flow.eval_of ((fk 8 (by decide)).trans rfl)
                have hs := not_yet (j := 9) hcl hL (by kernel_rfl)
                refine Flw.step_val fU (.pointer (some ⟨b, off + t * 3, none⟩)) (Flw.wanted_none rfl) ?_ rfl (hI.same hL hs (by decide) (by decide)) (Flow.stab_refl _ _ _ _) rfl
                clear hI hL hcl hs
                simp [execOp, k8] <;> go_simp
              · intro fL fa fU hz hd fk hI hL hcl hdep
                have hN : fa.tmps.size = 87 := hz
                obtain ⟨⟨fv2, fe2, fg2⟩, -⟩ := hdep
                have k38 : fa.eval (.tmp 38) = .pointer (some ⟨b, off + t * 3, none⟩) := Flow.eval_of (fe2.trans (congrArg some (show fv2 = .pointer (some ⟨b, off + t * 3, none⟩) from fg2)))
                have hs := not_yet (j := 9) hcl hL (by kernel_rfl)
                refine Flw.step_val fU (.pointer (some ⟨b, off + t * 3, none⟩)) (Flw.wanted_none rfl) ?_ rfl (hI.same hL hs (by decide) (by decide)) (Flow.stab_refl _ _ _ _) rfl
                clear hI hL hcl hs
                simp only [execOp, k38]
                go_simp
              · intro fL fa fU hz hd fk hI hL hcl hdep
                have hN : fa.tmps.size = 87 := hz
                obtain ⟨⟨fv3, fe3, fg3⟩, -⟩ := hdep
                have k39 : fa.eval (.tmp 39) = .pointer (some ⟨b, off + t * 3, none⟩) := Flow.eval_of (fe3.trans (congrArg some (show fv3 = .pointer (some ⟨b, off + t * 3, none⟩) from fg3)))
                have hs := not_yet (j := 9) hcl hL (by kernel_rfl)
                refine Flw.step_val fU (.pointer (some ⟨b, off + t * 3, none⟩)) (Flw.wanted_none rfl) ?_ rfl (hI.same hL hs (by decide) (by decide)) (Flow.stab_refl _ _ _ _) rfl
                clear hI hL hcl hs
                simp only [execOp, k39]
                go_simp
              · intro fL fa fU hz hd fk hI hL hcl hdep
                have hN : fa.tmps.size = 87 := hz
                obtain ⟨⟨fv4, fe4, fg4⟩, -⟩ := hdep
                have k40 : fa.eval (.tmp 40) = .pointer (some ⟨b, off + t * 3, none⟩) := Flow.eval_of (fe4.trans (congrArg some (show fv4 = .pointer (some ⟨b, off + t * 3, none⟩) from fg4)))
                have hs := not_yet (j := 9) hcl hL (by kernel_rfl)
                have c0 : fU.cell? ⟨b, off + t * 3, none⟩ = some (.int .u64 (T t).id) := (hI.2 hs).1.cell D0 (fun e => hne e.symm)
                refine Flw.step_val fU (.int .u64 (T t).id) (Flw.wanted_none rfl) ?_ rfl (hI.same hL hs (by decide) (by decide)) (Flow.stab_refl _ _ _ _) rfl
                clear hI hL hcl hs
                simp only [execOp, k40]
                go_simp
              · intro fL fa fU hz hd fk hI hL hcl hdep
                have hN : fa.tmps.size = 87 := hz
                obtain ⟨⟨fv1, fe1, fg1⟩, ⟨fv5, fe5, fg5⟩, -⟩ := hdep
                have k37 : fa.eval (.tmp 37) = .int .u8 (knK (T t) (L i)) := Flow.eval_of (fe1.trans (congrArg some (show fv1 = .int .u8 (knK (T t) (L i)) from fg1)))
                have k41 : fa.eval (.tmp 41) = .int .u64 (T t).id := Flow.eval_of (fe5.trans (congrArg some (show fv5 = .int .u64 (T t).id from fg5)))
                have hs := not_yet (j := 9) hcl hL (by kernel_rfl)
                exact Flw.step_val fU ((Ev.mk (knK (T t) (L i)) 0 (T t).id).val) (Flw.wanted_none rfl) (exec_b2 _ _ rfl k37 k41) rfl (hI.same hL hs (by decide) (by decide)) (Flow.stab_refl _ _ _ _) rfl
              · intro fL fa fU hz hd fk hI hL hcl hdep
                have hN : fa.tmps.size = 87 := hz
                obtain ⟨⟨fv6, fe6, fg6⟩, -⟩ := hdep
                have k42 : fa.eval (.tmp 42) = (Ev.mk (knK (T t) (L i)) 0 (T t).id).val := Flow.eval_of (fe6.trans (congrArg some (show fv6 = (Ev.mk (knK (T t) (L i)) 0 (T t).id).val from fg6)))
                have hs := not_yet (j := 9) hcl hL (by kernel_rfl)
                exact Flw.step_val (fU.alloc (.cells (Ev.mk (knK (T t) (L i)) 0 (T t).id).cells 45 (0, 0))) (.slice (some ⟨fU.heap.size, 0, none⟩) 1 1) (Flw.wanted_none rfl) (exec_bS _ rfl k42) rfl (hI.alloc hs (by decide) (by decide) _) ⟨.inr fun _ h => h, .inr fun _ h => h, .inr fun _ h => h, .inr fun _ h => h, .inr fun _ h => h, .inr fun _ h => h, .inr fun _ h => h, .inl rfl, .inr fun _ h => h.alloc _, .inr fun _ h => h, trivial⟩ ⟨fU.heap.size, rfl, (hI.2 hs).1.size, heap_alloc_new _ _⟩
              · intro fL fa fU hz hd fk hI hL hcl hdep
                have hN : fa.tmps.size = 87 := hz
                obtain ⟨⟨fv0, fe0, fg0⟩, ⟨fv7, fe7, fg7⟩, -⟩ := hdep
                have k36 : fa.eval (.tmp 36) = w6 := Flow.eval_of (fe0.trans (congrArg some (show fv0 = w6 from fg0)))
                have hs := not_yet (j := 9) hcl hL (by kernel_rfl)
                obtain ⟨q, rfl, hq, hr⟩ := (show GS (Ev.mk (knK (T t) (L i)) 0 (T t).id) U fv7 fU from fg7)
                have k43 := Flow.eval_of fe7
                obtain ⟨v', W', r1, r2, r3, r4, r5⟩ := hI.push q6 hs hL (by decide) hr (by omega) hB9
                exact Flw.step_val W' v' (Flw.wanted_none rfl) (exec_append _ _ rfl k36 k43 r1) rfl r2 ⟨.inr fun _ h => h, .inr fun _ h => h, .inr fun _ h => h, .inr fun _ h => h, .inr fun _ h => h, .inr fun _ h => h, .inr fun _ h => h, .inr fun _ h => h.grown r3 r4, .inl rfl, .inr fun _ h => h, trivial⟩ r5
              · intro fL fa fU hz hd fk hI hL hcl hdep
                have hN : fa.tmps.size = 87 := hz
                have k6 : fa.eval (.tmp 6) = .pointer (some ⟨g6, 0, none⟩) := Flow.eval_of ((fk 6 (by decide)).trans rfl)
                obtain ⟨⟨fv8, fe8, fg8⟩, -, ⟨fv0, fe0, fg0⟩, ⟨fv1, fe1, fg1⟩, ⟨fv2, fe2, fg2⟩, ⟨fv3, fe3, fg3⟩, ⟨fv4, fe4, fg4⟩, ⟨fv5, fe5, fg5⟩, ⟨fv6, fe6, fg6⟩, ⟨fv7, fe7, fg7⟩, -, -⟩ := hdep
                obtain ⟨p1, p2⟩ := hI.store hL (show GA B w6 CL (Ev.mk (knK (T t) (L i)) 0 (T t).id) U fv8 fU from fg8) c6 hg6B q6
                have ga := (show GA B w6 CL (Ev.mk (knK (T t) (L i)) 0 (T t).id) U fv8 fU from fg8)
                obtain ⟨pA, pc, hsv, _⟩ := Row.Own.shape ga.1
                have k44 : fa.eval (.tmp 44) = _ := (Flow.eval_of fe8).trans hsv
                have c0 := cell_row (k := 0) p2 rfl
                have c1 := free_row p2 0
                refine Flw.step_skip (fU.setCell ⟨g6, 0, none⟩ fv8) (Flw.wanted_none rfl) ?_ rfl p1 ⟨.inr fun _ h => h, .inr fun _ h => h, .inr fun _ h => h, .inr fun _ h => h, .inr fun _ h => h, .inr fun _ h => h, .inr fun _ h => h, .inr fun _ h => h.store (by omega) _ p2, .inr fun _ h => h.store hg6B _ p2, .inl rfl, trivial⟩ trivial
                rw [hsv]
                clear hI hL hcl p1 p2 ga
                simp only [execOp, k6, k44]
                go_simp
              intro W10 Y HI
              obtain ⟨v10, PW10⟩ := (show PI 9 8 g6 B w6 CL (Ev.mk (knK (T t) (L i)) 0 (T t).id) U _ W10 from HI).1 (by rfl)
              refine fun g0 g1 g2 g3 g4 g5 g6 g7 g8 g9 => ?_
              replace g0 : Y 36 = w6 := g0
              replace g1 : Y 37 = .int .u8 (knK (T t) (L i)) := g1
              replace g2 : Y 38 = .pointer (some ⟨b, off + t * 3, none⟩) := g2
              replace g3 : Y 39 = .pointer (some ⟨b, off + t * 3, none⟩) := g3
              replace g4 : Y 40 = .pointer (some ⟨b, off + t * 3, none⟩) := g4
              replace g5 : Y 41 = .int .u64 (T t).id := g5
              replace g6 : Y 42 = (Ev.mk (knK (T t) (L i)) 0 (T t).id).val := g6
              clear g7
              clear g8
              clear g9
              unfold Flow.endOk
              rw [g0, g1, g2, g3, g4, g5, g6]
              clear HI g0 g1 g2 g3 g4 g5 g6
              try simp only [Act.put, List.setIfInBounds_toArray, List.set_cons_succ, List.set_cons_zero]
              gi_wp2
              rw [hB]
              have K10 := KP.out _ _ _ _ _ _ PW10 q6 hB9
              exact FIN.out _ ⟨K9.1.trans K10.1, K9.2.t K10.2⟩ (HI6.out _ _ PW10)
      case stop =>
        rintro D c pre W _ _ h _
        exact h.elim
      case done =>
        rintro D ys W hD hS ⟨v6, v7, b6, b7, o6, o7, ap, hBW, hbl⟩ hK
        rw [hS] at o6 o7
        have e1 := len_c T L (mgA T L n m)
        have e2 := len_g L (mgA T L n m)
        have e3 : (mgA T L n m).length ≤ n + m := mg_len _ _ _
        have hev : evA T L n m = (mgA T L n m).flatMap (evC T L) ++ (mgA T L n m).flatMap (evG L) := rfl
        obtain ⟨CL, hCL⟩ : ∃ l, (mgA T L n m).flatMap (evC T L) = l := ⟨_, rfl⟩
        obtain ⟨GL, hGL⟩ : ∃ l, (mgA T L n m).flatMap (evG L) = l := ⟨_, rfl⟩
        rw [hCL, hGL] at hev
        rw [hCL] at o6 e1
        rw [hGL] at o7 e2
        have hs6 : CL.length + GL.length ≤ 600000 := by omega
        replace hev := Lib.hid hev
        obtain ⟨A7, k7, rfl, l7, m7, z7, _⟩ := Row.Own.shape o7
        obtain ⟨A6, k6, rfl, l6, m6, z6, _⟩ := Row.Own.shape o6
        have r7 := Lib.hid (Row.Own.recs o7)
        have z7 := Lib.hid z7
        have c6 := cell_row (k := 0) b6 rfl
        have c7 := cell_row (k := 0) b7 rfl
        obtain ⟨io, ho, hz0, hz1, hz2⟩ := info_parts infoEv
        have O6 := Lib.hid o6
        have HD := Lib.hid hK
        clear hCL hGL hS ap x1 x2 HT HL hT2 hL2 hT0 hL0 R6 R7 z6 e1 e2 e3 b6 b7 o7 o6 hK
        go_wp2_with (at_builtin; refine Row.append_rows rfl _ _ 25 rfl B 45 io noEv.val 28 272 (by omega) Try.underlying25 ho hz0 hz1 hz2 rfl _ CL.length (evV CL) (by rfl) O6.out _ A7 GL.length k7 (evV GL) (by rfl) r7.out (fun i j _ hj => evV_one _ i j hj) (fun e => (z7.out e).2) (by unfold maxLen; omega) (by omega) hBW ?_; intro v1 w1 own1 grow1)
        have hb6 := own_lt O6.out
        have ne6 : (Value.slice A6 CL.length k6).ownBlock ≠ some D := fun e => by
          obtain ⟨C, t, f, hc⟩ := own_cells_ O6.out e
          rw [HD.out] at hc; cases hc
        have hK2 : w1.heap[D]? = some (.deferred (some [])) := grown_box grow1 HD.out ne6
        have own2 : OwnE w1 B v1 (evA T L n m) := by rw [hev.out]; exact own_cat own1
        have bl1 : Below w.heap.size w w1 := hbl.trans (below_own grow1 (by have := hbl.size; omega) (fun k e => by have := (hb6 k e).1; omega))
        refine ⟨by simp, .inl ⟨_, _, rfl, run_takeDeferred hK2, ?_⟩⟩
        refine ⟨.tuple #[v1, .int .i64 0], by simp [results, Try.results7, go_sem], ?_⟩
        refine ⟨⟨_, rfl, Lib.hid (own_base (own_else own2 (fun k hk => World.putObj_heap_other (fun e => ?_))) (by omega))⟩, bl1.trans (belowK_b (w := w) (Nat.le_refl _) _ D _ _ (by omega) hK2 rfl rfl)⟩
        subst e
        obtain ⟨C, t, f, hc⟩ := own_cells_ own2 hk
        rw [hK2] at hc; cases hc
end Go.Proofs.Ytoiofdoipmdajaa.RcE
