
/- The lists whose events each law of the layer goes through in the end. -/
import Derived.Test.YtoiofdoipmdajaaRcH
namespace Go.Proofs.Ytoiofdoipmdajaa.RcL
open Go.RowKit
open Go.ChangeShapes Go.WideShapes Go.ChangeAt
open Mem Arr Lst Rec Inst Grown Sums Opens St0 Tld Evs Push RcE RcH
attribute [local go_sem] Oper.semAt_some
set_option linter.unusedVariables false
set_option linter.unusedSimpArgs false
theorem own_later {w w' : World} {B : Nat} {v : Value} {E : List Ev} (h : OwnE w B v E) (hb : Below w.heap.size w w') : OwnE w' B v E := Row.Own.later h hb (Nat.le_refl _)
theorem one_td (x : Td) (W : World) (cs : Array Value) (hcs : cs = x.cells) (g : Nat) (hg : g = W.heap.size) : Tolds (W.alloc (.cells cs 47 (0, 0))) (W.alloc (.cells cs 47 (0, 0))).heap.size (some ⟨g, 0, none⟩) 1 (fun _ => x) := by
  subst hcs
  subst hg
  refine ⟨fun e => (by cases e), fun _ => ⟨W.heap.size, 0, rfl, by simp, fun i j hi hj => ?_⟩⟩
  obtain rfl : i = 0 := by omega
  rw [cell_of_row _ _ _ _ _ _ (heap_alloc_new W _), Nat.zero_mul, Nat.zero_add, Nat.zero_add]
  show x.cells[j]? = some ((x.cells[j]?).getD undef)
  rw [Array.getElem?_eq_getElem (show j < x.cells.size from hj)]
  rfl
theorem one_ins (x : Ins) (W : World) (cs : Array Value) (hcs : cs = x.cells) (g : Nat) (hg : g = W.heap.size) : Insts (W.alloc (.cells cs 36 (0, 0))) (W.alloc (.cells cs 36 (0, 0))).heap.size (some ⟨g, 0, none⟩) 1 (fun _ => x) := by
  subst hcs
  subst hg
  refine ⟨fun e => (by cases e), fun _ => ⟨W.heap.size, 0, rfl, by simp, fun i j hi hj => ?_⟩⟩
  obtain rfl : i = 0 := by omega
  rw [cell_of_row _ _ _ _ _ _ (heap_alloc_new W _), Nat.zero_mul, Nat.zero_add, Nat.zero_add]
  show x.cells[j]? = some ((x.cells[j]?).getD undef)
  rw [Array.getElem?_eq_getElem (show j < x.cells.size from hj)]
  rfl
theorem no_td (w : World) (B : Nat) (T : Nat → Td) : Tolds w B none 0 T := ⟨fun _ => rfl, fun h => absurd h (by omega)⟩
theorem no_ins (w : World) (B : Nat) (L : Nat → Ins) : Recs w B none 0 12 (insV L) := ⟨fun _ => rfl, fun h => absurd h (by omega)⟩
theorem one_ev (y : Ev) (W : World) (cs : Array Value) (hcs : cs = y.cells) (g : Nat) (hg : g = W.heap.size) : RdE (W.alloc (.cells cs 45 (0, 0))) (W.alloc (.cells cs 45 (0, 0))).heap.size (some ⟨g, 0, none⟩) [y] := by
  subst hcs
  subst hg
  refine ⟨fun e => (by cases e), fun _ => ⟨W.heap.size, 0, rfl, by simp, fun i j hi hj => ?_⟩⟩
  obtain rfl : i = 0 := by have : i < 1 := hi; omega
  rw [cell_of_row _ _ _ _ _ _ (heap_alloc_new W _), Nat.zero_mul, Nat.zero_add, Nat.zero_add]
  show y.cells[j]? = some ((y.cells[j]?).getD undef)
  rw [Array.getElem?_eq_getElem (show j < y.cells.size from hj)]
  rfl
theorem two_ev (y z : Ev) (W : World) (cs : Array Value) (hcs : cs = y.cells ++ z.cells) (g : Nat) (hg : g = W.heap.size) : RdE (W.alloc (.cells cs 45 (0, 0))) (W.alloc (.cells cs 45 (0, 0))).heap.size (some ⟨g, 0, none⟩) [y, z] := by
  subst hcs
  subst hg
  refine ⟨fun e => (by cases e), fun _ => ⟨W.heap.size, 0, rfl, by simp, fun i j hi hj => ?_⟩⟩
  have hi2 : i < 2 := hi
  rw [cell_of_row _ _ _ _ _ _ (heap_alloc_new W _), Nat.zero_add]
  have sy := y.size
  have sz := z.size
  by_cases e : i = 0
  · subst e
    rw [Nat.zero_mul, Nat.zero_add, Array.getElem?_append_left (by omega)]
    show y.cells[j]? = some ((y.cells[j]?).getD undef)
    rw [Array.getElem?_eq_getElem (show j < y.cells.size from hj)]
    rfl
  · obtain rfl : i = 1 := by omega
    rw [Nat.one_mul, Array.getElem?_append_right (by omega), show 28 + j - y.cells.size = j by omega]
    show z.cells[j]? = some ((z.cells[j]?).getD undef)
    rw [Array.getElem?_eq_getElem (show j < z.cells.size from hj)]
    rfl
theorem events_is (A : Option Addr) (n c : Nat) (T : Nat → Td) (C : Option Addr) (m d : Nat) (L : Nat → Ins) (E : List Ev) (w : World) (h : Tolds w w.heap.size A n T) (hL : Insts w w.heap.size C m L) (hn : n ≤ 100000) (hm : m ≤ 100000) (h1 : mayT T n = true) (h2 : mayB L m = true) (h3 : evA T L n m = E) :
    Calls Try.prog 7 #[.slice A n c, .slice C m d] w fun e w' => (∃ A c, e = .returned (.tuple #[.slice A E.length c, .int .i64 0]) ∧ Hid (OwnE w' w.heap.size (.slice A E.length c) E)) ∧ Below w.heap.size w w' := by
  have := events_any A n c T C m d L w h hL hn hm
  rw [h1, h2, h3] at this
  refine this.mono ?_
  rintro _ w' ⟨⟨v, rfl, ow⟩, b⟩
  have ow2 : OwnE w' w.heap.size v E := ow.out
  obtain ⟨A', c', rfl, _⟩ := Row.Own.shape ow2
  exact ⟨⟨A', c', rfl, Lib.hid ow2⟩, b⟩
def i1 : Ins := ⟨1, 5, 0, 1, false, 3, 0, false, 0, false, false, 0⟩
def i2 : Ins := ⟨1, 0, 0, 1, false, 3, 0, false, 0, false, false, 0⟩
def i3 : Ins := ⟨1, 0, 0, 1, false, 7, 0, false, 0, false, false, 0⟩
set_option maxHeartbeats 8000000 in
set_option maxRecDepth 100000 in
theorem lives_any (w : World) : Calls Try.prog 6 #[] w fun e w' => e = .returned (.bool true) ∧ Below w.heap.size w w' := by
  go_enter Try.func6, Try.ntmps6
  go_wp2_with fail
  have T1 := one_td ⟨1, 5, 2⟩ w (Td.cells ⟨1, 5, 2⟩) rfl _ rfl
  refine (events_is (some ⟨w.heap.size, 0, none⟩) 1 1 (fun _ => ⟨1, 5, 2⟩) none 0 0 (fun _ => none_) [⟨10, 5, 1⟩, ⟨12, 0, 1⟩] _ T1 (no_ins _ _ _) (by omega) (by omega) (by kernel_rfl) (by kernel_rfl) (by kernel_rfl)).mono ?_
  rintro _ u1 ⟨⟨Aa, ca, rfl, oa⟩, b1⟩
  replace T1 := Lib.hid (T1.later b1)
  replace b1 := bTrans (bAlloc (Below.refl _ w) _) b1
  go_wp2_with fail
  have L1 := one_ins i1 u1 (Ins.cells i1) rfl _ rfl
  refine (events_is (some ⟨w.heap.size, 0, none⟩) 1 1 (fun _ => ⟨1, 5, 2⟩) (some ⟨u1.heap.size, 0, none⟩) 1 1 (fun _ => i1) [] _ (T1.out.later (bAlloc (Below.refl _ u1) _)) L1 (by omega) (by omega) (by kernel_rfl) (by kernel_rfl) (by kernel_rfl)).mono ?_
  rintro _ u2 ⟨⟨Ab, cb, rfl, ob⟩, b2⟩
  replace b2 := bTrans (bAlloc (Below.refl _ u1) _) b2
  clear T1 L1
  go_wp2_with fail
  have L1 := one_ins i2 u2 (Ins.cells i2) rfl _ rfl
  refine (events_is none 0 0 (fun _ => noTd) (some ⟨u2.heap.size, 0, none⟩) 1 1 (fun _ => i2) [⟨15, 0, 1⟩] _ (no_td _ _ _) L1 (by omega) (by omega) (by kernel_rfl) (by kernel_rfl) (by kernel_rfl)).mono ?_
  rintro _ u3 ⟨⟨Ac, cc, rfl, oc⟩, b3⟩
  replace b3 := bTrans (bAlloc (Below.refl _ u2) _) b3
  clear L1
  go_wp2_with fail
  have T4 := one_td ⟨1, 5, 3⟩ u3 (Td.cells ⟨1, 5, 3⟩) rfl _ rfl
  have L4 := one_ins i3 (u3.alloc (.cells (Td.cells ⟨1, 5, 3⟩) 47 (0, 0))) (Ins.cells i3) rfl (u3.heap.size + 1) (by simp)
  refine (events_is (some ⟨u3.heap.size, 0, none⟩) 1 1 (fun _ => ⟨1, 5, 3⟩) (some ⟨u3.heap.size + 1, 0, none⟩) 1 1 (fun _ => i3) [⟨16, 0, 1⟩] _ (T4.later (bAlloc (Below.refl _ _) _)) L4 (by omega) (by omega) (by kernel_rfl) (by kernel_rfl) (by kernel_rfl)).mono ?_
  rintro _ u4 ⟨⟨Ad, cd, rfl, od⟩, b4⟩
  replace b4 := bTrans (bAlloc (bAlloc (Below.refl _ u3) _) _) b4
  clear T4 L4
  have b34 := bTrans b3 b4
  have b24 := bTrans b2 b34
  go_wp2_with fail
  refine (events_yes Aa (some ⟨u4.heap.size, 0, none⟩) ca 2 [⟨10, 5, 1⟩, ⟨12, 0, 1⟩] _ (Row.Own.recs (own_later oa.out (bTrans b24 (bAlloc (Below.refl _ u4) _)))) (two_ev ⟨10, 5, 1⟩ ⟨12, 0, 1⟩ u4 _ (by kernel_rfl) _ rfl) (by simp)).mono ?_
  rintro _ u5 ⟨rfl, b5⟩
  replace b5 := bTrans (bAlloc (Below.refl _ u4) _) b5
  have b35 := bTrans b4 b5
  go_wp2_with fail
  refine (events_yes Ac (some ⟨u5.heap.size, 0, none⟩) cc 1 [⟨15, 0, 1⟩] _ (Row.Own.recs (own_later oc.out (bTrans b35 (bAlloc (Below.refl _ u5) _)))) (one_ev ⟨15, 0, 1⟩ u5 _ (by kernel_rfl) _ rfl) (by simp)).mono ?_
  rintro _ u6 ⟨rfl, b6⟩
  replace b6 := bTrans (bAlloc (Below.refl _ u5) _) b6
  have b46 := bTrans b5 b6
  go_wp2_with fail
  refine (events_yes Ad (some ⟨u6.heap.size, 0, none⟩) cd 1 [⟨16, 0, 1⟩] _ (Row.Own.recs (own_later od.out (bTrans b46 (bAlloc (Below.refl _ u6) _)))) (one_ev ⟨16, 0, 1⟩ u6 _ (by kernel_rfl) _ rfl) (by simp)).mono ?_
  rintro _ u7 ⟨rfl, b7⟩
  replace b7 := bTrans (bAlloc (Below.refl _ u6) _) b7
  go_wp2
  go_ret
  exact ⟨rfl, bTrans b1 (bTrans b24 (bTrans b46 b7))⟩
end Go.Proofs.Ytoiofdoipmdajaa.RcL
