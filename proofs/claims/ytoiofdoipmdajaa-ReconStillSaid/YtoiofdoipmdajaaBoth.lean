
/- What is told and what is known, at once: the merge, and the iterator's contract for every loop body. -/
import Derived.Test.YtoiofdoipmdajaaEvs
import Derived.Test.YtoiofdoipmdajaaThg
import Derived.RangeFuncNested
import Derived.RangeFuncBound
import Derived.RangeFuncCalls
import Derived.RangeFuncLeaves
import Derived.Shelf.Abstract
import Derived.WalkKit
import Derived.OwnWalkIn
import Derived.TacticsInMore
import Derived.LoopNIn
import Derived.LoopIn
import Derived.Deep.RegionHeld3
import Derived.Deep.Cut
namespace Go.Proofs.Ytoiofdoipmdajaa.Both
open Go.RowKit Go.Shelf
open Go.ChangeShapes Go.WideShapes Go.ChangeAt
open Mem Arr Lst Rec Inst Grown Sums Opens St0 Tld Thg
attribute [local go_sem] Oper.semAt_some
set_option linter.unusedVariables false
set_option linter.unusedSimpArgs false
abbrev Pr := Option Nat × Option Nat
section
variable (T : Nat → Td) (L : Nat → Ins) (n m : Nat)
def xB (t i : Nat) : Bool := decide (i = m ∨ t < n ∧ (T t).id ≤ (L i).id)
def yB (t i : Nat) : Bool := decide (t = n ∨ i < m ∧ (L i).id ≤ (T t).id)
def hd (t i : Nat) : Pr := (if xB T L n m t i then some t else none, if yB T L n m t i then some i else none)
def mg : Nat → Nat → Nat → List Pr
  | 0, _, _ => []
  | f + 1, t, i => if t < n ∨ i < m then hd T L n m t i :: mg f (t + if xB T L n m t i then 1 else 0) (i + if yB T L n m t i then 1 else 0) else []
def mgA : List Pr := mg T L n m (n + m) 0 0
end
section
variable {T : Nat → Td} {L : Nat → Ins} {n m : Nat}
theorem mg_end {f t i : Nat} (h : ¬ (t < n ∨ i < m)) : mg T L n m f t i = [] := by
  cases f with
  | zero => rfl
  | succ f => unfold mg; rw [if_neg h]
theorem mg_on {f t i : Nat} (h : t < n ∨ i < m) : mg T L n m (f + 1) t i = hd T L n m t i :: mg T L n m f (t + if xB T L n m t i then 1 else 0) (i + if yB T L n m t i then 1 else 0) := by
  conv => lhs; unfold mg
  rw [if_pos h]
theorem xy_some {t i : Nat} (h : t < n ∨ i < m) (ht : t ≤ n) (hi : i ≤ m) : xB T L n m t i = true ∨ yB T L n m t i = true := by
  unfold xB yB
  simp only [decide_eq_true_eq]
  omega
theorem x_lt {t i : Nat} (h : t < n ∨ i < m) (hi : i ≤ m) (hx : xB T L n m t i = true) : t < n := by
  have : i = m ∨ t < n ∧ (T t).id ≤ (L i).id := of_decide_eq_true hx
  omega
theorem y_lt {t i : Nat} (h : t < n ∨ i < m) (ht : t ≤ n) (hy : yB T L n m t i = true) : i < m := by
  have : t = n ∨ i < m ∧ (L i).id ≤ (T t).id := of_decide_eq_true hy
  omega
theorem mg_step {f t i : Nat} (hf : n + m ≤ f + (t + i)) (h : t < n ∨ i < m) (ht : t ≤ n) (hi : i ≤ m) : ∃ g, f = g + 1 ∧ n + m ≤ g + (t + i) + 1 := ⟨f - 1, by omega, by omega⟩
end
/-- a pair of what there is -/
abbrev OkPr (n m : Nat) := { x : Pr // (∀ t, x.1 = some t → t < n) ∧ (∀ i, x.2 = some i → i < m) ∧ (x.1 = none → x.2 ≠ none) }
def adr (A : Option Addr) (sz k : Nat) : Value := match A with | some a => .pointer (some ⟨a.block, a.off + k * sz, none⟩) | none => .pointer none
def ptr (A : Option Addr) (sz : Nat) : Option Nat → Value
  | none => .pointer none
  | some k => adr A sz k
abbrev encP {n m : Nat} (A C : Option Addr) (x : OkPr n m) : Array Value := #[ptr A 3 x.1.1, ptr C 12 x.1.2]
theorem tolds_rec {W : World} {B : Nat} {A : Option Addr} {n : Nat} {T : Nat → Td} (h : Recs W B A n 3 (tdV T)) {k : Nat} (hk : k < n) : ∃ b off, A = some ⟨b, off, none⟩ ∧ b < B ∧ W.rangeAt b (off + k * 3) (T k).cells.toList := by
  obtain ⟨b, off, rfl⟩ := tolds_at h (by omega)
  obtain ⟨h1, h2⟩ := rec_td h rfl hk
  exact ⟨b, off, rfl, h1, h2⟩
theorem ins_id {W : World} {b o : Nat} {x : Ins} (h : W.rangeAt b o x.cells.toList) : W.cell? ⟨b, o, none⟩ = some (.int .u64 x.id) := by
  have := h 0 _ (by simpa using x.f0)
  rwa [Nat.add_zero] at this
theorem td_id {W : World} {b o : Nat} {x : Td} (h : W.rangeAt b o x.cells.toList) : W.cell? ⟨b, o, none⟩ = some (.int .u64 x.id) := by
  have := h 0 _ (by simpa using x.f0)
  rwa [Nat.add_zero] at this
theorem rec_ins {W : World} {B : Nat} {A : Option Addr} {n : Nat} {L : Nat → Ins} (h : Recs W B A n 12 (insV L)) {k : Nat} (hk : k < n) : ∃ b off, A = some ⟨b, off, none⟩ ∧ b < B ∧ W.rangeAt b (off + k * 12) (L k).cells.toList := by
  obtain ⟨b, off, e, hlt, hc⟩ := h.2 (by omega)
  refine ⟨b, off, e, hlt, fun j v hj => ?_⟩
  have hj' : (L k).cells[j]? = some v := by simpa using hj
  rw [Nat.add_assoc, hc k j hk (ins_lt hj')]
  unfold insV
  rw [hj']; rfl
theorem cell_same {w w1 : World} {g k : Nat} (e : w1.heap[g]? = w.heap[g]?) : w1.cell? ⟨g, k, none⟩ = w.cell? ⟨g, k, none⟩ := by
  unfold World.cell?
  simp only [e]
theorem region_again {P : Program} {id : Nat} {Q : Exit → Act → World → Prop} {a : Act} {w : World} {p : Grown w} {l : List Oper} (hm : P.follows .mixedOrders = true) (hB : Region.lexB .any l.toArray = true)
    (h : wpQuiet P l.toArray (fun w' => ∃ p : Grown w, w' = p.w1) (fun a' => ∀ w', (∃ p : Grown w, w' = p.w1) → Q .normal a' w') l a) : (Code.region id l.toArray true).wp P Q a p.w1 :=
  wp_region_quiet (C := fun w' => ∃ p : Grown w, w' = p.w1) hm hB ⟨⟨p.w1.drew, bDrew p.below⟩, rfl⟩ (by simpa using h)
theorem both_any (A : Option Addr) (n c : Nat) (C : Option Addr) (m d : Nat) (w : World) : Calls Try.prog 15 #[.slice A n c, .slice C m d] w fun e w' => e = .returned (.func (.func 22) #[] #[.pointer (some ⟨w.heap.size, 0, none⟩), .pointer (some ⟨w.heap.size + 1, 0, none⟩)]) ∧ w' = (w.alloc (.cells #[.slice A n c] 22)).alloc (.cells #[.slice C m d] 23) := by
  go_enter Try.func15, Try.ntmps15
  go_wp2
  go_ret
  exact ⟨rfl, rfl⟩
set_option maxRecDepth 100000 in
set_option maxHeartbeats 8000000 in
theorem both_in (nn l n0 e0 : Nat) (A : Option Addr) (n c : Nat) (T : Nat → Td) (C : Option Addr) (m d : Nat) (L : Nat → Ins) (J Jx : List (OkPr n m) → World → Prop)
    (hY : ∀ pre x W, J pre W → pre.length < n + m → YieldAt Fence.wide (nn - 1) Try.prog l (encP A C x) W fun e W' =>
      (e = .returned (.bool true) ∧ J (pre ++ [x]) W' ∧ KX n0 e0 W W') ∨ (e = .returned (.bool false) ∧ Jx (pre ++ [x]) W'))
    (W : World) (hJ : AbidesFrom W.heap.size J) (hT : Recs W n0 A n 3 (tdV T)) (hL : Recs W n0 C m 12 (insV L)) (hn : n ≤ 1000000000) (hm : m ≤ 1000000000)
    (h1 : W.cell? ⟨e0, 0, none⟩ = some (.slice A n c)) (h2 : W.cell? ⟨e0 + 1, 0, none⟩ = some (.slice C m d)) (hn0 : n0 ≤ W.heap.size) (he0 : e0 + 2 ≤ W.heap.size) (h0 : J [] W) :
    CallsIn Fence.wide nn Try.prog 22 #[.func (.yield l) #[] #[], .pointer (some ⟨e0, 0, none⟩), .pointer (some ⟨e0 + 1, 0, none⟩)] W fun e W' => (∃ v, e = .returned v) ∧
      ((∃ xs, xs.map (·.1) = mgA T L n m ∧ J xs W') ∨ (∃ pre, (∃ q, pre.map (·.1) ++ q = mgA T L n m) ∧ Jx pre W')) := by
  refine callsIn_of_wp Try.func22 rfl trivial ?_ rfl
  simp only [Try.ntmps22, List.size_toArray, List.length_cons, List.length_nil, Nat.reduceAdd, Nat.reduceSub, Array.replicate_succ, Array.replicate_zero, List.push_toArray, List.append_toArray, List.nil_append, List.cons_append]
  gi_wp2
  gi_loopw [4, 5] (fun a b wr => ∃ (t i f : Nat) (pre : List (OkPr n m)), t ≤ n ∧ i ≤ m ∧ a = .int .i64 t ∧ b = .int .i64 i ∧ n + m ≤ f + (t + i) ∧ pre.length ≤ t + i ∧ Hid (pre.map (·.1) ++ mg T L n m f t i = mgA T L n m) ∧ KX n0 e0 W wr ∧ W.heap.size ≤ wr.heap.size ∧ J pre wr) (fun a b _ => n + m - ((intOf a).toNat + (intOf b).toNat))
  case atStart => exact ⟨0, 0, n + m, [], by omega, by omega, rfl, rfl, by omega, by simp, Lib.hid rfl, ⟨Below.refl _ _, fun _ _ _ => rfl⟩, Nat.le_refl _, h0⟩
  case round =>
    obtain ⟨t, i, f, pre, ht, hi, rfl, rfl, hf, hpl, hpre, hkx, hsz, hJs⟩ := hrel
    have x1 : wr.cell? ⟨e0, 0, none⟩ = some (.slice A n c) := (cell_same (hkx.2 e0 (by omega) (by omega))).trans h1
    have x2 : wr.cell? ⟨e0 + 1, 0, none⟩ = some (.slice C m d) := (cell_same (hkx.2 (e0 + 1) (by omega) (by omega))).trans h2
    have HT := Lib.hid (hT.below hkx.1)
    have HL := Lib.hid (hL.below hkx.1)
    have W1 : IntKind.i64.wrap ((t : Int) + 1) = (t : Int) + 1 := IntWalk.i64_in _ (by omega)
    have W2 : IntKind.i64.wrap ((i : Int) + 1) = (i : Int) + 1 := IntWalk.i64_in _ (by omega)
    have X1 := fun p : Grown wr => cell_in (by omega) x1 p
    have X2 := fun p : Grown wr => cell_in (by omega) x2 p
    have HJ := Lib.hid (fun p : Grown wr => And.intro (hJ pre wr p.w1 none hJs (grown_none p.below) (fun r e => by cases e)) (And.intro (hkx.t (KX.of p.below (by omega) (by omega))) (Nat.le_trans hsz p.below.size)))
    have z1 : decide ((t : Int) < 0) = false := decide_eq_false (by omega)
    have z2 : decide ((i : Int) < 0) = false := decide_eq_false (by omega)
    clear hJs

    by_cases htn : t < n
    · by_cases him : i < m
      · by_cases q1 : (T t).id < (L i).id
        · skip
          have dt : decide ((t : Int) < (n : Int)) = true := decide_eq_true (by omega)
          have di : decide ((i : Int) < (m : Int)) = true := decide_eq_true (by omega)
          have et : ((t : Int) == (n : Int)) = false := by simp; omega
          have ei : ((i : Int) == (m : Int)) = false := by simp; omega
          obtain ⟨b, off, rfl, hb, R⟩ := tolds_rec HT.out htn
          have C1 := fun p : Grown wr => cell_in (by omega) (td_id R) p
          obtain ⟨b2, off2, rfl, hb2, R2⟩ := rec_ins HL.out him
          have C2 := fun p : Grown wr => cell_in (by omega) (ins_id R2) p
          have l1 : decide ((T t).id ≤ (L i).id) = true := decide_eq_true (by omega)
          have l2 : decide ((L i).id ≤ (T t).id) = false := decide_eq_false (by omega)
          have hor : t < n ∨ i < m := by omega
          have bx : xB T L n m t i = true := decide_eq_true (by omega)
          have by_ : yB T L n m t i = false := decide_eq_false (by omega)
          obtain ⟨g, rfl⟩ : ∃ g, f = g + 1 := ⟨f - 1, by omega⟩
          have HP : Hid (pre.map (·.1) ++ ((some t, none) : Pr) :: mg T L n m g (t + 1) (i) = mgA T L n m) := Lib.hid (by have := hpre.out; rw [mg_on hor] at this; unfold hd at this; rw [bx, by_] at this; exact this)
          obtain ⟨xx, hxx⟩ : ∃ xx : OkPr n m, xx.1 = ((some t, none) : Pr) := ⟨⟨(some t, none), ⟨(fun k e => by injection e with e; subst e; exact htn), (fun k e => by cases e), (fun e => by cases e)⟩⟩, rfl⟩
          have YY := Lib.hid (fun p : Grown wr => hY pre xx p.w1 (HJ.out p).1 (by omega))
          clear hpre hor bx by_ HT HL
          clear hY
          refine wpIn_wide.2 ?_
          go_wp2
          refine region_grown (by kernel_rfl) (by kernel_rfl) ?_
          repeat ((with_reducible refine wpQuiet_step (fun K hK => ?_)); go_simp; (first | (refine hK _ ?_; clear hK K) | (apply Exists.intro; refine ⟨fun _ => ?_, hK _ ?_⟩; fail; clear hK K)))
          (with_reducible refine wpQuiet_nil ?_)
          rintro _ ⟨p1, rfl⟩
          go_wp2
          refine region_again (by kernel_rfl) (by kernel_rfl) ?_
          repeat ((with_reducible refine wpQuiet_step (fun K hK => ?_)); go_simp; (first | (refine hK _ ?_; clear hK K) | (apply Exists.intro; refine ⟨fun _ => ?_, hK _ ?_⟩; fail; clear hK K)))
          (with_reducible refine wpQuiet_nil ?_)
          rintro _ ⟨p2, rfl⟩
          obtain ⟨J2, K2, S2⟩ := HJ.out p2
          replace K2 := Lib.hid K2
          obtain ⟨fn, tmps, assign, body, hy, hR⟩ := YY.out p2
          dsimp only [encP] at hy
          rw [hxx] at hy
          simp only [ptr, adr] at hy
          clear YY J2 HJ C1 C2
          go_upto_region 12 with fail
          refine (wpIn_wide (n := nn)).1 ?_
          gi_wp2
          refine ⟨fun h => absurd h (by decide), hR.mono ?_⟩
          rintro e W3 (⟨rfl, hJ3, hk3⟩ | ⟨rfl, hJx3⟩)
          · gi_wp2
            go_wp2
            go_roundw
            case rel => exact ⟨t + 1, i, g, pre ++ [xx], by omega, by omega, by go_num, rfl, by omega, by rw [List.length_append, List.length_singleton]; omega, Lib.hid (by rw [List.map_append, List.append_assoc]; simp only [List.map_cons, List.map_nil, hxx]; exact HP.out), K2.out.t hk3, by have := hk3.1.size; omega, hJ3⟩
            case measure => simp [intOf]; omega
          · gi_wp2
            go_wp2
            refine bodyPost_ret (results_none rfl _ _ _) rfl ?_
            exact ⟨⟨_, rfl⟩, .inr ⟨_, ⟨mg T L n m g (t + 1) (i), by rw [List.map_append, List.append_assoc]; simp only [List.map_cons, List.map_nil, hxx]; exact HP.out⟩, hJx3⟩⟩
        · by_cases q2 : (T t).id = (L i).id
          · skip
            have dt : decide ((t : Int) < (n : Int)) = true := decide_eq_true (by omega)
            have di : decide ((i : Int) < (m : Int)) = true := decide_eq_true (by omega)
            have et : ((t : Int) == (n : Int)) = false := by simp; omega
            have ei : ((i : Int) == (m : Int)) = false := by simp; omega
            obtain ⟨b, off, rfl, hb, R⟩ := tolds_rec HT.out htn
            have C1 := fun p : Grown wr => cell_in (by omega) (td_id R) p
            obtain ⟨b2, off2, rfl, hb2, R2⟩ := rec_ins HL.out him
            have C2 := fun p : Grown wr => cell_in (by omega) (ins_id R2) p
            have l1 : decide ((T t).id ≤ (L i).id) = true := decide_eq_true (by omega)
            have l2 : decide ((L i).id ≤ (T t).id) = true := decide_eq_true (by omega)
            have hor : t < n ∨ i < m := by omega
            have bx : xB T L n m t i = true := decide_eq_true (by omega)
            have by_ : yB T L n m t i = true := decide_eq_true (by omega)
            obtain ⟨g, rfl⟩ : ∃ g, f = g + 1 := ⟨f - 1, by omega⟩
            have HP : Hid (pre.map (·.1) ++ ((some t, some i) : Pr) :: mg T L n m g (t + 1) (i + 1) = mgA T L n m) := Lib.hid (by have := hpre.out; rw [mg_on hor] at this; unfold hd at this; rw [bx, by_] at this; exact this)
            obtain ⟨xx, hxx⟩ : ∃ xx : OkPr n m, xx.1 = ((some t, some i) : Pr) := ⟨⟨(some t, some i), ⟨(fun k e => by injection e with e; subst e; exact htn), (fun k e => by injection e with e; subst e; exact him), (fun e => by cases e)⟩⟩, rfl⟩
            have YY := Lib.hid (fun p : Grown wr => hY pre xx p.w1 (HJ.out p).1 (by omega))
            clear hpre hor bx by_ HT HL
            clear hY
            refine wpIn_wide.2 ?_
            go_wp2
            refine region_grown (by kernel_rfl) (by kernel_rfl) ?_
            repeat ((with_reducible refine wpQuiet_step (fun K hK => ?_)); go_simp; (first | (refine hK _ ?_; clear hK K) | (apply Exists.intro; refine ⟨fun _ => ?_, hK _ ?_⟩; fail; clear hK K)))
            (with_reducible refine wpQuiet_nil ?_)
            rintro _ ⟨p1, rfl⟩
            go_wp2
            refine region_again (by kernel_rfl) (by kernel_rfl) ?_
            repeat ((with_reducible refine wpQuiet_step (fun K hK => ?_)); go_simp; (first | (refine hK _ ?_; clear hK K) | (apply Exists.intro; refine ⟨fun _ => ?_, hK _ ?_⟩; fail; clear hK K)))
            (with_reducible refine wpQuiet_nil ?_)
            rintro _ ⟨p2, rfl⟩
            obtain ⟨J2, K2, S2⟩ := HJ.out p2
            replace K2 := Lib.hid K2
            obtain ⟨fn, tmps, assign, body, hy, hR⟩ := YY.out p2
            dsimp only [encP] at hy
            rw [hxx] at hy
            simp only [ptr, adr] at hy
            clear YY J2 HJ C1 C2
            go_upto_region 12 with fail
            refine (wpIn_wide (n := nn)).1 ?_
            gi_wp2
            refine ⟨fun h => absurd h (by decide), hR.mono ?_⟩
            rintro e W3 (⟨rfl, hJ3, hk3⟩ | ⟨rfl, hJx3⟩)
            · gi_wp2
              go_wp2
              go_roundw
              case rel => exact ⟨t + 1, i + 1, g, pre ++ [xx], by omega, by omega, by go_num, by go_num, by omega, by rw [List.length_append, List.length_singleton]; omega, Lib.hid (by rw [List.map_append, List.append_assoc]; simp only [List.map_cons, List.map_nil, hxx]; exact HP.out), K2.out.t hk3, by have := hk3.1.size; omega, hJ3⟩
              case measure => simp [intOf]; omega
            · gi_wp2
              go_wp2
              refine bodyPost_ret (results_none rfl _ _ _) rfl ?_
              exact ⟨⟨_, rfl⟩, .inr ⟨_, ⟨mg T L n m g (t + 1) (i + 1), by rw [List.map_append, List.append_assoc]; simp only [List.map_cons, List.map_nil, hxx]; exact HP.out⟩, hJx3⟩⟩
          · skip
            have dt : decide ((t : Int) < (n : Int)) = true := decide_eq_true (by omega)
            have di : decide ((i : Int) < (m : Int)) = true := decide_eq_true (by omega)
            have et : ((t : Int) == (n : Int)) = false := by simp; omega
            have ei : ((i : Int) == (m : Int)) = false := by simp; omega
            obtain ⟨b, off, rfl, hb, R⟩ := tolds_rec HT.out htn
            have C1 := fun p : Grown wr => cell_in (by omega) (td_id R) p
            obtain ⟨b2, off2, rfl, hb2, R2⟩ := rec_ins HL.out him
            have C2 := fun p : Grown wr => cell_in (by omega) (ins_id R2) p
            have l1 : decide ((T t).id ≤ (L i).id) = false := decide_eq_false (by omega)
            have l2 : decide ((L i).id ≤ (T t).id) = true := decide_eq_true (by omega)
            have hor : t < n ∨ i < m := by omega
            have bx : xB T L n m t i = false := decide_eq_false (by omega)
            have by_ : yB T L n m t i = true := decide_eq_true (by omega)
            obtain ⟨g, rfl⟩ : ∃ g, f = g + 1 := ⟨f - 1, by omega⟩
            have HP : Hid (pre.map (·.1) ++ ((none, some i) : Pr) :: mg T L n m g (t) (i + 1) = mgA T L n m) := Lib.hid (by have := hpre.out; rw [mg_on hor] at this; unfold hd at this; rw [bx, by_] at this; exact this)
            obtain ⟨xx, hxx⟩ : ∃ xx : OkPr n m, xx.1 = ((none, some i) : Pr) := ⟨⟨(none, some i), ⟨(fun k e => by cases e), (fun k e => by injection e with e; subst e; exact him), (fun _ e => by cases e)⟩⟩, rfl⟩
            have YY := Lib.hid (fun p : Grown wr => hY pre xx p.w1 (HJ.out p).1 (by omega))
            clear hpre hor bx by_ HT HL
            clear hY
            refine wpIn_wide.2 ?_
            go_wp2
            refine region_grown (by kernel_rfl) (by kernel_rfl) ?_
            repeat ((with_reducible refine wpQuiet_step (fun K hK => ?_)); go_simp; (first | (refine hK _ ?_; clear hK K) | (apply Exists.intro; refine ⟨fun _ => ?_, hK _ ?_⟩; fail; clear hK K)))
            (with_reducible refine wpQuiet_nil ?_)
            rintro _ ⟨p1, rfl⟩
            go_wp2
            refine region_again (by kernel_rfl) (by kernel_rfl) ?_
            repeat ((with_reducible refine wpQuiet_step (fun K hK => ?_)); go_simp; (first | (refine hK _ ?_; clear hK K) | (apply Exists.intro; refine ⟨fun _ => ?_, hK _ ?_⟩; fail; clear hK K)))
            (with_reducible refine wpQuiet_nil ?_)
            rintro _ ⟨p2, rfl⟩
            obtain ⟨J2, K2, S2⟩ := HJ.out p2
            replace K2 := Lib.hid K2
            obtain ⟨fn, tmps, assign, body, hy, hR⟩ := YY.out p2
            dsimp only [encP] at hy
            rw [hxx] at hy
            simp only [ptr, adr] at hy
            clear YY J2 HJ C1 C2
            go_upto_region 12 with fail
            refine (wpIn_wide (n := nn)).1 ?_
            gi_wp2
            refine ⟨fun h => absurd h (by decide), hR.mono ?_⟩
            rintro e W3 (⟨rfl, hJ3, hk3⟩ | ⟨rfl, hJx3⟩)
            · gi_wp2
              go_wp2
              go_roundw
              case rel => exact ⟨t, i + 1, g, pre ++ [xx], by omega, by omega, rfl, by go_num, by omega, by rw [List.length_append, List.length_singleton]; omega, Lib.hid (by rw [List.map_append, List.append_assoc]; simp only [List.map_cons, List.map_nil, hxx]; exact HP.out), K2.out.t hk3, by have := hk3.1.size; omega, hJ3⟩
              case measure => simp [intOf]; omega
            · gi_wp2
              go_wp2
              refine bodyPost_ret (results_none rfl _ _ _) rfl ?_
              exact ⟨⟨_, rfl⟩, .inr ⟨_, ⟨mg T L n m g (t) (i + 1), by rw [List.map_append, List.append_assoc]; simp only [List.map_cons, List.map_nil, hxx]; exact HP.out⟩, hJx3⟩⟩
      · skip
        have dt : decide ((t : Int) < (n : Int)) = true := decide_eq_true (by omega)
        have di : decide ((i : Int) < (m : Int)) = false := decide_eq_false (by omega)
        have et : ((t : Int) == (n : Int)) = false := by simp; omega
        have ei : ((i : Int) == (m : Int)) = true := by simp; omega
        obtain ⟨b, off, rfl, hb, R⟩ := tolds_rec HT.out htn
        have C1 := fun p : Grown wr => cell_in (by omega) (td_id R) p
        have hor : t < n ∨ i < m := by omega
        have bx : xB T L n m t i = true := decide_eq_true (by omega)
        have by_ : yB T L n m t i = false := decide_eq_false (by omega)
        obtain ⟨g, rfl⟩ : ∃ g, f = g + 1 := ⟨f - 1, by omega⟩
        have HP : Hid (pre.map (·.1) ++ ((some t, none) : Pr) :: mg T L n m g (t + 1) (i) = mgA T L n m) := Lib.hid (by have := hpre.out; rw [mg_on hor] at this; unfold hd at this; rw [bx, by_] at this; exact this)
        obtain ⟨xx, hxx⟩ : ∃ xx : OkPr n m, xx.1 = ((some t, none) : Pr) := ⟨⟨(some t, none), ⟨(fun k e => by injection e with e; subst e; exact htn), (fun k e => by cases e), (fun e => by cases e)⟩⟩, rfl⟩
        have YY := Lib.hid (fun p : Grown wr => hY pre xx p.w1 (HJ.out p).1 (by omega))
        clear hpre hor bx by_ HT HL
        clear hY
        refine wpIn_wide.2 ?_
        go_wp2
        refine region_grown (by kernel_rfl) (by kernel_rfl) ?_
        repeat ((with_reducible refine wpQuiet_step (fun K hK => ?_)); go_simp; (first | (refine hK _ ?_; clear hK K) | (apply Exists.intro; refine ⟨fun _ => ?_, hK _ ?_⟩; fail; clear hK K)))
        (with_reducible refine wpQuiet_nil ?_)
        rintro _ ⟨p1, rfl⟩
        go_wp2
        refine region_again (by kernel_rfl) (by kernel_rfl) ?_
        repeat ((with_reducible refine wpQuiet_step (fun K hK => ?_)); go_simp; (first | (refine hK _ ?_; clear hK K) | (apply Exists.intro; refine ⟨fun _ => ?_, hK _ ?_⟩; fail; clear hK K)))
        (with_reducible refine wpQuiet_nil ?_)
        rintro _ ⟨p2, rfl⟩
        obtain ⟨J2, K2, S2⟩ := HJ.out p2
        replace K2 := Lib.hid K2
        obtain ⟨fn, tmps, assign, body, hy, hR⟩ := YY.out p2
        dsimp only [encP] at hy
        rw [hxx] at hy
        simp only [ptr, adr] at hy
        clear YY J2 HJ C1
        go_upto_region 12 with fail
        refine (wpIn_wide (n := nn)).1 ?_
        gi_wp2
        refine ⟨fun h => absurd h (by decide), hR.mono ?_⟩
        rintro e W3 (⟨rfl, hJ3, hk3⟩ | ⟨rfl, hJx3⟩)
        · gi_wp2
          go_wp2
          go_roundw
          case rel => exact ⟨t + 1, i, g, pre ++ [xx], by omega, by omega, by go_num, rfl, by omega, by rw [List.length_append, List.length_singleton]; omega, Lib.hid (by rw [List.map_append, List.append_assoc]; simp only [List.map_cons, List.map_nil, hxx]; exact HP.out), K2.out.t hk3, by have := hk3.1.size; omega, hJ3⟩
          case measure => simp [intOf]; omega
        · gi_wp2
          go_wp2
          refine bodyPost_ret (results_none rfl _ _ _) rfl ?_
          exact ⟨⟨_, rfl⟩, .inr ⟨_, ⟨mg T L n m g (t + 1) (i), by rw [List.map_append, List.append_assoc]; simp only [List.map_cons, List.map_nil, hxx]; exact HP.out⟩, hJx3⟩⟩
    · by_cases him : i < m
      · skip
        have dt : decide ((t : Int) < (n : Int)) = false := decide_eq_false (by omega)
        have di : decide ((i : Int) < (m : Int)) = true := decide_eq_true (by omega)
        have et : ((t : Int) == (n : Int)) = true := by simp; omega
        have ei : ((i : Int) == (m : Int)) = false := by simp; omega
        obtain ⟨b2, off2, rfl, hb2, R2⟩ := rec_ins HL.out him
        have C2 := fun p : Grown wr => cell_in (by omega) (ins_id R2) p
        have hor : t < n ∨ i < m := by omega
        have bx : xB T L n m t i = false := decide_eq_false (by omega)
        have by_ : yB T L n m t i = true := decide_eq_true (by omega)
        obtain ⟨g, rfl⟩ : ∃ g, f = g + 1 := ⟨f - 1, by omega⟩
        have HP : Hid (pre.map (·.1) ++ ((none, some i) : Pr) :: mg T L n m g (t) (i + 1) = mgA T L n m) := Lib.hid (by have := hpre.out; rw [mg_on hor] at this; unfold hd at this; rw [bx, by_] at this; exact this)
        obtain ⟨xx, hxx⟩ : ∃ xx : OkPr n m, xx.1 = ((none, some i) : Pr) := ⟨⟨(none, some i), ⟨(fun k e => by cases e), (fun k e => by injection e with e; subst e; exact him), (fun _ e => by cases e)⟩⟩, rfl⟩
        have YY := Lib.hid (fun p : Grown wr => hY pre xx p.w1 (HJ.out p).1 (by omega))
        clear hpre hor bx by_ HT HL
        clear hY
        refine wpIn_wide.2 ?_
        go_wp2
        refine region_grown (by kernel_rfl) (by kernel_rfl) ?_
        repeat ((with_reducible refine wpQuiet_step (fun K hK => ?_)); go_simp; (first | (refine hK _ ?_; clear hK K) | (apply Exists.intro; refine ⟨fun _ => ?_, hK _ ?_⟩; fail; clear hK K)))
        (with_reducible refine wpQuiet_nil ?_)
        rintro _ ⟨p1, rfl⟩
        go_wp2
        refine region_again (by kernel_rfl) (by kernel_rfl) ?_
        repeat ((with_reducible refine wpQuiet_step (fun K hK => ?_)); go_simp; (first | (refine hK _ ?_; clear hK K) | (apply Exists.intro; refine ⟨fun _ => ?_, hK _ ?_⟩; fail; clear hK K)))
        (with_reducible refine wpQuiet_nil ?_)
        rintro _ ⟨p2, rfl⟩
        obtain ⟨J2, K2, S2⟩ := HJ.out p2
        replace K2 := Lib.hid K2
        obtain ⟨fn, tmps, assign, body, hy, hR⟩ := YY.out p2
        dsimp only [encP] at hy
        rw [hxx] at hy
        simp only [ptr, adr] at hy
        clear YY J2 HJ C2
        go_upto_region 12 with fail
        refine (wpIn_wide (n := nn)).1 ?_
        gi_wp2
        refine ⟨fun h => absurd h (by decide), hR.mono ?_⟩
        rintro e W3 (⟨rfl, hJ3, hk3⟩ | ⟨rfl, hJx3⟩)
        · gi_wp2
          go_wp2
          go_roundw
          case rel => exact ⟨t, i + 1, g, pre ++ [xx], by omega, by omega, rfl, by go_num, by omega, by rw [List.length_append, List.length_singleton]; omega, Lib.hid (by rw [List.map_append, List.append_assoc]; simp only [List.map_cons, List.map_nil, hxx]; exact HP.out), K2.out.t hk3, by have := hk3.1.size; omega, hJ3⟩
          case measure => simp [intOf]; omega
        · gi_wp2
          go_wp2
          refine bodyPost_ret (results_none rfl _ _ _) rfl ?_
          exact ⟨⟨_, rfl⟩, .inr ⟨_, ⟨mg T L n m g (t) (i + 1), by rw [List.map_append, List.append_assoc]; simp only [List.map_cons, List.map_nil, hxx]; exact HP.out⟩, hJx3⟩⟩
      · have dt : decide ((t : Int) < (n : Int)) = false := decide_eq_false (by omega)
        have di : decide ((i : Int) < (m : Int)) = false := decide_eq_false (by omega)
        have HP : Hid (pre.map (·.1) = mgA T L n m) := Lib.hid (by have := hpre.out; rw [mg_end (by omega), List.append_nil] at this; exact this)
        have J2 := (HJ.out ⟨wr, Below.refl _ _⟩).1
        clear hpre HJ hY
        gi_wp2
        go_end0
        exact ⟨⟨_, rfl⟩, .inl ⟨pre, HP.out, J2⟩⟩
end Go.Proofs.Ytoiofdoipmdajaa.Both
