
/- What comes of an instance that is told and known: both. -/
import Derived.Test.YtoiofdoipmdajaaEvx
namespace Go.Proofs.Ytoiofdoipmdajaa.Knw
open Go.ChangeShapes Go.WideShapes Go.ChangeAt Go.RowKit
open Mem Arr Lst Rec Inst Grown Sums Opens St0 Tld Evs
attribute [local go_sem] Oper.semAt_some
set_option linter.unusedVariables false
set_option linter.unusedSimpArgs false
def knB (x : Td) (y : Ins) : Bool := decide (x.st = 2 ∧ (y.st = 1 ∨ y.st = 9 ∨ y.st = 7) ∨ x.st = 3 ∧ y.st = 7)
def knK (x : Td) (y : Ins) : Int := if x.st = 2 ∧ (y.st = 1 ∨ y.st = 9 ∨ y.st = 7) then 12 else if x.st = 3 ∧ y.st = 7 then 16 else 0
def knownE (x : Td) (y : Ins) : List Ev := if knB x y = true then [⟨knK x y, 0, x.id⟩] else []
theorem kn_12 {x : Td} {y : Ins} (h : x.st = 2 ∧ (y.st = 1 ∨ y.st = 9 ∨ y.st = 7)) : knK x y = 12 ∧ knB x y = true := ⟨if_pos h, decide_eq_true (.inl h)⟩
theorem kn_16 {x : Td} {y : Ins} (h : x.st = 3 ∧ y.st = 7) : knK x y = 16 ∧ knB x y = true := ⟨by unfold knK; rw [if_neg (by omega), if_pos h], decide_eq_true (.inr h)⟩
theorem kn_no {x : Td} {y : Ins} (h : ¬ (x.st = 2 ∧ (y.st = 1 ∨ y.st = 9 ∨ y.st = 7) ∨ x.st = 3 ∧ y.st = 7)) : knK x y = 0 ∧ knB x y = false := ⟨by unfold knK; rw [if_neg (by omega), if_neg (by omega)], decide_eq_false h⟩
theorem flat_one (sz : Nat) (cs : Array Value) (hcs : cs.size = sz) (V : Nat → Nat → Value) (hV : ∀ j, j < sz → V 0 j = (cs[j]?).getD undef) : cs.toList = Row.flat 1 sz V := by
  apply List.ext_getElem?
  intro k
  by_cases hk : k < sz
  · have := Row.flat_at (n := 1) (sz := sz) (i := 0) (j := k) (V := V) (by omega) hk
    rw [Nat.zero_mul, Nat.zero_add] at this
    rw [this, hV k hk, Array.getElem?_toList, Array.getElem?_eq_getElem (by omega)]; rfl
  · rw [List.getElem?_eq_none (by simp; omega), List.getElem?_eq_none (by rw [Row.flat_length]; omega)]
theorem one_own (W : World) (base : Nat) (z : Ev) (hb : base ≤ W.heap.size) (cs : Array Value) (hcs : cs = z.cells) (g : Nat) (hg : g = W.heap.size) : OwnE (W.alloc (.cells cs 45 (0, 0))) base (.slice (some ⟨g, 0, none⟩) 1 1) [z] := by
  subst hcs
  subst hg
  have h := World.ownsRow_lit (base := base) (e := 45) (size := 28) W z.cells 1 hb (by unfold maxLen; omega) rfl
  rw [flat_one 28 z.cells rfl (evV [z]) (fun j _ => rfl)] at h
  exact h

set_option maxHeartbeats 2000000 in
theorem known_any (x : Td) (y : Ins) (w : World) : Calls Try.prog 16 #[x.val, y.val] w fun e w' => e = .returned (.tuple #[.int .u8 (knK x y), .bool (knB x y)]) ∧ Below w.heap.size w w' := by
  have p0 := x.f0
  have p2 := x.f2
  have q5 := y.f5
  by_cases a2 : x.st = 2
  · have s2 : (x.st == 2) = true := by simp [a2]
    have s3 : (x.st == 3) = false := by simp; omega
    by_cases b1 : y.st = 1
    · have t1 : (y.st == 1) = true := by simp [b1]
      obtain ⟨k1, k2⟩ := kn_12 (x := x) (y := y) (by omega)
      simp only [k1, k2]
      clear k1 k2 a2
      go_enter Try.func16, Try.ntmps16
      go_wp2
      go_ret2
      exact ⟨rfl, bAlloc (bAlloc (Below.refl _ _) _) _⟩
    · have t1 : (y.st == 1) = false := by simp [b1]
      by_cases b9 : y.st = 9
      · have t9 : (y.st == 9) = true := by simp [b9]
        obtain ⟨k1, k2⟩ := kn_12 (x := x) (y := y) (by omega)
        simp only [k1, k2]
        clear k1 k2 a2
        go_enter Try.func16, Try.ntmps16
        go_wp2
        go_ret2
        exact ⟨rfl, bAlloc (bAlloc (Below.refl _ _) _) _⟩
      · have t9 : (y.st == 9) = false := by simp [b9]
        by_cases b7 : y.st = 7
        · have t7 : (y.st == 7) = true := by simp [b7]
          obtain ⟨k1, k2⟩ := kn_12 (x := x) (y := y) (by omega)
          simp only [k1, k2]
          clear k1 k2 a2
          go_enter Try.func16, Try.ntmps16
          go_wp2
          go_ret2
          exact ⟨rfl, bAlloc (bAlloc (Below.refl _ _) _) _⟩
        · have t7 : (y.st == 7) = false := by simp [b7]
          obtain ⟨k1, k2⟩ := kn_no (x := x) (y := y) (by omega)
          simp only [k1, k2]
          clear k1 k2 a2
          go_enter Try.func16, Try.ntmps16
          go_wp2
          go_ret2
          exact ⟨rfl, bAlloc (bAlloc (Below.refl _ _) _) _⟩
  · have s2 : (x.st == 2) = false := by simp [a2]
    by_cases a3 : x.st = 3
    · have s3 : (x.st == 3) = true := by simp [a3]
      by_cases b7 : y.st = 7
      · have t7 : (y.st == 7) = true := by simp [b7]
        obtain ⟨k1, k2⟩ := kn_16 (x := x) (y := y) (by omega)
        simp only [k1, k2]
        clear k1 k2 a2
        go_enter Try.func16, Try.ntmps16
        go_wp2
        go_ret2
        exact ⟨rfl, bAlloc (bAlloc (Below.refl _ _) _) _⟩
      · have t7 : (y.st == 7) = false := by simp [b7]
        obtain ⟨k1, k2⟩ := kn_no (x := x) (y := y) (by omega)
        simp only [k1, k2]
        clear k1 k2 a2
        go_enter Try.func16, Try.ntmps16
        go_wp2
        go_ret2
        exact ⟨rfl, bAlloc (bAlloc (Below.refl _ _) _) _⟩
    · have s3 : (x.st == 3) = false := by simp [a3]
      obtain ⟨k1, k2⟩ := kn_no (x := x) (y := y) (by omega)
      simp only [k1, k2]
      clear k1 k2 a2
      go_enter Try.func16, Try.ntmps16
      go_wp2
      go_ret2
      exact ⟨rfl, bAlloc (bAlloc (Below.refl _ _) _) _⟩
set_option maxHeartbeats 2000000 in
theorem refKnown_any (x : Td) (y : Ins) (w : World) : Calls Try.prog 17 #[x.val, y.val] w fun e w' => (∃ v, e = .returned v ∧ Hid (OwnE w' w.heap.size v (knownE x y))) ∧ Below w.heap.size w w' := by
  have p0 := x.f0
  have p2 := x.f2
  have q5 := y.f5
  by_cases a2 : x.st = 2
  · have s2 : (x.st == 2) = true := by simp [a2]
    have s3 : (x.st == 3) = false := by simp; omega
    by_cases b1 : y.st = 1
    · have t1 : (y.st == 1) = true := by simp [b1]
      have hv : knownE x y = [⟨12, 0, x.id⟩] := by unfold knownE; rw [(kn_12 (x := x) (y := y) (by omega)).2]; rw [(kn_12 (x := x) (y := y) (by omega)).1]; rfl
      simp only [hv]
      clear hv a2
      have B2 := build2
      have BS := fun W => buildS (⟨12, 0, x.id⟩ : Ev) W
      go_enter Try.func17, Try.ntmps17
      go_wp2
      go_ret
      exact ⟨⟨_, rfl, Lib.hid (one_own _ _ _ (bAlloc (bAlloc (Below.refl _ w) _) _).size _ (by kernel_rfl) _ (by simp))⟩, bAlloc (bAlloc (bAlloc (Below.refl _ _) _) _) _⟩
    · have t1 : (y.st == 1) = false := by simp [b1]
      by_cases b9 : y.st = 9
      · have t9 : (y.st == 9) = true := by simp [b9]
        have hv : knownE x y = [⟨12, 0, x.id⟩] := by unfold knownE; rw [(kn_12 (x := x) (y := y) (by omega)).2]; rw [(kn_12 (x := x) (y := y) (by omega)).1]; rfl
        simp only [hv]
        clear hv a2
        have B2 := build2
        have BS := fun W => buildS (⟨12, 0, x.id⟩ : Ev) W
        go_enter Try.func17, Try.ntmps17
        go_wp2
        go_ret
        exact ⟨⟨_, rfl, Lib.hid (one_own _ _ _ (bAlloc (bAlloc (Below.refl _ w) _) _).size _ (by kernel_rfl) _ (by simp))⟩, bAlloc (bAlloc (bAlloc (Below.refl _ _) _) _) _⟩
      · have t9 : (y.st == 9) = false := by simp [b9]
        by_cases b7 : y.st = 7
        · have t7 : (y.st == 7) = true := by simp [b7]
          have hv : knownE x y = [⟨12, 0, x.id⟩] := by unfold knownE; rw [(kn_12 (x := x) (y := y) (by omega)).2]; rw [(kn_12 (x := x) (y := y) (by omega)).1]; rfl
          simp only [hv]
          clear hv a2
          have B2 := build2
          have BS := fun W => buildS (⟨12, 0, x.id⟩ : Ev) W
          go_enter Try.func17, Try.ntmps17
          go_wp2
          go_ret
          exact ⟨⟨_, rfl, Lib.hid (one_own _ _ _ (bAlloc (bAlloc (Below.refl _ w) _) _).size _ (by kernel_rfl) _ (by simp))⟩, bAlloc (bAlloc (bAlloc (Below.refl _ _) _) _) _⟩
        · have t7 : (y.st == 7) = false := by simp [b7]
          have hv : knownE x y = [] := by unfold knownE; rw [(kn_no (x := x) (y := y) (by omega)).2]; rfl
          simp only [hv]
          clear hv a2
          go_enter Try.func17, Try.ntmps17
          go_wp2
          go_ret
          exact ⟨⟨_, rfl, Lib.hid (Row.own_nil _ _ _ _ _)⟩, bAlloc (bAlloc (Below.refl _ _) _) _⟩
  · have s2 : (x.st == 2) = false := by simp [a2]
    by_cases a3 : x.st = 3
    · have s3 : (x.st == 3) = true := by simp [a3]
      by_cases b7 : y.st = 7
      · have t7 : (y.st == 7) = true := by simp [b7]
        have hv : knownE x y = [⟨16, 0, x.id⟩] := by unfold knownE; rw [(kn_16 (x := x) (y := y) (by omega)).2]; rw [(kn_16 (x := x) (y := y) (by omega)).1]; rfl
        simp only [hv]
        clear hv a2
        have B2 := build2
        have BS := fun W => buildS (⟨16, 0, x.id⟩ : Ev) W
        go_enter Try.func17, Try.ntmps17
        go_wp2
        go_ret
        exact ⟨⟨_, rfl, Lib.hid (one_own _ _ _ (bAlloc (bAlloc (Below.refl _ w) _) _).size _ (by kernel_rfl) _ (by simp))⟩, bAlloc (bAlloc (bAlloc (Below.refl _ _) _) _) _⟩
      · have t7 : (y.st == 7) = false := by simp [b7]
        have hv : knownE x y = [] := by unfold knownE; rw [(kn_no (x := x) (y := y) (by omega)).2]; rfl
        simp only [hv]
        clear hv a2
        go_enter Try.func17, Try.ntmps17
        go_wp2
        go_ret
        exact ⟨⟨_, rfl, Lib.hid (Row.own_nil _ _ _ _ _)⟩, bAlloc (bAlloc (Below.refl _ _) _) _⟩
    · have s3 : (x.st == 3) = false := by simp [a3]
      have hv : knownE x y = [] := by unfold knownE; rw [(kn_no (x := x) (y := y) (by omega)).2]; rfl
      simp only [hv]
      clear hv a2
      go_enter Try.func17, Try.ntmps17
      go_wp2
      go_ret
      exact ⟨⟨_, rfl, Lib.hid (Row.own_nil _ _ _ _ _)⟩, bAlloc (bAlloc (Below.refl _ _) _) _⟩
end Go.Proofs.Ytoiofdoipmdajaa.Knw
