
/- Pieces of a row that are sorted, each by itself, by insertion and by merging: pure facts. -/
import Derived.Test.YtkoifdbbomipbaaSym
namespace Go.Proofs.Ytkoifdbbomipbaa.Mrg
open Ins Srt
set_option linter.unusedVariables false

/-- the state of an insertion: what is inserted stands at j -/
structure Half (lt : Nat → Nat → Prop) (G : Nat → Nat) (a j i : Nat) : Prop where
  s1 : SortedIn lt G a j
  s2 : SortedIn lt G (j + 1) (i + 1)
  s3 : ∀ x y, a ≤ x → x < j → j + 1 ≤ y → y < i + 1 → lt (G x) (G y)
  s4 : ∀ y, j + 1 ≤ y → y < i + 1 → lt (G j) (G y)
  s5 : ∀ x, a ≤ x → x < j → G x < G j
theorem swp_a (G : Nat → Nat) (j : Nat) : swp G j j = G (j + 1) := by unfold swp; rw [if_pos rfl]
theorem swp_b (G : Nat → Nat) (j : Nat) : swp G j (j + 1) = G j := by unfold swp; rw [if_neg (by omega), if_pos rfl]
theorem swp_o {G : Nat → Nat} {j k : Nat} (h1 : k ≠ j) (h2 : k ≠ j + 1) : swp G j k = G k := by unfold swp; rw [if_neg h1, if_neg h2]
theorem per_swp {G : Nat → Nat} {a b j : Nat} (h1 : a ≤ j) (h2 : j + 1 < b) : Per G (swp G j) a b :=
  ⟨fun i hi => swp_o (by omega) (by omega), fun i p1 p2 => by
    by_cases e : i = j
    · subst e; exact ⟨i + 1, by omega, h2, swp_a G i⟩
    · by_cases e2 : i = j + 1
      · subst e2; exact ⟨j, h1, by omega, swp_b G j⟩
      · exact ⟨i, p1, p2, swp_o e e2⟩, fun i p1 p2 => by
    by_cases e : i = j
    · subst e; exact ⟨i + 1, by omega, h2, swp_b G i⟩
    · by_cases e2 : i = j + 1
      · subst e2; exact ⟨j, h1, by omega, swp_a G j⟩
      · exact ⟨i, p1, p2, swp_o e e2⟩⟩
section
variable {lt : Nat → Nat → Prop} {cf : Nat → Nat → Int} {n : Nat}
theorem half_done {G : Nat → Nat} {a j i : Nat} (h : Half lt G a j i) (hF : Fine lt cf n) (hji : j ≤ i) (haj : a ≤ j) (hs : j = a ∨ lt (G (j - 1)) (G j)) : SortedIn lt G a (i + 1) := by
  have hx : ∀ x, a ≤ x → x < j → lt (G x) (G j) := fun x p1 p2 => by
    rcases hs with hs | hs
    · omega
    · by_cases e : x = j - 1
      · rw [e]; exact hs
      · exact hF.tr _ _ _ (h.s1 x (j - 1) p1 (by omega) (by omega)) hs
  intro x y p1 p2 p3
  rcases (show y < j ∨ y = j ∨ j < y by omega) with q | q | q
  · exact h.s1 x y p1 p2 q
  · rw [q]; exact hx x p1 (by omega)
  · rcases (show x < j ∨ x = j ∨ j < x by omega) with r | r | r
    · exact h.s3 x y p1 r (by omega) p3
    · rw [r]; exact h.s4 y (by omega) p3
    · exact h.s2 x y (by omega) p2 p3
theorem inner_sorted (hF : Fine lt cf n) : ∀ (j : Nat) (G : Nat → Nat) (a i : Nat), a ≤ j → j ≤ i → (∀ x, a ≤ x → x < i + 1 → G x < n) → Half lt G a j i →
    SortedIn lt (inner (fun x y => decide (cf x y < 0)) a j G) a (i + 1) ∧ Per G (inner (fun x y => decide (cf x y < 0)) a j G) a (i + 1) := by
  intro j
  induction j with
  | zero =>
    intro G a i h1 h2 hn h
    exact ⟨half_done h hF h2 h1 (Or.inl (by omega)), Per.refl _ _ _⟩
  | succ j ih =>
    intro G a i h1 h2 hn h
    by_cases hc : a < j + 1
    · have hlr := h.s5 j (by omega) (by omega)
      have b1 := hn j (by omega) (by omega)
      have b2 := hn (j + 1) (by omega) (by omega)
      by_cases hv : cf (G (j + 1)) (G j) < 0
      · have hl := hF.yes _ _ b1 b2 hlr hv
        rw [inner_go hc (by simpa using hv)]
        have hs : Half lt (swp G j) a j i := by
          refine ⟨fun x y p1 p2 p3 => ?_, fun x y p1 p2 p3 => ?_, fun x y p1 p2 p3 p4 => ?_, fun y p1 p2 => ?_, fun x p1 p2 => ?_⟩
          · rw [swp_o (by omega) (by omega), swp_o (by omega) (by omega)]; exact h.s1 x y p1 p2 (by omega)
          · by_cases e : x = j + 1
            · rw [e, swp_b, swp_o (by omega) (by omega)]; exact h.s3 j y (by omega) (by omega) (by omega) p3
            · rw [swp_o (by omega) e, swp_o (by omega) (by omega)]; exact h.s2 x y (by omega) p2 p3
          · rw [swp_o (k := x) (by omega) (by omega)]
            by_cases e : y = j + 1
            · rw [e, swp_b]; exact h.s1 x j p1 p2 (by omega)
            · rw [swp_o (by omega) e]; exact h.s3 x y p1 (by omega) (by omega) p4
          · rw [swp_a]
            by_cases e : y = j + 1
            · rw [e, swp_b]; exact hl
            · rw [swp_o (by omega) e]; exact h.s4 y (by omega) p2
          · rw [swp_a, swp_o (by omega) (by omega)]; exact h.s5 x p1 (by omega)
        have hp : Per G (swp G j) a (i + 1) := per_swp (by omega) (by omega)
        have := ih (swp G j) a i (by omega) (by omega) (fun x p1 p2 => by
          obtain ⟨q, q1, q2, e⟩ := hp.fro x p1 p2
          rw [e]; exact hn q q1 q2) hs
        exact ⟨this.1, hp.trans this.2⟩
      · have hl := hF.no _ _ b1 b2 hlr hv
        rw [inner_no (by simpa using hv)]
        exact ⟨half_done h hF h2 h1 (Or.inr hl), Per.refl _ _ _⟩
    · rw [inner_stop (by omega)]
      exact ⟨half_done h hF h2 h1 (Or.inl (by omega)), Per.refl _ _ _⟩
theorem outer_sorted (hF : Fine lt cf n) : ∀ (m i : Nat) (G : Nat → Nat) (a b : Nat), i + m = b → a < i → (∀ x, a ≤ x → x < b → G x < n) → SortedIn lt G a i → (∀ x y, a ≤ x → x < y → i ≤ y → y < b → G x < G y) →
    SortedIn lt (outer (fun x y => decide (cf x y < 0)) a m i G) a b ∧ Per G (outer (fun x y => decide (cf x y < 0)) a m i G) a b := by
  intro m
  induction m with
  | zero =>
    intro i G a b hb ha hn hs hi
    obtain rfl : i = b := by omega
    exact ⟨hs, Per.refl _ _ _⟩
  | succ m ih =>
    intro i G a b hb ha hn hs hi
    have hh : Half lt G a i i := ⟨hs, fun x y p1 p2 p3 => absurd p3 (by omega), fun x y p1 p2 p3 p4 => absurd p4 (by omega), fun y p1 p2 => absurd p2 (by omega), fun x p1 p2 => hi x i p1 p2 (Nat.le_refl _) (by omega)⟩
    have h1 := inner_sorted hF i G a i (by omega) (Nat.le_refl _) (fun x p1 p2 => hn x p1 (by omega)) hh
    have hp : Per G (inner (fun x y => decide (cf x y < 0)) a i G) a b := h1.2.wide (Nat.le_refl _) (by omega)
    have h2 := ih (i + 1) (inner (fun x y => decide (cf x y < 0)) a i G) a b (by omega) (by omega) (fun x p1 p2 => by
        obtain ⟨q, q1, q2, e⟩ := hp.fro x p1 p2
        rw [e]; exact hn q q1 q2) h1.1 (fun x y p1 p2 p3 p4 => by
        rw [h1.2.out y (by omega)]
        by_cases e : x < i + 1
        · obtain ⟨q, q1, q2, e2⟩ := h1.2.fro x p1 e
          rw [e2]; exact hi q y q1 (by omega) (by omega) p4
        · rw [h1.2.out x (by omega)]; exact hi x y p1 p2 (by omega) p4)
    exact ⟨h2.1, hp.trans h2.2⟩
end
/-- a piece that is sorted, and holds what stood there at first -/
structure Piece (lt : Nat → Nat → Prop) (F G : Nat → Nat) (x y : Nat) : Prop where
  so : SortedIn lt G x y
  fro : ∀ i, x ≤ i → i < y → ∃ j, x ≤ j ∧ j < y ∧ G i = F j
  to : ∀ j, x ≤ j → j < y → ∃ i, x ≤ i ∧ i < y ∧ G i = F j
section
variable {lt : Nat → Nat → Prop} {F G H : Nat → Nat} {x y a b : Nat}
theorem Piece.kept (h : Piece lt F G x y) (hp : Per G H a b) (hd : y ≤ a ∨ b ≤ x) : Piece lt F H x y :=
  ⟨fun i j p1 p2 p3 => by rw [hp.out i (by omega), hp.out j (by omega)]; exact h.so i j p1 p2 p3, fun i p1 p2 => by rw [hp.out i (by omega)]; exact h.fro i p1 p2,
    fun j p1 p2 => by
      obtain ⟨i, q1, q2, e⟩ := h.to j p1 p2
      exact ⟨i, q1, q2, by rw [hp.out i (by omega)]; exact e⟩⟩
theorem Piece.merged {m : Nat} (h1 : Piece lt F G a m) (h2 : Piece lt F G m b) (ham : a ≤ m) (hmb : m ≤ b) (hp : Per G H a b) (hs : SortedIn lt H a b) : Piece lt F H a b := by
  have f : ∀ i, a ≤ i → i < b → ∃ j, a ≤ j ∧ j < b ∧ G i = F j := fun i p1 p2 => by
    by_cases e : i < m
    · obtain ⟨j, q1, q2, e⟩ := h1.fro i p1 e; exact ⟨j, q1, by omega, e⟩
    · obtain ⟨j, q1, q2, e⟩ := h2.fro i (by omega) p2; exact ⟨j, by omega, q2, e⟩
  have t : ∀ j, a ≤ j → j < b → ∃ i, a ≤ i ∧ i < b ∧ G i = F j := fun i p1 p2 => by
    by_cases e : i < m
    · obtain ⟨j, q1, q2, e⟩ := h1.to i p1 e; exact ⟨j, q1, by omega, e⟩
    · obtain ⟨j, q1, q2, e⟩ := h2.to i (by omega) p2; exact ⟨j, by omega, q2, e⟩
  refine ⟨hs, fun i p1 p2 => ?_, fun j p1 p2 => ?_⟩
  · obtain ⟨q, q1, q2, e⟩ := hp.fro i p1 p2
    obtain ⟨j, j1, j2, e2⟩ := f q q1 q2
    exact ⟨j, j1, j2, e.trans e2⟩
  · obtain ⟨q, q1, q2, e⟩ := t j p1 p2
    obtain ⟨i, i1, i2, e2⟩ := hp.to q q1 q2
    exact ⟨i, i1, i2, e2.trans e⟩
theorem Piece.lr {m : Nat} (h1 : Piece lt F G a m) (h2 : Piece lt F G m b) (hF : ∀ i j, i < j → j < b → F i < F j) : ∀ i j, a ≤ i → i < m → m ≤ j → j < b → G i < G j := by
  intro i j p1 p2 p3 p4
  obtain ⟨q, q1, q2, e⟩ := h1.fro i p1 p2
  obtain ⟨r, r1, r2, e2⟩ := h2.fro j p3 p4
  rw [e, e2]; exact hF q r (by omega) r2
/-- pieces of B from a on, up to n -/
def Rest (lt : Nat → Nat → Prop) (F G : Nat → Nat) (B a n : Nat) : Prop := ∀ q, a + q * B < n → Piece lt F G (a + q * B) (min (a + q * B + B) n)
/-- Q pieces of B, whole -/
def Done (lt : Nat → Nat → Prop) (F G : Nat → Nat) (B Q : Nat) : Prop := ∀ q, q < Q → Piece lt F G (q * B) (q * B + B)
theorem Done.kept {B Q : Nat} (h : Done lt F G B Q) (hp : Per G H a b) (ha : Q * B ≤ a) : Done lt F H B Q := fun q hq => by
  have : (q + 1) * B ≤ Q * B := Nat.mul_le_mul_right B hq
  rw [Nat.add_mul, Nat.one_mul] at this
  exact (h q hq).kept hp (Or.inl (by omega))
theorem Done.more {B Q : Nat} (h : Done lt F G B Q) (hp : Piece lt F G (Q * B) (Q * B + B)) : Done lt F G B (Q + 1) := fun q hq => by
  by_cases e : q = Q
  · rw [e]; exact hp
  · exact h q (by omega)
theorem Done.all {B Q n : Nat} (h : Done lt F G B Q) (hn : n < Q * B + B) (hQ : Q * B ≤ n) (hp : Q * B < n → Piece lt F G (Q * B) n) : Rest lt F G B 0 n := fun q hq => by
  rw [Nat.zero_add] at hq ⊢
  by_cases e : q < Q
  · have : (q + 1) * B ≤ Q * B := Nat.mul_le_mul_right B e
    rw [Nat.add_mul, Nat.one_mul] at this
    rw [Nat.min_eq_left (by omega)]; exact h q e
  · have e2 : q = Q := by
      rcases Nat.lt_or_ge Q q with h1 | h1
      · have : (Q + 1) * B ≤ q * B := Nat.mul_le_mul_right B h1
        rw [Nat.add_mul, Nat.one_mul] at this
        omega
      · omega
    rw [e2] at hq ⊢
    rw [Nat.min_eq_right (by omega)]; exact hp hq
theorem Rest.kept {B n c : Nat} (h : Rest lt F G B a n) (hp : Per G H x y) (hc : y ≤ a) : Rest lt F H B a n := fun q hq => (h q hq).kept hp (Or.inr (by omega))
theorem Rest.first {B n : Nat} (h : Rest lt F G B a n) (ha : a < n) : Piece lt F G a (min (a + B) n) := by
  have := h 0 (by omega); rw [Nat.zero_mul, Nat.add_zero] at this; exact this
theorem Rest.next {B n : Nat} (h : Rest lt F G B a n) : Rest lt F G B (a + B) n := fun q hq => by
  have e : a + B + q * B = a + (q + 1) * B := by rw [Nat.add_mul, Nat.one_mul]; omega
  rw [e] at hq ⊢; exact h (q + 1) hq
end
end Go.Proofs.Ytkoifdbbomipbaa.Mrg
