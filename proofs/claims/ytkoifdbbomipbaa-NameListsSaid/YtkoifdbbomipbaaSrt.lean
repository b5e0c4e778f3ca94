
/- Rows of places that are sorted by merging: pure facts. No code of the program. -/
import Derived.Test.YtkoifdbbomipbaaMem
namespace Go.Proofs.Ytkoifdbbomipbaa.Srt
set_option linter.unusedVariables false

def SortedIn (lt : Nat → Nat → Prop) (G : Nat → Nat) (a b : Nat) : Prop := ∀ i j, a ≤ i → i < j → j < b → lt (G i) (G j)
/-- what H holds from a to b is what G held there, each of it; all else is as it was -/
structure Per (G H : Nat → Nat) (a b : Nat) : Prop where
  out : ∀ i, i < a ∨ b ≤ i → H i = G i
  fro : ∀ i, a ≤ i → i < b → ∃ j, a ≤ j ∧ j < b ∧ H i = G j
  to : ∀ j, a ≤ j → j < b → ∃ i, a ≤ i ∧ i < b ∧ H i = G j
theorem Per.refl (G : Nat → Nat) (a b : Nat) : Per G G a b := ⟨fun _ _ => rfl, fun i h1 h2 => ⟨i, h1, h2, rfl⟩, fun i h1 h2 => ⟨i, h1, h2, rfl⟩⟩
theorem Per.trans {G H K : Nat → Nat} {a b : Nat} (h : Per G H a b) (k : Per H K a b) : Per G K a b :=
  ⟨fun i hi => (k.out i hi).trans (h.out i hi), fun i h1 h2 => by
    obtain ⟨j, j1, j2, e⟩ := k.fro i h1 h2
    obtain ⟨q, q1, q2, e2⟩ := h.fro j j1 j2
    exact ⟨q, q1, q2, e.trans e2⟩, fun i h1 h2 => by
    obtain ⟨j, j1, j2, e⟩ := h.to i h1 h2
    obtain ⟨q, q1, q2, e2⟩ := k.to j j1 j2
    exact ⟨q, q1, q2, e2.trans e⟩⟩
theorem Per.wide {G H : Nat → Nat} {a b a' b' : Nat} (h : Per G H a b) (ha : a' ≤ a) (hb : b ≤ b') : Per G H a' b' :=
  ⟨fun i hi => h.out i (by omega), fun i h1 h2 => by
    by_cases hi : a ≤ i ∧ i < b
    · obtain ⟨j, j1, j2, e⟩ := h.fro i hi.1 hi.2
      exact ⟨j, by omega, by omega, e⟩
    · exact ⟨i, h1, h2, h.out i (by omega)⟩, fun i h1 h2 => by
    by_cases hi : a ≤ i ∧ i < b
    · obtain ⟨j, j1, j2, e⟩ := h.to i hi.1 hi.2
      exact ⟨j, by omega, by omega, e⟩
    · exact ⟨i, h1, h2, h.out i (by omega)⟩⟩
/-- the blocks from a to m and from m to b, exchanged -/
def rot (G : Nat → Nat) (a m b : Nat) (k : Nat) : Nat := if a ≤ k ∧ k < b then (if k < a + (b - m) then G (k + (m - a)) else G (k - (b - m))) else G k
/-- n places from a on and from c on, exchanged -/
def swapR (G : Nat → Nat) (a c n : Nat) (k : Nat) : Nat := if a ≤ k ∧ k < a + n then G (k - a + c) else if c ≤ k ∧ k < c + n then G (k - c + a) else G k
section
variable {G : Nat → Nat} {a m b k : Nat}
theorem rot_out (h : k < a ∨ b ≤ k) : rot G a m b k = G k := by unfold rot; rw [if_neg (by omega)]
theorem rot_first (h1 : a ≤ k) (h2 : k < a + (b - m)) (hm : a ≤ m) (hb : m ≤ b) : rot G a m b k = G (k + (m - a)) := by unfold rot; rw [if_pos (by omega), if_pos h2]
theorem rot_last (h1 : a + (b - m) ≤ k) (h2 : k < b) (hm : a ≤ m) (hb : m ≤ b) : rot G a m b k = G (k - (b - m)) := by unfold rot; rw [if_pos (by omega), if_neg (by omega)]
theorem rot_none (hm : a = m ∨ m = b) (hb : a ≤ m ∧ m ≤ b) : rot G a m b = G := by
  funext k
  unfold rot
  split
  · split
    · congr 1; omega
    · congr 1; omega
  · rfl
theorem per_rot (hm : a ≤ m) (hb : m ≤ b) : Per G (rot G a m b) a b :=
  ⟨fun i hi => rot_out hi, fun i h1 h2 => by
    by_cases h : i < a + (b - m)
    · exact ⟨i + (m - a), by omega, by omega, rot_first h1 h hm hb⟩
    · exact ⟨i - (b - m), by omega, by omega, rot_last (by omega) h2 hm hb⟩, fun j h1 h2 => by
    by_cases h : j < m
    · exact ⟨j + (b - m), by omega, by omega, by rw [rot_last (by omega) (by omega) hm hb]; congr 1; omega⟩
    · exact ⟨j - (m - a), by omega, by omega, by rw [rot_first (by omega) (by omega) hm hb]; congr 1; omega⟩⟩
/-- a rotation by exchanges, the left block greater -/
theorem rot_left {i j : Nat} (hj : j < i) (hi : i ≤ m) : rot (swapR G (m - i) m j) (m - (i - j)) m (m + j) = rot G (m - i) m (m + j) := by
  funext k
  unfold rot swapR
  repeat' split
  all_goals first | rfl | (exfalso; omega) | (congr 1; omega)
theorem rot_right {i j : Nat} (hj : i < j) (hi : i ≤ m) : rot (swapR G (m - i) (m + j - i) i) (m - i) m (m + (j - i)) = rot G (m - i) m (m + j) := by
  funext k
  unfold rot swapR
  repeat' split
  all_goals first | rfl | (exfalso; omega) | (congr 1; omega)
theorem rot_same {i : Nat} (hi : i ≤ m) : swapR G (m - i) m i = rot G (m - i) m (m + i) := by
  funext k
  unfold rot swapR
  repeat' split
  all_goals first | rfl | (exfalso; omega) | (congr 1; omega)
theorem swapR_zero (a c : Nat) : swapR G a c 0 = G := by
  funext k
  unfold swapR
  repeat' split
  all_goals first | rfl | (exfalso; omega)
theorem swapR_next {c n : Nat} (h : a + n < c) : (fun k => if k = c + n then swapR G a c n (a + n) else if k = a + n then swapR G a c n (c + n) else swapR G a c n k) = swapR G a c (n + 1) := by
  funext k
  unfold swapR
  repeat' split
  all_goals first | rfl | (exfalso; omega) | (congr 1; omega)
end
section
variable {lt : Nat → Nat → Prop} {G : Nat → Nat} {a s m e b : Nat}
theorem rot_sorted (h1 : a ≤ s) (h2 : s ≤ m) (h3 : m ≤ e) (h4 : e ≤ b) (hL : SortedIn lt G a m) (hR : SortedIn lt G m b)
    (AC : ∀ i j, a ≤ i → i < s → m ≤ j → j < e → lt (G i) (G j)) (CB : ∀ i j, s ≤ i → i < m → m ≤ j → j < e → lt (G j) (G i)) (BD : ∀ i j, s ≤ i → i < m → e ≤ j → j < b → lt (G i) (G j)) (AD : ∀ i j, a ≤ i → i < s → e ≤ j → j < b → lt (G i) (G j)) :
    SortedIn lt (rot G s m e) a b := by
  intro i j hi hij hj
  rcases (show i < s ∨ (s ≤ i ∧ i < s + (e - m)) ∨ (s + (e - m) ≤ i ∧ i < e) ∨ e ≤ i by omega) with p | p | p | p
  · rw [rot_out (Or.inl p)]
    rcases (show j < s ∨ (s ≤ j ∧ j < s + (e - m)) ∨ (s + (e - m) ≤ j ∧ j < e) ∨ e ≤ j by omega) with q | q | q | q
    · rw [rot_out (Or.inl q)]; exact hL _ _ hi hij (by omega)
    · rw [rot_first q.1 q.2 h2 h3]; exact AC _ _ hi p (by omega) (by omega)
    · rw [rot_last q.1 q.2 h2 h3]; exact hL _ _ hi (by omega) (by omega)
    · rw [rot_out (Or.inr q)]; exact AD _ _ hi p q hj
  · rw [rot_first p.1 p.2 h2 h3]
    rcases (show (s ≤ j ∧ j < s + (e - m)) ∨ (s + (e - m) ≤ j ∧ j < e) ∨ e ≤ j by omega) with q | q | q
    · rw [rot_first q.1 q.2 h2 h3]; exact hR _ _ (by omega) (by omega) (by omega)
    · rw [rot_last q.1 q.2 h2 h3]; exact CB _ _ (by omega) (by omega) (by omega) (by omega)
    · rw [rot_out (Or.inr q)]; exact hR _ _ (by omega) (by omega) (by omega)
  · rw [rot_last p.1 p.2 h2 h3]
    rcases (show (s + (e - m) ≤ j ∧ j < e) ∨ e ≤ j by omega) with q | q
    · rw [rot_last q.1 q.2 h2 h3]; exact hL _ _ (by omega) (by omega) (by omega)
    · rw [rot_out (Or.inr q)]; exact BD _ _ (by omega) (by omega) q hj
  · rw [rot_out (Or.inr p), rot_out (Or.inr (by omega))]; exact hR _ _ (by omega) hij hj
/-- behind the rotation the four pieces are sorted, and all on the left is ahead of all on the right -/
structure Halves (lt : Nat → Nat → Prop) (H : Nat → Nat) (a s mid e b : Nat) : Prop where
  p1 : SortedIn lt H a s
  p2 : SortedIn lt H s mid
  p3 : SortedIn lt H mid e
  p4 : SortedIn lt H e b
  lr : ∀ i j, a ≤ i → i < mid → mid ≤ j → j < b → lt (H i) (H j)
theorem halves_of (h1 : a ≤ s) (h2 : s ≤ m) (h3 : m ≤ e) (h4 : e ≤ b) (hL : SortedIn lt G a m) (hR : SortedIn lt G m b)
    (AD : ∀ i j, a ≤ i → i < s → e ≤ j → j < b → lt (G i) (G j)) (CB : ∀ i j, s ≤ i → i < m → m ≤ j → j < e → lt (G j) (G i)) : Halves lt (rot G s m e) a s (s + (e - m)) e b := by
  refine ⟨fun i j hi hij hj => ?_, fun i j hi hij hj => ?_, fun i j hi hij hj => ?_, fun i j hi hij hj => ?_, fun i j hi hi' hj hj' => ?_⟩
  · rw [rot_out (Or.inl (by omega)), rot_out (Or.inl (by omega))]; exact hL _ _ hi hij (by omega)
  · rw [rot_first (by omega) (by omega) h2 h3, rot_first (by omega) (by omega) h2 h3]; exact hR _ _ (by omega) (by omega) (by omega)
  · rw [rot_last (by omega) (by omega) h2 h3, rot_last (by omega) (by omega) h2 h3]; exact hL _ _ (by omega) (by omega) (by omega)
  · rw [rot_out (Or.inr (by omega)), rot_out (Or.inr (by omega))]; exact hR _ _ (by omega) hij hj
  · by_cases p : i < s
    · rw [rot_out (Or.inl p)]
      by_cases q : j < e
      · rw [rot_last (by omega) q h2 h3]; exact hL _ _ hi (by omega) (by omega)
      · rw [rot_out (Or.inr (by omega))]; exact AD _ _ hi p (by omega) hj'
    · rw [rot_first (by omega) (by omega) h2 h3]
      by_cases q : j < e
      · rw [rot_last (by omega) q h2 h3]; exact CB _ _ (by omega) (by omega) (by omega) (by omega)
      · rw [rot_out (Or.inr (by omega))]; exact hR _ _ (by omega) (by omega) hj'
/-- both halves sorted, all is sorted -/
theorem halves_sorted {mid : Nat} {H K J : Nat → Nat} (h1 : a ≤ mid) (h2 : mid ≤ b) (lr : ∀ i j, a ≤ i → i < mid → mid ≤ j → j < b → lt (H i) (H j)) (p1 : Per H K a mid) (s1 : SortedIn lt K a mid) (p2 : Per K J mid b) (s2 : SortedIn lt J mid b) :
    SortedIn lt J a b ∧ Per H J a b := by
  refine ⟨fun i j hi hij hj => ?_, (p1.wide (Nat.le_refl _) h2).trans (p2.wide h1 (Nat.le_refl _))⟩
  by_cases q : j < mid
  · rw [p2.out i (by omega), p2.out j (by omega)]; exact s1 _ _ hi hij q
  · by_cases p : i < mid
    · rw [p2.out i (by omega)]
      obtain ⟨i', i1, i2, e1⟩ := p1.fro i hi p
      obtain ⟨j', j1, j2, e2⟩ := p2.fro j (by omega) hj
      rw [e1, e2, p1.out j' (by omega)]
      exact lr _ _ i1 i2 j1 j2
    · exact s2 _ _ (by omega) hij hj
end
end Go.Proofs.Ytkoifdbbomipbaa.Srt
