
/- What comes of what is told is the same by the merge and one by one. No walk here. -/
import Derived.Test.YtoiofdoipmdajaaRcE
import Derived.Test.YtoiofdoipmdajaaRcF
namespace Go.Proofs.Ytoiofdoipmdajaa.RcG
open Inst Sums Fnd Tld Evs Both Knw RcE RcF
theorem range_cons {t n : Nat} (h : t < n) : List.range' t (n - t) = t :: List.range' (t + 1) (n - (t + 1)) := by
  obtain ⟨g, hg⟩ : ∃ g, n - t = g + 1 := ⟨n - t - 1, by omega⟩
  rw [hg, List.range'_succ, show n - (t + 1) = g by omega]
theorem range_none {t n : Nat} (h : ¬ t < n) : List.range' t (n - t) = [] := by
  rw [show n - t = 0 by omega]; rfl
theorem up_same (x : Td) : upE x = upF x := rfl
theorem may_le {L : Nat → Ins} {n i j : Nat} (h : mayB L n = true) (hij : i ≤ j) (hj : j < n) : (L i).id ≤ (L j).id := by
  rcases Nat.lt_or_ge i j with h1 | h1
  · exact Int.le_of_lt (may_less h j i h1 hj)
  · obtain rfl : i = j := by omega
    exact Int.le_refl _
theorem mayT_le {T : Nat → Td} {n i j : Nat} (h : mayT T n = true) (hij : i ≤ j) (hj : j < n) : (T i).id ≤ (T j).id := by
  rcases Nat.lt_or_ge i j with h1 | h1
  · exact Int.le_of_lt (mayT_less h j i h1 hj)
  · obtain rfl : i = j := by omega
    exact Int.le_refl _
theorem merge_same {T : Nat → Td} {L : Nat → Ins} {n m : Nat} (hT : mayT T n = true) (hL : mayB L m = true) : ∀ f t i, n + m ≤ f + (t + i) → t ≤ n → i ≤ m →
    (∀ i', i' < i → ∀ t', t ≤ t' → t' < n → (L i').id < (T t').id) → (∀ t', t' < t → ∀ i', i ≤ i' → i' < m → (T t').id < (L i').id) →
    (mg T L n m f t i).flatMap (evC T L) = (List.range' t (n - t)).flatMap (refC T L m) ∧ (mg T L n m f t i).flatMap (evG L) = (List.range' i (m - i)).flatMap (refG T L n) := by
  intro f
  induction f with
  | zero =>
    intro t i hf ht hi _ _
    rw [range_none (show ¬ t < n by omega), range_none (show ¬ i < m by omega), mg_end (show ¬ (t < n ∨ i < m) by omega)]
    exact ⟨rfl, rfl⟩
  | succ f ih =>
    intro t i hf ht hi h1 h2
    by_cases hor : t < n ∨ i < m
    · rw [mg_on hor]
      have yes : ∀ k, k < n → (T k).id = (L i).id → refG T L n i = [] := fun k hk he => by
        unfold refG; rw [if_pos ((anyT_iff n).2 ⟨k, hk, he⟩)]
      have no : (∀ k, k < n → (T k).id ≠ (L i).id) → refG T L n i = [Ev.mk 15 0 (L i).id] := fun hk => by
        unfold refG; rw [if_neg (fun e => by obtain ⟨k, h3, h4⟩ := (anyT_iff n).1 e; exact hk k h3 h4)]
      by_cases htn : t < n
      · by_cases him : i < m
        · rcases Int.lt_trichotomy (T t).id (L i).id with hlt | heq | hgt
          · have bx : xB T L n m t i = true := decide_eq_true (by omega)
            have by_ : yB T L n m t i = false := decide_eq_false (by omega)
            unfold hd
            rw [bx, by_]
            simp only [if_true, List.flatMap_cons, Bool.false_eq_true, if_false, Nat.add_zero]
            obtain ⟨e1, e2⟩ := ih (t + 1) i (by omega) (by omega) hi (fun i' hi' t' h3 h4 => h1 i' hi' t' (by omega) h4) (fun t' ht' i' h3 h4 => by
              have := may_le hL h3 h4
              by_cases e : t' = t
              · subst e; omega
              · exact h2 t' (by omega) i' h3 h4)
            have hr : refC T L m t = [Ev.mk 10 (T t).tok (T t).id] ++ upF (T t) := by
              unfold refC
              rw [(fnd_no (L := L) (n := m) (id := (T t).id) (.inr fun k hk => by
                by_cases e : k < i
                · have := h1 k e t (Nat.le_refl _) htn; omega
                · have := may_le hL (show i ≤ k by omega) hk; omega)).2]
              rfl
            rw [e1, e2, range_cons htn, List.flatMap_cons, hr]
            exact ⟨rfl, rfl⟩
          · have bx : xB T L n m t i = true := decide_eq_true (by omega)
            have by_ : yB T L n m t i = true := decide_eq_true (by omega)
            unfold hd
            rw [bx, by_]
            simp only [if_true, List.flatMap_cons]
            obtain ⟨e1, e2⟩ := ih (t + 1) (i + 1) (by omega) (by omega) (by omega) (fun i' hi' t' h3 h4 => by
              have h5 := mayT_less hT t' t (by omega) h4
              by_cases e : i' = i
              · subst e; omega
              · exact h1 i' (by omega) t' (by omega) h4) (fun t' ht' i' h3 h4 => by
              have h5 := may_less hL i' i (by omega) h4
              by_cases e : t' = t
              · subst e; omega
              · exact h2 t' (by omega) i' (by omega) h4)
            have hr : refC T L m t = knownE (T t) (L i) := by
              unfold refC
              obtain ⟨f1, f2⟩ := fnd_yes (id := (T t).id) hL him heq.symm
              rw [f1, f2]; rfl
            rw [e1, e2, range_cons htn, range_cons him, List.flatMap_cons, List.flatMap_cons, hr, yes t htn heq]
            exact ⟨rfl, rfl⟩
          · have bx : xB T L n m t i = false := decide_eq_false (by omega)
            have by_ : yB T L n m t i = true := decide_eq_true (by omega)
            unfold hd
            rw [bx, by_]
            simp only [if_true, List.flatMap_cons, Bool.false_eq_true, if_false, Nat.add_zero]
            obtain ⟨e1, e2⟩ := ih t (i + 1) (by omega) ht (by omega) (fun i' hi' t' h3 h4 => by
              have := mayT_le hT h3 h4
              by_cases e : i' = i
              · subst e; omega
              · exact h1 i' (by omega) t' h3 h4) (fun t' ht' i' h3 h4 => h2 t' ht' i' (by omega) h4)
            rw [e1, e2, range_cons him, List.flatMap_cons, no (fun k hk => by
              by_cases e : k < t
              · have := h2 k e i (Nat.le_refl _) him; omega
              · have := mayT_le hT (show t ≤ k by omega) hk; omega)]
            exact ⟨rfl, rfl⟩
        · have bx : xB T L n m t i = true := decide_eq_true (by omega)
          have by_ : yB T L n m t i = false := decide_eq_false (by omega)
          unfold hd
          rw [bx, by_]
          simp only [if_true, List.flatMap_cons, Bool.false_eq_true, if_false, Nat.add_zero]
          obtain ⟨e1, e2⟩ := ih (t + 1) i (by omega) (by omega) hi (fun i' hi' t' h3 h4 => h1 i' hi' t' (by omega) h4) (fun t' ht' i' h3 h4 => by omega)
          have hr : refC T L m t = [Ev.mk 10 (T t).tok (T t).id] ++ upF (T t) := by
            unfold refC
            rw [(fnd_no (L := L) (n := m) (id := (T t).id) (.inr fun k hk => by
              have := h1 k (by omega) t (Nat.le_refl _) htn; omega)).2]
            rfl
          rw [e1, e2, range_cons htn, List.flatMap_cons, hr]
          exact ⟨rfl, rfl⟩
      · have him : i < m := by omega
        have bx : xB T L n m t i = false := decide_eq_false (by omega)
        have by_ : yB T L n m t i = true := decide_eq_true (by omega)
        unfold hd
        rw [bx, by_]
        simp only [if_true, List.flatMap_cons, Bool.false_eq_true, if_false, Nat.add_zero]
        obtain ⟨e1, e2⟩ := ih t (i + 1) (by omega) ht (by omega) (fun i' hi' t' h3 h4 => by omega) (fun t' ht' i' h3 h4 => h2 t' ht' i' (by omega) h4)
        rw [e1, e2, range_cons him, List.flatMap_cons, no (fun k hk => by
          have := h2 k (by omega) i (Nat.le_refl _) him; omega)]
        exact ⟨rfl, rfl⟩
    · rw [range_none (show ¬ t < n by omega), range_none (show ¬ i < m by omega), mg_end hor]
      exact ⟨rfl, rfl⟩
theorem ev_same {T : Nat → Td} {L : Nat → Ins} {n m : Nat} (hT : mayT T n = true) (hL : mayB L m = true) : evA T L n m = refEv T L n m := by
  obtain ⟨e1, e2⟩ := merge_same hT hL (n + m) 0 0 (by omega) (by omega) (by omega) (fun i' h => by omega) (fun t' h => by omega)
  unfold evA refEv
  unfold mgA
  rw [e1, e2, List.range_eq_range', List.range_eq_range', Nat.sub_zero, Nat.sub_zero]
end Go.Proofs.Ytoiofdoipmdajaa.RcG
