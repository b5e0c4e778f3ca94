
/- Layer 25: what extra is at least and at most. No code of the program. -/
import Derived.Test.YtpjglhllbgmbhaaExtD
import Derived.Test.YtpjglhllbgmbhaaExtE
namespace Go.Proofs.Ytpjglhllbgmbhaa.Extra
open Go.ChangeShapes Go.WideShapes Go.ChangeAt Go.RowKit
open Mem Arr Lst Rec Inst Grown Sums St Opens
theorem sum_le {p q : Ins → Bool} {L : Nat → Ins} {n : Nat} (hpq : ∀ x, p x = true → q x = true) (h : mayB L n = true) : ∀ k, k ≤ n → sumI p L k ≤ sumI q L k := by
  intro k
  induction k with
  | zero => intro _; exact Int.le_refl _
  | succ k ih =>
    intro hk
    have i := ih (by omega)
    have y := ok_yes (may_ok h (show k < n by omega))
    rcases h1 : servesB (L k) with _ | _
    · rw [(sum_off (p := p) (.inl h1)).1, (sum_off (p := q) (.inl h1)).1]; exact i
    · rcases h2 : p (L k) with _ | _
      · rw [(sum_off (p := p) (.inr h2)).1]
        rcases h3 : q (L k) with _ | _
        · rw [(sum_off (p := q) (.inr h3)).1]; exact i
        · rw [(sum_on (p := q) h1 h3).1]; omega
      · rw [(sum_on (p := p) h1 h2).1, (sum_on (p := q) h1 (hpq _ h2)).1]; omega
theorem of_bd {s : State} {L : Nat → Ins} (h : mayS s L = true) : 0 ≤ ofV s L ∧ ofV s L ≤ sumI (givesB s) L s.iN ∧ s.desired + ofV s L ≤ ceilV s L := by
  obtain ⟨hn, hm⟩ := mayS_yes h
  have y := num_yes hn
  have z := above_bd hn
  have a := sum_bd (p := risksB s) hm s.iN (Nat.le_refl _)
  have b := sum_bd (p := oldB s) hm s.iN (Nat.le_refl _)
  have c := sum_le (p := risksB s) (q := givesB s) (fun x e => by unfold givesB; rw [e]; simp) hm s.iN (Nat.le_refl _)
  have d := sum_le (p := oldB s) (q := givesB s) (fun x e => by unfold givesB; rw [e]; simp) hm s.iN (Nat.le_refl _)
  unfold ofV ceilV
  rw [if_pos h, if_pos h]
  unfold mx mn
  omega
theorem of_no {s : State} {L : Nat → Ins} (h : mayS s L = false) : ofV s L = 0 ∧ ceilV s L = 0 := by unfold ofV ceilV; rw [h]; exact ⟨rfl, rfl⟩
end Go.Proofs.Ytpjglhllbgmbhaa.Extra
