
/- What Add, Set, Drop answer is told by what is handed in. No walk here. -/
import Derived.Test.YtcgeoaegalloaaaSdE
namespace Go.Proofs.Ytcgeoaegalloaaa.Cat
open Inst Sums Fnd
theorem bad_no {L : Nat → Ins} {n : Nat} {x : Ins} (h : mayB L n = false ∨ okB x = false) (hm : mayB L n = true) (hx : okB x = true) : False := by
  rcases h with e | e
  · rw [e] at hm; cases hm
  · rw [e] at hx; cases hx
theorem AddR.agree {L : Nat → Ins} {n : Nat} {x : Ins} {m m' : Nat} {V V' : Nat → Ins} {er er' : Int} (h : AddR L n x m V er) (h' : AddR L n x m' V' er') : m = m' ∧ er = er' ∧ ∀ i, i < m → V i = V' i := by
  rcases h with ⟨hb, rfl, rfl⟩ | ⟨hm, hx, ⟨k, hk, he⟩, rfl, rfl⟩ | ⟨hm, hx, hno, hf, rfl, rfl⟩ | ⟨hm, hx, hf, k, hk, hlo, hhi, rfl, rfl, hV⟩
  · rcases h' with ⟨_, rfl, rfl⟩ | ⟨hm', hx', _⟩ | ⟨hm', hx', _⟩ | ⟨hm', hx', _⟩
    · exact ⟨rfl, rfl, fun i hi => absurd hi (by omega)⟩
    · exact (bad_no hb hm' hx').elim
    · exact (bad_no hb hm' hx').elim
    · exact (bad_no hb hm' hx').elim
  · rcases h' with ⟨hb', _⟩ | ⟨_, _, _, rfl, rfl⟩ | ⟨_, _, hno', _⟩ | ⟨_, _, _, k', hk', hlo', hhi', _⟩
    · exact (bad_no hb' hm hx).elim
    · exact ⟨rfl, rfl, fun i hi => absurd hi (by omega)⟩
    · exact absurd he (hno' k hk)
    · exfalso
      by_cases hq : k < k'
      · have := hlo' k hq; omega
      · have := hhi' k (by omega) hk; omega
  · rcases h' with ⟨hb', _⟩ | ⟨_, _, ⟨k', hk', he'⟩, _⟩ | ⟨_, _, _, _, rfl, rfl⟩ | ⟨_, _, hf', _⟩
    · exact (bad_no hb' hm hx).elim
    · exact absurd he' (hno k' hk')
    · exact ⟨rfl, rfl, fun i hi => absurd hi (by omega)⟩
    · omega
  · rcases h' with ⟨hb', _⟩ | ⟨_, _, ⟨k', hk', he'⟩, _⟩ | ⟨_, _, _, hf', _⟩ | ⟨_, _, _, k', hk', hlo', hhi', rfl, rfl, hV'⟩
    · exact (bad_no hb' hm hx).elim
    · exfalso
      by_cases hq : k' < k
      · have := hlo k' hq; omega
      · have := hhi k' (by omega) hk'; omega
    · omega
    · have e : k = k' := by
        rcases Nat.lt_trichotomy k k' with hq | hq | hq
        · have h1 := hlo' k hq
          have h2 := hhi k (Nat.le_refl _) (by omega)
          omega
        · exact hq
        · have h1 := hlo k' hq
          have h2 := hhi' k' (Nat.le_refl _) (by omega)
          omega
      subst e
      exact ⟨rfl, rfl, fun i hi => (hV i hi).trans (hV' i hi).symm⟩
theorem SetR.agree {L : Nat → Ins} {n : Nat} {x : Ins} {m m' : Nat} {V V' : Nat → Ins} {er er' : Int} (h : SetR L n x m V er) (h' : SetR L n x m' V' er') : m = m' ∧ er = er' ∧ ∀ i, i < m → V i = V' i := by
  rcases h with ⟨hb, rfl, rfl⟩ | ⟨hm, hx, hno, rfl, rfl⟩ | ⟨hm, hx, k, hk, he, rfl, rfl, hV⟩
  · rcases h' with ⟨_, rfl, rfl⟩ | ⟨hm', hx', _⟩ | ⟨hm', hx', _⟩
    · exact ⟨rfl, rfl, fun i hi => absurd hi (by omega)⟩
    · exact (bad_no hb hm' hx').elim
    · exact (bad_no hb hm' hx').elim
  · rcases h' with ⟨hb', _⟩ | ⟨_, _, _, rfl, rfl⟩ | ⟨_, _, k', hk', he', _⟩
    · exact (bad_no hb' hm hx).elim
    · exact ⟨rfl, rfl, fun i hi => absurd hi (by omega)⟩
    · exact absurd he' (hno k' hk')
  · rcases h' with ⟨hb', _⟩ | ⟨_, _, hno', _⟩ | ⟨_, _, k', hk', he', rfl, rfl, hV'⟩
    · exact (bad_no hb' hm hx).elim
    · exact absurd he (hno' k hk)
    · obtain rfl := may_one hm hk hk' (he.trans he'.symm)
      exact ⟨rfl, rfl, fun i hi => (hV i hi).trans (hV' i hi).symm⟩
theorem DropR.agree {L : Nat → Ins} {n : Nat} {id : Int} {m m' : Nat} {V V' : Nat → Ins} {er er' : Int} (h : DropR L n id m V er) (h' : DropR L n id m' V' er') : m = m' ∧ er = er' ∧ ∀ i, i < m → V i = V' i := by
  rcases h with ⟨hb, rfl, rfl⟩ | ⟨hm, hno, rfl, rfl⟩ | ⟨hm, k, hk, he, rfl, rfl, hV⟩
  · rcases h' with ⟨_, rfl, rfl⟩ | ⟨hm', _⟩ | ⟨hm', _⟩
    · exact ⟨rfl, rfl, fun i hi => absurd hi (by omega)⟩
    · rw [hb] at hm'; cases hm'
    · rw [hb] at hm'; cases hm'
  · rcases h' with ⟨hb', _⟩ | ⟨_, _, rfl, rfl⟩ | ⟨_, k', hk', he', _⟩
    · rw [hb'] at hm; cases hm
    · exact ⟨rfl, rfl, fun i hi => absurd hi (by omega)⟩
    · exact absurd he' (hno k' hk')
  · rcases h' with ⟨hb', _⟩ | ⟨_, hno', _⟩ | ⟨_, k', hk', he', rfl, rfl, hV'⟩
    · rw [hb'] at hm; cases hm
    · exact absurd he (hno' k hk)
    · obtain rfl := may_one hm hk hk' (he.trans he'.symm)
      exact ⟨rfl, rfl, fun i hi => (hV i hi).trans (hV' i hi).symm⟩
theorem AddR.len {L : Nat → Ins} {n : Nat} {x : Ins} {m : Nat} {V : Nat → Ins} {er : Int} (h : AddR L n x m V er) : m ≤ n + 1 := by
  rcases h with ⟨_, rfl, _⟩ | ⟨_, _, _, rfl, _⟩ | ⟨_, _, _, _, rfl, _⟩ | ⟨_, _, _, _, _, _, _, rfl, _⟩ <;> omega
theorem SetR.len {L : Nat → Ins} {n : Nat} {x : Ins} {m : Nat} {V : Nat → Ins} {er : Int} (h : SetR L n x m V er) : m ≤ n + 1 := by
  rcases h with ⟨_, rfl, _⟩ | ⟨_, _, _, rfl, _⟩ | ⟨_, _, _, _, _, rfl, _⟩ <;> omega
theorem DropR.len {L : Nat → Ins} {n : Nat} {id : Int} {m : Nat} {V : Nat → Ins} {er : Int} (h : DropR L n id m V er) : m ≤ n + 1 := by
  rcases h with ⟨_, rfl, _⟩ | ⟨_, _, rfl, _⟩ | ⟨_, _, _, _, rfl, _⟩ <;> omega
end Go.Proofs.Ytcgeoaegalloaaa.Cat
