
/- Layer 25: a state in a refresh, whose instances are all of one version. No code of the program. -/
import Derived.Test.YtpjglhllbgmbhaaExtH
import Derived.Test.YtpjglhllbgmbhaaExtG
import Derived.Test.YtpjglhllbgmbhaaStX
namespace Go.Proofs.Ytpjglhllbgmbhaa.Extra
open Go.ChangeShapes Go.WideShapes Go.ChangeAt Go.RowKit
open NumM
open NumA hiding ret_bool
open Mem Arr Lst Rec Inst Grown Sums St Opens
def verN (all : Bool) : Int := if all then 2 else 1
theorem verT : verN true = 2 := rfl
theorem verF : verN false = 1 := rfl
def newI (all : Bool) (x : Ins) : Ins := { x with ver := verN all, risk := false }
theorem insV_neg {L F : Nat → Ins} {k i j : Nat} (h : ¬ i < k) : insV (fun i => if i < k then F i else L i) i j = ((L i).cells[j]?).getD undef := by unfold insV; simp [h]
theorem insV_pos {L F : Nat → Ins} {k i j : Nat} (h : i < k) : insV (fun i => if i < k then F i else L i) i j = ((F i).cells[j]?).getD undef := by unfold insV; simp [h]
def midS (s : State) : State := { s with ver := 2, on := true, least := 0, most := 100, stop := 0, stopped := false, back := false }
def lastS (s : State) (A : Option Addr) (c : Nat) : State := { midS s with iA := A, iC := c, oA := none, oN := 0, oC := 0 }
def anyS (L : Nat → Ins) : Nat → Bool
  | 0 => false
  | k + 1 => anyS L k || decide ((L k).st = 3)
theorem new_ok (all : Bool) (x : Ins) : okB (newI all x) = okB x := rfl
theorem new_may (all : Bool) (L : Nat → Ins) (n : Nat) : mayB (fun i => newI all (L i)) n = mayB L n := rfl
theorem last_may {s : State} {L : Nat → Ins} {A : Option Addr} {c : Nat} (all : Bool) (hm : mayB L s.iN = true) (h1 : 0 ≤ s.desired) (h2 : s.desired ≤ 65536) (h3 : 0 ≤ s.c.surge) (h4 : s.c.surge ≤ 65536) : mayS (lastS s A c) (fun i => newI all (L i)) = true := by
  unfold mayS
  have : numB (lastS s A c) = true := decide_eq_true ⟨h1, h2, h3, h4, fun _ => ⟨by show (100 : Int) ≤ 100; omega, by show (100 : Int) ≤ 200; omega⟩⟩
  rw [this]
  show (true && mayB L s.iN) = true
  rw [hm]; rfl
theorem any_at {L : Nat → Ins} : ∀ n, anyS L n = true → ∃ k, k < n ∧ (L k).st = 3 := by
  intro n
  induction n with
  | zero => intro h; cases h
  | succ n ih =>
    intro h
    unfold anyS at h
    rcases Bool.or_eq_true_iff.1 h with h | h
    · obtain ⟨k, hk, e⟩ := ih h; exact ⟨k, by omega, e⟩
    · exact ⟨n, by omega, of_decide_eq_true h⟩
theorem last_goes (s : State) (A : Option Addr) (c : Nat) : goesB (lastS s A c) = true := rfl
theorem last_above (s : State) (A : Option Addr) (c : Nat) : aboveV (lastS s A c) = 0 := by
  unfold aboveV
  rw [last_goes]
  show upQ (s.desired * (100 - 100)) 100 = 0
  rw [show s.desired * ((100 : Int) - 100) = 0 by simp]
  rfl
theorem sum_zero {p : Ins → Bool} {L : Nat → Ins} (h : ∀ i, p (L i) = false) : ∀ k, sumI p L k = 0 ∧ topI p L k = 0 := by
  intro k
  induction k with
  | zero => exact ⟨rfl, rfl⟩
  | succ k ih =>
    obtain ⟨e1, e2⟩ := sum_off (p := p) (L := L) (k := k) (.inr (h k))
    rw [e1, e2]; exact ih
theorem sum_pos {p : Ins → Bool} {L : Nat → Ins} {n : Nat} (hm : mayB L n = true) {i : Nat} (h1 : servesB (L i) = true) (h2 : p (L i) = true) : ∀ k, k ≤ n → i < k → 1 ≤ sumI p L k ∧ 1 ≤ topI p L k := by
  intro k
  induction k with
  | zero => intro _ h; omega
  | succ k ih =>
    intro hk hi
    have y := ok_yes (may_ok hm (show k < n by omega))
    have b := sum_bd (p := p) hm k (by omega)
    rcases Nat.lt_succ_iff_lt_or_eq.1 hi with h3 | rfl
    · have := ih (by omega) h3
      rcases h4 : servesB (L k) && p (L k) with _ | _
      · have e : servesB (L k) = false ∨ p (L k) = false := by
          rcases h5 : servesB (L k) with _ | _
          · exact .inl rfl
          · rw [h5] at h4; exact .inr h4
        obtain ⟨e1, e2⟩ := sum_off (p := p) e
        rw [e1, e2]; exact this
      · obtain ⟨h5, h6⟩ := Bool.and_eq_true_iff.1 h4
        obtain ⟨e1, e2⟩ := sum_on (p := p) h5 h6
        rw [e1, e2]
        refine ⟨by omega, ?_⟩
        split <;> omega
    · obtain ⟨e1, e2⟩ := sum_on (p := p) h1 h2
      rw [e1, e2]
      refine ⟨by omega, ?_⟩
      split <;> omega
theorem last_all {s : State} {L : Nat → Ins} {A : Option Addr} {c : Nat} (O : Nat → Opn) (hm : mayB L s.iN = true) (h1 : 0 ≤ s.desired) (h2 : s.desired ≤ 65536) (h3 : 0 ≤ s.c.surge) (h4 : s.c.surge ≤ 65536) :
    endsB (lastS s A c) (fun i => newI true (L i)) O = true ∧ ofV (lastS s A c) (fun i => newI true (L i)) = 0 := by
  have hM := last_may (A := A) (c := c) true hm h1 h2 h3 h4
  refine ⟨ends_all hM (fun i _ => ?_) (fun i hi => absurd hi (Nat.not_lt_zero i)), ?_⟩
  · unfold badI
    rw [show decide ((newI true (L i)).ver ≠ (lastS s A c).ver) = false from decide_eq_false (fun h => h rfl)]
    rfl
  · unfold ofV
    rw [if_pos hM, last_above]
    obtain ⟨a1, a2⟩ := sum_zero (p := risksB (lastS s A c)) (L := fun i => newI true (L i)) (fun i => rfl) (lastS s A c).iN
    obtain ⟨b1, b2⟩ := sum_zero (p := oldB (lastS s A c)) (L := fun i => newI true (L i)) (fun i => by
      unfold oldB
      rw [show decide ((newI true (L i)).ver ≠ (lastS s A c).ver) = false from decide_eq_false (fun h => h rfl)]
      simp) (lastS s A c).iN
    rw [a1, b1, b2]
    have : (lastS s A c).c.surge = s.c.surge := rfl
    rw [this]
    unfold mx mn
    omega
theorem last_some {s : State} {L : Nat → Ins} {A : Option Addr} {c : Nat} (O : Nat → Opn) (hm : mayB L s.iN = true) (h1 : 0 ≤ s.desired) (h2 : s.desired ≤ 65536) (h3 : 0 ≤ s.c.surge) (h4 : s.c.surge ≤ 65536) (ha : anyS L s.iN = true) :
    endsB (lastS s A c) (fun i => newI false (L i)) O = false ∧ 0 < ofV (lastS s A c) (fun i => newI false (L i)) := by
  have hM := last_may (A := A) (c := c) false hm h1 h2 h3 h4
  obtain ⟨k, hk, e⟩ := any_at _ ha
  have hs : servesB (newI false (L k)) = true := decide_eq_true e
  have hv : decide ((newI false (L k)).ver ≠ (lastS s A c).ver) = true := decide_eq_true (by show (1 : Int) ≠ 2; omega)
  refine ⟨ends_i (k := k) hk ?_, ?_⟩
  · unfold badI
    rw [hv, hs]; rfl
  · unfold ofV
    rw [if_pos hM, last_above]
    have b := sum_pos (p := oldB (lastS s A c)) (L := fun i => newI false (L i)) (n := s.iN) hm (i := k) hs (by unfold oldB; rw [hv]; rfl) s.iN (Nat.le_refl _) hk
    have e1 : (lastS s A c).iN = s.iN := rfl
    rw [e1]
    unfold mx mn
    omega
theorem mid_cells (s : State) : (setA s.cells 48 [.bool true, .int .i64 0, .int .i64 100, .int .i64 0, .bool false, .bool false]).setIfInBounds 40 (.int .u32 2) = (midS s).cells := by kernel_rfl
theorem last_cells (s : State) (A : Option Addr) (c : Nat) : ((midS s).cells.setIfInBounds 46 (.slice A s.iN c)).setIfInBounds 47 (.slice none 0 0) = (lastS s A c).cells := by kernel_rfl
end Go.Proofs.Ytpjglhllbgmbhaa.Extra
