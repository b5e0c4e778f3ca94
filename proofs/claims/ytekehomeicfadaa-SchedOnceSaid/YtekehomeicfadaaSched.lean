
/- Contracts of layer 23: plans, and their next ticks; the program's and the document's. -/
import Derived.Test.YtekehomeicfadaaRows
import Derived.Test.YtekehomeicfadaaList
import Derived.Test.YtekehomeicfadaaRec
namespace Go.Proofs.Ytekehomeicfadaa.Sched
open Go.ChangeShapes Go.WideShapes Go.ChangeAt Go.RowKit
open Mem Arr Lst Rec

theorem ret_bool {p q : Bool} (h : p = q) : Ending.returned (.bool p) = .returned (.bool q) := by rw [h]
theorem ret_int {k : IntKind} {a b : Int} (h : a = b) : Ending.returned (.int k a) = .returned (.int k b) := by rw [h]

/-- plans as values: At, Each, Desired of each -/
def planV (P E : Nat → Int) (D : Nat → Int) (i j : Nat) : Value := if j = 0 then .int .u64 (P i) else if j = 1 then .int .u64 (E i) else .int .i64 (D i)
def okP (P E : Nat → Int) (i : Nat) : Bool := decide (P i ≤ 1099511627776 ∧ E i ≤ 65536)
def mayB (P E : Nat → Int) (n : Nat) (now : Int) : Bool := decide (now ≤ 1099511627776 ∧ n ≤ 16 ∧ ∀ i, i < n → okP P E i = true)
def behindV (p e now : Int) : Int := if now < p then p else if e = 0 then 0 else if 1099511627776 < p + ((now - p) / e + 1) * e then 0 else p + ((now - p) / e + 1) * e
def Plans (w : World) (B : Nat) (A : Option Addr) (n : Nat) (P E D : Nat → Int) : Prop := Recs w B A n 3 (planV P E D)

theorem plan_cells {w wr : World} {A : Option Addr} {n : Nat} {P E D : Nat → Int} (h : Plans w w.heap.size A n P E D) (hb : Below w.heap.size w wr) {b off : Nat} (hA : A = some ⟨b, off, none⟩) {k : Nat} (hk : k < n) :
    b < wr.heap.size ∧ wr.cell? ⟨b, off + k * 3, none⟩ = some (.int .u64 (P k)) ∧ wr.cell? ⟨b, off + k * 3 + 1, none⟩ = some (.int .u64 (E k)) ∧ wr.cell? ⟨b, off + k * 3 + 2, none⟩ = some (.int .i64 (D k)) := by
  obtain ⟨b', off', e, hlt, hc⟩ := (h.later hb).2 (by omega)
  rw [hA] at e
  injection e with e
  injection e with e1 e2
  subst e1; subst e2
  refine ⟨hlt, ?_, ?_, ?_⟩
  · have := hc k 0 hk (by omega)
    rw [Nat.add_zero] at this; rw [this]; rfl
  · have := hc k 1 hk (by omega)
    rw [← Nat.add_assoc] at this; rw [this]; rfl
  · have := hc k 2 hk (by omega)
    rw [← Nat.add_assoc] at this; rw [this]; rfl
theorem plans_at {w : World} {A : Option Addr} {n : Nat} {P E D : Nat → Int} (h : Plans w w.heap.size A n P E D) (hn : 0 < n) : ∃ b off, A = some ⟨b, off, none⟩ := by
  obtain ⟨b, off, e, _⟩ := h.2 hn
  exact ⟨b, off, e⟩
theorem ok_step {P E : Nat → Int} {k : Nat} (h : ∀ j, j < k → okP P E j = true) (hk : okP P E k = true) : ∀ j, j < k + 1 → okP P E j = true := by
  intro j hj
  rcases Nat.lt_succ_iff_lt_or_eq.1 hj with h1 | rfl
  · exact h j h1
  · exact hk

set_option maxHeartbeats 1000000 in
theorem may_any (A : Option Addr) (n c : Nat) (P E D : Nat → Int) (now : Int) (w : World) (h : Plans w w.heap.size A n P E D) (hn : n ≤ 9223372036854775807) :
    Calls Try.prog 14 #[.slice A n c, .int .u64 now] w fun e w' => e = .returned (.bool (mayB P E n now)) ∧ Below w.heap.size w w' := by
  have H := Lib.hid h
  clear h
  by_cases h0 : now ≤ 1099511627776
  · by_cases h16 : n ≤ 16
    · go_enter Try.func14, Try.ntmps14
      go_wp2
      go_loopw [16] (fun i wr => ∃ k : Nat, k ≤ n ∧ i = .int .i64 k ∧ Hid (∀ j, j < k → okP P E j = true) ∧ Below w.heap.size w wr) (fun i _ => n - (intOf i).toNat)
      case atStart => exact ⟨0, by omega, rfl, Lib.hid (fun j hj => absurd hj (by omega)), Below.refl _ _⟩
      case round =>
        obtain ⟨k, hk, rfl, ho, hb⟩ := hrel
        by_cases hlt : k < n
        · obtain ⟨b, off, rfl⟩ := plans_at H.out (by omega)
          obtain ⟨hbl, c0, c1, c2⟩ := plan_cells H.out hb rfl hlt
          by_cases w1 : P k ≤ 1099511627776
          · by_cases w2 : E k ≤ 65536
            · have HK : Hid (∀ j, j < k + 1 → okP P E j = true) := Lib.hid (ok_step ho.out (decide_eq_true ⟨w1, w2⟩))
              clear ho
              go_wp2
              go_roundw
              case rel => exact ⟨k + 1, by omega, by go_num, HK, bAlloc hb _⟩
              case measure => simp [intOf]; omega
            · have HV : Hid (mayB P E n now = false) := Lib.hid (decide_eq_false fun h => by have := of_decide_eq_true (h.2.2 k hlt); omega)
              clear ho
              go_wp2
              go_ret
              exact ⟨ret_bool HV.out.symm, bAlloc hb _⟩
          · have HV : Hid (mayB P E n now = false) := Lib.hid (decide_eq_false fun h => by have := of_decide_eq_true (h.2.2 k hlt); omega)
            clear ho
            go_wp2
            go_ret
            exact ⟨ret_bool HV.out.symm, bAlloc hb _⟩
        · have HV : Hid (mayB P E n now = true) := Lib.hid (decide_eq_true ⟨h0, h16, fun j hj => ho.out j (by omega)⟩)
          go_wp2
          go_ret
          exact ⟨ret_bool HV.out.symm, hb⟩
    · have HV : Hid (mayB P E n now = false) := Lib.hid (decide_eq_false (by omega))
      go_enter Try.func14, Try.ntmps14
      go_wp2
      go_ret
      exact ⟨ret_bool HV.out.symm, Below.refl _ _⟩
  · have HV : Hid (mayB P E n now = false) := Lib.hid (decide_eq_false (by omega))
    go_enter Try.func14, Try.ntmps14
    go_wp2
    go_ret
    exact ⟨ret_bool HV.out.symm, Below.refl _ _⟩

theorem mul_bd {p e now : Int} (hp : 0 ≤ p) (he : 1 ≤ e) (he' : e ≤ 65536) (hn : now ≤ 1099511627776) (h : p ≤ now) : 0 ≤ (now - p) / e ∧ (now - p) / e ≤ 1099511627776 ∧ 0 ≤ ((now - p) / e + 1) * e ∧ ((now - p) / e + 1) * e ≤ 1099511627776 + 65536 := by
  have q0 : 0 ≤ (now - p) / e := Int.ediv_nonneg (by omega) (by omega)
  have q1 : (now - p) / e ≤ now - p := Int.ediv_le_self e (by omega)
  have q2 : (now - p) / e * e ≤ now - p := Int.ediv_mul_le (now - p) (by omega)
  have q3 : 0 ≤ (now - p) / e * e := Int.mul_nonneg q0 (by omega)
  have e1 : ((now - p) / e + 1) * e = (now - p) / e * e + e := by rw [Int.add_mul, Int.one_mul]
  rw [e1]
  omega
theorem behind_any (p e d now : Int) (w : World) (hp : 0 ≤ p) (hp' : p ≤ 1099511627776) (he : 0 ≤ e) (he' : e ≤ 65536) (hn : 0 ≤ now) (hn' : now ≤ 1099511627776) :
    Calls Try.prog 15 #[.agg #[.int .u64 p, .int .u64 e, .int .i64 d], .int .u64 now] w fun x w' => x = .returned (.int .u64 (behindV p e now)) ∧ Below w.heap.size w w' := by
  by_cases h1 : now < p
  · have HV : Hid (behindV p e now = p) := Lib.hid (if_pos h1)
    go_enter Try.func15, Try.ntmps15
    go_wp2
    go_ret
    exact ⟨ret_int HV.out.symm, bAlloc (Below.refl _ _) _⟩
  · by_cases h2 : e = 0
    · have HV : Hid (behindV p 0 now = 0) := Lib.hid (by unfold behindV; rw [if_neg h1, if_pos rfl])
      subst h2
      go_enter Try.func15, Try.ntmps15
      go_wp2
      go_ret
      exact ⟨ret_int HV.out.symm, bAlloc (Below.refl _ _) _⟩
    · obtain ⟨m1, m2, m3, m4⟩ := mul_bd hp (show 1 ≤ e by omega) he' hn' (by omega)
      have HV : Hid (behindV p e now = if 1099511627776 < p + ((now - p) / e + 1) * e then 0 else p + ((now - p) / e + 1) * e) := Lib.hid (by unfold behindV; rw [if_neg h1, if_neg h2])
      have z : (e == 0) = false := by simpa using h2
      have e1 : 1 ≤ e := by omega
      have h1' : p ≤ now := by omega
      clear h1
      go_enter Try.func15, Try.ntmps15
      go_wp2
      go_quiet (fail)
      by_cases h3 : 1099511627776 < p + ((now - p) / e + 1) * e
      all_goals
        go_wp2
        go_ret
        refine ⟨ret_int ?_, bDrewN _ (bAlloc (Below.refl _ _) _)⟩
        rw [HV.out]
        first | rw [if_pos (by omega)] | rw [if_neg (by omega)]
end Go.Proofs.Ytekehomeicfadaa.Sched
