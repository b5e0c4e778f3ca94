
/- The instances without the one of an Id, as the document tells them (cohortref17.Drop). -/
import Derived.Test.YtcgeoaegalloaaaFnd
import Derived.Deep.Cut
namespace Go.Proofs.Ytcgeoaegalloaaa.Fnd
open Go.ChangeShapes Go.WideShapes Go.ChangeAt Go.RowKit
open Mem Arr Lst Rec Inst Grown Sums St0
def cutL (L : Nat → Ins) (k : Nat) (i : Nat) : Ins := if i < k then L i else L (i + 1)
theorem may_cut {L : Nat → Ins} {n k : Nat} (hm : mayB L n = true) (hk : k < n) : mayB (cutL L k) (n - 1) = true := by
  refine decide_eq_true ⟨by have := may_len hm; omega, fun i hi => ?_⟩
  unfold atB cutL
  by_cases h : i < k
  · rw [if_pos h, may_ok hm (show i < n by omega)]
    by_cases h0 : i = 0
    · rw [decide_eq_true h0]; rfl
    · rw [if_pos (show i - 1 < k by omega), decide_eq_true (may_less hm i (i - 1) (by omega) (by omega)), Bool.or_true]; rfl
  · rw [if_neg h, may_ok hm (show i + 1 < n by omega)]
    by_cases h0 : i = 0
    · rw [decide_eq_true h0]; rfl
    · by_cases h1 : i - 1 < k
      · rw [if_pos h1, decide_eq_true (may_less hm (i + 1) (i - 1) (by omega) (by omega)), Bool.or_true]; rfl
      · rw [if_neg h1, decide_eq_true (may_less hm (i + 1) (i - 1 + 1) (by omega) (by omega)), Bool.or_true]; rfl
set_option maxHeartbeats 2000000 in
theorem refDrop_yes (A : Option Addr) (n c : Nat) (L : Nat → Ins) (id : Int) (k : Nat) (w : World) (h : Insts w w.heap.size A n L) (hm : mayB L n = true) (hk : k < n) (he : (L k).id = id) (hnc : n ≤ c) (hc : c ≤ 9223372036854775807) :
    Calls Try.prog 19 #[.slice A n c, .int .u64 id] w fun e w' => (∃ A' c', e = .returned (.tuple #[.slice A' (n - 1) c', .int .i64 0]) ∧ (∃ B, w.heap.size ≤ B ∧ Hid (Row.Own w' B 36 12 (.slice A' (n - 1) c') (n - 1) (insV (cutL L k)))) ∧ n - 1 ≤ c' ∧ c' ≤ 9223372036854775807) ∧ Below w.heap.size w w' := by
  have hn4 := may_len hm
  obtain ⟨b, off, rfl⟩ := insts_at h (by omega)
  have P := Lib.hid (fun p : Grown w => refPlace_any (some ⟨b, off, none⟩) n c L id p.w1 (h.later p.below) (by omega))
  have M := Lib.hid (fun p : Grown w => refMayL_is (some ⟨b, off, none⟩) n c L true hm p.w1 (h.later p.below) (by omega))
  have HL := Lib.hid (fun p : Grown w => (show Insts p.w1 p.w1.heap.size (some ⟨b, off, none⟩) n L from h.later p.below))
  obtain ⟨io, ho, hz0, hz1, hz2⟩ := info_parts infoInst
  have HM := Lib.hid hm
  clear h hm
  go_enter Try.func19, Try.ntmps19
  go_wp2_with fail
  refine (call_grown (p := (⟨w, Below.refl _ _⟩ : Grown w)) (M.out _)).mono ?_
  rintro _ _ ⟨rfl, p, rfl⟩
  go_wp2_with fail
  refine (P.out p).mono ?_
  rintro _ _ ⟨⟨z, rfl, hz⟩, rfl⟩
  obtain rfl : z = (k : Int) := by
    rcases hz with ⟨j, rfl, hj, hj2, _⟩ | ⟨_, hz⟩
    · rw [may_one HM.out hj hk (hj2.trans he.symm)]
    · exact absurd he (hz k hk)
  clear hz
  have HA := Lib.hid ((HL.out p).fewer (m := k) (by omega))
  have d1 : decide ((k : Int) < 0) = false := decide_eq_false (by omega)
  go_upto_region 8 with (at_builtin; refine Row.append_rows rfl _ _ 22 rfl p.w1.heap.size 36 io Inst.none_.val 12 72 (by omega) Try.underlying22 ho hz0 hz1 hz2 rfl _ 0 (insV L) (by rfl) (Row.own_nil _ _ _ _ _) p.w1.heap.size (some ⟨b, off, none⟩) k c (insV L) rfl HA.out (fun i j _ hj => insV_one L i j hj) (fun e => by cases e) (by unfold maxLen; omega) (by omega) (Nat.le_refl _) ?_; intro v1 w1 own1 grow1)
  have b1 := Row.below_grown (Below.refl _ _) (Row.own_nil _ _ 36 12 (insV L)) grow1
  have own1 := own1.congr (U := insV L) (by omega) (fun i j _ _ => by rw [if_neg (by omega)]; rfl)
  rw [Nat.zero_add] at own1
  replace own1 := Lib.hid own1
  replace b1 := Lib.hid b1
  clear grow1
  have w1' : IntKind.i64.wrap ((k : Int) + 1) = (k : Int) + 1 := IntWalk.i64_in _ (by omega)
  have z1 : (0 : Int) ≤ (k : Int) + 1 := by omega
  have z2 : (k : Int) + 1 ≤ (n : Int) := by omega
  have z3 : ¬ ((k : Int) + 1 < 0) := by omega
  have z4 : ((k : Int) + 1).toNat = k + 1 := by omega
  have HB : Hid (Recs w1 w1.heap.size (if c = k + 1 then some ⟨b, off, none⟩ else some ⟨b, off + (k + 1) * 12, none⟩) (n - (k + 1)) 12 (fun i j => insV L (k + 1 + i) j)) := Lib.hid (by
    have hR := (HL.out p).later b1.out
    refine ⟨fun e => (by split at e <;> cases e), fun h0 => ?_⟩
    obtain ⟨b', off', e, hlt, hc'⟩ := hR.2 (by omega)
    injection e with e
    injection e with e1 e2
    subst e1; subst e2
    rw [if_neg (by omega)]
    refine ⟨b, off + (k + 1) * 12, rfl, hlt, fun i j hi hj => ?_⟩
    have := hc' (k + 1 + i) j (by omega) hj
    rw [show off + (k + 1) * 12 + (i * 12 + j) = off + ((k + 1 + i) * 12 + j) by omega]
    exact this)
  go_wp2_with (at_builtin; refine Row.append_rows rfl _ _ 22 rfl p.w1.heap.size 36 io Inst.none_.val 12 72 (by omega) Try.underlying22 ho hz0 hz1 hz2 rfl v1 k (insV L) (by rfl) own1.out w1.heap.size _ (n - (k + 1)) (c - (k + 1)) (fun i j => insV L (k + 1 + i) j) rfl HB.out (fun i j _ hj => insV_one L _ j hj) (fun e => by split at e <;> cases e) (by unfold maxLen; omega) (by omega) b1.out.size ?_; intro v2 w2 own2 grow2)
  all_goals
    have own3 := own2.congr (U := insV (cutL L k)) (by omega) (fun i j hi _ => by
      unfold insV cutL
      by_cases h : i < k
      · rw [if_pos h, if_pos h]
      · rw [if_neg h, if_neg h, show k + 1 + (i - k) = i + 1 by omega])
    rw [show k + (n - (k + 1)) = n - 1 by omega] at own3
    have b2 := Row.below_grown b1.out own1.out grow2
    obtain ⟨A', c', rfl, l1, m1, _⟩ := own3.shape
    go_ret2
    exact ⟨⟨A', c', rfl, ⟨_, p.below.size, Lib.hid own3⟩, by omega, by omega⟩, bTrans p.below b2⟩
end Go.Proofs.Ytcgeoaegalloaaa.Fnd
