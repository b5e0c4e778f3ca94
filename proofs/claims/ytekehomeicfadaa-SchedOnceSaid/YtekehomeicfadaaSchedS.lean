
/- Contracts of layer 23: what is due by the document; the same ticks; the numbers that the document tells. -/
import Derived.Test.YtekehomeicfadaaSchedR
namespace Go.Proofs.Ytekehomeicfadaa.Sched
open Go.ChangeShapes Go.WideShapes Go.ChangeAt Go.RowKit
open Mem Arr Lst Rec

set_option maxHeartbeats 2000000 in
theorem refDue_any (A : Option Addr) (n c : Nat) (P E D : Nat → Int) (A' : Option Addr) (m c' : Nat) (N : Nat → Int) (now : Int) (w : World) (h : Plans w w.heap.size A n P E D) (hn : n ≤ 9223372036854775807) (hnow : 0 ≤ now) (hpe : ∀ i, i < n → 0 ≤ P i ∧ 0 ≤ E i)
    (h' : Reads w w.heap.size A' m (tickV N)) (hnil : A' = none → c' = 0) (hm : m ≤ 17592186044415) :
    Calls Try.prog 8 #[.slice A n c, .slice A' m c', .int .u64 now] w fun e w' => ∃ v, e = .returned (.tuple #[.int .i64 (dueD P E D N n m now), .bool (dueI P E N n m now), v]) ∧ Own w' w.heap.size 24 v m (tickV (dueN P E N n m now)) ∧ Below w.heap.size w w' := by
  obtain ⟨i0, hi, hz0, hz1, hz2⟩ := info_parts infoTick
  have H := Lib.hid h
  have H' := Lib.hid h'
  have HP := Lib.hid hpe
  have HN := Lib.hid hnil
  clear h h' hpe hnil
  rcases hb : mayB P E n now with _ | _
  · have hok : dueOK P E n m now = false := by unfold dueOK; rw [hb]; simp
    have HV : Hid (dueD P E D N n m now = 0 ∧ dueI P E N n m now = false ∧ dueN P E N n m now = N) := Lib.hid (by
      refine ⟨?_, ?_, ?_⟩
      · unfold dueD; rw [hok]; rfl
      · unfold dueI; rw [hok]; rfl
      · funext i; unfold dueN; rw [hok]; rfl)
    have M := Lib.hid hb
    clear hb hok
    go_enter Try.func8, Try.ntmps8
    go_wp2_with (at_builtin; refine append_list rfl _ _ 23 rfl w.heap.size 24 i0 (.int .u64 0) 8 Try.underlying23 hi hz0 hz1 hz2 rfl _ 0 (tickV N) (by rfl) (own_nil _ _ _ _) w.heap.size A' m c' (tickV N) rfl H'.out (fun _ _ => rfl) HN.out (by unfold maxLen; omega) (by omega) (by omega) ?_; intro v1 w1 hown hgrow)
    have hb1 := below_grown (Below.refl w.heap.size w) (own_nil w w.heap.size 24 (tickV N)) hgrow
    rw [Nat.zero_add] at hown
    have hown1 : Own w1 w.heap.size 24 v1 m (tickV N) := hown.congr (fun i _ => by simp)
    clear hown hgrow
    go_wp2_with (first | (go_at_call 16; refine (refMay_is _ _ _ _ _ _ _ _ _ (H.out.later hb1) hn M).mono ?_; rintro e w2 ⟨rfl, hb2⟩))
    go_ret3
    exact ⟨v1, ret_due HV.out.1.symm HV.out.2.1.symm rfl, by rw [HV.out.2.2]; exact hown1.later hb2 (Nat.le_refl _), bTrans hb1 hb2⟩
  · obtain ⟨y1, y2, y3⟩ := may_yes hb
    have Y3 := Lib.hid y3
    have M := Lib.hid hb
    by_cases hmn : m = n
    · have hok : dueOK P E n m now = true := by unfold dueOK; rw [hb, decide_eq_true hmn]; rfl
      have HV : Hid (dueD P E D N n m now = lastD N D now n ∧ dueI P E N n m now = anyB N now n ∧ dueN P E N n m now = afterV P E N now) := Lib.hid (by
        refine ⟨?_, ?_, ?_⟩
        · unfold dueD; rw [if_pos hok]
        · unfold dueI; rw [if_pos hok]
        · funext i; unfold dueN; rw [if_pos hok])
      have z : ((m : Int) != (n : Int)) = false := by simp [hmn]
      have hmn1 : m ≤ n := by omega
      have hmn2 : n ≤ m := by omega
      clear hb hok hmn y3
      go_enter Try.func8, Try.ntmps8
      go_wp2_with (at_builtin; refine append_list rfl _ _ 23 rfl w.heap.size 24 i0 (.int .u64 0) 8 Try.underlying23 hi hz0 hz1 hz2 rfl _ 0 (tickV N) (by rfl) (own_nil _ _ _ _) w.heap.size A' m c' (tickV N) rfl H'.out (fun _ _ => rfl) HN.out (by unfold maxLen; omega) (by omega) (by omega) ?_; intro v1 w1 hown hgrow)
      have hb1 := below_grown (Below.refl w.heap.size w) (own_nil w w.heap.size 24 (tickV N)) hgrow
      rw [Nat.zero_add] at hown
      have hown1 : Own w1 w.heap.size 24 v1 m (tickV N) := hown.congr (fun i _ => by simp)
      clear hown hgrow
      go_wp2_with (first | (go_at_call 16; refine (refMay_is _ _ _ _ _ _ _ _ _ (H.out.later hb1) hn M).mono ?_; rintro e w2 ⟨rfl, hb2⟩))
      have hown2 : Own w2 w.heap.size 24 v1 m (part 0 (afterV P E N now) N) := (hown1.later hb2 (Nat.le_refl _)).congr (fun i _ => by unfold part tickV; rw [if_neg (by omega)])
      have hbb := bTrans hb1 hb2
      clear hown1 hb1 hb2
      go_loopw [10, 11, 12] (fun d s i wr => ∃ k : Nat, k ≤ n ∧ i = .int .i64 k ∧ d = .int .i64 (lastD N D now k) ∧ s = .bool (anyB N now k) ∧ Own wr w.heap.size 24 v1 m (part k (afterV P E N now) N) ∧ Below w.heap.size w wr) (fun _ _ i _ => n - (intOf i).toNat)
      case atStart => exact ⟨0, by omega, rfl, rfl, rfl, hown2, hbb⟩
      case round =>
        obtain ⟨k, hk, rfl, rfl, rfl, hown, hbr⟩ := hrel
        by_cases hlt : k < n
        · obtain ⟨b, off, rfl⟩ := plans_at H.out (by omega)
          obtain ⟨hbl, c0, c1, c2⟩ := plan_cells H.out hbr rfl hlt
          obtain ⟨b', off', rfl, _⟩ := reads_form H'.out (by omega)
          obtain ⟨hbl', d0⟩ := reads_at H'.out hbr rfl (show k < m by omega)
          unfold tickV at d0
          obtain ⟨p0, p1⟩ := HP.out k hlt
          obtain ⟨p2, p3⟩ := Y3.out k hlt
          have C := Lib.hid (fun w => refBehind_any (P k) (E k) (D k) now w p0 p2 p1 p3 hnow y1)
          obtain ⟨g, cap, rfl, hg1, hg2, hcap, hcm⟩ := hown.form (by omega)
          by_cases hd1 : 1 ≤ N k
          · by_cases hd2 : N k ≤ now
            · have hdue : dueB N now k = true := decide_eq_true ⟨hd1, hd2⟩
              have EV : Hid (afterV P E N now k = behindV (P k) (E k) now ∧ lastD N D now (k + 1) = D k ∧ anyB N now (k + 1) = true) := Lib.hid ⟨if_pos hdue, if_pos hdue, if_pos hdue⟩
              clear hdue
              go_wp2_with (first | (go_at_call 17; refine (C.out _).mono ?_; rintro e w3 ⟨rfl, b3⟩; have own3 := hown.later b3 (Nat.le_refl _); have hc3 := own3.cell (show k < m by omega); have hf3 := own3.free k))
              go_roundw
              case rel =>
                refine ⟨k + 1, by omega, by go_num, by rw [EV.out.2.1], by rw [EV.out.2.2], ?_, bSet (bTrans hbr b3) (by simpa using hg1) _⟩
                rw [← EV.out.1]
                exact (own3.stored _).congr (fun i hi => part_step k _ _ i)
              case measure => simp [intOf]; omega
            · have hdue : ¬ dueB N now k = true := by unfold dueB; simp; omega
              have EV : Hid (afterV P E N now k = N k ∧ lastD N D now k = lastD N D now (k + 1) ∧ anyB N now k = anyB N now (k + 1)) := Lib.hid ⟨if_neg hdue, (if_neg hdue).symm, (if_neg hdue).symm⟩
              clear hdue
              go_wp2
              go_roundw
              case rel => exact ⟨k + 1, by omega, by go_num, by rw [EV.out.2.1], by rw [EV.out.2.2], hown.congr (fun i hi => part_keep k _ _ EV.out.1 i), hbr⟩
              case measure => simp [intOf]; omega
          · have hdue : ¬ dueB N now k = true := by unfold dueB; simp; omega
            have EV : Hid (afterV P E N now k = N k ∧ lastD N D now k = lastD N D now (k + 1) ∧ anyB N now k = anyB N now (k + 1)) := Lib.hid ⟨if_neg hdue, (if_neg hdue).symm, (if_neg hdue).symm⟩
            clear hdue
            go_wp2
            go_roundw
            case rel => exact ⟨k + 1, by omega, by go_num, by rw [EV.out.2.1], by rw [EV.out.2.2], hown.congr (fun i hi => part_keep k _ _ EV.out.1 i), hbr⟩
            case measure => simp [intOf]; omega
        · obtain rfl : k = n := by omega
          go_wp2
          go_ret3
          refine ⟨v1, ret_due HV.out.1.symm HV.out.2.1.symm rfl, ?_, hbr⟩
          rw [HV.out.2.2]
          exact hown.congr (fun i hi => by unfold part tickV; rw [if_pos (by omega)])
    · have hok : dueOK P E n m now = false := by unfold dueOK; rw [decide_eq_false hmn]; rfl
      have HV : Hid (dueD P E D N n m now = 0 ∧ dueI P E N n m now = false ∧ dueN P E N n m now = N) := Lib.hid (by
        refine ⟨?_, ?_, ?_⟩
        · unfold dueD; rw [hok]; rfl
        · unfold dueI; rw [hok]; rfl
        · funext i; unfold dueN; rw [hok]; rfl)
      have z : ((m : Int) != (n : Int)) = true := by simp; omega
      clear hok hmn hb y3
      go_enter Try.func8, Try.ntmps8
      go_wp2_with (at_builtin; refine append_list rfl _ _ 23 rfl w.heap.size 24 i0 (.int .u64 0) 8 Try.underlying23 hi hz0 hz1 hz2 rfl _ 0 (tickV N) (by rfl) (own_nil _ _ _ _) w.heap.size A' m c' (tickV N) rfl H'.out (fun _ _ => rfl) HN.out (by unfold maxLen; omega) (by omega) (by omega) ?_; intro v1 w1 hown hgrow)
      have hb1 := below_grown (Below.refl w.heap.size w) (own_nil w w.heap.size 24 (tickV N)) hgrow
      rw [Nat.zero_add] at hown
      have hown1 : Own w1 w.heap.size 24 v1 m (tickV N) := hown.congr (fun i _ => by simp)
      clear hown hgrow
      go_wp2_with (first | (go_at_call 16; refine (refMay_is _ _ _ _ _ _ _ _ _ (H.out.later hb1) hn M).mono ?_; rintro e w2 ⟨rfl, hb2⟩))
      go_ret3
      exact ⟨v1, ret_due HV.out.1.symm HV.out.2.1.symm rfl, by rw [HV.out.2.2]; exact hown1.later hb2 (Nat.le_refl _), bTrans hb1 hb2⟩

theorem same_true (A : Option Addr) (n c : Nat) (f : Nat → Int) (A' : Option Addr) (m c' : Nat) (f' : Nat → Int) (w : World) (h : Reads w w.heap.size A n (tickV f)) (h' : Reads w w.heap.size A' m (tickV f')) (hnm : n = m) (he : ∀ i, i < n → f i = f' i) (hn : n ≤ 17592186044415) :
    Calls Try.prog 9 #[.slice A n c, .slice A' m c'] w fun e w' => e = .returned (.bool true) ∧ Below w.heap.size w w' := by
  subst hnm
  have H := Lib.hid h
  have H' := Lib.hid h'
  have HE := Lib.hid he
  clear h h' he
  go_enter Try.func9, Try.ntmps9
  go_wp2
  go_loopw [5] (fun i wr => ∃ k : Nat, k ≤ n ∧ i = .int .i64 k ∧ Below w.heap.size w wr) (fun i _ => n - (intOf i).toNat)
  case atStart => exact ⟨0, by omega, rfl, Below.refl _ _⟩
  case round =>
    obtain ⟨k, hk, rfl, hb⟩ := hrel
    by_cases hlt : k < n
    · obtain ⟨b, off, rfl, _⟩ := reads_form H.out (by omega)
      obtain ⟨b', off', rfl, _⟩ := reads_form H'.out (by omega)
      obtain ⟨_, c0⟩ := reads_at H.out hb rfl hlt
      obtain ⟨_, d0⟩ := reads_at H'.out hb rfl hlt
      unfold tickV at c0 d0
      rw [HE.out k hlt] at c0
      have cl1 : (k : Int) < (n : Int) := by omega
      have cl2 : (0 : Int) ≤ (k : Int) := by omega
      go_wp2
      go_quiet (fail)
      go_wp2
      go_roundw
      case rel => exact ⟨k + 1, by omega, by go_num, bDrewN _ hb⟩
      case measure => simp [intOf]; omega
    · go_wp2
      go_ret
      exact ⟨rfl, hb⟩
end Go.Proofs.Ytekehomeicfadaa.Sched
