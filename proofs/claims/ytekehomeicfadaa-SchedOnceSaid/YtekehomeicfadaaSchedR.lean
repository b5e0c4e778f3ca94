
/- Contracts of layer 23: the document's answers. -/
import Derived.Test.YtekehomeicfadaaSchedC
namespace Go.Proofs.Ytekehomeicfadaa.Sched
open Go.ChangeShapes Go.WideShapes Go.ChangeAt Go.RowKit
open Mem Arr Lst Rec

set_option maxHeartbeats 1000000 in
theorem refMay_any (A : Option Addr) (n c : Nat) (P E D : Nat → Int) (now : Int) (w : World) (h : Plans w w.heap.size A n P E D) (hn : n ≤ 9223372036854775807) :
    Calls Try.prog 16 #[.slice A n c, .int .u64 now] w fun e w' => e = .returned (.bool (mayB P E n now)) ∧ Below w.heap.size w w' := by
  have H := Lib.hid h
  clear h
  by_cases h16 : n ≤ 16
  · by_cases h0 : now ≤ 1099511627776
    · go_enter Try.func16, Try.ntmps16
      go_wp2
      go_loopw [5] (fun i wr => ∃ k : Nat, k ≤ n ∧ i = .int .i64 k ∧ Hid (∀ j, j < k → okP P E j = true) ∧ Below w.heap.size w wr) (fun i _ => n - (intOf i).toNat)
      case atStart => exact ⟨0, by omega, rfl, Lib.hid (fun j hj => absurd hj (by omega)), Below.refl _ _⟩
      case round =>
        obtain ⟨k, hk, rfl, ho, hb⟩ := hrel
        by_cases hlt : k < n
        · obtain ⟨b, off, rfl⟩ := plans_at H.out (by omega)
          obtain ⟨hbl, c0, c1, c2⟩ := plan_cells H.out hb rfl hlt
          by_cases w1 : P k ≤ 1099511627776
          · by_cases w2 : E k ≤ 65536
            · have HK : Hid (∀ j, j < k + 1 → okP P E j = true) := Lib.hid (ok_step ho.out (decide_eq_true ⟨w1, w2⟩))
              clear ho
              go_wp2
              go_roundw
              case rel => exact ⟨k + 1, by omega, by go_num, HK, hb⟩
              case measure => simp [intOf]; omega
            · have HV : Hid (mayB P E n now = false) := Lib.hid (decide_eq_false fun h => by have := of_decide_eq_true (h.2.2 k hlt); omega)
              clear ho
              go_wp2
              go_ret
              exact ⟨ret_bool HV.out.symm, hb⟩
          · have HV : Hid (mayB P E n now = false) := Lib.hid (decide_eq_false fun h => by have := of_decide_eq_true (h.2.2 k hlt); omega)
            clear ho
            go_wp2
            go_ret
            exact ⟨ret_bool HV.out.symm, hb⟩
        · have HV : Hid (mayB P E n now = true) := Lib.hid (decide_eq_true ⟨h0, h16, fun j hj => ho.out j (by omega)⟩)
          go_wp2
          go_ret
          exact ⟨ret_bool HV.out.symm, hb⟩
    · have HV : Hid (mayB P E n now = false) := Lib.hid (decide_eq_false (by omega))
      go_enter Try.func16, Try.ntmps16
      go_wp2
      go_ret
      exact ⟨ret_bool HV.out.symm, Below.refl _ _⟩
  · have HV : Hid (mayB P E n now = false) := Lib.hid (decide_eq_false (by omega))
    go_enter Try.func16, Try.ntmps16
    go_wp2
    go_ret
    exact ⟨ret_bool HV.out.symm, Below.refl _ _⟩
theorem refMay_is (A : Option Addr) (n c : Nat) (P E D : Nat → Int) (now : Int) (t : Bool) (w : World) (h : Plans w w.heap.size A n P E D) (hn : n ≤ 9223372036854775807) (ht : Hid (mayB P E n now = t)) :
    Calls Try.prog 16 #[.slice A n c, .int .u64 now] w fun e w' => e = .returned (.bool t) ∧ Below w.heap.size w w' := by
  have := refMay_any A n c P E D now w h hn
  rw [ht.out] at this; exact this

theorem above {p e now : Int} (he : 1 ≤ e) : now < p + e * ((now - p) / e + 1) := by
  have := Int.lt_ediv_add_one_mul_self (now - p) (show 0 < e by omega)
  rw [Int.mul_comm e]; omega
theorem refBehind_any (p e d now : Int) (w : World) (hp : 0 ≤ p) (hp' : p ≤ 1099511627776) (he : 0 ≤ e) (he' : e ≤ 65536) (hn : 0 ≤ now) (hn' : now ≤ 1099511627776) :
    Calls Try.prog 17 #[.agg #[.int .u64 p, .int .u64 e, .int .i64 d], .int .u64 now] w fun x w' => x = .returned (.int .u64 (behindV p e now)) ∧ Below w.heap.size w w' := by
  by_cases h1 : now < p
  · have HV : Hid (behindV p e now = p) := Lib.hid (if_pos h1)
    go_enter Try.func17, Try.ntmps17
    go_wp2
    go_ret
    exact ⟨ret_int HV.out.symm, bAlloc (Below.refl _ _) _⟩
  · by_cases h2 : e = 0
    · have HV : Hid (behindV p 0 now = 0) := Lib.hid (by unfold behindV; rw [if_neg h1, if_pos rfl])
      subst h2
      have h1' : p ≤ now := by omega
      clear h1
      go_enter Try.func17, Try.ntmps17
      go_wp2
      go_ret
      exact ⟨ret_int HV.out.symm, bAlloc (Below.refl _ _) _⟩
    · obtain ⟨m1, m2, m3, m4⟩ := mul_bd hp (show 1 ≤ e by omega) he' hn' (by omega)
      have ab := above (p := p) (now := now) (show 1 ≤ e by omega)
      rw [Int.mul_comm] at m3 m4
      have HV : Hid (behindV p e now = if 1099511627776 < p + e * ((now - p) / e + 1) then 0 else p + e * ((now - p) / e + 1)) := Lib.hid (by unfold behindV; rw [if_neg h1, if_neg h2, Int.mul_comm e])
      have z : (e == 0) = false := by simpa using h2
      have e1 : 1 ≤ e := by omega
      have h1' : p ≤ now := by omega
      clear h1
      go_enter Try.func17, Try.ntmps17
      go_wp2
      go_quiet (fail)
      by_cases h3 : 1099511627776 < p + e * ((now - p) / e + 1)
      all_goals
        go_wp2
        go_ret
        refine ⟨ret_int ?_, bDrewN _ (bAlloc (Below.refl _ _) _)⟩
        rw [HV.out]
        first | rw [if_pos (by omega)] | rw [if_neg (by omega)]

set_option maxHeartbeats 1000000 in
theorem refBegin_any (A : Option Addr) (n c : Nat) (P E D : Nat → Int) (now : Int) (w : World) (h : Plans w w.heap.size A n P E D) (hn : n ≤ 9223372036854775807) (hnow : 0 ≤ now) (hpe : ∀ i, i < n → 0 ≤ P i ∧ 0 ≤ E i) :
    Calls Try.prog 11 #[.slice A n c, .int .u64 now] w fun e w' => ∃ v, e = .returned v ∧ Own w' w.heap.size 24 v (beginN P E n now) (tickV (nexts P E now)) ∧ Below w.heap.size w w' := by
  have H := Lib.hid h
  have HP := Lib.hid hpe
  clear h hpe
  obtain ⟨i0, hi, hz0, hz1, hz2⟩ := info_parts infoTick
  by_cases hz : n = 0
  · have HN : Hid (beginN P E n now = 0) := Lib.hid (by unfold beginN; split <;> omega)
    have z : ¬ (0 < n) := by omega
    have z' : n ≤ 0 := by omega
    clear hz
    go_enter Try.func11, Try.ntmps11
    go_wp2
    refine wp_loop_rounds 1 ?_
    rw [rounds_succ]
    go_wp2
    go_ret
    exact ⟨_, rfl, by rw [HN.out]; exact own_nil _ _ _ _, Below.refl _ _⟩
  · rcases hm : mayB P E n now with _ | _
    · have HN : Hid (beginN P E n now = 0) := Lib.hid (by unfold beginN; rw [hm]; rfl)
      have M := Lib.hid hm
      have z : 0 < n := by omega
      clear hm hz
      go_enter Try.func11, Try.ntmps11
      go_wp2
      refine wp_loop_rounds 1 ?_
      rw [rounds_succ]
      go_wp2_with (first | (go_at_call 16; refine (refMay_is _ _ _ _ _ _ _ _ _ H.out hn M).mono ?_; rintro e w1 ⟨rfl, hb⟩))
      go_ret
      exact ⟨_, rfl, by rw [HN.out]; exact own_nil _ _ _ _, hb⟩
    · obtain ⟨y1, y2, y3⟩ := may_yes hm
      have HN : Hid (beginN P E n now = n) := Lib.hid (by unfold beginN; rw [hm]; rfl)
      have M := Lib.hid hm
      have Y3 := Lib.hid y3
      clear hm y3 hz
      go_enter Try.func11, Try.ntmps11
      go_wp2
      go_loopw [5, 6] (fun v i wr => ∃ k : Nat, k ≤ n ∧ i = .int .i64 k ∧ Own wr w.heap.size 24 v k (tickV (nexts P E now)) ∧ Below w.heap.size w wr) (fun _ i _ => n - (intOf i).toNat)
      case atStart => exact ⟨0, by omega, rfl, own_nil _ _ _ _, Below.refl _ _⟩
      case round =>
        obtain ⟨k, hk, rfl, hown, hbr⟩ := hrel
        by_cases hlt : k < n
        · obtain ⟨b, off, rfl⟩ := plans_at H.out (by omega)
          obtain ⟨p0, p1⟩ := HP.out k hlt
          obtain ⟨p2, p3⟩ := Y3.out k hlt
          have C := Lib.hid (fun w => refBehind_any (P k) (E k) (D k) now w p0 p2 p1 p3 hnow y1)
          go_wp2_with fail
          refine (refMay_is _ _ _ _ _ _ _ _ _ (H.out.later hbr) hn M).mono ?_
          rintro e w2 ⟨rfl, hb2⟩
          have hb3 := bTrans hbr hb2
          obtain ⟨hbl, c0, c1, c2⟩ := plan_cells H.out hb3 rfl hlt
          have own2 := hown.later hb2 (Nat.le_refl _)
          clear hown hbr hb2
          go_wp2_with fail
          refine (C.out _).mono ?_
          rintro e w3 ⟨rfl, b3⟩
          have own3 := own2.later b3 (Nat.le_refl _)
          have hb4 := bTrans hb3 b3
          clear own2 hb3 b3
          obtain ⟨A1, cap1, rfl, -, -, -, -⟩ := own3.shape
          go_wp2_with (at_builtin; refine append_list rfl _ _ 23 rfl w.heap.size 24 i0 (.int .u64 0) 8 Try.underlying23 hi hz0 hz1 hz2 rfl _ k (tickV (nexts P E now)) (by rfl) (own3.alloc _) (w3.heap.size + 1) (some ⟨w3.heap.size, 0, none⟩) 1 1 (fun _ => .int .u64 (behindV (P k) (E k) now)) rfl (reads_new _ _ _) (fun _ _ => rfl) (fun e => (by cases e)) (by unfold maxLen; omega) (by omega) (by have := hb4.size; simp; omega) ?_; intro v1 w4 hown4 hgrow)
          have hb5 := below_grown (bAlloc hb4 _) (own3.alloc _) hgrow
          go_roundw
          case rel => exact ⟨k + 1, by omega, by go_num, hown4.congr (fun i hi => by unfold tickV nexts; by_cases h : i < k; · rw [if_pos h]
                                                                                     · rw [if_neg h, show i = k by omega]), hb5⟩
          case measure => simp [intOf]; omega
        · obtain rfl : k = n := by omega
          obtain ⟨A1, cap1, rfl, -, -, -, -⟩ := hown.shape
          go_wp2
          go_ret
          refine ⟨_, rfl, ?_, hbr⟩
          rw [HN.out]; exact hown
end Go.Proofs.Ytekehomeicfadaa.Sched
