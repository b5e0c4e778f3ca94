
/- Contracts of layer 22: the document's answers. -/
import Derived.Test.YtbjkcnfkbfhibaaStairC
namespace Go.Proofs.Ytbjkcnfkbfhibaa.Stair
open Go.ChangeShapes Go.WideShapes Go.ChangeAt Go.RowKit
open NumM NumA Mem Arr

set_option maxHeartbeats 4000000 in
theorem refMay_any (A : Option Addr) (n c : Nat) (F G : Nat → Int) (w : World) (h : Bands w w.heap.size A n F G) (hn : n ≤ 9223372036854775807) :
    Calls Try.prog 15 #[.slice A n c] w fun e w' => e = .returned (.bool (mayB F G n)) ∧ Below w.heap.size w w' := by
  by_cases h8 : n ≤ 8
  · have H := Lib.hid h
    clear h
    go_enter Try.func15, Try.ntmps15
    go_wp2
    go_loopw [3] (fun i wr => ∃ k : Nat, k ≤ n ∧ i = .int .i64 k ∧ Hid (∀ j, j < k → okAt F G j = true) ∧ Below w.heap.size w wr) (fun i _ => n - (intOf i).toNat)
    case atStart => exact ⟨0, by omega, rfl, Lib.hid (fun j hj => absurd hj (by omega)), Below.refl _ _⟩
    case round =>
      obtain ⟨k, hk, rfl, ho, hb⟩ := hrel
      by_cases hlt : k < n
      · obtain ⟨b, off, rfl⟩ := bands_at H.out (by omega)
        obtain ⟨hbl, c0, c1⟩ := band_cells H.out hb rfl hlt
        have cl1 : (k : Int) < (n : Int) := by omega
        have cl2 : (0 : Int) ≤ (k : Int) := by omega
        by_cases w1 : -1048576 ≤ F k ∧ F k ≤ 1048576 ∧ -65536 ≤ G k ∧ G k ≤ 65536
        · have x1 : decide (F k < -1048576) = false := decide_eq_false (by omega)
          have x2 : decide (1048576 < F k) = false := decide_eq_false (by omega)
          have x3 : decide (G k < -65536) = false := decide_eq_false (by omega)
          have x4 : decide (65536 < G k) = false := decide_eq_false (by omega)
          by_cases h0 : k = 0
          · have hk0 : decide (0 < k) = false := decide_eq_false (by omega)
            have HK : Hid (∀ j, j < k + 1 → okAt F G j = true) := Lib.hid (ok_step ho.out (decide_eq_true ⟨w1.1, w1.2.1, w1.2.2.1, w1.2.2.2, fun h => absurd h (by omega)⟩))
            clear w1 ho h0
            go_wp2
            go_quiet (fail)
            go_wp2
            go_roundw
            case rel => exact ⟨k + 1, by omega, by go_num, HK, bDrewN _ hb⟩
            case measure => simp [intOf]; omega
          · obtain ⟨_, d0, _⟩ := band_cells H.out hb rfl (k := k - 1) (by omega)
            have hk0 : decide (0 < k) = true := decide_eq_true (by omega)
            have hk1 : (1 : Int) ≤ (k : Int) := by omega
            by_cases w3 : F (k - 1) < F k
            · have HK : Hid (∀ j, j < k + 1 → okAt F G j = true) := Lib.hid (ok_step ho.out (decide_eq_true ⟨w1.1, w1.2.1, w1.2.2.1, w1.2.2.2, fun _ => w3⟩))
              have hle : decide (F k ≤ F (k - 1)) = false := decide_eq_false (by omega)
              clear w1 ho w3
              go_wp2
              go_quiet (fail)
              go_wp2
              go_roundw
              case rel => exact ⟨k + 1, by omega, by go_num, HK, bDrewN _ hb⟩
              case measure => simp [intOf]; omega
            · have HV : Hid (mayB F G n = false) := Lib.hid (decide_eq_false fun h => by have := of_decide_eq_true (h.2 k hlt); omega)
              have hle : decide (F k ≤ F (k - 1)) = true := decide_eq_true (by omega)
              clear w1 ho w3
              go_wp2
              go_quiet (fail)
              go_wp2
              go_ret
              exact ⟨ret_bool HV.out.symm, bDrewN _ hb⟩
        · have HV : Hid (mayB F G n = false) := Lib.hid (decide_eq_false fun h => by have := of_decide_eq_true (h.2 k hlt); omega)
          clear ho
          by_cases x1 : F k < -1048576
          · have x1 : decide (F k < -1048576) = true := decide_eq_true x1
            clear w1
            go_wp2
            go_quiet (fail)
            go_wp2
            go_ret
            exact ⟨ret_bool HV.out.symm, bDrewN _ hb⟩
          · have y1 : decide (F k < -1048576) = false := decide_eq_false x1
            by_cases x2 : 1048576 < F k
            · have y2 : decide (1048576 < F k) = true := decide_eq_true x2
              clear w1 x1 x2
              go_wp2
              go_quiet (fail)
              go_wp2
              go_ret
              exact ⟨ret_bool HV.out.symm, bDrewN _ hb⟩
            · have y2 : decide (1048576 < F k) = false := decide_eq_false x2
              by_cases x3 : G k < -65536
              · have y3 : decide (G k < -65536) = true := decide_eq_true x3
                clear w1 x1 x2 x3
                go_wp2
                go_quiet (fail)
                go_wp2
                go_ret
                exact ⟨ret_bool HV.out.symm, bDrewN _ hb⟩
              · have y3 : decide (G k < -65536) = false := decide_eq_false x3
                have y4 : decide (65536 < G k) = true := decide_eq_true (by omega)
                clear w1 x1 x2 x3
                go_wp2
                go_quiet (fail)
                go_wp2
                go_ret
                exact ⟨ret_bool HV.out.symm, bDrewN _ hb⟩
      · have HV : Hid (mayB F G n = true) := Lib.hid (decide_eq_true ⟨h8, fun j hj => ho.out j (by omega)⟩)
        go_wp2
        go_ret
        exact ⟨ret_bool HV.out.symm, hb⟩
  · have HV : Hid (mayB F G n = false) := Lib.hid (decide_eq_false (by omega))
    clear h
    go_enter Try.func15, Try.ntmps15
    go_wp2
    go_ret
    exact ⟨ret_bool HV.out.symm, Below.refl _ _⟩
end Go.Proofs.Ytbjkcnfkbfhibaa.Stair
