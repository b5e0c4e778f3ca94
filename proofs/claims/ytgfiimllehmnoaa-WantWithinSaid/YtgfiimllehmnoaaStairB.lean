
/- Contracts of layer 22: the band of a deviation, by a binary search. -/
import Derived.Test.YtgfiimllehmnoaaStair
namespace Go.Proofs.Ytgfiimllehmnoaa.Stair
open Go.ChangeShapes Go.WideShapes Go.ChangeAt Go.RowKit
open NumM NumA Mem Arr

/-- the function that is searched by: is From above the deviation? -/
theorem above_any (A : Option Addr) (n c : Nat) (F G : Nat → Int) (dev : Int) (k : Nat) (p q : Nat) (w : World) (h : Bands w w.heap.size A n F G) (hk : k < n) (hn : n ≤ 9223372036854775807)
    (hp : w.cell? ⟨p, 0, none⟩ = some (.slice A n c)) (hq : w.cell? ⟨q, 0, none⟩ = some (.int .i64 dev)) :
    Calls Try.prog 23 #[.int .i64 k, .pointer (some ⟨p, 0, none⟩), .pointer (some ⟨q, 0, none⟩)] w fun e w' => e = .returned (.bool (decide (dev < F k))) ∧ ∃ m, w.drewN m = w' := by
  obtain ⟨b, off, rfl⟩ := bands_at h (by omega)
  obtain ⟨hbl, c0, c1⟩ := band_cells h (Below.refl _ _) rfl hk
  clear h
  go_enter Try.func23, Try.ntmps23
  go_wp2
  go_quiet (fail)
  go_wp2
  go_ret
  exact ⟨rfl, _, rfl⟩
theorem search_any (A : Option Addr) (n c : Nat) (F G : Nat → Int) (dev : Int) (p q : Nat) (w : World) (h : Bands w w.heap.size A n F G) (hn : n ≤ 8)
    (hp : w.cell? ⟨p, 0, none⟩ = some (.slice A n c)) (hq : w.cell? ⟨q, 0, none⟩ = some (.int .i64 dev)) :
    Calls Try.prog 22 #[.int .i64 n, .func (.func 23) #[] #[.pointer (some ⟨p, 0, none⟩), .pointer (some ⟨q, 0, none⟩)]] w fun e w' => ∃ k : Nat, e = .returned (.int .i64 k) ∧ k ≤ n ∧ (0 < k → F (k - 1) ≤ dev) ∧ (k < n → dev < F k) ∧ ∃ m, w.drewN m = w' := by
  go_enter Try.func22, Try.ntmps22
  go_wp2
  go_loopw [5, 6] (fun i j wr => ∃ a b : Nat, a ≤ b ∧ b ≤ n ∧ i = .int .i64 a ∧ j = .int .i64 b ∧ Hid (0 < a → F (a - 1) ≤ dev) ∧ Hid (b < n → dev < F b) ∧ ∃ m, w.drewN m = wr) (fun i j _ => (intOf j - intOf i).toNat)
  case atStart => exact ⟨0, n, by omega, by omega, rfl, rfl, Lib.hid (fun h => absurd h (by omega)), Lib.hid (fun h => absurd h (by omega)), 0, rfl⟩
  case round =>
    obtain ⟨a, b, hab, hbn, rfl, rfl, ha, hb, m, rfl⟩ := hrel
    by_cases hlt : a < b
    · have e : ((a : Int) + (b : Int)) / 2 = (((a + b) / 2 : Nat) : Int) := by omega
      have E := Lib.hid e
      clear e
      have C := Lib.hid (above_any A n c F G dev ((a + b) / 2) p q (w.drewN m) h (by omega) (by omega) hp hq)
      by_cases hd : dev < F ((a + b) / 2)
      · have D := Lib.hid (decide_eq_true hd)
        clear hd
        go_wp2_with fail
        rw [E.out]
        refine C.out.mono ?_
        rintro e w' ⟨rfl, m', rfl⟩
        rw [D.out]
        go_wp2
        rw [E.out]
        go_roundw
        case rel => exact ⟨a, (a + b) / 2, by omega, by omega, rfl, rfl, ha, Lib.hid (fun _ => of_decide_eq_true D.out), m + m', rfl⟩
        case measure => simp [intOf]; omega
      · have D := Lib.hid (decide_eq_false hd)
        clear hd
        go_wp2_with fail
        rw [E.out]
        refine C.out.mono ?_
        rintro e w' ⟨rfl, m', rfl⟩
        rw [D.out]
        go_wp2
        rw [E.out]
        go_roundw
        case rel => exact ⟨(a + b) / 2 + 1, b, by omega, by omega, by go_num, rfl, Lib.hid (fun _ => by have := of_decide_eq_false D.out; simpa using this), hb, m + m', rfl⟩
        case measure => simp [intOf]; omega
    · obtain rfl : a = b := by omega
      go_wp2
      go_ret
      exact ⟨a, rfl, hbn, ha.out, hb.out, m, rfl⟩
end Go.Proofs.Ytgfiimllehmnoaa.Stair
