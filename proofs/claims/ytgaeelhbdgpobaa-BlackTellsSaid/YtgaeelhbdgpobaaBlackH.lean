
/- Layer 14: places and quotes that are compared. -/
import Derived.Test.YtgaeelhbdgpobaaBlackG
namespace Go.Proofs.Ytgaeelhbdgpobaa.Black
open Go.ChangeShapes Go.WideShapes Go.ChangeAt Go.RowKit
open Mem Arr Lst

theorem ints_same (A : Option Addr) (n c : Nat) (L : List Nat) (A' : Option Addr) (c' : Nat) (w : World) (h : Reads w w.heap.size A n (placeV L)) (h' : Reads w w.heap.size A' n (placeV L)) (hn : n ≤ 17592186044415) :
    Calls Try.prog 18 #[.slice A n c, .slice A' n c'] w fun e w' => e = .returned (.bool true) ∧ Below w.heap.size w w' := by
  have H := Lib.hid h
  have H' := Lib.hid h'
  clear h h'
  go_enter Try.func18, Try.ntmps18
  go_wp2
  go_loopw [5] (fun i wr => ∃ k : Nat, k ≤ n ∧ i = .int .i64 k ∧ Below w.heap.size w wr) (fun i _ => n - (intOf i).toNat)
  case atStart => exact ⟨0, by omega, rfl, Below.refl _ _⟩
  case round =>
    obtain ⟨k, hk, rfl, hb⟩ := hrel
    by_cases hlt : k < n
    · obtain ⟨b, off, rfl, _⟩ := reads_form H.out (by omega)
      obtain ⟨b', off', rfl, _⟩ := reads_form H'.out (by omega)
      obtain ⟨_, c0⟩ := reads_at H.out hb rfl hlt
      obtain ⟨_, d0⟩ := reads_at H'.out hb rfl hlt
      unfold placeV at c0 d0
      generalize L.getD k 0 = e0 at c0 d0
      have cl1 : (k : Int) < (n : Int) := by omega
      have cl2 : (0 : Int) ≤ (k : Int) := by omega
      go_wp2
      go_quiet (fail)
      go_wp2
      go_roundw
      case rel => exact ⟨k + 1, by omega, by go_num, bDrewN _ hb⟩
      case measure => simp [intOf]; omega
    · go_wp2
      go_ret
      exact ⟨rfl, hb⟩

theorem quotes_same (A : Option Addr) (n c : Nat) (P S U : Nat → Int) (A' : Option Addr) (c' : Nat) (w : World) (h : Quotes w w.heap.size A n P S U) (h' : Quotes w w.heap.size A' n P S U) (hn : n ≤ 200) :
    Calls Try.prog 9 #[.slice A n c, .slice A' n c'] w fun e w' => e = .returned (.bool true) ∧ Below w.heap.size w w' := by
  have H := Lib.hid h
  have H' := Lib.hid h'
  clear h h'
  go_enter Try.func9, Try.ntmps9
  go_wp2
  go_loopw [5] (fun i wr => ∃ k : Nat, k ≤ n ∧ i = .int .i64 k ∧ Below w.heap.size w wr) (fun i _ => n - (intOf i).toNat)
  case atStart => exact ⟨0, by omega, rfl, Below.refl _ _⟩
  case round =>
    obtain ⟨k, hk, rfl, hb⟩ := hrel
    by_cases hlt : k < n
    · obtain ⟨b, off, rfl⟩ := quotes_at H.out (by omega)
      obtain ⟨b', off', rfl⟩ := quotes_at H'.out (by omega)
      obtain ⟨_, c0, c1, c2⟩ := quote_cells H.out hb rfl hlt
      obtain ⟨_, d0, d1, d2⟩ := quote_cells H'.out hb rfl hlt
      have cl1 : (k : Int) < (n : Int) := by omega
      have cl2 : (0 : Int) ≤ (k : Int) := by omega
      go_wp2
      go_quiet (fail)
      go_wp2
      go_roundw
      case rel => exact ⟨k + 1, by omega, by go_num, bDrewN _ hb⟩
      case measure => simp [intOf]; omega
    · go_wp2
      go_ret
      exact ⟨rfl, hb⟩
end Go.Proofs.Ytgaeelhbdgpobaa.Black
