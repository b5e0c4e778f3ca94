
/- Contracts of layer 21: what is tracked, and whether it is steady; the program's and the document's. -/
import Derived.Test.YtgfiimllehmnoaaNumB
import Derived.Below
namespace Go.Proofs.Ytgfiimllehmnoaa.Track
open Go.ChangeShapes Go.WideShapes Go.ChangeAt Go.RowKit
open NumM NumA

def trackV (d m t : Int) : Int := if t < 1 ∨ d < 0 ∨ m < 0 then 0 else if outB (d * m) = true then 0 else upQ (d * m) t
def trackE (d m t : Int) : Int := if t < 1 ∨ d < 0 ∨ m < 0 then 2 else err (d * m)
def steadyB (d m t : Int) : Bool := decide (trackE d m t = 0 ∧ trackV d m t = d)

theorem want_low (d m t : Int) (w : World) (h : t < 1 ∨ d < 0 ∨ m < 0) :
    Calls Try.prog 15 #[.int .i64 d, .int .i64 m, .int .i64 t] w fun e w' => e = .returned (.tuple #[.int .i64 0, .int .i64 2]) ∧ w = w' := by
  by_cases h1 : t < 1
  · clear h
    go_enter Try.func15, Try.ntmps15
    go_wp2
    go_ret2
    exact ⟨rfl, rfl⟩
  · by_cases h2 : d < 0
    · clear h
      go_enter Try.func15, Try.ntmps15
      go_wp2
      go_ret2
      exact ⟨rfl, rfl⟩
    · have h3 : m < 0 := by omega
      clear h
      go_enter Try.func15, Try.ntmps15
      go_wp2
      go_ret2
      exact ⟨rfl, rfl⟩
theorem want_any (d m t : Int) (w : World) (hd : d ≤ 9223372036854775807) (hm : m ≤ 9223372036854775807) :
    Calls Try.prog 15 #[.int .i64 d, .int .i64 m, .int .i64 t] w fun e w' => e = .returned (.tuple #[.int .i64 (trackV d m t), .int .i64 (trackE d m t)]) ∧ w = w' := by
  by_cases h : t < 1 ∨ d < 0 ∨ m < 0
  · unfold trackV trackE; rw [if_pos h, if_pos h]; exact want_low d m t w h
  · have EV : Hid (trackV d m t = if outB (d * m) = true then 0 else upQ (d * m) t) := by unfold trackV; rw [if_neg h]; exact Lib.hid rfl
    have EE : Hid (trackE d m t = err (d * m)) := by unfold trackE; rw [if_neg h]; exact Lib.hid rfl
    have h1 : 1 ≤ t := by omega
    have h2 : 0 ≤ d := by omega
    have h3 : 0 ≤ m := by omega
    clear h
    rcases hc : outB (d * m) with _ | _
    · have H : Hid (val (d * m) = d * m ∧ err (d * m) = 0) := Lib.hid ⟨val_no hc, err_no hc⟩
      have hh := outB_no hc
      have HC := Lib.hid hc; clear hc
      have HH := Lib.hid hh; clear hh
      go_enter Try.func15, Try.ntmps15
      go_wp2_with (first | (go_at_call 20; refine (mul_is _ _ _ _ _ H (by omega) hd (by omega) hm).mono ?_; rintro e w' ⟨rfl, rfl⟩) | (go_at_call 21; refine (up_any _ _ _ (by omega) HH.out.1 HH.out.2).mono ?_; rintro e w' ⟨rfl, rfl⟩))
      go_ret2
      exact ⟨ret_two (by rw [EV.out, HC.out]; rfl) (by rw [EE.out, H.out.2]), rfl⟩
    · have H : Hid (val (d * m) = 0 ∧ err (d * m) = 11) := Lib.hid ⟨val_yes hc, err_yes hc⟩
      have HC := Lib.hid hc; clear hc
      go_enter Try.func15, Try.ntmps15
      go_wp2_with (first | (go_at_call 20; refine (mul_is _ _ _ _ _ H (by omega) hd (by omega) hm).mono ?_; rintro e w' ⟨rfl, rfl⟩))
      go_ret2
      exact ⟨ret_two (by rw [EV.out, HC.out]; rfl) (by rw [EE.out, H.out.2]), rfl⟩

theorem want_is (d m t v f : Int) (w : World) (hd : d ≤ 9223372036854775807) (hm : m ≤ 9223372036854775807) (hv : Hid (trackV d m t = v ∧ trackE d m t = f)) :
    Calls Try.prog 15 #[.int .i64 d, .int .i64 m, .int .i64 t] w fun e w' => e = .returned (.tuple #[.int .i64 v, .int .i64 f]) ∧ w = w' := by
  have h := want_any d m t w hd hm
  rw [hv.out.1, hv.out.2] at h; exact h
theorem w1 (w : World) : Calls Try.prog 15 #[.int .i64 10, .int .i64 70, .int .i64 50] w fun e w' => e = .returned (.tuple #[.int .i64 14, .int .i64 0]) ∧ w = w' := want_any 10 70 50 w (by omega) (by omega)
theorem w2 (w : World) : Calls Try.prog 15 #[.int .i64 3, .int .i64 51, .int .i64 50] w fun e w' => e = .returned (.tuple #[.int .i64 4, .int .i64 0]) ∧ w = w' := want_any 3 51 50 w (by omega) (by omega)
theorem w3 (w : World) : Calls Try.prog 15 #[.int .i64 10, .int .i64 70, .int .i64 0] w fun e w' => e = .returned (.tuple #[.int .i64 0, .int .i64 2]) ∧ w = w' := want_any 10 70 0 w (by omega) (by omega)
theorem w4 (w : World) : Calls Try.prog 15 #[.int .i64 4611686018427387904, .int .i64 4, .int .i64 1] w fun e w' => e = .returned (.tuple #[.int .i64 0, .int .i64 11]) ∧ w = w' := want_any 4611686018427387904 4 1 w (by omega) (by omega)
end Go.Proofs.Ytgfiimllehmnoaa.Track
