/- The numbers that the document tells: 'lives' is true. -/
import Derived.Test.YteglmjongdpagaaNumS
import Derived.Test.YteglmjongdpagaaNumP
namespace Go.Proofs.Yteglmjongdpagaa.NumA
open Go.ChangeShapes Go.WideShapes Go.ChangeAt Go.RowKit
open NumM

theorem put258 (w : World) :
    Calls Try.prog 20 #[.int .u64 258, .int .i64 2] w fun e w' => e = .returned (.tuple #[.slice (some ⟨w.heap.size, 0, none⟩) 2 2, .int .i64 0]) ∧ w.alloc (.cells #[.int .u8 2, .int .u8 1] 5) = w' :=
  put2 258 w (by omega) rfl
theorem addEnd (w : World) :
    Calls Try.prog 8 #[.int .i64 9223372036854775807, .int .i64 1] w fun e w' => e = .returned (.tuple #[.int .i64 0, .int .i64 11]) ∧ w = w' :=
  add_any 9223372036854775807 1 w (by omega) (by omega) (by omega) (by omega)
theorem up72 (w : World) :
    Calls Try.prog 12 #[.int .i64 (-7), .int .i64 2] w fun e w' => e = .returned (.tuple #[.int .i64 (-3), .int .i64 0]) ∧ w = w' :=
  up_any (-7) 2 w (by omega) (by omega) (by omega)
theorem part3 (w : World) :
    Calls Try.prog 14 #[.int .i64 3, .int .i64 150] w fun e w' => e = .returned (.tuple #[.int .i64 5, .int .i64 0]) ∧ w = w' :=
  part_any 3 150 w (by omega) (by omega)
theorem mulEnd (w : World) :
    Calls Try.prog 10 #[.int .i64 (-1), .int .i64 (-9223372036854775808)] w fun e w' => e = .returned (.tuple #[.int .i64 0, .int .i64 11]) ∧ w = w' :=
  mul_any (-1) (-9223372036854775808) w (by omega) (by omega) (by omega) (by omega)
theorem clamp5 (w : World) :
    Calls Try.prog 16 #[.int .i64 5, .int .i64 1, .int .i64 3] w fun e w' => e = .returned (.int .i64 3) ∧ w = w' :=
  clamp_any 5 1 3 w

theorem same258 (w : World) :
    Calls Try.prog 24 #[.slice (some ⟨w.heap.size, 0, none⟩) 2 2, .slice (some ⟨w.heap.size + 1, 0, none⟩) 2 2]
      ((w.alloc (.cells #[.int .u8 2, .int .u8 1] 5)).alloc (.cells #[.int .u8 2, .int .u8 1] 5)) fun e w' => e = .returned (.bool true) ∧ ((w.alloc (.cells #[.int .u8 2, .int .u8 1] 5)).alloc (.cells #[.int .u8 2, .int .u8 1] 5)) = w' := by
  refine same_true _ _ 2 2 2 2 [2, 1] _ (w.heap.size + 2) (w.heap.size + 2) ⟨rfl, fun _ => ⟨_, _, rfl, by omega, ?_⟩⟩ ⟨rfl, fun _ => ⟨_, _, rfl, by omega, ?_⟩⟩
  · intro i hi
    rcases (show i = 0 ∨ i = 1 by omega) with rfl | rfl <;> go_simp
  · intro i hi
    rcases (show i = 0 ∨ i = 1 by omega) with rfl | rfl <;> go_simp

theorem lives_any (w : World) : Calls Try.prog 18 #[] w fun e w' => e = .returned (.bool true) ∧ Grown w w' := by
  go_enter Try.func18, Try.ntmps18
  go_wp2_with (first
    | (go_at_call 8; refine (addEnd _).mono ?_; rintro e w' ⟨rfl, rfl⟩)
    | (go_at_call 12; refine (up72 _).mono ?_; rintro e w' ⟨rfl, rfl⟩)
    | (go_at_call 14; refine (part3 _).mono ?_; rintro e w' ⟨rfl, rfl⟩)
    | (go_at_call 10; refine (mulEnd _).mono ?_; rintro e w' ⟨rfl, rfl⟩)
    | (go_at_call 20; refine (put258 _).mono ?_; rintro e w' ⟨rfl, rfl⟩)
    | (go_at_call 16; refine (clamp5 _).mono ?_; rintro e w' ⟨rfl, rfl⟩)
    | (go_at_call 24; refine (same258 _).mono ?_; rintro e w' ⟨rfl, rfl⟩))
  go_ret
  exact ⟨rfl, ((Grown.refl _).alloc _ _).alloc _ _⟩
end Go.Proofs.Yteglmjongdpagaa.NumA
