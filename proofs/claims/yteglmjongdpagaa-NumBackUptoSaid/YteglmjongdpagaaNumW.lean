/- 'lives' writes nothing that was there. -/
import Derived.Test.YteglmjongdpagaaNumL
namespace Go.Proofs.Yteglmjongdpagaa.NumA
open Go.ChangeShapes Go.WideShapes Go.ChangeAt Go.RowKit
open NumM

theorem lives_below (w : World) : Calls Try.prog 18 #[] w fun e w' => e = .returned (.bool true) ∧ Below w.heap.size w w' := by
  go_enter Try.func18, Try.ntmps18
  go_wp2_with (first
    | (go_at_call 8; refine (addEnd _).mono ?_; rintro e w' ⟨rfl, rfl⟩)
    | (go_at_call 12; refine (up72 _).mono ?_; rintro e w' ⟨rfl, rfl⟩)
    | (go_at_call 14; refine (part3 _).mono ?_; rintro e w' ⟨rfl, rfl⟩)
    | (go_at_call 10; refine (mulEnd _).mono ?_; rintro e w' ⟨rfl, rfl⟩)
    | (go_at_call 20; refine (put258 _).mono ?_; rintro e w' ⟨rfl, rfl⟩)
    | (go_at_call 16; refine (clamp5 _).mono ?_; rintro e w' ⟨rfl, rfl⟩)
    | (go_at_call 24; refine (same258 _).mono ?_; rintro e w' ⟨rfl, rfl⟩))
  go_ret
  exact ⟨rfl, ((Below.refl _ _).alloc (Nat.le_refl _) _).alloc (by simp) _⟩
end Go.Proofs.Yteglmjongdpagaa.NumA
