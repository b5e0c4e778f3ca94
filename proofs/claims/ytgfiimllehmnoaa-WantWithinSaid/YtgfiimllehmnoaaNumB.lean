
/- Contracts of the document's product, of parts and of clamped numbers. -/
import Derived.Test.YtgfiimllehmnoaaNumA
namespace Go.Proofs.Ytgfiimllehmnoaa.NumA
open Go.ChangeShapes Go.WideShapes Go.ChangeAt Go.RowKit
open NumM

theorem eqf {a b : Int} (h : ¬ a = b) : (a == b) = false := by simpa using h

/-- what Part tells, and its error -/
def partV (n p : Int) : Int := if p < 0 ∨ 1000 < p ∨ n < 0 then 0 else if outB (n * p) = true then 0 else upQ (n * p) 100
def partE (n p : Int) : Int := if p < 0 ∨ 1000 < p ∨ n < 0 then 2 else err (n * p)

theorem mul_is (a b v f : Int) (w : World) (hv : Hid (val (a * b) = v ∧ err (a * b) = f)) (ha : -9223372036854775808 ≤ a) (ha' : a ≤ 9223372036854775807) (hb : -9223372036854775808 ≤ b) (hb' : b ≤ 9223372036854775807) :
    Calls Try.prog 20 #[.int .i64 a, .int .i64 b] w fun e w' => e = .returned (.tuple #[.int .i64 v, .int .i64 f]) ∧ w = w' := by
  have h := mul_any a b w ha ha' hb hb'
  rw [hv.out.1, hv.out.2] at h
  exact h
def clampV (n low high : Int) : Int := if n < low ∨ high < low then low else if high < n then high else n
theorem clamp_any (n low high : Int) (w : World) :
    Calls Try.prog 13 #[.int .i64 n, .int .i64 low, .int .i64 high] w fun e w' => e = .returned (.int .i64 (clampV n low high)) ∧ w = w' := by
  go_enter Try.func13, Try.ntmps13
  go_wp2
  all_goals
    go_ret
    refine ⟨ret_int ?_, rfl⟩
    unfold clampV
    repeat (split <;> try omega)
end Go.Proofs.Ytgfiimllehmnoaa.NumA
