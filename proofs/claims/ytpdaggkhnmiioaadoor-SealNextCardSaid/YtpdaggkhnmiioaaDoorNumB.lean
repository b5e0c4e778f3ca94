
/- Contracts of the document's product, of parts and of clamped numbers. -/
import Derived.Test.YtpdaggkhnmiioaaDoorNumA
namespace Go.Proofs.YtpdaggkhnmiioaaDoor.NumA
open Go.ChangeShapes Go.WideShapes Go.ChangeAt Go.RowKit
open NumM

theorem eqf {a b : Int} (h : ¬ a = b) : (a == b) = false := by simpa using h

/-- what Part tells, and its error -/
def partV (n p : Int) : Int := if p < 0 ∨ 1000 < p ∨ n < 0 then 0 else if outB (n * p) = true then 0 else upQ (n * p) 100
def partE (n p : Int) : Int := if p < 0 ∨ 1000 < p ∨ n < 0 then 2 else err (n * p)

def clampV (n low high : Int) : Int := if n < low ∨ high < low then low else if high < n then high else n
end Go.Proofs.YtpdaggkhnmiioaaDoor.NumA
