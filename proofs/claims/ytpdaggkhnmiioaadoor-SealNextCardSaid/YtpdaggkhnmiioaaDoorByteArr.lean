
/- An array of bytes that came in by value. No code of the program. -/
import Derived.Test.YtpdaggkhnmiioaaDoorList
namespace Go.Proofs.YtpdaggkhnmiioaaDoor.ByteArr
open Go.ChangeShapes Go.WideShapes Go.ChangeAt Go.RowKit Go.Deep
open Mem Arr Lst
def byteV (f : Nat → Int) (i : Nat) : Value := .int .u8 (f i)
theorem okWide_arr {P : Program} {w : World} {r : Reach} {b0 : Nat} {T E : TypeId} {n : Nat} {v : Value} (ht : P.underlying T = some (.array n E)) (h : Value.okWide P w r b0 T v) : ∃ cs : Array Value, v = .agg cs ∧ cs.size = P.cellsOf T := by
  simp only [Value.okWide, ht] at h
  obtain ⟨cs, h1, h2, _⟩ := h
  exact ⟨cs, h1, h2⟩
theorem arr_arg {H : Type} {enc : TypeId × Value → H} {P : Program} {w : World} {r : Reach} {b0 : Nat} {base : Nat} {spare : Nat → Bool} {held : Bool} {T E : TypeId} {n : Nat} {v : Value} {d : DataW H} {p : List MemPlace}
    (hT : P.underlying T = some (.array n E)) (hE : P.underlying E = some (.int .u8)) (hce : P.cellsOf E = 1) (hct : P.cellsOf T = n) (hv : Value.okWide P w r b0 T v) (h : DataW.Trod enc P w base spare held T v d p) :
    ∃ f : Nat → Int, v = .agg (vals n (byteV f)).toArray ∧ ∀ i, i < n → 0 ≤ f i ∧ f i ≤ 255 := by
  obtain ⟨cs, rfl, hcs⟩ := okWide_arr hT hv
  obtain ⟨fuel, hf⟩ := h
  obtain ⟨xs, m, _, _, hl, hxl, hel⟩ := DataW.trod_array hT hf
  have hl : cs.toList.length = n := by rw [Array.length_toList, hcs, hct]
  have each : ∀ i, i < n → ∃ z, cs.toList[i]? = some (.int .u8 z) ∧ (Lit.int .u8 z).wf = true := by
    intro i hi
    have h1 := hel i hi
    rw [hce, Nat.mul_one] at h1
    rw [List.getElem?_eq_getElem (by omega)] at h1
    obtain ⟨z, e1, _, hw⟩ := DataW.trod_int hE h1
    refine ⟨z, ?_, hw⟩
    have e2 : ((cs.toList.drop i).take 1)[0]? = some (.int .u8 z) := by
      have : Value.cells (.agg cs) = cs := rfl
      rw [this] at e1
      rw [e1]; rfl
    rw [List.getElem?_take, List.getElem?_drop] at e2
    simpa using e2
  refine ⟨fun i => intV ((cs.toList[i]?).getD undef), ?_, fun i hi => ?_⟩
  · congr 1
    apply Array.ext_getElem?
    intro i
    rcases Nat.lt_or_ge i n with hi | hi
    · obtain ⟨z, hz, _⟩ := each i hi
      rw [← Array.getElem?_toList, ← Array.getElem?_toList (xs := (vals n _).toArray), vals_at hi]
      simp [byteV, hz, intV]
    · rw [Array.getElem?_eq_none (by rw [← Array.length_toList]; omega), Array.getElem?_eq_none (by simp [vals]; omega)]
  · obtain ⟨z, hz, hw⟩ := each i hi
    simp only [hz, Option.getD_some, intV]
    exact bounds_u8 hw
end Go.Proofs.YtpdaggkhnmiioaaDoor.ByteArr
