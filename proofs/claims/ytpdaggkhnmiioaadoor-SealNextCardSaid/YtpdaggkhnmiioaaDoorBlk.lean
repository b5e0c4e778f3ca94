
/- Blocks of bytes as values: arrays that lie whole in a block of their own. No code of the program. -/
import Derived.Test.YtpdaggkhnmiioaaDoorRows
import Derived.Test.YtpdaggkhnmiioaaDoorRec
import Derived.Test.YtpdaggkhnmiioaaDoorByteArr
import Derived.Laws.CopyOwn
import Derived.Stop.BytesEq
namespace Go.Proofs.YtpdaggkhnmiioaaDoor.Blk
open Go.ChangeShapes Go.WideShapes Go.ChangeAt Go.RowKit Go.Deep
open Mem Rec Lst Arr ByteArr

/-- the cells of a block of bytes; the block as a value -/
def blkC (L : List Int) : Array Value := (bytesV L).toArray
@[reducible] def blkV (L : List Int) : Value := .agg (blkC L)
/-- a block: 64 bytes -/
def okL (L : List Int) : Prop := L.length = 64 ∧ ∀ i, 0 ≤ L.getD i 0 ∧ L.getD i 0 ≤ 255
theorem blkC_size (L : List Int) : (blkC L).size = L.length := by simp [blkC, bytesV]
theorem blkC_one (L : List Int) : (blkC L).all (·.oneCell') = true := Array.all_eq_true_iff_forall_mem.2 (fun v hv => bytesV_one L v (by simpa [blkC] using hv))
theorem blkC_get {L : List Int} {i : Nat} (h : i < L.length) : (blkC L)[i]? = some (.int .u8 (L.getD i 0)) := by
  rw [show blkC L = (bytesV L).toArray from rfl, List.getElem?_toArray]
  exact bytesV_at h
/-- a part of a block is read -/
theorem blk_rd {w : World} {g : Nat} {L : List Int} {t : TypeId} {fr : Nat × Nat} (h : w.heap[g]? = some (.cells (blkC L) t fr)) (o k : Nat) (ho : o + k ≤ L.length) : Rd w w.heap.size (some ⟨g, o, none⟩) k ((L.drop o).take k) := by
  refine ⟨by rw [List.length_take, List.length_drop]; omega, fun e => (by cases e), fun _ => ⟨g, o, rfl, ?_, fun i hi => ?_⟩⟩
  · rcases Nat.lt_or_ge g w.heap.size with hlt | hge
    · exact hlt
    · rw [Array.getElem?_eq_none hge] at h; cases h
  · rw [cell_of_row _ _ _ _ _ _ h, blkC_get (by omega)]
    simp [List.getD, hi]
theorem part_bytes {L : List Int} (h : ∀ i, 0 ≤ L.getD i 0 ∧ L.getD i 0 ≤ 255) (o k : Nat) : ∀ i, 0 ≤ ((L.drop o).take k).getD i 0 ∧ ((L.drop o).take k).getD i 0 ≤ 255 := by
  intro i
  by_cases hi : i < k
  · have : ((L.drop o).take k).getD i 0 = L.getD (o + i) 0 := by simp [List.getD, hi]
    rw [this]; exact h _
  · have : ((L.drop o).take k).getD i 0 = 0 := by simp [List.getD, List.getElem?_take, hi]
    rw [this]; omega
theorem splice_bytes (L : List Int) (o : Nat) (ds : List Int) : splice (bytesV L) o (bytesV ds) = bytesV (splice L o ds) := by
  simp [splice, bytesV, List.map_take, List.map_drop]
theorem infoBlk : (Tryd.prog.info? 26).map (·.size) = some 64 := by kernel_rfl
theorem infoB (L : List Int) (h : L.length = 64) : (Tryd.prog.info? 26).map (·.size) = some (blkC L).size := by rw [blkC_size, h]; exact infoBlk
/-- a block that came in -/
theorem blk_arg {H : Type} {enc : TypeId × Value → H} {w : World} {r : Reach} {b0 : Nat} {v : Value} {d : DataW H} {p : List MemPlace} (hv : Value.okWide Tryd.prog w r b0 26 v) (h : DataW.Trod enc Tryd.prog w 0 (fun _ => true) true 26 v d p) :
    ∃ L, v = blkV L ∧ okL L := by
  obtain ⟨f, e, hf⟩ := arr_arg Tryd.underlying26 Tryd.underlying5 (by kernel_rfl) (by kernel_rfl) hv h
  refine ⟨(List.range 64).map f, ?_, by simp, fun i => ?_⟩
  · rw [e]
    show Value.agg _ = Value.agg _
    congr 1
  · rcases Nat.lt_or_ge i 64 with hi | hi
    · have : ((List.range 64).map f).getD i 0 = f i := by simp [List.getD, hi]
      rw [this]; exact hf i hi
    · have : ((List.range 64).map f).getD i 0 = 0 := by simp [List.getD, List.getElem?_eq_none (show ((List.range 64).map f).length ≤ i by simpa using hi)]
      rw [this]; omega
end Go.Proofs.YtpdaggkhnmiioaaDoor.Blk
