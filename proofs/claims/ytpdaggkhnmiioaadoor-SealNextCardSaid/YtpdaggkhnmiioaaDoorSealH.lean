
/- Layer 7: what the document tells. -/
import Derived.Test.YtpdaggkhnmiioaaDoorSealG
import Derived.Deep.RegionHeld3
import Derived.Outline
namespace Go.Proofs.YtpdaggkhnmiioaaDoor.Seal
open Go.ChangeShapes Go.WideShapes Go.ChangeAt Go.RowKit Go.Deep
open Mem Rec Crc Blk Ref00
set_option linter.unusedVariables false

/-- in a region that draws its order a block is loaded, and zeros are built, by these rows -/
def buildZ : Sem Next := do pure (.value (← Instr.build 26 #[]))
theorem exec_blk (ρ : Operand → Value) (x : Operand) (dst : Option Tmp) (ty : TypeId) (pos : String) (after : Array Edge) (guard : Option (Nat × Bool)) :
    execOp ρ { dst, op := .load 26 x, type := ty, pos, after, guard } = loadRec 26 (ρ x) := rfl
theorem exec_zero (ρ : Operand → Value) (dst : Option Tmp) (ty : TypeId) (pos : String) (after : Array Edge) (guard : Option (Nat × Bool)) :
    execOp ρ { dst, op := .build 26 #[], type := ty, pos, after, guard } = buildZ := by
  unfold buildZ execOp
  simp only [List.map_toArray, List.map_nil]
theorem run_blk (w : World) (g : Nat) (h : RecOK w g 64) : (loadRec 26 (.pointer (some ⟨g, 0, none⟩))).run Tryd.prog w = .ok (.value (.agg (recIn w g))) w :=
  run_loadRec 26 Tryd.underlying26 rfl infoBlk w g h
theorem run_zero (w : World) : buildZ.run Tryd.prog w = .ok (.value (blkV (zs 64))) w := by
  unfold buildZ
  simp only [Sem.run_bind, Sem.run_pure, Result.andThen_ok, run_build_blk]

theorem row_else' {w : World} {g g' : Nat} {cells : Array Value} (h : g' ≠ g) : (w.setRow g cells).heap[g']? = w.heap[g']? := setRow_other w g g' cells h
theorem sealed_any (n : Int) (w : World) (h0 : 1 ≤ n) (h1 : n ≤ 18446744073709551615) (Ld : Laid w) :
    Calls Tryd.prog 28 #[.int .u64 n] w fun e w' => e = .returned (blkV (pL n [])) ∧ Below w.heap.size w w' := by
  have B1 := bAlloc (Below.refl w.heap.size w) (.cells (blkC (zs 64)) 26)
  have C1 := put_any n none 0 0 [] _ (by omega) h1 (by omega) (Rd.nil_ _ _) (fun i => by simp) (Ld.below B1)
  have e1 : pE n 0 = 0 := by unfold pE; rw [if_neg (by omega), if_neg (by omega)]
  have e2 : pB n 0 [] = pL n [] := by unfold pB; rw [if_pos e1]
  rw [e1, e2] at C1
  have C1 := Lib.hid C1
  have HP := Lib.hid (pL_len n (bs := []) (by simp))
  have HR : Hid ((w.alloc (.cells (blkC (zs 64)) 26)).heap[w.heap.size]? = some (.cells (blkC (zs 64)) 26 (0, 0))) := Lib.hid (heap_alloc_new _ _)
  have HB1 := Lib.hid B1
  have h64 := Lib.hid (infoB (pL n []) HP.out)
  clear B1 e1 e2 Ld
  generalize pL n [] = L at C1 HP h64 ⊢
  go_enter Tryd.func28, Tryd.ntmps28
  go_wp2_with (first | (refine alloc_blk rfl rfl ?_))
  refine C1.out.mono ?_
  rintro e w2 ⟨rfl, b2⟩
  have HR2 := Lib.hid (kept_at (o := .cells (blkC (zs 64)) 26) (kept_at' b2 HR.out))
  have HN : Hid ((w2.alloc (.cells (blkC (zs 64)) 26)).heap[w2.heap.size]? = some (.cells (blkC (zs 64)) 26 (0, 0))) := Lib.hid (heap_alloc_new _ _)
  have hne : w.heap.size ≠ w2.heap.size := by have := b2.size; simp at this; omega
  have HR3 := Lib.hid ((row_else' (cells := blkC L) hne).trans HR2.out)
  have HB2 := Lib.hid (bTrans HB1.out b2)
  clear b2 hne
  go_wp2_with (first | (refine alloc_blk rfl rfl ?_) | (refine store_blk rfl (.tmp 3) _ rfl w2.heap.size L (zs 64) _ rfl rfl HN.out HP.out zs_64 ?_) | (refine load_blk rfl _ rfl w2.heap.size rfl L _ _ (row_at HN.out) HP.out ?_) | (refine store_blk rfl (.tmp 2) _ rfl w.heap.size L (zs 64) _ rfl rfl HR3.out HP.out zs_64 ?_))
  refine bodyPost_ret (v := blkV L) (results_cell_row rfl _ _ w.heap.size _ (blkC L) _ _ rfl (row_at HR3.out) Tryd.underlying26 rfl h64.out) rfl ⟨rfl, ?_⟩
  exact below_row _ (below_row _ (bAlloc HB2.out _) (by have := HB2.out.size; omega)) (Nat.le_refl _)
end Go.Proofs.YtpdaggkhnmiioaaDoor.Seal
