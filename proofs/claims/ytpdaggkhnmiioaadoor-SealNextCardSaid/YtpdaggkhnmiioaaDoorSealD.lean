
/- Contracts of layer 7: Put, the program's. -/
import Derived.Test.YtpdaggkhnmiioaaDoorSealC
import Derived.Test.YtpdaggkhnmiioaaDoorZeros
import Derived.StillTailTactics
import Derived.Outline
namespace Go.Proofs.YtpdaggkhnmiioaaDoor.Seal
open Go.ChangeShapes Go.WideShapes Go.ChangeAt Go.RowKit Go.Deep
open Mem Rec Crc Blk Ref00
set_option linter.unusedVariables false

theorem run_alloc_blk (w : World) : (Instr.alloc 26 true (.tuple #[])).run Tryd.prog w = .ok (.pointer (some ⟨w.heap.size, 0, none⟩)) (w.alloc (.cells (blkC (zs 64)) 26)) := by kernel_rfl
theorem run_build_blk (w : World) : (Instr.build 26 #[]).run Tryd.prog w = .ok (blkV (zs 64)) w := by kernel_rfl
/-- an array of 64 zeros is laid -/
theorem alloc_blk {ops : Array Oper} {rest : List Oper} {o : Oper} {a : Act} {w : World} {Q : Exit → Act → World → Prop} (hw : Region.wanted o (yielded ops a.tmps) = true) (ho : o.op = .alloc 26)
    (h : wpList Tryd.prog ops Q rest (a.put o.dst (.pointer (some ⟨w.heap.size, 0, none⟩))) (w.alloc (.cells (blkC (zs 64)) 26))) : wpList Tryd.prog ops Q (o :: rest) a w :=
  BigFrame.wpList_want hw fun _ hK => by
    unfold Oper.wp execOp
    simp only [ho, Sem.run_bind, Sem.run_pure, Result.andThen_ok, run_alloc_blk]
    exact hK _ _ h
theorem build_blk {ops : Array Oper} {rest : List Oper} {o : Oper} {a : Act} {w : World} {Q : Exit → Act → World → Prop} (hw : Region.wanted o (yielded ops a.tmps) = true) (ho : o.op = .build 26 #[])
    (h : wpList Tryd.prog ops Q rest (a.put o.dst (blkV (zs 64))) w) : wpList Tryd.prog ops Q (o :: rest) a w :=
  BigFrame.wpList_want hw fun _ hK => by
    unfold Oper.wp execOp
    simp only [ho, Sem.run_bind, Sem.run_pure, Result.andThen_ok, List.map_toArray, List.map_nil, run_build_blk]
    exact hK _ _ h
theorem row_at {w : World} {g : Nat} {cells old : Array Value} {t : TypeId} {fr : Nat × Nat} (h : w.heap[g]? = some (.cells old t fr)) : (w.setRow g cells).heap[g]? = some (.cells cells t fr) := setRow_heap w g old cells t fr h
/-- a block is stored whole -/
theorem store_blk {ops : Array Oper} {rest : List Oper} {o : Oper} {a : Act} {w : World} {Q : Exit → Act → World → Prop} (hw : Region.wanted o (yielded ops a.tmps) = true) (x y : Operand) (ho : o.op = .store 26 x y)
    (g : Nat) (L M : List Int) (t : TypeId) (hx : a.eval x = .pointer (some ⟨g, 0, none⟩)) (hy : a.eval y = blkV L) (hg : w.heap[g]? = some (.cells (blkC M) t (0, 0))) (hL : L.length = 64) (hM : M.length = 64)
    (h : wpList Tryd.prog ops Q rest (a.put o.dst undef) (w.setRow g (blkC L))) : wpList Tryd.prog ops Q (o :: rest) a w :=
  BigFrame.wpList_want hw fun _ hK => wp_store_row 26 x y ho g (blkC L) hx hy t (blkC M) hg (infoB L hL) (by rw [blkC_size, blkC_size, hL, hM]) (blkC_one L) (hK _ _ h)
theorem load_blk {ops : Array Oper} {rest : List Oper} {o : Oper} {a : Act} {w : World} {Q : Exit → Act → World → Prop} (hw : Region.wanted o (yielded ops a.tmps) = true) (x : Operand) (ho : o.op = .load 26 x)
    (g : Nat) (hx : a.eval x = .pointer (some ⟨g, 0, none⟩)) (L : List Int) (t : TypeId) (fr : Nat × Nat) (hg : w.heap[g]? = some (.cells (blkC L) t fr)) (hL : L.length = 64)
    (h : wpList Tryd.prog ops Q rest (a.put o.dst (blkV L)) w) : wpList Tryd.prog ops Q (o :: rest) a w :=
  load_whole hw 26 x ho g hx t (blkC L) fr _ hg Tryd.underlying26 rfl (infoB L hL) h
theorem zs_64 : (zs 64).length = 64 := rfl
theorem below_row {a w : World} {B g : Nat} (cells : Array Value) (h : Below B a w) (hg : B ≤ g) : Below B a (w.setRow g cells) := below_setRow h hg cells

theorem digs_fit {n : Int} (h0 : 0 ≤ n) (h1 : n ≤ 18446744073709551615) : NumA.putL n 8 = NumA.digs n 8 := by
  unfold NumA.putL
  rw [if_neg]
  · rfl
  · rw [show NumA.sizeB 8 = true by decide]
    have : NumA.sh n 8 = 0 := by unfold NumA.sh; omega
    simp [NumA.bigB, this]
theorem digs_fit4 {n : Int} (h0 : 0 ≤ n) (h1 : n ≤ 4294967295) : NumA.putL n 4 = NumA.digs n 4 := by
  unfold NumA.putL
  rw [if_neg]
  · rfl
  · rw [show NumA.sizeB 4 = true by decide]
    have : NumA.sh n 4 = 0 := by unfold NumA.sh; omega
    simp [NumA.bigB, this]
/-- a field is filled -/
theorem lay_any (g o k c : Nat) (L : List Int) (t : TypeId) (n : Int) (w : World) (B : Nat) (w0 : World) (hg : w.heap[g]? = some (.cells (blkC L) t (0, 0))) (ho : o + k ≤ L.length) (hk : k ≤ 64) (h0 : 0 ≤ n) (h1 : n ≤ 18446744073709551615)
    (hd : NumA.putL n k = NumA.digs n k) (hb : Below B w0 w) (hBg : B ≤ g) :
    Calls Tryd.prog 24 #[.slice (some ⟨g, o, none⟩) k c, .int .u64 n] w fun e w' => e = .returned (.tuple #[]) ∧ w'.heap[g]? = some (.cells (blkC (splice L o (NumA.digs n k))) t (0, 0)) ∧ Below B w0 w' := by
  have C := NumA.put_all n k w h0 h1
  rw [hd] at C
  have C := Lib.hid C
  have HG := Lib.hid hg
  have HO := Lib.hid ho
  have HB := Lib.hid hb
  have hl := NumA.digs_length n k
  clear hg ho hb hd
  go_enter Tryd.func24, Tryd.ntmps24
  go_wp2_with fail
  refine C.out.mono ?_
  rintro e w1 ⟨A, c1, rfl, hA, hc1, hc2, hr, b1⟩
  rw [hl] at hr hc1 ⊢
  have HG1 := Lib.hid (kept_at' b1 HG.out)
  have HR := Lib.hid hr
  have HA := Lib.hid hA
  have HB1 := Lib.hid b1
  have hgl : g < w.heap.size := by
    rcases Nat.lt_or_ge g w.heap.size with hlt | hge
    · exact hlt
    · have := HG.out; rw [Array.getElem?_eq_none hge] at this; cases this
  have HB2 : Hid (Below B w0 w1) := Lib.hid (HB.out.trans (b1.mono (by omega)))
  clear hr hA b1
  go_wp2_with (with_reducible refine wpList_copy_splice rfl (.tmp 13) (.tmp 14) 23 23 rfl 5 Tryd.underlying23 infoB1 (some ⟨g, o, none⟩) A k c k c1 ?c1 ?c2 g o (bytesV L) t ?c3 (bytesV (NumA.digs n k)) ?c4 ?c5 ?c6 (bytesV_one _) B w0 ?c7 hBg ?_)
  case c1 => rfl
  case c2 => rfl
  case c3 => exact HG1.out
  case c4 => rw [bytesV_length, hl]; exact (Nat.min_self k).symm
  case c5 =>
    intro h
    rw [bytesV_length, hl] at h
    obtain ⟨ad, e1, e2⟩ := HR.out.cells (fun e => by have := HR.out.2.1 e; omega)
    first | exact ⟨rfl, ad, e1, e2⟩ | exact ⟨ad, e1, e2⟩
  case c6 => rw [bytesV_length, bytesV_length, hl]; exact HO.out
  case c7 => exact HB2.out
  intro w4 h4 b4
  go_wp2_with fail
  go_end0
  have h5 := h4.out
  rw [splice_bytes] at h5
  exact ⟨rfl, h5, b4⟩
/-- what stands behind the sum; the whole block -/
def mid (n : Int) (bs : List Int) : List Int := NumA.digs n 8 ++ (bs ++ zs (44 - bs.length)) ++ NumA.digs n 8
def pL (n : Int) (bs : List Int) : List Int := NumA.digs (CrcM.num (CrcM.sumB 0xffffffff#32 (mid n bs))) 4 ++ mid n bs
def pE (n : Int) (m : Nat) : Int := if n = 0 then 2 else if 44 < m then 3 else 0
def pB (n : Int) (m : Nat) (bs : List Int) : List Int := if pE n m = 0 then pL n bs else zs 64
theorem put_zero (n : Int) (A : Option Addr) (m c : Nat) (w : World) (hm : m ≤ 140737488355328) (h : n = 0 ∨ 44 < m) (k : Int) (hk : k = if n = 0 then 2 else 3) :
    Calls Tryd.prog 9 #[.int .u64 n, .slice A m c] w fun e w' => e = .returned (.tuple #[blkV (zs 64), .int .i64 k]) ∧ Below w.heap.size w w' := by
  have h64 := infoB (zs 64) zs_64
  by_cases h0 : n = 0
  · subst h0
    obtain rfl : k = 2 := by simpa using hk
    clear hk h
    go_enter Tryd.func9, Tryd.ntmps9
    go_wp2_with (first | (refine alloc_blk rfl rfl ?_) | (refine build_blk rfl rfl ?_) | (refine store_blk rfl _ _ rfl w.heap.size (zs 64) (zs 64) _ rfl rfl (heap_alloc_new _ _) zs_64 zs_64 ?_))
    refine bodyPost_ret (v := .tuple #[blkV (zs 64), .int .i64 2]) ?_ rfl ⟨rfl, ?_⟩
    · rw [results_cell_tmp rfl]
      show ((loadVar 26 (⟨w.heap.size, 0, none⟩ : Addr)).run Tryd.prog _).andThen _ = _
      rw [run_loadVar_row _ w.heap.size 26 26 (blkC (zs 64)) (0, 0) _ (row_at (heap_alloc_new _ _)) Tryd.underlying26 rfl h64]
      rfl
    · exact below_row _ (bAlloc (Below.refl _ _) _) (Nat.le_refl _)
  · have hm44 : 44 < m := by omega
    obtain rfl : k = 3 := by simpa [h0] using hk
    have hn : (n == 0) = false := by simpa using h0
    clear hk h
    go_enter Tryd.func9, Tryd.ntmps9
    go_wp2_with (first | (refine alloc_blk rfl rfl ?_) | (refine build_blk rfl rfl ?_) | (refine store_blk rfl _ _ rfl w.heap.size (zs 64) (zs 64) _ rfl rfl (heap_alloc_new _ _) zs_64 zs_64 ?_))
    refine bodyPost_ret (v := .tuple #[blkV (zs 64), .int .i64 3]) ?_ rfl ⟨rfl, ?_⟩
    · rw [results_cell_tmp rfl]
      show ((loadVar 26 (⟨w.heap.size, 0, none⟩ : Addr)).run Tryd.prog _).andThen _ = _
      rw [run_loadVar_row _ w.heap.size 26 26 (blkC (zs 64)) (0, 0) _ (row_at (heap_alloc_new _ _)) Tryd.underlying26 rfl h64]
      rfl
    · exact below_row _ (bAlloc (Below.refl _ _) _) (Nat.le_refl _)
end Go.Proofs.YtpdaggkhnmiioaaDoor.Seal
