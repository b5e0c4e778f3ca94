
/- Layer 27: the example of the laws. -/
import Derived.Test.YtflnamahaclidaaWrmD
import Derived.Test.YtflnamahaclidaaStW
namespace Go.Proofs.Ytflnamahaclidaa.Wrm
open Go.ChangeShapes Go.WideShapes Go.ChangeAt Go.RowKit
open Mem Arr Lst Rec Inst Grown Sums St Opens Extra
open Thg (ofS)
def threeL (i : Nat) : Ins := if i = 0 then ⟨1, 0, 0, 2, true, 8, 0, false, 0, false, false, 1⟩ else if i = 1 then ⟨2, 0, 0, 2, false, 8, 0, false, 0, false, false, 1⟩ else ⟨3, 0, 0, 2, false, 7, 0, false, 0, false, false, 1⟩
def threeS (n : Int) (g : Nat) : State := { state0 with c := { cfg0 with warm := n }, ver := 1, iA := some ⟨g, 0, none⟩, iN := 3, iC := 3 }
set_option maxHeartbeats 2000000 in
theorem three_any (n : Int) (w : World) :
    Calls Try.prog 16 #[.int .i64 n] w fun e w' => ∃ g, e = .returned (threeS n g).val ∧ Sta (threeS n g) threeL (fun _ => Opens.none_) w' ∧ Below w.heap.size w w' := by
  have H1 := Lib.hid (State.one (threeS n (w.heap.size + 1)))
  go_enter Try.func16, Try.ntmps16
  go_wp2_with ((with_reducible refine St.at_store 36 ?_); (refine St.store_whole rfl 36 _ _ rfl w.heap.size (threeS n (w.heap.size + 1)).cells _ _ rfl rfl (St.heap_under (heap_alloc_new _ _)) (sizeState.trans rfl) rfl H1.out ?_))
  refine bodyPost_ret (v := (threeS n (w.heap.size + 1)).val) (results_cell_row rfl _ _ w.heap.size _ (threeS n (w.heap.size + 1)).cells _ _ rfl (St.row_at (St.heap_under (heap_alloc_new _ _))) Try.underlying36 rfl (sizeState.trans rfl)) rfl ⟨w.heap.size + 1, rfl, ⟨?_, ⟨fun _ => rfl, fun h => absurd h (by show ¬ 0 < 0; omega)⟩, by show 3 ≤ _; omega, by show 0 ≤ _; omega, by show (0 : Int) ≤ 1; omega⟩, ?_⟩
  · refine ⟨fun e => (by cases e), fun _ => ⟨w.heap.size + 1, 0, rfl, by unfold World.setRow; simp, ?_⟩⟩
    intro i j hi hj
    replace hi : i < 3 := hi
    rw [cell_of_row _ _ _ _ _ _ ((St.row_else (by omega)).trans (heap_alloc2_new _ _ _))]
    rcases (by omega : i = 0 ∨ i = 1 ∨ i = 2) with rfl | rfl | rfl <;> rcases (by omega : j = 0 ∨ j = 1 ∨ j = 2 ∨ j = 3 ∨ j = 4 ∨ j = 5 ∨ j = 6 ∨ j = 7 ∨ j = 8 ∨ j = 9 ∨ j = 10 ∨ j = 11) with rfl | rfl | rfl | rfl | rfl | rfl | rfl | rfl | rfl | rfl | rfl | rfl <;> rfl
  · exact St.below_row _ (bAlloc (bAlloc (Below.refl _ _) _) _) (Nat.le_refl _)
theorem draw_is (s : State) (L : Nat → Ins) (O : Nat → Opn) (sp : Bool) (r : Option Nat) (a : Int) (b : Bool) (hr : drawO s L sp = r) (ha : idO L r = a) (hb : r.isSome = b) (w : World) (h : Sta s L O w) :
    Calls Try.prog 7 #[s.val, .bool sp] w fun e w' => e = .returned (.tuple #[.int .u64 a, .bool b]) ∧ Below w.heap.size w w' := by
  have := draw_any s L O sp w h; unfold ans at this; rw [hr, ha, hb] at this; exact this
theorem much_is (s : State) (L : Nat → Ins) (O : Nat → Opn) (r : Option Nat) (a : Int) (b : Bool) (hr : muchO s L O = r) (ha : idO L r = a) (hb : r.isSome = b) (w : World) (h : Sta s L O w) :
    Calls Try.prog 9 #[s.val] w fun e w' => e = .returned (.tuple #[.int .u64 a, .bool b]) ∧ Below w.heap.size w w' := by
  have := much_any s L O w h; unfold ans at this; rw [hr, ha, hb] at this; exact this
theorem little_is (s : State) (L : Nat → Ins) (O : Nat → Opn) (b : Bool) (hr : littleB s L O = b) (w : World) (h : Sta s L O w) :
    Calls Try.prog 11 #[s.val] w fun e w' => e = .returned (.bool b) ∧ Below w.heap.size w w' := by
  have := little_any s L O w h; rw [hr] at this; exact this
theorem t1 (g : Nat) : drawO (threeS 3 g) threeL true = some 0 := by kernel_rfl
theorem t2 (g : Nat) : drawO (threeS 3 g) threeL false = some 1 := by kernel_rfl
theorem t3 (g : Nat) : muchO (threeS 3 g) threeL (fun _ => Opens.none_) = some 0 := by kernel_rfl
theorem t4 (g : Nat) : muchO (threeS 5 g) threeL (fun _ => Opens.none_) = none := by kernel_rfl
theorem t5 (g : Nat) : littleB (threeS 3 g) threeL (fun _ => Opens.none_) = false := by kernel_rfl
theorem t6 (g : Nat) : littleB (threeS 7 g) threeL (fun _ => Opens.none_) = true := by kernel_rfl
set_option maxHeartbeats 2000000 in
theorem lives_any (w : World) : Calls Try.prog 6 #[] w fun e w' => e = .returned (.bool true) ∧ Below w.heap.size w w' := by
  go_enter Try.func6, Try.ntmps6
  go_wp2_with fail
  refine (three_any 3 _).mono ?_
  rintro _ u0 ⟨g0, rfl, i0, a0⟩
  go_wp2_with fail
  refine (draw_is (threeS 3 g0) threeL (fun _ => Opens.none_) true (some 0) 1 true (t1 g0) (by rfl) rfl _ i0).mono ?_
  rintro _ v0 ⟨rfl, b0⟩
  go_wp2_with fail
  refine (three_any 3 _).mono ?_
  rintro _ u1 ⟨g1, rfl, i1, a1⟩
  go_wp2_with fail
  refine (draw_is (threeS 3 g1) threeL (fun _ => Opens.none_) false (some 1) 2 true (t2 g1) (by rfl) rfl _ i1).mono ?_
  rintro _ v1 ⟨rfl, b1⟩
  go_wp2_with fail
  refine (three_any 3 _).mono ?_
  rintro _ u2 ⟨g2, rfl, i2, a2⟩
  go_wp2_with fail
  refine (much_is (threeS 3 g2) threeL (fun _ => Opens.none_) (some 0) 1 true (t3 g2) (by rfl) rfl _ i2).mono ?_
  rintro _ v2 ⟨rfl, b2⟩
  go_wp2_with fail
  refine (three_any 5 _).mono ?_
  rintro _ u3 ⟨g3, rfl, i3, a3⟩
  go_wp2_with fail
  refine (much_is (threeS 5 g3) threeL (fun _ => Opens.none_) none 0 false (t4 g3) rfl rfl _ i3).mono ?_
  rintro _ v3 ⟨rfl, b3⟩
  go_wp2_with fail
  refine (three_any 3 _).mono ?_
  rintro _ u4 ⟨g4, rfl, i4, a4⟩
  go_wp2_with fail
  refine (little_is (threeS 3 g4) threeL (fun _ => Opens.none_) false (t5 g4) _ i4).mono ?_
  rintro _ v4 ⟨rfl, b4⟩
  go_wp2_with fail
  refine (three_any 7 _).mono ?_
  rintro _ u5 ⟨g5, rfl, i5, a5⟩
  go_wp2_with fail
  refine (little_is (threeS 7 g5) threeL (fun _ => Opens.none_) true (t6 g5) _ i5).mono ?_
  rintro _ v5 ⟨rfl, b5⟩
  go_wp2
  go_ret
  exact ⟨rfl, (bTrans (bTrans (bTrans (bTrans (bTrans (bTrans (bTrans (bTrans (bTrans (bTrans (bTrans a0 b0) a1) b1) a2) b2) a3) b3) a4) b4) a5) b5)⟩
end Go.Proofs.Ytflnamahaclidaa.Wrm
