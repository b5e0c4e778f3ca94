
/- Layer 25: the example of the laws. -/
import Derived.Test.YtpjglhllbgmbhaaExtD
import Derived.Test.YtpjglhllbgmbhaaExtE
import Derived.Test.YtpjglhllbgmbhaaStW
namespace Go.Proofs.Ytpjglhllbgmbhaa.Extra
open Go.ChangeShapes Go.WideShapes Go.ChangeAt Go.RowKit
open NumM
open NumA hiding ret_bool
open Mem Arr Lst Rec Inst Grown Sums St Opens
def twoL (i : Nat) : Ins := if i = 0 then ⟨1, 0, 0, 3, false, 3, 0, false, 0, true, false, 0⟩ else ⟨2, 0, 0, 7, false, 3, 0, false, 0, false, false, 0⟩
def twoS (n : Int) (g : Nat) : State := { state0 with c := { cfg0 with surge := n, replace := true }, desired := 10, iA := some ⟨g, 0, none⟩, iN := 2, iC := 2 }
set_option maxHeartbeats 2000000 in
theorem two_any (n : Int) (w : World) :
    Calls Try.prog 23 #[.int .i64 n] w fun e w' => ∃ g, e = .returned (twoS n g).val ∧ Insts w' w'.heap.size (some ⟨g, 0, none⟩) 2 twoL ∧ Below w.heap.size w w' := by
  have H1 := Lib.hid (State.one (twoS n (w.heap.size + 1)))
  go_enter Try.func23, Try.ntmps23
  go_wp2_with ((with_reducible refine at_store 36 ?_); (refine store_whole rfl 36 _ _ rfl w.heap.size (twoS n (w.heap.size + 1)).cells _ _ rfl rfl (heap_under (heap_alloc_new _ _)) (sizeState.trans rfl) rfl H1.out ?_))
  refine bodyPost_ret (v := (twoS n (w.heap.size + 1)).val) (results_cell_row rfl _ _ w.heap.size _ (twoS n (w.heap.size + 1)).cells _ _ rfl (row_at (heap_under (heap_alloc_new _ _))) Try.underlying36 rfl (sizeState.trans rfl)) rfl ⟨w.heap.size + 1, rfl, ?_, ?_⟩
  · refine ⟨fun e => (by cases e), fun _ => ⟨w.heap.size + 1, 0, rfl, by unfold World.setRow; simp, ?_⟩⟩
    intro i j hi hj
    rw [cell_of_row _ _ _ _ _ _ ((row_else (by omega)).trans (heap_alloc2_new _ _ _))]
    rcases (by omega : i = 0 ∨ i = 1) with rfl | rfl <;> rcases (by omega : j = 0 ∨ j = 1 ∨ j = 2 ∨ j = 3 ∨ j = 4 ∨ j = 5 ∨ j = 6 ∨ j = 7 ∨ j = 8 ∨ j = 9 ∨ j = 10 ∨ j = 11) with rfl | rfl | rfl | rfl | rfl | rfl | rfl | rfl | rfl | rfl | rfl | rfl <;> rfl
  · exact below_row _ (bAlloc (bAlloc (Below.refl _ _) _) _) (Nat.le_refl _)
def thirdS (g : Nat) : State := { twoS 2 g with ver := 2, on := true, least := 0, most := 150, stop := 0, stopped := false, back := false }
theorem v1 (g : Nat) : ofV (twoS 2 g) twoL = 2 := by kernel_rfl
theorem v2 (g : Nat) : ofV (twoS 9 g) twoL = 3 := by kernel_rfl
theorem v3 (g : Nat) : ofV (thirdS g) twoL = 7 := by kernel_rfl
theorem v4 (g : Nat) : ceilV (thirdS g) twoL = 110 := by kernel_rfl
theorem v5 (g : Nat) (O : Nat → Opn) : endsB (thirdS g) twoL O = false := ends_i (k := 0) (by show 0 < 2; omega) rfl
theorem of_is (s : State) (L : Nat → Ins) (v : Int) (hv : ofV s L = v) (w : World) (h : Insts w w.heap.size s.iA s.iN L) (hn : s.iN ≤ 9223372036854775807) :
    Calls Try.prog 14 #[s.val] w fun e w' => e = .returned (.int .i64 v) ∧ Below w.heap.size w w' := by
  have := of_any s L w h hn; rw [hv] at this; exact this
theorem ceil_is (s : State) (L : Nat → Ins) (v : Int) (hv : ceilV s L = v) (w : World) (h : Insts w w.heap.size s.iA s.iN L) (hn : s.iN ≤ 9223372036854775807) :
    Calls Try.prog 16 #[s.val] w fun e w' => e = .returned (.int .i64 v) ∧ Below w.heap.size w w' := by
  have := ceil_any s L w h hn; rw [hv] at this; exact this
theorem ends_is (s : State) (L : Nat → Ins) (O : Nat → Opn) (v : Bool) (hv : endsB s L O = v) (w : World) (h : Insts w w.heap.size s.iA s.iN L) (hO : Opns w w.heap.size s.oA s.oN O) (hn : s.iN ≤ 9223372036854775807) (hn2 : s.oN ≤ 9223372036854775807) :
    Calls Try.prog 20 #[s.val] w fun e w' => e = .returned (.bool v) ∧ Below w.heap.size w w' := by
  have := ends_any s L O w h hO hn hn2; rw [hv] at this; exact this
set_option maxHeartbeats 2000000 in
theorem lives_any (w : World) : Calls Try.prog 7 #[] w fun e w' => e = .returned (.bool true) ∧ Below w.heap.size w w' := by
  go_enter Try.func7, Try.ntmps7
  go_wp2_with fail
  refine (two_any 2 _).mono ?_
  rintro _ w1 ⟨g1, rfl, i1, b1⟩
  have H1 := Lib.hid (State.one (twoS 2 g1))
  have I1 := Lib.hid i1
  clear i1
  go_wp2_with (first | ((with_reducible refine at_store 36 ?_); (refine store_st rfl _ _ rfl (twoS 2 g1) _ _ rfl rfl rfl ?_)) | ((with_reducible refine at_store 33 ?_); (refine store_part rfl 33 _ _ rfl 48 #[.bool true, .int .i64 0, .int .i64 150, .int .i64 0, .bool false, .bool false] _ (thirdS g1).cells _ rfl rfl (sizeRefresh.trans rfl) (by simp [Value.oneCell']) (by rw [Array.size_setIfInBounds]; exact (show 54 ≤ 55 by omega)) (by kernel_rfl) ?_)))
  have B1 := box_new w1 (thirdS g1).cells 36
  have J := Lib.hid (fun p : Grown (w1.alloc (.cells (thirdS g1).cells 36)) => Insts.later I1.out (bTrans (bAlloc (Below.refl _ _) _) p.below))
  have G := Lib.hid (goes_is (thirdS g1) true (Lib.hid rfl))
  refine (two_any 2 _).mono ?_
  rintro _ w2 ⟨g2, rfl, i2, b2⟩
  go_wp2_with fail
  refine (of_is (twoS 2 g2) twoL 2 (v1 g2) w2 i2 (by show 2 ≤ _; omega)).mono ?_
  rintro _ w3 ⟨rfl, b3⟩
  go_wp2_with fail
  refine (two_any 9 _).mono ?_
  rintro _ w4 ⟨g4, rfl, i4, b4⟩
  go_wp2_with fail
  refine (of_is (twoS 9 g4) twoL 3 (v2 g4) w4 i4 (by show 2 ≤ _; omega)).mono ?_
  rintro _ w5 ⟨rfl, b5⟩
  obtain ⟨p, rfl⟩ := grown_of (bTrans (bTrans (bTrans b2 b3) b4) b5)
  clear b2 b3 b4 b5 i2 i4
  go_wp2_with ((with_reducible refine at_loadg 36 ?_); (refine load_st rfl _ rfl _ _ rfl (thirdS g1) (B1 _) ?_))
  refine (call_grown (of_is (thirdS _) twoL 7 (v3 _) p.w1 (J.out p) (by show 2 ≤ _; omega))).mono ?_
  rintro _ _ ⟨rfl, p, rfl⟩
  go_wp2_with ((with_reducible refine at_loadg 36 ?_); (refine load_st rfl _ rfl _ _ rfl (thirdS g1) (B1 _) ?_))
  refine (call_grown (ceil_is (thirdS _) twoL 110 (v4 _) p.w1 (J.out p) (by show 2 ≤ _; omega))).mono ?_
  rintro _ _ ⟨rfl, p, rfl⟩
  go_wp2_with ((with_reducible refine at_loadg 36 ?_); (refine load_st rfl _ rfl _ _ rfl (thirdS g1) (B1 _) ?_))
  refine (call_grown (p := p) (G.out _)).mono ?_
  rintro _ _ ⟨rfl, p, rfl⟩
  go_wp2_with ((with_reducible refine at_loadg 36 ?_); (refine load_st rfl _ rfl _ _ rfl (thirdS g1) (B1 _) ?_))
  refine (call_grown (ends_is (thirdS _) twoL (fun _ => Opens.none_) false (v5 _ _) p.w1 (J.out p) ⟨fun _ => rfl, fun h => absurd h (by show ¬ 0 < 0; omega)⟩ (by show 2 ≤ _; omega) (by show 0 ≤ _; omega))).mono ?_
  rintro _ _ ⟨rfl, p, rfl⟩
  go_wp2
  go_ret
  exact ⟨rfl, bTrans b1 (bTrans (bAlloc (Below.refl _ _) _) p.below)⟩
end Go.Proofs.Ytpjglhllbgmbhaa.Extra
