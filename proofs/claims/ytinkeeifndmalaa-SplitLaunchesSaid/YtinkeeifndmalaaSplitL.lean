
/- What the statements of layer 13 build: configurations, and the numbers that the document tells. -/
import Derived.Test.YtinkeeifndmalaaSplitR
import Derived.Test.YtinkeeifndmalaaRec
namespace Go.Proofs.Ytinkeeifndmalaa.Split
open Go.ChangeShapes Go.WideShapes Go.ChangeAt Go.RowKit
open NumM NumA Mem Rec

theorem with_any (b p : Int) (w : World) :
    Calls Try.prog 7 #[.int .i64 b, .int .i64 p] w fun e w' => e = .returned (Cfg.with_ b p).val ∧ Below w.heap.size w w' := by
  have H1 : (Cfg.with_ b p).cells.all (·.oneCell') = true := Cfg.one _
  have H1 := Lib.hid H1
  go_enter Try.func7, Try.ntmps7
  go_wp2_with (first | (refine store_new rfl 27 _ _ rfl (Cfg.with_ b p).cells _ _ rfl rfl (infoCfg.trans rfl) rfl H1.out ?_))
  refine bodyPost_ret (v := (Cfg.with_ b p).val) (results_cell_row rfl _ _ w.heap.size _ (Cfg.with_ b p).cells _ _ rfl (heap_alloc_new _ _) Try.underlying27 rfl (infoCfg.trans rfl)) rfl ⟨rfl, ?_⟩
  repeat (first | exact Below.refl _ _ | refine bAlloc ?_ _)
theorem four_any (w : World) :
    Calls Try.prog 24 #[] w fun e w' => e = .returned (Cfg.with_ 4 25).val ∧ Below w.heap.size w w' := by
  have H1 : (Cfg.with_ 4 25).cells.all (·.oneCell') = true := Cfg.one _
  have H1 := Lib.hid H1
  go_enter Try.func24, Try.ntmps24
  go_wp2_with (first | (refine store_new rfl 27 _ _ rfl (Cfg.with_ 4 25).cells _ _ rfl rfl (infoCfg.trans rfl) rfl H1.out ?_))
  refine bodyPost_ret (v := (Cfg.with_ 4 25).val) (results_cell_row rfl _ _ w.heap.size _ (Cfg.with_ 4 25).cells _ _ rfl (heap_alloc_new _ _) Try.underlying27 rfl (infoCfg.trans rfl)) rfl ⟨rfl, ?_⟩
  repeat (first | exact Below.refl _ _ | refine bAlloc ?_ _)

theorem n1 (w : World) : Calls Try.prog 8 #[(Cfg.with_ 4 25).val, .int .i64 10] w fun e w' => e = .returned (.tuple #[.int .i64 6, .int .i64 4]) ∧ Below w.heap.size w w' := want_any (Cfg.with_ 4 25) 10 w
theorem n2 (w : World) : Calls Try.prog 10 #[(Cfg.with_ 4 25).val, .int .i64 10, .int .i64 0, .int .i64 0] w fun e w' => e = .returned (.tuple #[.bool false, .bool true]) ∧ Below w.heap.size w w' := next_any (Cfg.with_ 4 25) 10 0 0 w
theorem n3 (w : World) : Calls Try.prog 10 #[(Cfg.with_ 4 25).val, .int .i64 10, .int .i64 6, .int .i64 2] w fun e w' => e = .returned (.tuple #[.bool true, .bool true]) ∧ Below w.heap.size w w' := next_any (Cfg.with_ 4 25) 10 6 2 w
theorem n4 (w : World) : Calls Try.prog 10 #[(Cfg.with_ 4 25).val, .int .i64 10, .int .i64 5, .int .i64 5] w fun e w' => e = .returned (.tuple #[.bool false, .bool false]) ∧ Below w.heap.size w w' := next_any (Cfg.with_ 4 25) 10 5 5 w
theorem n5 (w : World) : Calls Try.prog 12 #[(Cfg.with_ 4 25).val, .int .i64 3] w fun e w' => e = .returned (.int .i64 3) ∧ Below w.heap.size w w' := floor_any (Cfg.with_ 4 25) 3 w
theorem n6 (w : World) : Calls Try.prog 14 #[(Cfg.with_ 4 25).val, .int .i64 10, .int .i64 60] w fun e w' => e = .returned (.int .i64 3) ∧ Below w.heap.size w w' := least_any (Cfg.with_ 4 25) 10 60 w
theorem n7 (w : World) : Calls Try.prog 17 #[.int .i64 10, .int .i64 12, .int .i64 2] w fun e w' => e = .returned (.bool true) ∧ w = w' := excess_any 10 12 2 w (by omega) (by omega) (by omega)
theorem n8 (w : World) : Calls Try.prog 17 #[.int .i64 10, .int .i64 11, .int .i64 2] w fun e w' => e = .returned (.bool false) ∧ w = w' := excess_any 10 11 2 w (by omega) (by omega) (by omega)
theorem lives_any (w : World) : Calls Try.prog 16 #[] w fun e w' => e = .returned (.bool true) ∧ Below w.heap.size w w' := by
  go_enter Try.func16, Try.ntmps16
  go_wp2_with fail
  refine (four_any _).mono ?_; rintro e w1 ⟨rfl, b1⟩
  go_wp2_with fail
  refine (n1 _).mono ?_; rintro e w2 ⟨rfl, b2⟩
  go_wp2_with fail
  refine (four_any _).mono ?_; rintro e w3 ⟨rfl, b3⟩
  go_wp2_with fail
  refine (n2 _).mono ?_; rintro e w4 ⟨rfl, b4⟩
  go_wp2_with fail
  refine (four_any _).mono ?_; rintro e w5 ⟨rfl, b5⟩
  go_wp2_with fail
  refine (n3 _).mono ?_; rintro e w6 ⟨rfl, b6⟩
  go_wp2_with fail
  refine (four_any _).mono ?_; rintro e w7 ⟨rfl, b7⟩
  go_wp2_with fail
  refine (n4 _).mono ?_; rintro e w8 ⟨rfl, b8⟩
  go_wp2_with fail
  refine (four_any _).mono ?_; rintro e w9 ⟨rfl, b9⟩
  go_wp2_with fail
  refine (n5 _).mono ?_; rintro e w10 ⟨rfl, b10⟩
  go_wp2_with fail
  refine (four_any _).mono ?_; rintro e w11 ⟨rfl, b11⟩
  go_wp2_with fail
  refine (n6 _).mono ?_; rintro e w12 ⟨rfl, b12⟩
  go_wp2_with fail
  refine (n7 _).mono ?_; rintro e w13 ⟨rfl, rfl⟩
  go_wp2_with fail
  refine (n8 _).mono ?_; rintro e w13 ⟨rfl, rfl⟩
  go_wp2_with fail
  go_ret
  exact ⟨rfl, bTrans (bTrans (bTrans (bTrans (bTrans (bTrans (bTrans (bTrans (bTrans (bTrans (bTrans b1 b2) b3) b4) b5) b6) b7) b8) b9) b10) b11) b12⟩
end Go.Proofs.Ytinkeeifndmalaa.Split
