
/- An instance as a value: its fields by name; contracts of layer 16 that ask about one. -/
import Derived.Test.YtoiofdoipmdajaaRows
import Derived.Test.YtoiofdoipmdajaaRow
import Derived.Test.YtoiofdoipmdajaaRec
import Derived.Deep.MidRow
import Derived.WalkSpells
namespace Go.Proofs.Ytoiofdoipmdajaa.Inst
open Go.ChangeShapes Go.WideShapes Go.ChangeAt Go.RowKit
open Mem Arr Lst Rec

structure Ins where
  id : Int
  tok : Int
  pool : Int
  wt : Int
  spot : Bool
  st : Int
  due : Int
  ntd : Bool
  kill : Int
  risk : Bool
  held : Bool
  ver : Int
def Ins.cells (x : Ins) : Array Value := #[.int .u64 x.id, .int .u64 x.tok, .int .i64 x.pool, .int .i64 x.wt, .bool x.spot, .int .u8 x.st, .int .u64 x.due, .bool x.ntd, .int .u64 x.kill, .bool x.risk, .bool x.held, .int .u32 x.ver]
@[reducible] def Ins.val (x : Ins) : Value := .agg x.cells
theorem Ins.one (x : Ins) : x.cells.all (·.oneCell') = true := by unfold Ins.cells; simp [Value.oneCell']
theorem Ins.f0 (x : Ins) : x.cells[0]? = some (.int .u64 x.id) := rfl
theorem Ins.f1 (x : Ins) : x.cells[1]? = some (.int .u64 x.tok) := rfl
theorem Ins.f2 (x : Ins) : x.cells[2]? = some (.int .i64 x.pool) := rfl
theorem Ins.f3 (x : Ins) : x.cells[3]? = some (.int .i64 x.wt) := rfl
theorem Ins.f4 (x : Ins) : x.cells[4]? = some (.bool x.spot) := rfl
theorem Ins.f5 (x : Ins) : x.cells[5]? = some (.int .u8 x.st) := rfl
theorem Ins.f6 (x : Ins) : x.cells[6]? = some (.int .u64 x.due) := rfl
theorem Ins.f7 (x : Ins) : x.cells[7]? = some (.bool x.ntd) := rfl
theorem Ins.f8 (x : Ins) : x.cells[8]? = some (.int .u64 x.kill) := rfl
theorem Ins.f9 (x : Ins) : x.cells[9]? = some (.bool x.risk) := rfl
theorem Ins.f10 (x : Ins) : x.cells[10]? = some (.bool x.held) := rfl
theorem Ins.f11 (x : Ins) : x.cells[11]? = some (.int .u32 x.ver) := rfl
def none_ : Ins := ⟨0, 0, 0, 0, false, 0, 0, false, 0, false, false, 0⟩
theorem infoInst : (Try.prog.info? 36).map (fun i => (i.zero, i.size, i.bytes)) = some (some none_.val, 12, 72) := by kernel_rfl
theorem sizeInst : (Try.prog.info? 36).map (·.size) = some 12 := by kernel_rfl
theorem ret_bool {p q : Bool} (h : p = q) : Ending.returned (.bool p) = .returned (.bool q) := by rw [h]
/-- what an instance must be -/
def okB (x : Ins) : Bool := decide (1 ≤ x.id ∧ x.id ≤ 4611686018427387904 ∧ x.tok ≤ 4611686018427387904 ∧ 0 ≤ x.pool ∧ x.pool < 64 ∧ 1 ≤ x.wt ∧ x.wt ≤ 100 ∧ 1 ≤ x.st ∧ x.st ≤ 9 ∧ x.due ≤ 1099511758848 ∧ x.kill ≤ 1099511758848 ∧ (x.ntd = true ∨ x.kill = 0))
def servesB (x : Ins) : Bool := decide (x.st = 3)
def comesB (x : Ins) : Bool := decide (x.st = 1 ∨ x.st = 2 ∨ x.st = 9)
theorem ok_yes {x : Ins} (h : okB x = true) : 1 ≤ x.id ∧ x.id ≤ 4611686018427387904 ∧ x.tok ≤ 4611686018427387904 ∧ 0 ≤ x.pool ∧ x.pool < 64 ∧ 1 ≤ x.wt ∧ x.wt ≤ 100 ∧ 1 ≤ x.st ∧ x.st ≤ 9 ∧ x.due ≤ 1099511758848 ∧ x.kill ≤ 1099511758848 ∧ (x.ntd = true ∨ x.kill = 0) := of_decide_eq_true h

set_option maxHeartbeats 1000000 in
theorem may_any (x : Ins) (w : World) : Calls Try.prog 21 #[x.val] w fun e w' => e = .returned (.bool (okB x)) ∧ Below w.heap.size w w' := by
  have f0 := x.f0
  have f1 := x.f1
  have f2 := x.f2
  have f3 := x.f3
  have f5 := x.f5
  have f6 := x.f6
  have f7 := x.f7
  have f8 := x.f8
  by_cases h0 : 1 ≤ x.id
  · skip
    by_cases h1 : x.id ≤ 4611686018427387904
    · skip
      by_cases h2 : x.tok ≤ 4611686018427387904
      · skip
        by_cases h3 : 0 ≤ x.pool
        · skip
          by_cases h4 : x.pool < 64
          · skip
            by_cases h5 : 1 ≤ x.wt
            · skip
              by_cases h6 : x.wt ≤ 100
              · skip
                by_cases h7 : 1 ≤ x.st
                · skip
                  by_cases h8 : x.st ≤ 9
                  · skip
                    by_cases h9 : x.due ≤ 1099511758848
                    · skip
                      by_cases h10 : x.kill ≤ 1099511758848
                      · skip
                        by_cases hn : x.ntd = true
                        · rw [hn] at f7
                          have HV : Hid (okB x = true) := Lib.hid (decide_eq_true (by simp [hn]; omega))
                          go_enter Try.func21, Try.ntmps21
                          go_wp2
                          go_ret
                          exact ⟨ret_bool (by first | exact HV.out.symm | (rw [HV.out]; simp; omega)), bAlloc (Below.refl _ _) _⟩
                        · have hn := eq_false_of_ne_true hn
                          rw [hn] at f7
                          by_cases hk : x.kill = 0
                          · rw [hk] at f8
                            have HV : Hid (okB x = true) := Lib.hid (decide_eq_true (by simp [hn]; omega))
                            go_enter Try.func21, Try.ntmps21
                            go_wp2
                            go_ret
                            exact ⟨ret_bool (by first | exact HV.out.symm | (rw [HV.out]; simp; omega)), bAlloc (Below.refl _ _) _⟩
                          · have hk2 := decide_eq_false hk
                            have HV : Hid (okB x = false) := Lib.hid (decide_eq_false (by simp only [hn]; simp; omega))
                            go_enter Try.func21, Try.ntmps21
                            go_wp2
                            go_ret
                            exact ⟨ret_bool (by first | exact HV.out.symm | (rw [HV.out]; simp; omega)), bAlloc (Below.refl _ _) _⟩
                      · skip
                        have HV : Hid (okB x = false) := Lib.hid (decide_eq_false (by omega))
                        go_enter Try.func21, Try.ntmps21
                        go_wp2
                        go_ret
                        exact ⟨ret_bool (by first | exact HV.out.symm | (rw [HV.out]; simp; omega)), bAlloc (Below.refl _ _) _⟩
                    · skip
                      have HV : Hid (okB x = false) := Lib.hid (decide_eq_false (by omega))
                      go_enter Try.func21, Try.ntmps21
                      go_wp2
                      go_ret
                      exact ⟨ret_bool (by first | exact HV.out.symm | (rw [HV.out]; simp; omega)), bAlloc (Below.refl _ _) _⟩
                  · skip
                    have HV : Hid (okB x = false) := Lib.hid (decide_eq_false (by omega))
                    go_enter Try.func21, Try.ntmps21
                    go_wp2
                    go_ret
                    exact ⟨ret_bool (by first | exact HV.out.symm | (rw [HV.out]; simp; omega)), bAlloc (Below.refl _ _) _⟩
                · skip
                  have HV : Hid (okB x = false) := Lib.hid (decide_eq_false (by omega))
                  go_enter Try.func21, Try.ntmps21
                  go_wp2
                  go_ret
                  exact ⟨ret_bool (by first | exact HV.out.symm | (rw [HV.out]; simp; omega)), bAlloc (Below.refl _ _) _⟩
              · skip
                have HV : Hid (okB x = false) := Lib.hid (decide_eq_false (by omega))
                go_enter Try.func21, Try.ntmps21
                go_wp2
                go_ret
                exact ⟨ret_bool (by first | exact HV.out.symm | (rw [HV.out]; simp; omega)), bAlloc (Below.refl _ _) _⟩
            · skip
              have HV : Hid (okB x = false) := Lib.hid (decide_eq_false (by omega))
              go_enter Try.func21, Try.ntmps21
              go_wp2
              go_ret
              exact ⟨ret_bool (by first | exact HV.out.symm | (rw [HV.out]; simp; omega)), bAlloc (Below.refl _ _) _⟩
          · skip
            have HV : Hid (okB x = false) := Lib.hid (decide_eq_false (by omega))
            go_enter Try.func21, Try.ntmps21
            go_wp2
            go_ret
            exact ⟨ret_bool (by first | exact HV.out.symm | (rw [HV.out]; simp; omega)), bAlloc (Below.refl _ _) _⟩
        · skip
          have HV : Hid (okB x = false) := Lib.hid (decide_eq_false (by omega))
          go_enter Try.func21, Try.ntmps21
          go_wp2
          go_ret
          exact ⟨ret_bool (by first | exact HV.out.symm | (rw [HV.out]; simp; omega)), bAlloc (Below.refl _ _) _⟩
      · skip
        have HV : Hid (okB x = false) := Lib.hid (decide_eq_false (by omega))
        go_enter Try.func21, Try.ntmps21
        go_wp2
        go_ret
        exact ⟨ret_bool (by first | exact HV.out.symm | (rw [HV.out]; simp; omega)), bAlloc (Below.refl _ _) _⟩
    · skip
      have HV : Hid (okB x = false) := Lib.hid (decide_eq_false (by omega))
      go_enter Try.func21, Try.ntmps21
      go_wp2
      go_ret
      exact ⟨ret_bool (by first | exact HV.out.symm | (rw [HV.out]; simp; omega)), bAlloc (Below.refl _ _) _⟩
  · skip
    have HV : Hid (okB x = false) := Lib.hid (decide_eq_false (by omega))
    go_enter Try.func21, Try.ntmps21
    go_wp2
    go_ret
    exact ⟨ret_bool (by first | exact HV.out.symm | (rw [HV.out]; simp; omega)), bAlloc (Below.refl _ _) _⟩
set_option maxHeartbeats 1000000 in
theorem refMay_any (x : Ins) (w : World) : Calls Try.prog 19 #[x.val] w fun e w' => e = .returned (.bool (okB x)) ∧ Below w.heap.size w w' := by
  have f0 := x.f0
  have f1 := x.f1
  have f2 := x.f2
  have f3 := x.f3
  have f5 := x.f5
  have f6 := x.f6
  have f7 := x.f7
  have f8 := x.f8
  by_cases h0 : 1 ≤ x.id
  · skip
    by_cases h1 : x.id ≤ 4611686018427387904
    · skip
      by_cases h2 : x.tok ≤ 4611686018427387904
      · skip
        by_cases h3 : 0 ≤ x.pool
        · skip
          by_cases h4 : x.pool < 64
          · skip
            by_cases h5 : 1 ≤ x.wt
            · skip
              by_cases h6 : x.wt ≤ 100
              · skip
                by_cases h7 : 1 ≤ x.st
                · skip
                  by_cases h8 : x.st ≤ 9
                  · skip
                    by_cases h9 : x.due ≤ 1099511758848
                    · skip
                      by_cases h10 : x.kill ≤ 1099511758848
                      · skip
                        by_cases hn : x.ntd = true
                        · rw [hn] at f7
                          have HV : Hid (okB x = true) := Lib.hid (decide_eq_true (by simp [hn]; omega))
                          go_enter Try.func19, Try.ntmps19
                          go_wp2
                          go_ret
                          exact ⟨ret_bool (by first | exact HV.out.symm | (rw [HV.out]; simp; omega)), bAlloc (Below.refl _ _) _⟩
                        · have hn := eq_false_of_ne_true hn
                          rw [hn] at f7
                          by_cases hk : x.kill = 0
                          · rw [hk] at f8
                            have HV : Hid (okB x = true) := Lib.hid (decide_eq_true (by simp [hn]; omega))
                            go_enter Try.func19, Try.ntmps19
                            go_wp2
                            go_ret
                            exact ⟨ret_bool (by first | exact HV.out.symm | (rw [HV.out]; simp; omega)), bAlloc (Below.refl _ _) _⟩
                          · have hk2 := decide_eq_false hk
                            have HV : Hid (okB x = false) := Lib.hid (decide_eq_false (by simp only [hn]; simp; omega))
                            go_enter Try.func19, Try.ntmps19
                            go_wp2
                            go_ret
                            exact ⟨ret_bool (by first | exact HV.out.symm | (rw [HV.out]; simp; omega)), bAlloc (Below.refl _ _) _⟩
                      · skip
                        have HV : Hid (okB x = false) := Lib.hid (decide_eq_false (by omega))
                        go_enter Try.func19, Try.ntmps19
                        go_wp2
                        go_ret
                        exact ⟨ret_bool (by first | exact HV.out.symm | (rw [HV.out]; simp; omega)), bAlloc (Below.refl _ _) _⟩
                    · skip
                      have HV : Hid (okB x = false) := Lib.hid (decide_eq_false (by omega))
                      go_enter Try.func19, Try.ntmps19
                      go_wp2
                      go_ret
                      exact ⟨ret_bool (by first | exact HV.out.symm | (rw [HV.out]; simp; omega)), bAlloc (Below.refl _ _) _⟩
                  · skip
                    have HV : Hid (okB x = false) := Lib.hid (decide_eq_false (by omega))
                    go_enter Try.func19, Try.ntmps19
                    go_wp2
                    go_ret
                    exact ⟨ret_bool (by first | exact HV.out.symm | (rw [HV.out]; simp; omega)), bAlloc (Below.refl _ _) _⟩
                · skip
                  have HV : Hid (okB x = false) := Lib.hid (decide_eq_false (by omega))
                  go_enter Try.func19, Try.ntmps19
                  go_wp2
                  go_ret
                  exact ⟨ret_bool (by first | exact HV.out.symm | (rw [HV.out]; simp; omega)), bAlloc (Below.refl _ _) _⟩
              · skip
                have HV : Hid (okB x = false) := Lib.hid (decide_eq_false (by omega))
                go_enter Try.func19, Try.ntmps19
                go_wp2
                go_ret
                exact ⟨ret_bool (by first | exact HV.out.symm | (rw [HV.out]; simp; omega)), bAlloc (Below.refl _ _) _⟩
            · skip
              have HV : Hid (okB x = false) := Lib.hid (decide_eq_false (by omega))
              go_enter Try.func19, Try.ntmps19
              go_wp2
              go_ret
              exact ⟨ret_bool (by first | exact HV.out.symm | (rw [HV.out]; simp; omega)), bAlloc (Below.refl _ _) _⟩
          · skip
            have HV : Hid (okB x = false) := Lib.hid (decide_eq_false (by omega))
            go_enter Try.func19, Try.ntmps19
            go_wp2
            go_ret
            exact ⟨ret_bool (by first | exact HV.out.symm | (rw [HV.out]; simp; omega)), bAlloc (Below.refl _ _) _⟩
        · skip
          have HV : Hid (okB x = false) := Lib.hid (decide_eq_false (by omega))
          go_enter Try.func19, Try.ntmps19
          go_wp2
          go_ret
          exact ⟨ret_bool (by first | exact HV.out.symm | (rw [HV.out]; simp; omega)), bAlloc (Below.refl _ _) _⟩
      · skip
        have HV : Hid (okB x = false) := Lib.hid (decide_eq_false (by omega))
        go_enter Try.func19, Try.ntmps19
        go_wp2
        go_ret
        exact ⟨ret_bool (by first | exact HV.out.symm | (rw [HV.out]; simp; omega)), bAlloc (Below.refl _ _) _⟩
    · skip
      have HV : Hid (okB x = false) := Lib.hid (decide_eq_false (by omega))
      go_enter Try.func19, Try.ntmps19
      go_wp2
      go_ret
      exact ⟨ret_bool (by first | exact HV.out.symm | (rw [HV.out]; simp; omega)), bAlloc (Below.refl _ _) _⟩
  · skip
    have HV : Hid (okB x = false) := Lib.hid (decide_eq_false (by omega))
    go_enter Try.func19, Try.ntmps19
    go_wp2
    go_ret
    exact ⟨ret_bool (by first | exact HV.out.symm | (rw [HV.out]; simp; omega)), bAlloc (Below.refl _ _) _⟩
end Go.Proofs.Ytoiofdoipmdajaa.Inst
