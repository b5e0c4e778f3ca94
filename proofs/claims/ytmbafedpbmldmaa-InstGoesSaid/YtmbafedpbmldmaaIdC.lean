
/- What becomes of an instance: until when, past which hook, and whether it may be asked. -/
import Derived.Test.YtmbafedpbmldmaaIdB
namespace Go.Proofs.Ytmbafedpbmldmaa.Does
open Go.RowKit Go.ChangeShapes Go.WideShapes Go.ChangeAt
open Mem Arr Lst Rec Inst Grown Opens St0
attribute [local go_sem] Oper.semAt_some
/-- what is known of a tick and of the spans of a configuration -/
structure InC (now : Int) (c : Cfg) : Prop where
  n0 : 0 ≤ now
  n1 : now ≤ 1099511627776
  a0 : 0 ≤ c.hookIn
  a1 : c.hookIn ≤ 65536
  b0 : 0 ≤ c.hookOut
  b1 : c.hookOut ≤ 65536
  d0 : 0 ≤ c.drain
  d1 : c.drain ≤ 65536
  e0 : 0 ≤ c.deadline
  e1 : c.deadline ≤ 65536
theorem ret_int {k : IntKind} {a b : Int} (h : a = b) : Ending.returned (.int k a) = .returned (.int k b) := by rw [h]
def untV (wt due now : Int) (c : Cfg) : Int :=
  if wt = 1 then due else if wt = 2 then now + c.hookIn else if wt = 3 then now + c.hookOut else if wt = 4 then now + c.drain else if wt = 5 then now + c.deadline else 0
/-- the row that goes past a hook which the configuration does not have -/
def unhV (what : Int) (c : Cfg) (r : Rw) : Rw :=
  if what = 1 ∧ r.to = 2 ∧ c.hookIn = 0 then ⟨0, 0, 3, 0, 0⟩ else if what = 8 ∧ r.to = 5 ∧ c.hookOut = 0 then ⟨0, 0, 6, 0, 2⟩ else r
def mayDoB (x : Ins) (what now at_ : Int) (c : Cfg) : Bool :=
  decide (c.hookIn ≤ 65536 ∧ c.hookOut ≤ 65536 ∧ c.drain ≤ 65536 ∧ c.deadline ≤ 65536) && okB x && decide (1 ≤ what ∧ what ≤ 11 ∧ now ≤ 1099511627776 ∧ at_ ≤ 1099511627776)
set_option maxHeartbeats 2000000 in
theorem until_any (wt due now : Int) (c : Cfg) (h : InC now c) (w : World) : Calls Try.prog 21 #[.int .u8 wt, .int .u64 due, .int .u64 now, c.val] w fun e w' => e = .returned (.int .u64 (untV wt due now c)) ∧ Below w.heap.size w w' := by
  obtain ⟨n0, n1, a0, a1, b0, b1, d0, d1, e0, e1⟩ := h
  have R : (w.alloc (.cells c.cells 30)).heap[w.heap.size]? = some (.cells c.cells 30 (0, 0)) := heap_alloc_new _ _
  have c10 := cell_row R c.f10
  have c11 := cell_row R c.f11
  have c12 := cell_row R c.f12
  have c14 := cell_row R c.f14
  have w10 : IntKind.u64.wrap (now + c.drain) = now + c.drain := IntWalk.u64_in _ (by omega)
  have w11 : IntKind.u64.wrap (now + c.hookIn) = now + c.hookIn := IntWalk.u64_in _ (by omega)
  have w12 : IntKind.u64.wrap (now + c.hookOut) = now + c.hookOut := IntWalk.u64_in _ (by omega)
  have w14 : IntKind.u64.wrap (now + c.deadline) = now + c.deadline := IntWalk.u64_in _ (by omega)
  clear R n0 n1 a0 a1 b0 b1 d0 d1 e0 e1
  by_cases q1 : wt = 1
  · have t1 : (wt == 1) = true := by simp [q1]
    have HV : Hid (untV wt due now c = due) := Lib.hid (by unfold untV; rw [if_pos q1])
    go_enter Try.func21, Try.ntmps21
    go_wp2
    go_ret
    exact ⟨ret_int HV.out.symm, bAlloc (Below.refl _ _) _⟩
  by_cases q2 : wt = 2
  · have t2 : (wt == 2) = true := by simp [q2]
    have u1 : (wt == 1) = false := by simp [q1]
    have HV : Hid (untV wt due now c = now + c.hookIn) := Lib.hid (by unfold untV; rw [if_neg q1, if_pos q2])
    go_enter Try.func21, Try.ntmps21
    go_wp2
    go_ret
    exact ⟨ret_int HV.out.symm, bAlloc (Below.refl _ _) _⟩
  by_cases q3 : wt = 3
  · have t3 : (wt == 3) = true := by simp [q3]
    have u1 : (wt == 1) = false := by simp [q1]
    have u2 : (wt == 2) = false := by simp [q2]
    have HV : Hid (untV wt due now c = now + c.hookOut) := Lib.hid (by unfold untV; rw [if_neg q1, if_neg q2, if_pos q3])
    go_enter Try.func21, Try.ntmps21
    go_wp2
    go_ret
    exact ⟨ret_int HV.out.symm, bAlloc (Below.refl _ _) _⟩
  by_cases q4 : wt = 4
  · have t4 : (wt == 4) = true := by simp [q4]
    have u1 : (wt == 1) = false := by simp [q1]
    have u2 : (wt == 2) = false := by simp [q2]
    have u3 : (wt == 3) = false := by simp [q3]
    have HV : Hid (untV wt due now c = now + c.drain) := Lib.hid (by unfold untV; rw [if_neg q1, if_neg q2, if_neg q3, if_pos q4])
    go_enter Try.func21, Try.ntmps21
    go_wp2
    go_ret
    exact ⟨ret_int HV.out.symm, bAlloc (Below.refl _ _) _⟩
  by_cases q5 : wt = 5
  · have t5 : (wt == 5) = true := by simp [q5]
    have u1 : (wt == 1) = false := by simp [q1]
    have u2 : (wt == 2) = false := by simp [q2]
    have u3 : (wt == 3) = false := by simp [q3]
    have u4 : (wt == 4) = false := by simp [q4]
    have HV : Hid (untV wt due now c = now + c.deadline) := Lib.hid (by unfold untV; rw [if_neg q1, if_neg q2, if_neg q3, if_neg q4, if_pos q5])
    go_enter Try.func21, Try.ntmps21
    go_wp2
    go_ret
    exact ⟨ret_int HV.out.symm, bAlloc (Below.refl _ _) _⟩
  have u1 : (wt == 1) = false := by simp [q1]
  have u2 : (wt == 2) = false := by simp [q2]
  have u3 : (wt == 3) = false := by simp [q3]
  have u4 : (wt == 4) = false := by simp [q4]
  have u5 : (wt == 5) = false := by simp [q5]
  have HV : Hid (untV wt due now c = 0) := Lib.hid (by unfold untV; rw [if_neg q1, if_neg q2, if_neg q3, if_neg q4, if_neg q5])
  go_enter Try.func21, Try.ntmps21
  go_wp2
  go_ret
  exact ⟨ret_int HV.out.symm, bAlloc (Below.refl _ _) _⟩
set_option maxHeartbeats 4000000 in
theorem unhooked_any (what : Int) (r : Rw) (c : Cfg) (w : World) : Calls Try.prog 20 #[rv r.to r.wait r.ask, .int .u8 what, c.val] w fun e w' => e = .returned (rv (unhV what c r).to (unhV what c r).wait (unhV what c r).ask) ∧ Below w.heap.size w w' := by
  obtain ⟨r1, r2, a, b, k⟩ := r
  show Calls Try.prog 20 #[rv a b k, .int .u8 what, c.val] w _
  have RR : (w.alloc (.cells #[.int .u8 a, .int .u8 b, .int .u8 k] 51)).heap[w.heap.size]? = some (.cells #[.int .u8 a, .int .u8 b, .int .u8 k] 51 (0, 0)) := heap_alloc_new _ _
  have RC : ((w.alloc (.cells #[.int .u8 a, .int .u8 b, .int .u8 k] 51)).alloc (.cells c.cells 30)).heap[w.heap.size + 1]? = some (.cells c.cells 30 (0, 0)) := by
    have := heap_alloc_new (w.alloc (.cells #[.int .u8 a, .int .u8 b, .int .u8 k] 51)) (.cells c.cells 30)
    rw [World.size_alloc] at this; exact this
  have R2 : (((w.alloc (.cells #[.int .u8 a, .int .u8 b, .int .u8 k] 51)).alloc (.cells c.cells 30)).alloc (.cells #[.int .u8 0, .int .u8 0, .int .u8 0] 51)).heap[w.heap.size]? = some (.cells #[.int .u8 a, .int .u8 b, .int .u8 k] 51 (0, 0)) := heap_under (heap_under RR)
  have C2 : (((w.alloc (.cells #[.int .u8 a, .int .u8 b, .int .u8 k] 51)).alloc (.cells c.cells 30)).alloc (.cells #[.int .u8 0, .int .u8 0, .int .u8 0] 51)).heap[w.heap.size + 1]? = some (.cells c.cells 30 (0, 0)) := heap_under RC
  have B3 : ∀ x, Below w.heap.size w (((w.alloc (.cells #[.int .u8 a, .int .u8 b, .int .u8 k] 51)).alloc (.cells c.cells 30)).alloc (.cells x 51)) := fun x => bAlloc (bAlloc (bAlloc (Below.refl _ _) _) _) _
  have N3 : ∀ x, (((w.alloc (.cells #[.int .u8 a, .int .u8 b, .int .u8 k] 51)).alloc (.cells c.cells 30)).alloc (.cells x 51)).heap[w.heap.size + 1 + 1]? = some (.cells x 51 (0, 0)) := fun x => by
    have := heap_alloc_new ((w.alloc (.cells #[.int .u8 a, .int .u8 b, .int .u8 k] 51)).alloc (.cells c.cells 30)) (.cells x 51)
    rw [World.size_alloc, World.size_alloc] at this; exact this
  have hs : ((w.alloc (.cells #[.int .u8 a, .int .u8 b, .int .u8 k] 51)).alloc (.cells c.cells 30)).heap.size = w.heap.size + 1 + 1 := by simp
  have z0 := cell_row R2 (k := 0) (v := .int .u8 a) rfl
  have c11 := cell_row C2 c.f11
  have c12 := cell_row C2 c.f12
  have RG := range_row R2
  replace B3 := Lib.hid B3
  replace N3 := Lib.hid N3
  replace hs := Lib.hid hs
  replace RG := Lib.hid RG
  clear RR RC R2 C2
  by_cases q1 : what = 1
  · have t1 : (what == 1) = true := by simp [q1]
    by_cases q2 : a = 2
    · have t2 : (a == 2) = true := by simp [q2]
      by_cases q3 : c.hookIn = 0
      · have t3 : (c.hookIn == 0) = true := by simp [q3]
        have HV : Hid (unhV what c ⟨r1, r2, a, b, k⟩ = ⟨0, 0, 3, 0, 0⟩) := Lib.hid (by unfold unhV; rw [if_pos ⟨q1, q2, q3⟩])
        clear q1 q2 q3
        go_enter Try.func20, Try.ntmps20
        go_wp2_with (first | ((with_reducible refine at_load' 51 ?_); (refine wpList_load_mid rfl 51 _ rfl w.heap.size 0 rfl (rc a b k).toList _ RG.out Try.underlying51 rfl (sizeRow.trans rfl) ?_)) | ((with_reducible refine at_store 51 ?_); (refine store_plain rfl 51 _ _ rfl (rc 3 0 0) _ _ (by rw [hs.out]; rfl) rfl (sizeRow.trans rfl) rfl (rc_one _ _ _) ?_)))
        refine bodyPost_ret (v := rv 3 0 0) (results_cell_row rfl _ _ (w.heap.size + 1 + 1) _ (rc 3 0 0) _ _ rfl (N3.out _) Try.underlying51 rfl (sizeRow.trans rfl)) rfl ?_
        exact ⟨by rw [HV.out], B3.out _⟩
      · have t3 : (c.hookIn == 0) = false := by simp [q3]
        have t4 : (what == 8) = false := by simp [q1]
        have HV : Hid (unhV what c ⟨r1, r2, a, b, k⟩ = ⟨r1, r2, a, b, k⟩) := Lib.hid (by unfold unhV; rw [if_neg (fun e => q3 e.2.2), if_neg (fun e => absurd e.1 (by omega))])
        clear q1 q2 q3
        go_enter Try.func20, Try.ntmps20
        go_wp2_with (first | ((with_reducible refine at_load' 51 ?_); (refine wpList_load_mid rfl 51 _ rfl w.heap.size 0 rfl (rc a b k).toList _ RG.out Try.underlying51 rfl (sizeRow.trans rfl) ?_)) | ((with_reducible refine at_store 51 ?_); (refine store_plain rfl 51 _ _ rfl (rc a b k) _ _ (by rw [hs.out]; rfl) rfl (sizeRow.trans rfl) rfl (rc_one _ _ _) ?_)))
        refine bodyPost_ret (v := rv a b k) (results_cell_row rfl _ _ (w.heap.size + 1 + 1) _ (rc a b k) _ _ rfl (N3.out _) Try.underlying51 rfl (sizeRow.trans rfl)) rfl ?_
        exact ⟨by rw [HV.out], B3.out _⟩
    · have t2 : (a == 2) = false := by simp [q2]
      have t4 : (what == 8) = false := by simp [q1]
      have HV : Hid (unhV what c ⟨r1, r2, a, b, k⟩ = ⟨r1, r2, a, b, k⟩) := Lib.hid (by unfold unhV; rw [if_neg (fun e => q2 e.2.1), if_neg (fun e => absurd e.1 (by omega))])
      clear q1 q2
      go_enter Try.func20, Try.ntmps20
      go_wp2_with (first | ((with_reducible refine at_load' 51 ?_); (refine wpList_load_mid rfl 51 _ rfl w.heap.size 0 rfl (rc a b k).toList _ RG.out Try.underlying51 rfl (sizeRow.trans rfl) ?_)) | ((with_reducible refine at_store 51 ?_); (refine store_plain rfl 51 _ _ rfl (rc a b k) _ _ (by rw [hs.out]; rfl) rfl (sizeRow.trans rfl) rfl (rc_one _ _ _) ?_)))
      refine bodyPost_ret (v := rv a b k) (results_cell_row rfl _ _ (w.heap.size + 1 + 1) _ (rc a b k) _ _ rfl (N3.out _) Try.underlying51 rfl (sizeRow.trans rfl)) rfl ?_
      exact ⟨by rw [HV.out], B3.out _⟩
  · have t1 : (what == 1) = false := by simp [q1]
    by_cases q4 : what = 8
    · have t4 : (what == 8) = true := by simp [q4]
      by_cases q5 : a = 5
      · have t5 : (a == 5) = true := by simp [q5]
        by_cases q6 : c.hookOut = 0
        · have t6 : (c.hookOut == 0) = true := by simp [q6]
          have HV : Hid (unhV what c ⟨r1, r2, a, b, k⟩ = ⟨0, 0, 6, 0, 2⟩) := Lib.hid (by unfold unhV; rw [if_neg (fun e => q1 e.1), if_pos ⟨q4, q5, q6⟩])
          clear q1 q4 q5 q6
          go_enter Try.func20, Try.ntmps20
          go_wp2_with fail
          refine (ends_any _).mono ?_
          rintro _ u ⟨rfl, bu⟩
          have R3 := (bu.block _ (Array.getElem?_eq_some_iff.1 (N3.out _)).1).trans (N3.out _)
          have BU := Lib.hid (bTrans (B3.out _) bu)
          clear bu
          go_wp2_with (first | ((with_reducible refine at_store 51 ?_); go_must (refine store_whole rfl 51 _ _ rfl (w.heap.size + 1 + 1) (rc 6 0 2) _ _ rfl rfl R3 (sizeRow.trans rfl) rfl (rc_one _ _ _) ?_)))
          refine bodyPost_ret (v := rv 6 0 2) (results_cell_row rfl _ _ (w.heap.size + 1 + 1) _ (rc 6 0 2) _ _ rfl (row_at R3) Try.underlying51 rfl (sizeRow.trans rfl)) rfl ?_
          exact ⟨by rw [HV.out], below_row _ BU.out (by omega)⟩
        · have t6 : (c.hookOut == 0) = false := by simp [q6]
          have HV : Hid (unhV what c ⟨r1, r2, a, b, k⟩ = ⟨r1, r2, a, b, k⟩) := Lib.hid (by unfold unhV; rw [if_neg (fun e => q1 e.1), if_neg (fun e => q6 e.2.2)])
          clear q1 q4 q5 q6
          go_enter Try.func20, Try.ntmps20
          go_wp2_with (first | ((with_reducible refine at_load' 51 ?_); (refine wpList_load_mid rfl 51 _ rfl w.heap.size 0 rfl (rc a b k).toList _ RG.out Try.underlying51 rfl (sizeRow.trans rfl) ?_)) | ((with_reducible refine at_store 51 ?_); (refine store_plain rfl 51 _ _ rfl (rc a b k) _ _ (by rw [hs.out]; rfl) rfl (sizeRow.trans rfl) rfl (rc_one _ _ _) ?_)))
          refine bodyPost_ret (v := rv a b k) (results_cell_row rfl _ _ (w.heap.size + 1 + 1) _ (rc a b k) _ _ rfl (N3.out _) Try.underlying51 rfl (sizeRow.trans rfl)) rfl ?_
          exact ⟨by rw [HV.out], B3.out _⟩
      · have t5 : (a == 5) = false := by simp [q5]
        have HV : Hid (unhV what c ⟨r1, r2, a, b, k⟩ = ⟨r1, r2, a, b, k⟩) := Lib.hid (by unfold unhV; rw [if_neg (fun e => q1 e.1), if_neg (fun e => q5 e.2.1)])
        clear q1 q4 q5
        go_enter Try.func20, Try.ntmps20
        go_wp2_with (first | ((with_reducible refine at_load' 51 ?_); (refine wpList_load_mid rfl 51 _ rfl w.heap.size 0 rfl (rc a b k).toList _ RG.out Try.underlying51 rfl (sizeRow.trans rfl) ?_)) | ((with_reducible refine at_store 51 ?_); (refine store_plain rfl 51 _ _ rfl (rc a b k) _ _ (by rw [hs.out]; rfl) rfl (sizeRow.trans rfl) rfl (rc_one _ _ _) ?_)))
        refine bodyPost_ret (v := rv a b k) (results_cell_row rfl _ _ (w.heap.size + 1 + 1) _ (rc a b k) _ _ rfl (N3.out _) Try.underlying51 rfl (sizeRow.trans rfl)) rfl ?_
        exact ⟨by rw [HV.out], B3.out _⟩
    · have t4 : (what == 8) = false := by simp [q4]
      have HV : Hid (unhV what c ⟨r1, r2, a, b, k⟩ = ⟨r1, r2, a, b, k⟩) := Lib.hid (by unfold unhV; rw [if_neg (fun e => q1 e.1), if_neg (fun e => q4 e.1)])
      clear q1 q4
      go_enter Try.func20, Try.ntmps20
      go_wp2_with (first | ((with_reducible refine at_load' 51 ?_); (refine wpList_load_mid rfl 51 _ rfl w.heap.size 0 rfl (rc a b k).toList _ RG.out Try.underlying51 rfl (sizeRow.trans rfl) ?_)) | ((with_reducible refine at_store 51 ?_); (refine store_plain rfl 51 _ _ rfl (rc a b k) _ _ (by rw [hs.out]; rfl) rfl (sizeRow.trans rfl) rfl (rc_one _ _ _) ?_)))
      refine bodyPost_ret (v := rv a b k) (results_cell_row rfl _ _ (w.heap.size + 1 + 1) _ (rc a b k) _ _ rfl (N3.out _) Try.underlying51 rfl (sizeRow.trans rfl)) rfl ?_
      exact ⟨by rw [HV.out], B3.out _⟩
theorem run_idx (cs : Array Value) (i : Nat) (z : Int) (hz : z = (i : Int)) (v : Value) (hv : cs[i]? = some v) (hi : i < 4) (w : World) : (Instr.index 63 (.agg cs) (.int .i64 z)).run Try.prog w = .ok v w := by
  obtain ⟨t, ht⟩ : ∃ t, Try.prog.info? 22 = some t := ⟨_, rfl⟩
  have ec : Try.prog.cellsOf 22 = 1 := by kernel_rfl
  have hp : Try.prog.plainKey 22 = true := by kernel_rfl
  have hs := run_sizeOf (P := Try.prog) w ht
  rw [ec] at hs
  subst hz
  have h1 : ¬ 4 ≤ i := by omega
  simp [Instr.index, asIntOf, run_underlying Try.underlying63, hs, run_part_plain (P := Try.prog) w hp hv, Result.andThen, h1]
theorem may_is (x : Ins) (v : Bool) (hv : okB x = v) (w : World) : Calls Try.prog 9 #[x.val] w fun e w' => e = .returned (.bool v) ∧ Below w.heap.size w w' := by
  have := may_any x w; rw [hv] at this; exact this
set_option maxHeartbeats 8000000 in
theorem mayDo_any (x : Ins) (what now at_ : Int) (c : Cfg) (w : World) : Calls Try.prog 18 #[x.val, .int .u8 what, .int .u64 now, .int .u64 at_, c.val] w fun e w' => e = .returned (.bool (mayDoB x what now at_ c)) ∧ Below w.heap.size w w' := by
  have RC : ((w.alloc (.cells x.cells 25)).alloc (.cells c.cells 30)).heap[w.heap.size + 1]? = some (.cells c.cells 30 (0, 0)) := by
    have := heap_alloc_new (w.alloc (.cells x.cells 25)) (.cells c.cells 30)
    rw [World.size_alloc] at this; exact this
  have RX : ((w.alloc (.cells x.cells 25)).alloc (.cells c.cells 30)).heap[w.heap.size]? = some (.cells x.cells 25 (0, 0)) := heap_under (heap_alloc_new _ _)
  have BW := Lib.hid (bAlloc (bAlloc (Below.refl _ w) (.cells x.cells 25)) (.cells c.cells 30))
  have c10 := cell_row RC c.f10
  have c11 := cell_row RC c.f11
  have c12 := cell_row RC c.f12
  have c14 := cell_row RC c.f14
  have R := range_row RX
  have i0 := fun W => run_idx #[.int .u64 c.hookIn, .int .u64 c.hookOut, .int .u64 c.drain, .int .u64 c.deadline] 0 0 rfl _ rfl (by omega) W
  have i1 := fun W => run_idx #[.int .u64 c.hookIn, .int .u64 c.hookOut, .int .u64 c.drain, .int .u64 c.deadline] 1 1 rfl _ rfl (by omega) W
  have i2 := fun W => run_idx #[.int .u64 c.hookIn, .int .u64 c.hookOut, .int .u64 c.drain, .int .u64 c.deadline] 2 2 rfl _ rfl (by omega) W
  have i3 := fun W => run_idx #[.int .u64 c.hookIn, .int .u64 c.hookOut, .int .u64 c.drain, .int .u64 c.deadline] 3 3 rfl _ rfl (by omega) W
  clear RC RX
  by_cases s0 : 65536 < c.hookIn
  · have HV : Hid (mayDoB x what now at_ c = false) := Lib.hid (by unfold mayDoB; rw [decide_eq_false (by omega), Bool.false_and, Bool.false_and])
    have k0 := decide_eq_true s0
    go_enter Try.func18, Try.ntmps18
    go_wp2_with fail
    refine wp_loop_rounds 5 ?_
    rw [rounds_succ]
    go_wp2_with fail
    go_ret
    exact ⟨ret_bool (by rw [HV.out]), BW.out⟩
  by_cases s1 : 65536 < c.hookOut
  · have HV : Hid (mayDoB x what now at_ c = false) := Lib.hid (by unfold mayDoB; rw [decide_eq_false (by omega), Bool.false_and, Bool.false_and])
    have k1 := decide_eq_true s1
    have k0 := decide_eq_false s0
    go_enter Try.func18, Try.ntmps18
    go_wp2_with fail
    refine wp_loop_rounds 5 ?_
    rw [rounds_succ]
    go_wp2_with fail
    rw [rounds_succ]
    go_wp2_with fail
    go_ret
    exact ⟨ret_bool (by rw [HV.out]), BW.out⟩
  by_cases s2 : 65536 < c.drain
  · have HV : Hid (mayDoB x what now at_ c = false) := Lib.hid (by unfold mayDoB; rw [decide_eq_false (by omega), Bool.false_and, Bool.false_and])
    have k2 := decide_eq_true s2
    have k0 := decide_eq_false s0
    have k1 := decide_eq_false s1
    go_enter Try.func18, Try.ntmps18
    go_wp2_with fail
    refine wp_loop_rounds 5 ?_
    rw [rounds_succ]
    go_wp2_with fail
    rw [rounds_succ]
    go_wp2_with fail
    rw [rounds_succ]
    go_wp2_with fail
    go_ret
    exact ⟨ret_bool (by rw [HV.out]), BW.out⟩
  by_cases s3 : 65536 < c.deadline
  · have HV : Hid (mayDoB x what now at_ c = false) := Lib.hid (by unfold mayDoB; rw [decide_eq_false (by omega), Bool.false_and, Bool.false_and])
    have k3 := decide_eq_true s3
    have k0 := decide_eq_false s0
    have k1 := decide_eq_false s1
    have k2 := decide_eq_false s2
    go_enter Try.func18, Try.ntmps18
    go_wp2_with fail
    refine wp_loop_rounds 5 ?_
    rw [rounds_succ]
    go_wp2_with fail
    rw [rounds_succ]
    go_wp2_with fail
    rw [rounds_succ]
    go_wp2_with fail
    rw [rounds_succ]
    go_wp2_with fail
    go_ret
    exact ⟨ret_bool (by rw [HV.out]), BW.out⟩
  have k0 := decide_eq_false s0
  have k1 := decide_eq_false s1
  have k2 := decide_eq_false s2
  have k3 := decide_eq_false s3
  have sp : (c.hookIn ≤ 65536 ∧ c.hookOut ≤ 65536 ∧ c.drain ≤ 65536 ∧ c.deadline ≤ 65536) := by omega
  rcases ho : okB x with _ | _
  · have M := Lib.hid (fun W => may_is x false ho W)
    have HV : Hid (mayDoB x what now at_ c = false) := Lib.hid (by unfold mayDoB; rw [decide_eq_true sp, ho]; rfl)
    clear sp s0 s1 s2 s3
    go_enter Try.func18, Try.ntmps18
    go_wp2_with fail
    refine wp_loop_rounds 5 ?_
    rw [rounds_succ]
    go_wp2_with fail
    rw [rounds_succ]
    go_wp2_with fail
    rw [rounds_succ]
    go_wp2_with fail
    rw [rounds_succ]
    go_wp2_with fail
    rw [rounds_succ]
    go_wp2_with ((with_reducible refine at_load' 25 ?_); (refine load_ins rfl _ rfl _ _ rfl x R ?_))
    refine (M.out _).mono ?_
    rintro _ u ⟨rfl, bu⟩
    have BU := Lib.hid (bTrans BW.out bu)
    clear bu
    go_wp2
    go_ret
    exact ⟨ret_bool (by rw [HV.out]), BU.out⟩
  · have M := Lib.hid (fun W => may_is x true ho W)
    by_cases m0 : 1 ≤ what
    · have e0 := decide_eq_true m0
      by_cases m1 : what ≤ 11
      · have e1 := decide_eq_true m1
        by_cases m2 : now ≤ 1099511627776
        · have e2 := decide_eq_true m2
          by_cases m3 : at_ ≤ 1099511627776
          · have e3 := decide_eq_true m3
            have pr : (1 ≤ what ∧ what ≤ 11 ∧ now ≤ 1099511627776 ∧ at_ ≤ 1099511627776) := ⟨m0, m1, m2, m3⟩
            have HV : Hid (mayDoB x what now at_ c = true) := Lib.hid (by unfold mayDoB; rw [decide_eq_true sp, ho, decide_eq_true pr]; rfl)
            clear sp s0 s1 s2 s3
            go_enter Try.func18, Try.ntmps18
            go_wp2_with fail
            refine wp_loop_rounds 5 ?_
            rw [rounds_succ]
            go_wp2_with fail
            rw [rounds_succ]
            go_wp2_with fail
            rw [rounds_succ]
            go_wp2_with fail
            rw [rounds_succ]
            go_wp2_with fail
            rw [rounds_succ]
            go_wp2_with ((with_reducible refine at_load' 25 ?_); (refine load_ins rfl _ rfl _ _ rfl x R ?_))
            refine (M.out _).mono ?_
            rintro _ u ⟨rfl, bu⟩
            have BU := Lib.hid (bTrans BW.out bu)
            clear bu
            go_wp2
            go_ret
            exact ⟨ret_bool (by rw [HV.out]), BU.out⟩
          · have e3 := decide_eq_false m3
            have HV : Hid (mayDoB x what now at_ c = false) := Lib.hid (by unfold mayDoB; rw [decide_eq_true sp, ho, decide_eq_false (fun e => m3 e.2.2.2)]; rfl)
            clear sp s0 s1 s2 s3
            go_enter Try.func18, Try.ntmps18
            go_wp2_with fail
            refine wp_loop_rounds 5 ?_
            rw [rounds_succ]
            go_wp2_with fail
            rw [rounds_succ]
            go_wp2_with fail
            rw [rounds_succ]
            go_wp2_with fail
            rw [rounds_succ]
            go_wp2_with fail
            rw [rounds_succ]
            go_wp2_with ((with_reducible refine at_load' 25 ?_); (refine load_ins rfl _ rfl _ _ rfl x R ?_))
            refine (M.out _).mono ?_
            rintro _ u ⟨rfl, bu⟩
            have BU := Lib.hid (bTrans BW.out bu)
            clear bu
            go_wp2
            go_ret
            exact ⟨ret_bool (by rw [HV.out]), BU.out⟩
        · have e2 := decide_eq_false m2
          have HV : Hid (mayDoB x what now at_ c = false) := Lib.hid (by unfold mayDoB; rw [decide_eq_true sp, ho, decide_eq_false (fun e => m2 e.2.2.1)]; rfl)
          clear sp s0 s1 s2 s3
          go_enter Try.func18, Try.ntmps18
          go_wp2_with fail
          refine wp_loop_rounds 5 ?_
          rw [rounds_succ]
          go_wp2_with fail
          rw [rounds_succ]
          go_wp2_with fail
          rw [rounds_succ]
          go_wp2_with fail
          rw [rounds_succ]
          go_wp2_with fail
          rw [rounds_succ]
          go_wp2_with ((with_reducible refine at_load' 25 ?_); (refine load_ins rfl _ rfl _ _ rfl x R ?_))
          refine (M.out _).mono ?_
          rintro _ u ⟨rfl, bu⟩
          have BU := Lib.hid (bTrans BW.out bu)
          clear bu
          go_wp2
          go_ret
          exact ⟨ret_bool (by rw [HV.out]), BU.out⟩
      · have e1 := decide_eq_false m1
        have HV : Hid (mayDoB x what now at_ c = false) := Lib.hid (by unfold mayDoB; rw [decide_eq_true sp, ho, decide_eq_false (fun e => m1 e.2.1)]; rfl)
        clear sp s0 s1 s2 s3
        go_enter Try.func18, Try.ntmps18
        go_wp2_with fail
        refine wp_loop_rounds 5 ?_
        rw [rounds_succ]
        go_wp2_with fail
        rw [rounds_succ]
        go_wp2_with fail
        rw [rounds_succ]
        go_wp2_with fail
        rw [rounds_succ]
        go_wp2_with fail
        rw [rounds_succ]
        go_wp2_with ((with_reducible refine at_load' 25 ?_); (refine load_ins rfl _ rfl _ _ rfl x R ?_))
        refine (M.out _).mono ?_
        rintro _ u ⟨rfl, bu⟩
        have BU := Lib.hid (bTrans BW.out bu)
        clear bu
        go_wp2
        go_ret
        exact ⟨ret_bool (by rw [HV.out]), BU.out⟩
    · have e0 := decide_eq_false m0
      have HV : Hid (mayDoB x what now at_ c = false) := Lib.hid (by unfold mayDoB; rw [decide_eq_true sp, ho, decide_eq_false (fun e => m0 e.1)]; rfl)
      clear sp s0 s1 s2 s3
      go_enter Try.func18, Try.ntmps18
      go_wp2_with fail
      refine wp_loop_rounds 5 ?_
      rw [rounds_succ]
      go_wp2_with fail
      rw [rounds_succ]
      go_wp2_with fail
      rw [rounds_succ]
      go_wp2_with fail
      rw [rounds_succ]
      go_wp2_with fail
      rw [rounds_succ]
      go_wp2_with ((with_reducible refine at_load' 25 ?_); (refine load_ins rfl _ rfl _ _ rfl x R ?_))
      refine (M.out _).mono ?_
      rintro _ u ⟨rfl, bu⟩
      have BU := Lib.hid (bTrans BW.out bu)
      clear bu
      go_wp2
      go_ret
      exact ⟨ret_bool (by rw [HV.out]), BU.out⟩
end Go.Proofs.Ytmbafedpbmldmaa.Does
