
/- The instance of a launch that was granted. -/
import Derived.Test.YtmbafedpbmldmaaIdH
namespace Go.Proofs.Ytmbafedpbmldmaa.Does
open Go.RowKit Go.ChangeShapes Go.WideShapes Go.ChangeAt
open Mem Arr Lst Rec Inst Grown Opens St0 Flow
attribute [local go_sem] Oper.semAt_some
set_option linter.unusedSimpArgs false
def bornX (id : Int) (x : Opn) (now : Int) (c : Cfg) : Ins := ⟨id, x.tok, x.pool, x.wt, x.spot, 1, now + c.deadline, false, 0, false, false, x.ver⟩
def newX (id : Int) (x : Opn) (now : Int) (c : Cfg) : Ins := if 1099511627776 < now ∨ 65536 < c.deadline then Inst.none_ else if x.warm = true then { bornX id x now c with st := 7 } else bornX id x now c
set_option maxHeartbeats 2000000 in
theorem until5_any (due now : Int) (c : Cfg) (n0 : 0 ≤ now) (n1 : now ≤ 1099511627776) (d0 : 0 ≤ c.deadline) (d1 : c.deadline ≤ 65536) (w : World) : Calls Try.prog 21 #[.int .u8 5, .int .u64 due, .int .u64 now, c.val] w fun e w' => e = .returned (.int .u64 (now + c.deadline)) ∧ Below w.heap.size w w' := by
  have R : (w.alloc (.cells c.cells 30)).heap[w.heap.size]? = some (.cells c.cells 30 (0, 0)) := heap_alloc_new _ _
  have c14 := cell_row R c.f14
  have w14 : IntKind.u64.wrap (now + c.deadline) = now + c.deadline := IntWalk.u64_in _ (by omega)
  clear R n0 n1 d0 d1
  go_enter Try.func21, Try.ntmps21
  go_wp2
  go_ret
  exact ⟨rfl, bAlloc (Below.refl _ _) _⟩
/-- the three blocks that each of them lays first -/
theorem three (w : World) (x : Opn) (c : Cfg) : ∀ W, W = (((w.alloc (.cells x.cells 40)).alloc (.cells c.cells 30)).alloc (.cells Inst.none_.cells 25)) →
    W.heap[w.heap.size]? = some (.cells x.cells 40 (0, 0)) ∧ W.heap[w.heap.size + 1]? = some (.cells c.cells 30 (0, 0)) ∧ W.heap[w.heap.size + 1 + 1]? = some (.cells Inst.none_.cells 25 (0, 0)) ∧ Below w.heap.size w W := by
  rintro _ rfl
  have RZ := heap_alloc_new ((w.alloc (.cells x.cells 40)).alloc (.cells c.cells 30)) (.cells Inst.none_.cells 25)
  rw [World.size_alloc, World.size_alloc] at RZ
  have RC := heap_alloc_new (w.alloc (.cells x.cells 40)) (.cells c.cells 30)
  rw [World.size_alloc] at RC
  exact ⟨heap_under (heap_under (heap_alloc_new _ _)), heap_under RC, RZ, bAlloc (bAlloc (bAlloc (Below.refl _ w) _) _) _⟩
theorem four (w : World) (x : Opn) (c : Cfg) (Z Z' : Array Value) :
    ((((w.alloc (.cells x.cells 40)).alloc (.cells c.cells 30)).alloc (.cells Z 25)).alloc (.cells Z' 25)).heap[w.heap.size + 1 + 1]? = some (.cells Z 25 (0, 0)) ∧ Below w.heap.size w ((((w.alloc (.cells x.cells 40)).alloc (.cells c.cells 30)).alloc (.cells Z 25)).alloc (.cells Z' 25)) := by
  have RZ := heap_alloc_new ((w.alloc (.cells x.cells 40)).alloc (.cells c.cells 30)) (.cells Z 25)
  rw [World.size_alloc, World.size_alloc] at RZ
  exact ⟨heap_under RZ, bAlloc (bAlloc (bAlloc (bAlloc (Below.refl _ w) _) _) _) _⟩
set_option maxHeartbeats 8000000 in
set_option maxRecDepth 100000 in
theorem new_any (id : Int) (x : Opn) (now : Int) (c : Cfg) (n0 : 0 ≤ now) (d0 : 0 ≤ c.deadline) (w : World) : Calls Try.prog 12 #[.int .u64 id, x.val, .int .u64 now, c.val] w fun e w' => e = .returned (newX id x now c).val ∧ Below w.heap.size w w' := by
  obtain ⟨u0, eu⟩ : ∃ W, W = (((w.alloc (.cells x.cells 40)).alloc (.cells c.cells 30)).alloc (.cells Inst.none_.cells 25)) := ⟨_, rfl⟩
  obtain ⟨HO, HC, HZ, BW⟩ := three w x c u0 eu
  have c14 := cell_row HC c.f14
  have g14 := c.f14
  have o1 := cell_row HO x.f1
  have p1 := x.f1
  have o2 := cell_row HO x.f2
  have p2 := x.f2
  have o3 := cell_row HO x.f3
  have p3 := x.f3
  have o6 := cell_row HO x.f6
  have p6 := x.f6
  have o7 := cell_row HO x.f7
  have p7 := x.f7
  have o8 := cell_row HO x.f8
  have p8 := x.f8
  by_cases m0 : 1099511627776 < now
  · have k0 := decide_eq_true m0
    have HV : Hid (newX id x now c = Inst.none_) := Lib.hid (by unfold newX; rw [if_pos (by omega)])
    clear m0
    subst eu
    go_enter Try.func12, Try.ntmps12
    go_wp2_with (first | ((with_reducible refine at_store 25 ?_); (refine store_whole rfl 25 _ _ rfl (w.heap.size + 1 + 1) (Inst.none_).cells _ _ rfl rfl HZ (sizeInst.trans rfl) rfl (Inst.none_).one ?_)))
    refine bodyPost_ret (v := (Inst.none_).val) (results_cell_row rfl _ _ (w.heap.size + 1 + 1) _ (Inst.none_).cells _ _ rfl (row_at HZ) Try.underlying25 rfl (sizeInst.trans rfl)) rfl ?_
    exact ⟨by rw [HV.out], below_row _ BW (by omega)⟩
  have k0 := decide_eq_false m0
  by_cases m1 : 65536 < c.deadline
  · have k1 := decide_eq_true m1
    have HV : Hid (newX id x now c = Inst.none_) := Lib.hid (by unfold newX; rw [if_pos (by omega)])
    clear m0 m1
    subst eu
    go_enter Try.func12, Try.ntmps12
    go_wp2_with (first | ((with_reducible refine at_store 25 ?_); (refine store_whole rfl 25 _ _ rfl (w.heap.size + 1 + 1) (Inst.none_).cells _ _ rfl rfl HZ (sizeInst.trans rfl) rfl (Inst.none_).one ?_)))
    refine bodyPost_ret (v := (Inst.none_).val) (results_cell_row rfl _ _ (w.heap.size + 1 + 1) _ (Inst.none_).cells _ _ rfl (row_at HZ) Try.underlying25 rfl (sizeInst.trans rfl)) rfl ?_
    exact ⟨by rw [HV.out], below_row _ BW (by omega)⟩
  have k1 := decide_eq_false m1
  have HT := Lib.hid (fun W => until5_any 0 now c n0 (by omega) d0 (by omega) W)
  have HN : Hid (newX id x now c = if x.warm = true then { bornX id x now c with st := 7 } else bornX id x now c) := Lib.hid (by unfold newX; rw [if_neg (by omega)])
  clear m0 m1
  go_enter Try.func12, Try.ntmps12
  have c14w := c14
  rw [eu] at c14w
  go_wp2_with fail
  show Code.wp _ _ _ _ (((w.alloc (.cells x.cells 40)).alloc (.cells c.cells 30)).alloc (.cells Inst.none_.cells 25))
  rw [← eu]
  clear eu c14w
  have ST : ∀ {W W' : World}, Below W.heap.size W W' → ∀ i, stab W W' i 0 [fun v _ => v = .int .u64 id, fun v _ => v = .pointer (some ⟨w.heap.size, 0, none⟩), fun v _ => v = .pointer (some ⟨w.heap.size, 1, none⟩), fun v _ => v = .int .u64 x.tok, fun v _ => v = .pointer (some ⟨w.heap.size, 0, none⟩), fun v _ => v = .pointer (some ⟨w.heap.size, 2, none⟩), fun v _ => v = .int .i64 x.pool, fun v _ => v = .pointer (some ⟨w.heap.size, 6, none⟩), fun v _ => v = .int .i64 x.wt, fun v _ => v = .pointer (some ⟨w.heap.size, 7, none⟩), fun v _ => v = .bool x.spot, fun v _ => v = .pointer (some ⟨w.heap.size, 8, none⟩), fun v _ => v = .int .u32 x.ver, fun v _ => v = .int .u64 now, fun v _ => v = c.val, fun v _ => v = .int .u64 (now + c.deadline), fun v _ => v = (bornX id x now c).val, fun v W => ∃ g old, v = .pointer (some ⟨g, 0, none⟩) ∧ u0.heap.size ≤ g ∧ W.heap[g]? = some (.cells old 25 (0, 0)) ∧ old.size = 12, fun v W => ∃ g, v = .pointer (some ⟨g, 0, none⟩) ∧ u0.heap.size ≤ g ∧ W.heap[g]? = some (.cells (bornX id x now c).cells 25 (0, 0))] := by
    intro W W' hb i
    refine ⟨.inr fun _ h => h, .inr fun _ h => h, .inr fun _ h => h, .inr fun _ h => h, .inr fun _ h => h, .inr fun _ h => h, .inr fun _ h => h, .inr fun _ h => h, .inr fun _ h => h, .inr fun _ h => h, .inr fun _ h => h, .inr fun _ h => h, .inr fun _ h => h, .inr fun _ h => h, .inr fun _ h => h, .inr fun _ h => h, .inr fun _ h => h, .inr ?_, .inr ?_, trivial⟩
    · rintro _ ⟨g, old, rfl, hg, hr, ho⟩
      exact ⟨g, old, rfl, hg, kept_box hb hr, ho⟩
    · rintro _ ⟨g, rfl, hg, hr⟩
      exact ⟨g, rfl, hg, kept_box hb hr⟩
  refine flow (fun _ W => Below u0.heap.size u0 W) [fun v _ => v = .int .u64 id, fun v _ => v = .pointer (some ⟨w.heap.size, 0, none⟩), fun v _ => v = .pointer (some ⟨w.heap.size, 1, none⟩), fun v _ => v = .int .u64 x.tok, fun v _ => v = .pointer (some ⟨w.heap.size, 0, none⟩), fun v _ => v = .pointer (some ⟨w.heap.size, 2, none⟩), fun v _ => v = .int .i64 x.pool, fun v _ => v = .pointer (some ⟨w.heap.size, 6, none⟩), fun v _ => v = .int .i64 x.wt, fun v _ => v = .pointer (some ⟨w.heap.size, 7, none⟩), fun v _ => v = .bool x.spot, fun v _ => v = .pointer (some ⟨w.heap.size, 8, none⟩), fun v _ => v = .int .u32 x.ver, fun v _ => v = .int .u64 now, fun v _ => v = c.val, fun v _ => v = .int .u64 (now + c.deadline), fun v _ => v = (bornX id x now c).val, fun v W => ∃ g old, v = .pointer (some ⟨g, 0, none⟩) ∧ u0.heap.size ≤ g ∧ W.heap[g]? = some (.cells old 25 (0, 0)) ∧ old.size = 12, fun v W => ∃ g, v = .pointer (some ⟨g, 0, none⟩) ∧ u0.heap.size ≤ g ∧ W.heap[g]? = some (.cells (bornX id x now c).cells 25 (0, 0))] [18, 19, 20, 21, 22, 23, 24, 25, 26, 27, 28, 29, 30, 31, 32, 33, 34, 9, 9] [18, 19, 20, 21, 22, 23, 24, 25, 26, 27, 28, 29, 30, 31, 32, 33, 34, 9] 40 (by kernel_rfl) rfl (by kernel_rfl) rfl (bDrew (Below.refl _ _)) ⟨?_, ?_, ?_, ?_, ?_, ?_, ?_, ?_, ?_, ?_, ?_, ?_, ?_, ?_, ?_, ?_, ?_, ?_, ?_, trivial⟩ ?_
  · intro L a W hz hd hk hI hL hcl hdep
    have hN : a.tmps.size = 40 := hz
    have k0 : a.eval (.tmp 0) = .int .u64 id := eval_of ((hk 0 (by decide)).trans rfl)
    apply step_val (s := 18) (v := .int .u64 id) (w' := W)
    · simp [execOp, k0]
    · rfl
    · rfl
    · omega
    · exact hI
    · exact stab_refl _ _ _ _
    · exact rfl
  · intro L a W hz hd hk hI hL hcl hdep
    have hN : a.tmps.size = 40 := hz
    have k5 : a.eval (.tmp 5) = .pointer (some ⟨w.heap.size, 0, none⟩) := eval_of ((hk 5 (by decide)).trans rfl)
    apply step_val (s := 19) (v := .pointer (some ⟨w.heap.size, 0, none⟩)) (w' := W)
    · simp [execOp, k5]; go_simp
    · rfl
    · rfl
    · omega
    · exact hI
    · exact stab_refl _ _ _ _
    · exact rfl
  · intro L a W hz hd hk hI hL hcl hdep
    have hN : a.tmps.size = 40 := hz
    obtain ⟨⟨v1, e1, g1⟩, -⟩ := hdep
    replace g1 : v1 = .pointer (some ⟨w.heap.size, 0, none⟩) := g1
    subst g1
    have k19 : a.eval (.tmp 19) = .pointer (some ⟨w.heap.size, 0, none⟩) := eval_of e1
    apply step_val (s := 20) (v := .pointer (some ⟨w.heap.size, 1, none⟩)) (w' := W)
    · simp [execOp, k19]; go_simp
    · rfl
    · rfl
    · omega
    · exact hI
    · exact stab_refl _ _ _ _
    · exact rfl
  · intro L a W hz hd hk hI hL hcl hdep
    have hN : a.tmps.size = 40 := hz
    obtain ⟨⟨v2, e2, g2⟩, -⟩ := hdep
    replace g2 : v2 = .pointer (some ⟨w.heap.size, 1, none⟩) := g2
    subst g2
    have k20 : a.eval (.tmp 20) = .pointer (some ⟨w.heap.size, 1, none⟩) := eval_of e2
    have c0 : W.cell? ⟨w.heap.size, 1, none⟩ = some (.int .u64 x.tok) := cell_row (kept_box hI HO) x.f1
    apply step_val (s := 21) (v := .int .u64 x.tok) (w' := W)
    · simp [execOp, k20]; go_simp
    · rfl
    · rfl
    · omega
    · exact hI
    · exact stab_refl _ _ _ _
    · exact rfl
  · intro L a W hz hd hk hI hL hcl hdep
    have hN : a.tmps.size = 40 := hz
    have k5 : a.eval (.tmp 5) = .pointer (some ⟨w.heap.size, 0, none⟩) := eval_of ((hk 5 (by decide)).trans rfl)
    apply step_val (s := 22) (v := .pointer (some ⟨w.heap.size, 0, none⟩)) (w' := W)
    · simp [execOp, k5]; go_simp
    · rfl
    · rfl
    · omega
    · exact hI
    · exact stab_refl _ _ _ _
    · exact rfl
  · intro L a W hz hd hk hI hL hcl hdep
    have hN : a.tmps.size = 40 := hz
    obtain ⟨⟨v4, e4, g4⟩, -⟩ := hdep
    replace g4 : v4 = .pointer (some ⟨w.heap.size, 0, none⟩) := g4
    subst g4
    have k22 : a.eval (.tmp 22) = .pointer (some ⟨w.heap.size, 0, none⟩) := eval_of e4
    apply step_val (s := 23) (v := .pointer (some ⟨w.heap.size, 2, none⟩)) (w' := W)
    · simp [execOp, k22]; go_simp
    · rfl
    · rfl
    · omega
    · exact hI
    · exact stab_refl _ _ _ _
    · exact rfl
  · intro L a W hz hd hk hI hL hcl hdep
    have hN : a.tmps.size = 40 := hz
    obtain ⟨⟨v5, e5, g5⟩, -⟩ := hdep
    replace g5 : v5 = .pointer (some ⟨w.heap.size, 2, none⟩) := g5
    subst g5
    have k23 : a.eval (.tmp 23) = .pointer (some ⟨w.heap.size, 2, none⟩) := eval_of e5
    have c0 : W.cell? ⟨w.heap.size, 2, none⟩ = some (.int .i64 x.pool) := cell_row (kept_box hI HO) x.f2
    apply step_val (s := 24) (v := .int .i64 x.pool) (w' := W)
    · simp [execOp, k23]; go_simp
    · rfl
    · rfl
    · omega
    · exact hI
    · exact stab_refl _ _ _ _
    · exact rfl
  · intro L a W hz hd hk hI hL hcl hdep
    have hN : a.tmps.size = 40 := hz
    have k5 : a.eval (.tmp 5) = .pointer (some ⟨w.heap.size, 0, none⟩) := eval_of ((hk 5 (by decide)).trans rfl)
    apply step_val (s := 25) (v := .pointer (some ⟨w.heap.size, 6, none⟩)) (w' := W)
    · simp [execOp, k5]; go_simp
    · rfl
    · rfl
    · omega
    · exact hI
    · exact stab_refl _ _ _ _
    · exact rfl
  · intro L a W hz hd hk hI hL hcl hdep
    have hN : a.tmps.size = 40 := hz
    obtain ⟨⟨v7, e7, g7⟩, -⟩ := hdep
    replace g7 : v7 = .pointer (some ⟨w.heap.size, 6, none⟩) := g7
    subst g7
    have k25 : a.eval (.tmp 25) = .pointer (some ⟨w.heap.size, 6, none⟩) := eval_of e7
    have c0 : W.cell? ⟨w.heap.size, 6, none⟩ = some (.int .i64 x.wt) := cell_row (kept_box hI HO) x.f6
    apply step_val (s := 26) (v := .int .i64 x.wt) (w' := W)
    · simp [execOp, k25]; go_simp
    · rfl
    · rfl
    · omega
    · exact hI
    · exact stab_refl _ _ _ _
    · exact rfl
  · intro L a W hz hd hk hI hL hcl hdep
    have hN : a.tmps.size = 40 := hz
    have k5 : a.eval (.tmp 5) = .pointer (some ⟨w.heap.size, 0, none⟩) := eval_of ((hk 5 (by decide)).trans rfl)
    apply step_val (s := 27) (v := .pointer (some ⟨w.heap.size, 7, none⟩)) (w' := W)
    · simp [execOp, k5]; go_simp
    · rfl
    · rfl
    · omega
    · exact hI
    · exact stab_refl _ _ _ _
    · exact rfl
  · intro L a W hz hd hk hI hL hcl hdep
    have hN : a.tmps.size = 40 := hz
    obtain ⟨⟨v9, e9, g9⟩, -⟩ := hdep
    replace g9 : v9 = .pointer (some ⟨w.heap.size, 7, none⟩) := g9
    subst g9
    have k27 : a.eval (.tmp 27) = .pointer (some ⟨w.heap.size, 7, none⟩) := eval_of e9
    have c0 : W.cell? ⟨w.heap.size, 7, none⟩ = some (.bool x.spot) := cell_row (kept_box hI HO) x.f7
    apply step_val (s := 28) (v := .bool x.spot) (w' := W)
    · simp [execOp, k27]; go_simp
    · rfl
    · rfl
    · omega
    · exact hI
    · exact stab_refl _ _ _ _
    · exact rfl
  · intro L a W hz hd hk hI hL hcl hdep
    have hN : a.tmps.size = 40 := hz
    have k5 : a.eval (.tmp 5) = .pointer (some ⟨w.heap.size, 0, none⟩) := eval_of ((hk 5 (by decide)).trans rfl)
    apply step_val (s := 29) (v := .pointer (some ⟨w.heap.size, 8, none⟩)) (w' := W)
    · simp [execOp, k5]; go_simp
    · rfl
    · rfl
    · omega
    · exact hI
    · exact stab_refl _ _ _ _
    · exact rfl
  · intro L a W hz hd hk hI hL hcl hdep
    have hN : a.tmps.size = 40 := hz
    obtain ⟨⟨v11, e11, g11⟩, -⟩ := hdep
    replace g11 : v11 = .pointer (some ⟨w.heap.size, 8, none⟩) := g11
    subst g11
    have k29 : a.eval (.tmp 29) = .pointer (some ⟨w.heap.size, 8, none⟩) := eval_of e11
    have c0 : W.cell? ⟨w.heap.size, 8, none⟩ = some (.int .u32 x.ver) := cell_row (kept_box hI HO) x.f8
    apply step_val (s := 30) (v := .int .u32 x.ver) (w' := W)
    · simp [execOp, k29]; go_simp
    · rfl
    · rfl
    · omega
    · exact hI
    · exact stab_refl _ _ _ _
    · exact rfl
  · intro L a W hz hd hk hI hL hcl hdep
    have hN : a.tmps.size = 40 := hz
    have k2 : a.eval (.tmp 2) = .int .u64 now := eval_of ((hk 2 (by decide)).trans rfl)
    apply step_val (s := 31) (v := .int .u64 now) (w' := W)
    · simp [execOp, k2]
    · rfl
    · rfl
    · omega
    · exact hI
    · exact stab_refl _ _ _ _
    · exact rfl
  · intro L a W hz hd hk hI hL hcl hdep
    have hN : a.tmps.size = 40 := hz
    have k7 : a.eval (.tmp 7) = .pointer (some ⟨w.heap.size + 1, 0, none⟩) := eval_of ((hk 7 (by decide)).trans rfl)
    apply step_val (s := 32) (v := c.val) (w' := W)
    · exact exec_load_row 30 _ rfl k7 (kept_box hI HC) Try.underlying30 rfl (infoCfg.trans rfl)
    · rfl
    · rfl
    · omega
    · exact hI
    · exact stab_refl _ _ _ _
    · exact rfl
  · intro L a W hz hd hk hI hL hcl hdep
    have hN : a.tmps.size = 40 := hz
    obtain ⟨⟨v13, e13, g13⟩, ⟨v14, e14, g14⟩, -⟩ := hdep
    replace g13 : v13 = .int .u64 now := g13
    subst g13
    have k31 : a.eval (.tmp 31) = .int .u64 now := eval_of e13
    replace g14 : v14 = c.val := g14
    subst g14
    have k32 : a.eval (.tmp 32) = c.val := eval_of e14
    apply step_call (s := 33) (f := 21) (args := #[.int .u8 5, .int .u64 0, .int .u64 now, c.val])
    · go_simp; exact ⟨idx e13, idx e14⟩
    · rfl
    · rfl
    · omega
    refine (HT.out W).mono ?_
    rintro _ W' ⟨rfl, bw⟩
    exact ⟨_, rfl, bTrans hI bw, ST bw _, rfl⟩
  · intro L a W hz hd hk hI hL hcl hdep
    have hN : a.tmps.size = 40 := hz
    obtain ⟨⟨v0, e0, g0⟩, ⟨v3, e3, g3⟩, ⟨v6, e6, g6⟩, ⟨v8, e8, g8⟩, ⟨v10, e10, g10⟩, ⟨v12, e12, g12⟩, ⟨v15, e15, g15⟩, -⟩ := hdep
    replace g0 : v0 = .int .u64 id := g0
    subst g0
    have k18 : a.eval (.tmp 18) = .int .u64 id := eval_of e0
    replace g3 : v3 = .int .u64 x.tok := g3
    subst g3
    have k21 : a.eval (.tmp 21) = .int .u64 x.tok := eval_of e3
    replace g6 : v6 = .int .i64 x.pool := g6
    subst g6
    have k24 : a.eval (.tmp 24) = .int .i64 x.pool := eval_of e6
    replace g8 : v8 = .int .i64 x.wt := g8
    subst g8
    have k26 : a.eval (.tmp 26) = .int .i64 x.wt := eval_of e8
    replace g10 : v10 = .bool x.spot := g10
    subst g10
    have k28 : a.eval (.tmp 28) = .bool x.spot := eval_of e10
    replace g12 : v12 = .int .u32 x.ver := g12
    subst g12
    have k30 : a.eval (.tmp 30) = .int .u32 x.ver := eval_of e12
    replace g15 : v15 = .int .u64 (now + c.deadline) := g15
    subst g15
    have k33 : a.eval (.tmp 33) = .int .u64 (now + c.deadline) := eval_of e15
    apply step_val (s := 34) (v := (bornX id x now c).val) (w' := W)
    · have kc : a.eval (.const (.int .u8 1)) = .int .u8 1 := rfl; simp [execOp, k18, k21, k24, k26, k28, k30, k33, kc]; go_simp; rfl
    · rfl
    · rfl
    · omega
    · exact hI
    · exact stab_refl _ _ _ _
    · exact rfl
  · intro L a W hz hd hk hI hL hcl hdep
    have hN : a.tmps.size = 40 := hz
    apply step_val (s := 9) (v := .pointer (some ⟨W.heap.size, 0, none⟩)) (w' := W.alloc (.cells Inst.none_.cells 25 (0, 0)))
    · go_simp <;> rfl
    · rfl
    · rfl
    · omega
    · exact bAlloc hI _
    · exact ST (bAlloc (Below.refl _ _) _) _
    · exact ⟨W.heap.size, Inst.none_.cells, rfl, hI.size, heap_alloc_new _ _, rfl⟩
  · intro L a W hz hd hk hI hL hcl hdep
    have hN : a.tmps.size = 40 := hz
    obtain ⟨⟨v17, e17, g17⟩, ⟨v16, e16, g16⟩, ⟨v15, e15, g15⟩, ⟨v0, e0, g0⟩, ⟨v1, e1, g1⟩, ⟨v2, e2, g2⟩, ⟨v3, e3, g3⟩, ⟨v4, e4, g4⟩, ⟨v5, e5, g5⟩, ⟨v6, e6, g6⟩, ⟨v7, e7, g7⟩, ⟨v8, e8, g8⟩, ⟨v9, e9, g9⟩, ⟨v10, e10, g10⟩, ⟨v11, e11, g11⟩, ⟨v12, e12, g12⟩, ⟨v13, e13, g13⟩, ⟨v14, e14, g14⟩, -, -, -, -⟩ := hdep
    replace g16 : v16 = (bornX id x now c).val := g16
    subst g16
    have k34 : a.eval (.tmp 34) = (bornX id x now c).val := eval_of e16
    replace g15 : v15 = .int .u64 (now + c.deadline) := g15
    subst g15
    have k33 : a.eval (.tmp 33) = .int .u64 (now + c.deadline) := eval_of e15
    replace g0 : v0 = .int .u64 id := g0
    subst g0
    have k18 : a.eval (.tmp 18) = .int .u64 id := eval_of e0
    replace g1 : v1 = .pointer (some ⟨w.heap.size, 0, none⟩) := g1
    subst g1
    have k19 : a.eval (.tmp 19) = .pointer (some ⟨w.heap.size, 0, none⟩) := eval_of e1
    replace g2 : v2 = .pointer (some ⟨w.heap.size, 1, none⟩) := g2
    subst g2
    have k20 : a.eval (.tmp 20) = .pointer (some ⟨w.heap.size, 1, none⟩) := eval_of e2
    replace g3 : v3 = .int .u64 x.tok := g3
    subst g3
    have k21 : a.eval (.tmp 21) = .int .u64 x.tok := eval_of e3
    replace g4 : v4 = .pointer (some ⟨w.heap.size, 0, none⟩) := g4
    subst g4
    have k22 : a.eval (.tmp 22) = .pointer (some ⟨w.heap.size, 0, none⟩) := eval_of e4
    replace g5 : v5 = .pointer (some ⟨w.heap.size, 2, none⟩) := g5
    subst g5
    have k23 : a.eval (.tmp 23) = .pointer (some ⟨w.heap.size, 2, none⟩) := eval_of e5
    replace g6 : v6 = .int .i64 x.pool := g6
    subst g6
    have k24 : a.eval (.tmp 24) = .int .i64 x.pool := eval_of e6
    replace g7 : v7 = .pointer (some ⟨w.heap.size, 6, none⟩) := g7
    subst g7
    have k25 : a.eval (.tmp 25) = .pointer (some ⟨w.heap.size, 6, none⟩) := eval_of e7
    replace g8 : v8 = .int .i64 x.wt := g8
    subst g8
    have k26 : a.eval (.tmp 26) = .int .i64 x.wt := eval_of e8
    replace g9 : v9 = .pointer (some ⟨w.heap.size, 7, none⟩) := g9
    subst g9
    have k27 : a.eval (.tmp 27) = .pointer (some ⟨w.heap.size, 7, none⟩) := eval_of e9
    replace g10 : v10 = .bool x.spot := g10
    subst g10
    have k28 : a.eval (.tmp 28) = .bool x.spot := eval_of e10
    replace g11 : v11 = .pointer (some ⟨w.heap.size, 8, none⟩) := g11
    subst g11
    have k29 : a.eval (.tmp 29) = .pointer (some ⟨w.heap.size, 8, none⟩) := eval_of e11
    replace g12 : v12 = .int .u32 x.ver := g12
    subst g12
    have k30 : a.eval (.tmp 30) = .int .u32 x.ver := eval_of e12
    replace g13 : v13 = .int .u64 now := g13
    subst g13
    have k31 : a.eval (.tmp 31) = .int .u64 now := eval_of e13
    replace g14 : v14 = c.val := g14
    subst g14
    have k32 : a.eval (.tmp 32) = c.val := eval_of e14
    obtain ⟨g, old, rfl, hg, hr, ho⟩ := (show ∃ g old, v17 = .pointer (some ⟨g, 0, none⟩) ∧ u0.heap.size ≤ g ∧ W.heap[g]? = some (.cells old 25 (0, 0)) ∧ old.size = 12 from g17)
    have k9 : a.eval (.tmp 9) = .pointer (some ⟨g, 0, none⟩) := eval_of e17
    apply Flow.step_skip (w' := W.setRow g (bornX id x now c).cells)
    · exact exec_store_row 25 _ _ rfl k9 k34 hr (sizeInst.trans rfl) (ho.trans rfl) (bornX id x now c).one
    · rfl
    · exact below_row _ hI hg
    · refine ⟨.inr fun _ h => h, .inr fun _ h => h, .inr fun _ h => h, .inr fun _ h => h, .inr fun _ h => h, .inr fun _ h => h, .inr fun _ h => h, .inr fun _ h => h, .inr fun _ h => h, .inr fun _ h => h, .inr fun _ h => h, .inr fun _ h => h, .inr fun _ h => h, .inr fun _ h => h, .inr fun _ h => h, .inr fun _ h => h, .inr fun _ h => h, .inr ?_, .inl rfl, trivial⟩
      rintro _ ⟨g', old', rfl, hg', hr', ho'⟩
      by_cases e : g = g'
      · subst e; exact ⟨g, _, rfl, hg', row_at hr', rfl⟩
      · exact ⟨g', old', rfl, hg', (row_else e).trans hr', ho'⟩
    · exact ⟨g, k9, hg, row_at hr⟩
  intro u1 Y bI
  replace bI : Below u0.heap.size u0 u1 := bI
  refine fun g0 g1 g2 g3 g4 g5 g6 g7 g8 g9 g10 g11 g12 g13 g14 g15 g16 g17 g18 => ?_
  replace g0 : Y 18 = .int .u64 id := g0
  replace g1 : Y 19 = .pointer (some ⟨w.heap.size, 0, none⟩) := g1
  replace g2 : Y 20 = .pointer (some ⟨w.heap.size, 1, none⟩) := g2
  replace g3 : Y 21 = .int .u64 x.tok := g3
  replace g4 : Y 22 = .pointer (some ⟨w.heap.size, 0, none⟩) := g4
  replace g5 : Y 23 = .pointer (some ⟨w.heap.size, 2, none⟩) := g5
  replace g6 : Y 24 = .int .i64 x.pool := g6
  replace g7 : Y 25 = .pointer (some ⟨w.heap.size, 6, none⟩) := g7
  replace g8 : Y 26 = .int .i64 x.wt := g8
  replace g9 : Y 27 = .pointer (some ⟨w.heap.size, 7, none⟩) := g9
  replace g10 : Y 28 = .bool x.spot := g10
  replace g11 : Y 29 = .pointer (some ⟨w.heap.size, 8, none⟩) := g11
  replace g12 : Y 30 = .int .u32 x.ver := g12
  replace g13 : Y 31 = .int .u64 now := g13
  replace g14 : Y 32 = c.val := g14
  replace g15 : Y 33 = .int .u64 (now + c.deadline) := g15
  replace g16 : Y 34 = (bornX id x now c).val := g16
  obtain ⟨g, eA, hgA, HG⟩ := (show ∃ g, Y 9 = .pointer (some ⟨g, 0, none⟩) ∧ u0.heap.size ≤ g ∧ u1.heap[g]? = some (.cells (bornX id x now c).cells 25 (0, 0)) from g18)
  clear g17 g18 ST
  rename_i K hK
  show K _ u1
  refine hK _ _ ?_
  rw [g0, g1, g2, g3, g4, g5, g6, g7, g8, g9, g10, g11, g12, g13, g14, g15, g16, eA]
  clear hK g0 g1 g2 g3 g4 g5 g6 g7 g8 g9 g10 g11 g12 g13 g14 g15 g16 eA
  try simp only [Act.put, List.setIfInBounds_toArray, List.set_cons_succ, List.set_cons_zero]
  have hz0 := (Array.getElem?_eq_some_iff.1 HZ).1
  replace HZ := kept_box bI HZ
  have o3 := cell_row (kept_box bI HO) x.f3
  replace BW := bTrans BW bI
  have hne : w.heap.size + 1 + 1 < g := by omega
  clear bI
  rcases hw : x.warm with _ | _
  · have HV : Hid (newX id x now c = bornX id x now c) := Lib.hid (by rw [HN.out, hw]; rfl)
    rw [hw] at o3
    clear HN
    go_wp2_with (first | ((with_reducible refine at_store 25 ?_); (refine store_whole rfl 25 _ _ rfl (w.heap.size + 1 + 1) (bornX id x now c).cells _ _ rfl rfl HZ (sizeInst.trans rfl) rfl (bornX id x now c).one ?_)) | ((with_reducible refine at_load' 25 ?_); (refine load_ins rfl _ rfl _ _ rfl (bornX id x now c) (range_row HG) ?_)))
    refine bodyPost_ret (v := (bornX id x now c).val) (results_cell_row rfl _ _ (w.heap.size + 1 + 1) _ (bornX id x now c).cells _ _ rfl (row_at HZ) Try.underlying25 rfl (sizeInst.trans rfl)) rfl ?_
    exact ⟨by rw [HV.out], below_row _ BW (by omega)⟩
  · have HV : Hid (newX id x now c = { bornX id x now c with st := 7 }) := Lib.hid (by rw [HN.out, hw]; rfl)
    rw [hw] at o3
    clear HN
    have fr := free_row HG
    have d5 := cell_row HG (bornX id x now c).f5
    have H5 : ∀ W, W = u1.setCell ⟨g, 5, none⟩ (.int .u8 7) → W.heap[g]? = some (.cells ({ bornX id x now c with st := 7 } : Ins).cells 25 (0, 0)) ∧ W.heap[w.heap.size + 1 + 1]? = some (.cells Inst.none_.cells 25 (0, 0)) ∧ Below w.heap.size w W := by
      rintro _ rfl
      rw [setCell_row HG]
      exact ⟨row_at HG, (row_else (by omega)).trans HZ, below_row _ BW (by omega)⟩
    obtain ⟨G5, Z5, B5⟩ := H5 _ rfl
    clear HG HZ BW H5
    go_wp2_with (first | ((with_reducible refine at_store 25 ?_); (refine store_whole rfl 25 _ _ rfl (w.heap.size + 1 + 1) (({ bornX id x now c with st := 7 } : Ins)).cells _ _ rfl rfl Z5 (sizeInst.trans rfl) rfl (({ bornX id x now c with st := 7 } : Ins)).one ?_)) | ((with_reducible refine at_load' 25 ?_); (refine load_ins rfl _ rfl _ _ rfl ({ bornX id x now c with st := 7 }) (range_row G5) ?_)))
    refine bodyPost_ret (v := (({ bornX id x now c with st := 7 } : Ins)).val) (results_cell_row rfl _ _ (w.heap.size + 1 + 1) _ (({ bornX id x now c with st := 7 } : Ins)).cells _ _ rfl (row_at Z5) Try.underlying25 rfl (sizeInst.trans rfl)) rfl ?_
    exact ⟨by rw [HV.out], below_row _ B5 (by omega)⟩
set_option maxHeartbeats 8000000 in
set_option maxRecDepth 100000 in
theorem refNew_any (id : Int) (x : Opn) (now : Int) (c : Cfg) (n0 : 0 ≤ now) (d0 : 0 ≤ c.deadline) (w : World) : Calls Try.prog 13 #[.int .u64 id, x.val, .int .u64 now, c.val] w fun e w' => e = .returned (newX id x now c).val ∧ Below w.heap.size w w' := by
  obtain ⟨u0, eu⟩ : ∃ W, W = (((w.alloc (.cells x.cells 40)).alloc (.cells c.cells 30)).alloc (.cells Inst.none_.cells 25)) := ⟨_, rfl⟩
  obtain ⟨HO, HC, HZ, BW⟩ := three w x c u0 eu
  have c14 := cell_row HC c.f14
  have g14 := c.f14
  have o1 := cell_row HO x.f1
  have p1 := x.f1
  have o2 := cell_row HO x.f2
  have p2 := x.f2
  have o3 := cell_row HO x.f3
  have p3 := x.f3
  have o6 := cell_row HO x.f6
  have p6 := x.f6
  have o7 := cell_row HO x.f7
  have p7 := x.f7
  have o8 := cell_row HO x.f8
  have p8 := x.f8
  by_cases m0 : 1099511627776 < now
  · have k0 := decide_eq_true m0
    have HV : Hid (newX id x now c = Inst.none_) := Lib.hid (by unfold newX; rw [if_pos (by omega)])
    clear m0
    subst eu
    go_enter Try.func13, Try.ntmps13
    go_wp2_with (first | ((with_reducible refine at_store 25 ?_); (refine store_whole rfl 25 _ _ rfl (w.heap.size + 1 + 1) (Inst.none_).cells _ _ rfl rfl HZ (sizeInst.trans rfl) rfl (Inst.none_).one ?_)))
    refine bodyPost_ret (v := (Inst.none_).val) (results_cell_row rfl _ _ (w.heap.size + 1 + 1) _ (Inst.none_).cells _ _ rfl (row_at HZ) Try.underlying25 rfl (sizeInst.trans rfl)) rfl ?_
    exact ⟨by rw [HV.out], below_row _ BW (by omega)⟩
  have k0 := decide_eq_false m0
  by_cases m1 : 65536 < c.deadline
  · have k1 := decide_eq_true m1
    have HV : Hid (newX id x now c = Inst.none_) := Lib.hid (by unfold newX; rw [if_pos (by omega)])
    clear m0 m1
    subst eu
    go_enter Try.func13, Try.ntmps13
    go_wp2_with (first | ((with_reducible refine at_store 25 ?_); (refine store_whole rfl 25 _ _ rfl (w.heap.size + 1 + 1) (Inst.none_).cells _ _ rfl rfl HZ (sizeInst.trans rfl) rfl (Inst.none_).one ?_)))
    refine bodyPost_ret (v := (Inst.none_).val) (results_cell_row rfl _ _ (w.heap.size + 1 + 1) _ (Inst.none_).cells _ _ rfl (row_at HZ) Try.underlying25 rfl (sizeInst.trans rfl)) rfl ?_
    exact ⟨by rw [HV.out], below_row _ BW (by omega)⟩
  have k1 := decide_eq_false m1
  have HN : Hid (newX id x now c = if x.warm = true then { bornX id x now c with st := 7 } else bornX id x now c) := Lib.hid (by unfold newX; rw [if_neg (by omega)])
  have w14 : IntKind.u64.wrap (now + c.deadline) = now + c.deadline := IntWalk.u64_in _ (by omega)
  clear m0 m1 n0 d0
  subst eu
  rcases hw : x.warm with _ | _
  · have HV : Hid (newX id x now c = bornX id x now c) := Lib.hid (by rw [HN.out, hw]; rfl)
    rw [hw] at o3 p3
    clear HN
    obtain ⟨Z4, B4⟩ := four w x c (bornX id x now c).cells (bornX id x now c).cells
    go_enter Try.func13, Try.ntmps13
    go_wp2_with fail
    refine bodyPost_ret (v := (bornX id x now c).val) (results_cell_row rfl _ _ (w.heap.size + 1 + 1) _ (bornX id x now c).cells _ _ rfl Z4 Try.underlying25 rfl (sizeInst.trans rfl)) rfl ?_
    exact ⟨by rw [HV.out], B4⟩
  · have HV : Hid (newX id x now c = ({ bornX id x now c with st := 7 } : Ins)) := Lib.hid (by rw [HN.out, hw]; rfl)
    rw [hw] at o3 p3
    clear HN
    obtain ⟨Z4, B4⟩ := four w x c (({ bornX id x now c with st := 7 } : Ins)).cells (({ bornX id x now c with st := 7 } : Ins)).cells
    go_enter Try.func13, Try.ntmps13
    go_wp2_with fail
    refine bodyPost_ret (v := (({ bornX id x now c with st := 7 } : Ins)).val) (results_cell_row rfl _ _ (w.heap.size + 1 + 1) _ (({ bornX id x now c with st := 7 } : Ins)).cells _ _ rfl Z4 Try.underlying25 rfl (sizeInst.trans rfl)) rfl ?_
    exact ⟨by rw [HV.out], B4⟩
end Go.Proofs.Ytmbafedpbmldmaa.Does
