
/- The instance whose life each law of the layer goes through in the end. -/
import Derived.Test.YtmbafedpbmldmaaIdG
namespace Go.Proofs.Ytmbafedpbmldmaa.Does
open Go.RowKit Go.ChangeShapes Go.WideShapes Go.ChangeAt
open Mem Arr Lst Rec Inst Grown Opens St0 Flow
attribute [local go_sem] Oper.semAt_some
set_option linter.unusedSimpArgs false
/-- a configuration of spans alone -/
def spans (hi ho dr de : Int) : Cfg := ⟨none, 0, 0, 0, 0, false, 0, 0, 0, 0, 0, 0, dr, hi, ho, 0, de, 0, false, 0, none, 0, 0, none, 0, 0⟩
def cf : Cfg := spans 0 3 2 9
theorem in_cf (now at_ : Int) (h : 0 ≤ now) : In0 now at_ cf := ⟨h, by decide, by decide, by decide, by decide⟩
def x0 : Ins := ⟨1, 0, 0, 1, false, 3, 0, false, 0, false, false, 0⟩
def x1 : Ins := ⟨1, 0, 0, 1, false, 4, 7, true, 99, false, false, 0⟩
def x2 : Ins := ⟨1, 0, 0, 1, false, 5, 10, true, 99, false, false, 0⟩
def x3 : Ins := ⟨1, 0, 0, 1, false, 6, 0, true, 99, false, false, 0⟩
theorem d0 : doV x0 2 5 99 cf = ⟨x1, 0, 0⟩ := by rfl
theorem do0 (w : World) : Calls Try.prog 7 #[x0.val, .int .u8 2, .int .u64 5, .int .u64 99, cf.val] w fun e w' => e = .returned (.tuple #[x1.val, .int .u8 0, .int .i64 0]) ∧ Below w.heap.size w w' := by
  have := do_any x0 2 5 99 cf (in_cf _ _ (by decide)) w
  rw [d0] at this; exact this
theorem d1 : doV x1 8 6 0 cf = ⟨x1, 0, 0⟩ := by rfl
theorem do1 (w : World) : Calls Try.prog 7 #[x1.val, .int .u8 8, .int .u64 6, .int .u64 0, cf.val] w fun e w' => e = .returned (.tuple #[x1.val, .int .u8 0, .int .i64 0]) ∧ Below w.heap.size w w' := by
  have := do_any x1 8 6 0 cf (in_cf _ _ (by decide)) w
  rw [d1] at this; exact this
theorem d2 : doV x1 8 7 0 cf = ⟨x2, 0, 0⟩ := by rfl
theorem do2 (w : World) : Calls Try.prog 7 #[x1.val, .int .u8 8, .int .u64 7, .int .u64 0, cf.val] w fun e w' => e = .returned (.tuple #[x2.val, .int .u8 0, .int .i64 0]) ∧ Below w.heap.size w w' := by
  have := do_any x1 8 7 0 cf (in_cf _ _ (by decide)) w
  rw [d2] at this; exact this
theorem d3 : doV x2 5 8 0 cf = ⟨x3, 2, 0⟩ := by rfl
theorem do3 (w : World) : Calls Try.prog 7 #[x2.val, .int .u8 5, .int .u64 8, .int .u64 0, cf.val] w fun e w' => e = .returned (.tuple #[x3.val, .int .u8 2, .int .i64 0]) ∧ Below w.heap.size w w' := by
  have := do_any x2 5 8 0 cf (in_cf _ _ (by decide)) w
  rw [d3] at this; exact this
theorem d4 : doV x3 1 9 0 cf = ⟨x3, 0, 12⟩ := by rfl
theorem do4 (w : World) : Calls Try.prog 7 #[x3.val, .int .u8 1, .int .u64 9, .int .u64 0, cf.val] w fun e w' => e = .returned (.tuple #[x3.val, .int .u8 0, .int .i64 12]) ∧ Below w.heap.size w w' := by
  have := do_any x3 1 9 0 cf (in_cf _ _ (by decide)) w
  rw [d4] at this; exact this
set_option maxHeartbeats 1000000 in
theorem conf_any (w : World) : Calls Try.prog 28 #[] w fun e w' => e = .returned cf.val ∧ Below w.heap.size w w' := by
  go_enter Try.func28, Try.ntmps28
  go_wp2_with ((with_reducible refine at_store 30 ?_); (refine store_plain rfl 30 _ _ rfl cf.cells _ _ rfl rfl (infoCfg.trans rfl) rfl cf.one ?_))
  refine bodyPost_ret (v := cf.val) (results_cell_row rfl _ _ w.heap.size _ cf.cells _ _ rfl (heap_alloc_new _ _) Try.underlying30 rfl (infoCfg.trans rfl)) rfl ?_
  exact ⟨rfl, bAlloc (Below.refl _ _) _⟩
set_option maxHeartbeats 8000000 in
set_option maxRecDepth 100000 in
theorem lives_any (w : World) : Calls Try.prog 11 #[] w fun e w' => e = .returned (.bool true) ∧ Below w.heap.size w w' := by
  have H0 := heap_alloc_new w (.cells x0.cells 25)
  have B0 := bAlloc (Below.refl _ w) (.cells x0.cells 25)
  go_enter Try.func11, Try.ntmps11
  go_wp2_with ((with_reducible refine at_store 25 ?_); (refine store_inp rfl _ _ rfl x0 _ _ rfl rfl rfl ?_))
  generalize w.alloc (.cells x0.cells 25 (0, 0)) = u0 at H0 B0 ⊢
  have ST : ∀ {W W' : World}, Below W.heap.size W W' → ∀ i, stab W W' i 0 [fun v _ => v = x0.val, fun v _ => v = cf.val, fun v _ => v = .tuple #[x1.val, .int .u8 0, .int .i64 0], fun v _ => v = .tuple #[x1.val, .int .u8 0, .int .i64 0], fun v _ => v = x1.val, fun v _ => v = .int .u8 0, fun v _ => v = .int .i64 0, fun v W => ∃ g old, v = .pointer (some ⟨g, 0, none⟩) ∧ u0.heap.size ≤ g ∧ W.heap[g]? = some (.cells old 25 (0, 0)) ∧ old.size = 12, fun v W => ∃ g, v = .pointer (some ⟨g, 0, none⟩) ∧ u0.heap.size ≤ g ∧ W.heap[g]? = some (.cells x1.cells 25 (0, 0)), fun v _ => v = .int .u8 0, fun v _ => v = .int .i64 0] := by
    intro W W' hb i
    refine ⟨.inr fun _ h => h, .inr fun _ h => h, .inr fun _ h => h, .inr fun _ h => h, .inr fun _ h => h, .inr fun _ h => h, .inr fun _ h => h, .inr ?_, .inr ?_, .inr fun _ h => h, .inr fun _ h => h, trivial⟩
    · rintro _ ⟨g, old, rfl, hg, hr, ho⟩
      exact ⟨g, old, rfl, hg, kept_box hb hr, ho⟩
    · rintro _ ⟨g, rfl, hg, hr⟩
      exact ⟨g, rfl, hg, kept_box hb hr⟩
  refine flow (fun _ W => Below u0.heap.size u0 W) [fun v _ => v = x0.val, fun v _ => v = cf.val, fun v _ => v = .tuple #[x1.val, .int .u8 0, .int .i64 0], fun v _ => v = .tuple #[x1.val, .int .u8 0, .int .i64 0], fun v _ => v = x1.val, fun v _ => v = .int .u8 0, fun v _ => v = .int .i64 0, fun v W => ∃ g old, v = .pointer (some ⟨g, 0, none⟩) ∧ u0.heap.size ≤ g ∧ W.heap[g]? = some (.cells old 25 (0, 0)) ∧ old.size = 12, fun v W => ∃ g, v = .pointer (some ⟨g, 0, none⟩) ∧ u0.heap.size ≤ g ∧ W.heap[g]? = some (.cells x1.cells 25 (0, 0)), fun v _ => v = .int .u8 0, fun v _ => v = .int .i64 0] [19, 20, 21, 18, 22, 23, 24, 2, 2, 3, 4] [19, 20, 21, 18, 22, 23, 24, 2, 3, 4] 105 (by kernel_rfl) rfl (by kernel_rfl) rfl (bDrew (Below.refl _ _)) ⟨?_, ?_, ?_, ?_, ?_, ?_, ?_, ?_, ?_, ?_, ?_, trivial⟩ ?_
  · intro L a W hz hd hk hI hL hcl hdep
    have hN : a.tmps.size = 105 := hz
    have k1 : a.eval (.tmp 1) = .pointer (some ⟨w.heap.size, 0, none⟩) := eval_of ((hk 1 (by decide)).trans rfl)
    apply step_val (s := 19) (v := x0.val) (w' := W)
    · exact exec_load_row 25 _ rfl k1 (kept_box hI H0) Try.underlying25 rfl (sizeInst.trans rfl)
    · rfl
    · rfl
    · omega
    · exact hI
    · exact stab_refl _ _ _ _
    · exact rfl
  · intro L a W hz hd hk hI hL hcl hdep
    have hN : a.tmps.size = 105 := hz
    apply step_call (s := 20) (f := 28) (args := #[])
    · go_simp
    · rfl
    · rfl
    · omega
    refine (conf_any W).mono ?_
    rintro _ W' ⟨rfl, bw⟩
    exact ⟨_, rfl, bTrans hI bw, ST bw _, rfl⟩
  · intro L a W hz hd hk hI hL hcl hdep
    have hN : a.tmps.size = 105 := hz
    obtain ⟨⟨v0, e0, g0⟩, ⟨v1, e1, g1⟩, -, -⟩ := hdep
    replace g0 : v0 = x0.val := g0
    subst g0
    have k19 : a.eval (.tmp 19) = x0.val := eval_of e0
    replace g1 : v1 = cf.val := g1
    subst g1
    have k20 : a.eval (.tmp 20) = cf.val := eval_of e1
    apply step_call (s := 21) (f := 7) (args := #[x0.val, .int .u8 2, .int .u64 5, .int .u64 99, cf.val])
    · go_simp; exact ⟨idx e0, idx e1⟩
    · rfl
    · rfl
    · omega
    refine (do0 W).mono ?_
    rintro _ W' ⟨rfl, bw⟩
    exact ⟨_, rfl, bTrans hI bw, ST bw _, rfl⟩
  · intro L a W hz hd hk hI hL hcl hdep
    have hN : a.tmps.size = 105 := hz
    obtain ⟨⟨v2, e2, g2⟩, -⟩ := hdep
    replace g2 : v2 = .tuple #[x1.val, .int .u8 0, .int .i64 0] := g2
    subst g2
    have k21 : a.eval (.tmp 21) = .tuple #[x1.val, .int .u8 0, .int .i64 0] := eval_of e2
    apply step_val (s := 18) (v := .tuple #[x1.val, .int .u8 0, .int .i64 0]) (w' := W)
    · simp [execOp, k21]
    · rfl
    · rfl
    · omega
    · exact hI
    · exact stab_refl _ _ _ _
    · exact rfl
  · intro L a W hz hd hk hI hL hcl hdep
    have hN : a.tmps.size = 105 := hz
    obtain ⟨⟨v3, e3, g3⟩, -⟩ := hdep
    replace g3 : v3 = .tuple #[x1.val, .int .u8 0, .int .i64 0] := g3
    subst g3
    have k18 : a.eval (.tmp 18) = .tuple #[x1.val, .int .u8 0, .int .i64 0] := eval_of e3
    apply step_val (s := 22) (v := x1.val) (w' := W)
    · simp [execOp, k18]; go_simp
    · rfl
    · rfl
    · omega
    · exact hI
    · exact stab_refl _ _ _ _
    · exact rfl
  · intro L a W hz hd hk hI hL hcl hdep
    have hN : a.tmps.size = 105 := hz
    obtain ⟨⟨v3, e3, g3⟩, -⟩ := hdep
    replace g3 : v3 = .tuple #[x1.val, .int .u8 0, .int .i64 0] := g3
    subst g3
    have k18 : a.eval (.tmp 18) = .tuple #[x1.val, .int .u8 0, .int .i64 0] := eval_of e3
    apply step_val (s := 23) (v := .int .u8 0) (w' := W)
    · simp [execOp, k18]; go_simp
    · rfl
    · rfl
    · omega
    · exact hI
    · exact stab_refl _ _ _ _
    · exact rfl
  · intro L a W hz hd hk hI hL hcl hdep
    have hN : a.tmps.size = 105 := hz
    obtain ⟨⟨v3, e3, g3⟩, -⟩ := hdep
    replace g3 : v3 = .tuple #[x1.val, .int .u8 0, .int .i64 0] := g3
    subst g3
    have k18 : a.eval (.tmp 18) = .tuple #[x1.val, .int .u8 0, .int .i64 0] := eval_of e3
    apply step_val (s := 24) (v := .int .i64 0) (w' := W)
    · simp [execOp, k18]; go_simp
    · rfl
    · rfl
    · omega
    · exact hI
    · exact stab_refl _ _ _ _
    · exact rfl
  · intro L a W hz hd hk hI hL hcl hdep
    have hN : a.tmps.size = 105 := hz
    apply step_val (s := 2) (v := .pointer (some ⟨W.heap.size, 0, none⟩)) (w' := W.alloc (.cells Inst.none_.cells 25 (0, 0)))
    · go_simp <;> rfl
    · rfl
    · rfl
    · omega
    · exact bAlloc hI _
    · exact ST (bAlloc (Below.refl _ _) _) _
    · exact ⟨W.heap.size, Inst.none_.cells, rfl, hI.size, heap_alloc_new _ _, rfl⟩
  · intro L a W hz hd hk hI hL hcl hdep
    have hN : a.tmps.size = 105 := hz
    obtain ⟨⟨v7, e7, g7⟩, ⟨v4, e4, g4⟩, ⟨v2, e2, g2⟩, ⟨v0, e0, g0⟩, ⟨v1, e1, g1⟩, -, ⟨v3, e3, g3⟩, -, -, -⟩ := hdep
    replace g4 : v4 = x1.val := g4
    subst g4
    have k22 : a.eval (.tmp 22) = x1.val := eval_of e4
    replace g2 : v2 = .tuple #[x1.val, .int .u8 0, .int .i64 0] := g2
    subst g2
    have k21 : a.eval (.tmp 21) = .tuple #[x1.val, .int .u8 0, .int .i64 0] := eval_of e2
    replace g0 : v0 = x0.val := g0
    subst g0
    have k19 : a.eval (.tmp 19) = x0.val := eval_of e0
    replace g1 : v1 = cf.val := g1
    subst g1
    have k20 : a.eval (.tmp 20) = cf.val := eval_of e1
    replace g3 : v3 = .tuple #[x1.val, .int .u8 0, .int .i64 0] := g3
    subst g3
    have k18 : a.eval (.tmp 18) = .tuple #[x1.val, .int .u8 0, .int .i64 0] := eval_of e3
    obtain ⟨g, old, rfl, hg, hr, ho⟩ := (show ∃ g old, v7 = .pointer (some ⟨g, 0, none⟩) ∧ u0.heap.size ≤ g ∧ W.heap[g]? = some (.cells old 25 (0, 0)) ∧ old.size = 12 from g7)
    have k2 : a.eval (.tmp 2) = .pointer (some ⟨g, 0, none⟩) := eval_of e7
    apply Flow.step_skip (w' := W.setRow g x1.cells)
    · exact exec_store_row 25 _ _ rfl k2 k22 hr (sizeInst.trans rfl) (ho.trans rfl) x1.one
    · rfl
    · exact below_row _ hI hg
    · refine ⟨.inr fun _ h => h, .inr fun _ h => h, .inr fun _ h => h, .inr fun _ h => h, .inr fun _ h => h, .inr fun _ h => h, .inr fun _ h => h, .inr ?_, .inl rfl, .inr fun _ h => h, .inr fun _ h => h, trivial⟩
      rintro _ ⟨g', old', rfl, hg', hr', ho'⟩
      by_cases e : g = g'
      · subst e; exact ⟨g, _, rfl, hg', row_at hr', rfl⟩
      · exact ⟨g', old', rfl, hg', (row_else e).trans hr', ho'⟩
    · exact ⟨g, k2, hg, row_at hr⟩
  · intro L a W hz hd hk hI hL hcl hdep
    have hN : a.tmps.size = 105 := hz
    obtain ⟨⟨v5, e5, g5⟩, ⟨v8, e8, g8⟩, ⟨v0, e0, g0⟩, ⟨v1, e1, g1⟩, ⟨v2, e2, g2⟩, ⟨v3, e3, g3⟩, ⟨v4, e4, g4⟩, -, ⟨v7, e7, g7⟩, -, -⟩ := hdep
    replace g5 : v5 = .int .u8 0 := g5
    subst g5
    have k23 : a.eval (.tmp 23) = .int .u8 0 := eval_of e5
    replace g0 : v0 = x0.val := g0
    subst g0
    have k19 : a.eval (.tmp 19) = x0.val := eval_of e0
    replace g1 : v1 = cf.val := g1
    subst g1
    have k20 : a.eval (.tmp 20) = cf.val := eval_of e1
    replace g2 : v2 = .tuple #[x1.val, .int .u8 0, .int .i64 0] := g2
    subst g2
    have k21 : a.eval (.tmp 21) = .tuple #[x1.val, .int .u8 0, .int .i64 0] := eval_of e2
    replace g3 : v3 = .tuple #[x1.val, .int .u8 0, .int .i64 0] := g3
    subst g3
    have k18 : a.eval (.tmp 18) = .tuple #[x1.val, .int .u8 0, .int .i64 0] := eval_of e3
    replace g4 : v4 = x1.val := g4
    subst g4
    have k22 : a.eval (.tmp 22) = x1.val := eval_of e4
    apply step_val (s := 3) (v := .int .u8 0) (w' := W)
    · simp [execOp, k23]
    · rfl
    · rfl
    · omega
    · exact hI
    · exact stab_refl _ _ _ _
    · exact rfl
  · intro L a W hz hd hk hI hL hcl hdep
    have hN : a.tmps.size = 105 := hz
    obtain ⟨⟨v6, e6, g6⟩, ⟨v9, e9, g9⟩, ⟨v0, e0, g0⟩, ⟨v1, e1, g1⟩, ⟨v2, e2, g2⟩, ⟨v3, e3, g3⟩, ⟨v4, e4, g4⟩, ⟨v5, e5, g5⟩, -, ⟨v7, e7, g7⟩, ⟨v8, e8, g8⟩, -, -⟩ := hdep
    replace g6 : v6 = .int .i64 0 := g6
    subst g6
    have k24 : a.eval (.tmp 24) = .int .i64 0 := eval_of e6
    replace g9 : v9 = .int .u8 0 := g9
    subst g9
    have k3 : a.eval (.tmp 3) = .int .u8 0 := eval_of e9
    replace g0 : v0 = x0.val := g0
    subst g0
    have k19 : a.eval (.tmp 19) = x0.val := eval_of e0
    replace g1 : v1 = cf.val := g1
    subst g1
    have k20 : a.eval (.tmp 20) = cf.val := eval_of e1
    replace g2 : v2 = .tuple #[x1.val, .int .u8 0, .int .i64 0] := g2
    subst g2
    have k21 : a.eval (.tmp 21) = .tuple #[x1.val, .int .u8 0, .int .i64 0] := eval_of e2
    replace g3 : v3 = .tuple #[x1.val, .int .u8 0, .int .i64 0] := g3
    subst g3
    have k18 : a.eval (.tmp 18) = .tuple #[x1.val, .int .u8 0, .int .i64 0] := eval_of e3
    replace g4 : v4 = x1.val := g4
    subst g4
    have k22 : a.eval (.tmp 22) = x1.val := eval_of e4
    replace g5 : v5 = .int .u8 0 := g5
    subst g5
    have k23 : a.eval (.tmp 23) = .int .u8 0 := eval_of e5
    apply step_val (s := 4) (v := .int .i64 0) (w' := W)
    · simp [execOp, k24]
    · rfl
    · rfl
    · omega
    · exact hI
    · exact stab_refl _ _ _ _
    · exact rfl
  intro u1 Y bI
  replace bI : Below u0.heap.size u0 u1 := bI
  refine fun g0 g1 g2 g3 g4 g5 g6 g7 g8 g9 g10 => ?_
  replace g0 : Y 19 = x0.val := g0
  replace g1 : Y 20 = cf.val := g1
  replace g2 : Y 21 = .tuple #[x1.val, .int .u8 0, .int .i64 0] := g2
  replace g3 : Y 18 = .tuple #[x1.val, .int .u8 0, .int .i64 0] := g3
  replace g4 : Y 22 = x1.val := g4
  replace g5 : Y 23 = .int .u8 0 := g5
  replace g6 : Y 24 = .int .i64 0 := g6
  replace g9 : Y 3 = .int .u8 0 := g9
  replace g10 : Y 4 = .int .i64 0 := g10
  obtain ⟨g0_, eA, hgA, K0⟩ := (show ∃ g, Y 2 = .pointer (some ⟨g, 0, none⟩) ∧ u0.heap.size ≤ g ∧ u1.heap[g]? = some (.cells x1.cells 25 (0, 0)) from g8)
  clear g7 g8 ST
  rename_i K hK
  show K _ u1
  refine hK _ _ ?_
  rw [g0, g1, g2, g3, g4, g5, g6, g9, g10, eA]
  clear hK g0 g1 g2 g3 g4 g5 g6 g9 g10 eA
  try simp only [Act.put, List.setIfInBounds_toArray, List.set_cons_succ, List.set_cons_zero]
  replace H0 := kept_box bI H0
  replace B0 := bTrans B0 bI
  clear bI hgA
  go_wp2_with fail
  have ST : ∀ {W W' : World}, Below W.heap.size W W' → ∀ i, stab W W' i 0 [fun v _ => v = x1.val, fun v _ => v = cf.val, fun v _ => v = .tuple #[x1.val, .int .u8 0, .int .i64 0], fun v _ => v = .tuple #[x1.val, .int .u8 0, .int .i64 0], fun v _ => v = x1.val, fun v _ => v = .int .u8 0, fun v _ => v = .int .i64 0, fun v W => ∃ g old, v = .pointer (some ⟨g, 0, none⟩) ∧ u1.heap.size ≤ g ∧ W.heap[g]? = some (.cells old 25 (0, 0)) ∧ old.size = 12, fun v W => ∃ g, v = .pointer (some ⟨g, 0, none⟩) ∧ u1.heap.size ≤ g ∧ W.heap[g]? = some (.cells x1.cells 25 (0, 0)), fun v _ => v = .int .u8 0, fun v _ => v = .int .i64 0] := by
    intro W W' hb i
    refine ⟨.inr fun _ h => h, .inr fun _ h => h, .inr fun _ h => h, .inr fun _ h => h, .inr fun _ h => h, .inr fun _ h => h, .inr fun _ h => h, .inr ?_, .inr ?_, .inr fun _ h => h, .inr fun _ h => h, trivial⟩
    · rintro _ ⟨g, old, rfl, hg, hr, ho⟩
      exact ⟨g, old, rfl, hg, kept_box hb hr, ho⟩
    · rintro _ ⟨g, rfl, hg, hr⟩
      exact ⟨g, rfl, hg, kept_box hb hr⟩
  refine flow (fun _ W => Below u1.heap.size u1 W) [fun v _ => v = x1.val, fun v _ => v = cf.val, fun v _ => v = .tuple #[x1.val, .int .u8 0, .int .i64 0], fun v _ => v = .tuple #[x1.val, .int .u8 0, .int .i64 0], fun v _ => v = x1.val, fun v _ => v = .int .u8 0, fun v _ => v = .int .i64 0, fun v W => ∃ g old, v = .pointer (some ⟨g, 0, none⟩) ∧ u1.heap.size ≤ g ∧ W.heap[g]? = some (.cells old 25 (0, 0)) ∧ old.size = 12, fun v W => ∃ g, v = .pointer (some ⟨g, 0, none⟩) ∧ u1.heap.size ≤ g ∧ W.heap[g]? = some (.cells x1.cells 25 (0, 0)), fun v _ => v = .int .u8 0, fun v _ => v = .int .i64 0] [26, 27, 28, 25, 29, 30, 31, 5, 5, 6, 7] [26, 27, 28, 25, 29, 30, 31, 5, 6, 7] 105 (by kernel_rfl) rfl (by kernel_rfl) rfl (bDrew (Below.refl _ _)) ⟨?_, ?_, ?_, ?_, ?_, ?_, ?_, ?_, ?_, ?_, ?_, trivial⟩ ?_
  · intro L a W hz hd hk hI hL hcl hdep
    have hN : a.tmps.size = 105 := hz
    have k2 : a.eval (.tmp 2) = .pointer (some ⟨g0_, 0, none⟩) := eval_of ((hk 2 (by decide)).trans rfl)
    apply step_val (s := 26) (v := x1.val) (w' := W)
    · exact exec_load_row 25 _ rfl k2 (kept_box hI K0) Try.underlying25 rfl (sizeInst.trans rfl)
    · rfl
    · rfl
    · omega
    · exact hI
    · exact stab_refl _ _ _ _
    · exact rfl
  · intro L a W hz hd hk hI hL hcl hdep
    have hN : a.tmps.size = 105 := hz
    apply step_call (s := 27) (f := 28) (args := #[])
    · go_simp
    · rfl
    · rfl
    · omega
    refine (conf_any W).mono ?_
    rintro _ W' ⟨rfl, bw⟩
    exact ⟨_, rfl, bTrans hI bw, ST bw _, rfl⟩
  · intro L a W hz hd hk hI hL hcl hdep
    have hN : a.tmps.size = 105 := hz
    obtain ⟨⟨v0, e0, g0⟩, ⟨v1, e1, g1⟩, -, -⟩ := hdep
    replace g0 : v0 = x1.val := g0
    subst g0
    have k26 : a.eval (.tmp 26) = x1.val := eval_of e0
    replace g1 : v1 = cf.val := g1
    subst g1
    have k27 : a.eval (.tmp 27) = cf.val := eval_of e1
    apply step_call (s := 28) (f := 7) (args := #[x1.val, .int .u8 8, .int .u64 6, .int .u64 0, cf.val])
    · go_simp; exact ⟨idx e0, idx e1⟩
    · rfl
    · rfl
    · omega
    refine (do1 W).mono ?_
    rintro _ W' ⟨rfl, bw⟩
    exact ⟨_, rfl, bTrans hI bw, ST bw _, rfl⟩
  · intro L a W hz hd hk hI hL hcl hdep
    have hN : a.tmps.size = 105 := hz
    obtain ⟨⟨v2, e2, g2⟩, -⟩ := hdep
    replace g2 : v2 = .tuple #[x1.val, .int .u8 0, .int .i64 0] := g2
    subst g2
    have k28 : a.eval (.tmp 28) = .tuple #[x1.val, .int .u8 0, .int .i64 0] := eval_of e2
    apply step_val (s := 25) (v := .tuple #[x1.val, .int .u8 0, .int .i64 0]) (w' := W)
    · simp [execOp, k28]
    · rfl
    · rfl
    · omega
    · exact hI
    · exact stab_refl _ _ _ _
    · exact rfl
  · intro L a W hz hd hk hI hL hcl hdep
    have hN : a.tmps.size = 105 := hz
    obtain ⟨⟨v3, e3, g3⟩, -⟩ := hdep
    replace g3 : v3 = .tuple #[x1.val, .int .u8 0, .int .i64 0] := g3
    subst g3
    have k25 : a.eval (.tmp 25) = .tuple #[x1.val, .int .u8 0, .int .i64 0] := eval_of e3
    apply step_val (s := 29) (v := x1.val) (w' := W)
    · simp [execOp, k25]; go_simp
    · rfl
    · rfl
    · omega
    · exact hI
    · exact stab_refl _ _ _ _
    · exact rfl
  · intro L a W hz hd hk hI hL hcl hdep
    have hN : a.tmps.size = 105 := hz
    obtain ⟨⟨v3, e3, g3⟩, -⟩ := hdep
    replace g3 : v3 = .tuple #[x1.val, .int .u8 0, .int .i64 0] := g3
    subst g3
    have k25 : a.eval (.tmp 25) = .tuple #[x1.val, .int .u8 0, .int .i64 0] := eval_of e3
    apply step_val (s := 30) (v := .int .u8 0) (w' := W)
    · simp [execOp, k25]; go_simp
    · rfl
    · rfl
    · omega
    · exact hI
    · exact stab_refl _ _ _ _
    · exact rfl
  · intro L a W hz hd hk hI hL hcl hdep
    have hN : a.tmps.size = 105 := hz
    obtain ⟨⟨v3, e3, g3⟩, -⟩ := hdep
    replace g3 : v3 = .tuple #[x1.val, .int .u8 0, .int .i64 0] := g3
    subst g3
    have k25 : a.eval (.tmp 25) = .tuple #[x1.val, .int .u8 0, .int .i64 0] := eval_of e3
    apply step_val (s := 31) (v := .int .i64 0) (w' := W)
    · simp [execOp, k25]; go_simp
    · rfl
    · rfl
    · omega
    · exact hI
    · exact stab_refl _ _ _ _
    · exact rfl
  · intro L a W hz hd hk hI hL hcl hdep
    have hN : a.tmps.size = 105 := hz
    apply step_val (s := 5) (v := .pointer (some ⟨W.heap.size, 0, none⟩)) (w' := W.alloc (.cells Inst.none_.cells 25 (0, 0)))
    · go_simp <;> rfl
    · rfl
    · rfl
    · omega
    · exact bAlloc hI _
    · exact ST (bAlloc (Below.refl _ _) _) _
    · exact ⟨W.heap.size, Inst.none_.cells, rfl, hI.size, heap_alloc_new _ _, rfl⟩
  · intro L a W hz hd hk hI hL hcl hdep
    have hN : a.tmps.size = 105 := hz
    obtain ⟨⟨v7, e7, g7⟩, ⟨v4, e4, g4⟩, ⟨v2, e2, g2⟩, ⟨v0, e0, g0⟩, ⟨v1, e1, g1⟩, -, ⟨v3, e3, g3⟩, -, -, -⟩ := hdep
    replace g4 : v4 = x1.val := g4
    subst g4
    have k29 : a.eval (.tmp 29) = x1.val := eval_of e4
    replace g2 : v2 = .tuple #[x1.val, .int .u8 0, .int .i64 0] := g2
    subst g2
    have k28 : a.eval (.tmp 28) = .tuple #[x1.val, .int .u8 0, .int .i64 0] := eval_of e2
    replace g0 : v0 = x1.val := g0
    subst g0
    have k26 : a.eval (.tmp 26) = x1.val := eval_of e0
    replace g1 : v1 = cf.val := g1
    subst g1
    have k27 : a.eval (.tmp 27) = cf.val := eval_of e1
    replace g3 : v3 = .tuple #[x1.val, .int .u8 0, .int .i64 0] := g3
    subst g3
    have k25 : a.eval (.tmp 25) = .tuple #[x1.val, .int .u8 0, .int .i64 0] := eval_of e3
    obtain ⟨g, old, rfl, hg, hr, ho⟩ := (show ∃ g old, v7 = .pointer (some ⟨g, 0, none⟩) ∧ u1.heap.size ≤ g ∧ W.heap[g]? = some (.cells old 25 (0, 0)) ∧ old.size = 12 from g7)
    have k5 : a.eval (.tmp 5) = .pointer (some ⟨g, 0, none⟩) := eval_of e7
    apply Flow.step_skip (w' := W.setRow g x1.cells)
    · exact exec_store_row 25 _ _ rfl k5 k29 hr (sizeInst.trans rfl) (ho.trans rfl) x1.one
    · rfl
    · exact below_row _ hI hg
    · refine ⟨.inr fun _ h => h, .inr fun _ h => h, .inr fun _ h => h, .inr fun _ h => h, .inr fun _ h => h, .inr fun _ h => h, .inr fun _ h => h, .inr ?_, .inl rfl, .inr fun _ h => h, .inr fun _ h => h, trivial⟩
      rintro _ ⟨g', old', rfl, hg', hr', ho'⟩
      by_cases e : g = g'
      · subst e; exact ⟨g, _, rfl, hg', row_at hr', rfl⟩
      · exact ⟨g', old', rfl, hg', (row_else e).trans hr', ho'⟩
    · exact ⟨g, k5, hg, row_at hr⟩
  · intro L a W hz hd hk hI hL hcl hdep
    have hN : a.tmps.size = 105 := hz
    obtain ⟨⟨v5, e5, g5⟩, ⟨v8, e8, g8⟩, ⟨v0, e0, g0⟩, ⟨v1, e1, g1⟩, ⟨v2, e2, g2⟩, ⟨v3, e3, g3⟩, ⟨v4, e4, g4⟩, -, ⟨v7, e7, g7⟩, -, -⟩ := hdep
    replace g5 : v5 = .int .u8 0 := g5
    subst g5
    have k30 : a.eval (.tmp 30) = .int .u8 0 := eval_of e5
    replace g0 : v0 = x1.val := g0
    subst g0
    have k26 : a.eval (.tmp 26) = x1.val := eval_of e0
    replace g1 : v1 = cf.val := g1
    subst g1
    have k27 : a.eval (.tmp 27) = cf.val := eval_of e1
    replace g2 : v2 = .tuple #[x1.val, .int .u8 0, .int .i64 0] := g2
    subst g2
    have k28 : a.eval (.tmp 28) = .tuple #[x1.val, .int .u8 0, .int .i64 0] := eval_of e2
    replace g3 : v3 = .tuple #[x1.val, .int .u8 0, .int .i64 0] := g3
    subst g3
    have k25 : a.eval (.tmp 25) = .tuple #[x1.val, .int .u8 0, .int .i64 0] := eval_of e3
    replace g4 : v4 = x1.val := g4
    subst g4
    have k29 : a.eval (.tmp 29) = x1.val := eval_of e4
    apply step_val (s := 6) (v := .int .u8 0) (w' := W)
    · simp [execOp, k30]
    · rfl
    · rfl
    · omega
    · exact hI
    · exact stab_refl _ _ _ _
    · exact rfl
  · intro L a W hz hd hk hI hL hcl hdep
    have hN : a.tmps.size = 105 := hz
    obtain ⟨⟨v6, e6, g6⟩, ⟨v9, e9, g9⟩, ⟨v0, e0, g0⟩, ⟨v1, e1, g1⟩, ⟨v2, e2, g2⟩, ⟨v3, e3, g3⟩, ⟨v4, e4, g4⟩, ⟨v5, e5, g5⟩, -, ⟨v7, e7, g7⟩, ⟨v8, e8, g8⟩, -, -⟩ := hdep
    replace g6 : v6 = .int .i64 0 := g6
    subst g6
    have k31 : a.eval (.tmp 31) = .int .i64 0 := eval_of e6
    replace g9 : v9 = .int .u8 0 := g9
    subst g9
    have k6 : a.eval (.tmp 6) = .int .u8 0 := eval_of e9
    replace g0 : v0 = x1.val := g0
    subst g0
    have k26 : a.eval (.tmp 26) = x1.val := eval_of e0
    replace g1 : v1 = cf.val := g1
    subst g1
    have k27 : a.eval (.tmp 27) = cf.val := eval_of e1
    replace g2 : v2 = .tuple #[x1.val, .int .u8 0, .int .i64 0] := g2
    subst g2
    have k28 : a.eval (.tmp 28) = .tuple #[x1.val, .int .u8 0, .int .i64 0] := eval_of e2
    replace g3 : v3 = .tuple #[x1.val, .int .u8 0, .int .i64 0] := g3
    subst g3
    have k25 : a.eval (.tmp 25) = .tuple #[x1.val, .int .u8 0, .int .i64 0] := eval_of e3
    replace g4 : v4 = x1.val := g4
    subst g4
    have k29 : a.eval (.tmp 29) = x1.val := eval_of e4
    replace g5 : v5 = .int .u8 0 := g5
    subst g5
    have k30 : a.eval (.tmp 30) = .int .u8 0 := eval_of e5
    apply step_val (s := 7) (v := .int .i64 0) (w' := W)
    · simp [execOp, k31]
    · rfl
    · rfl
    · omega
    · exact hI
    · exact stab_refl _ _ _ _
    · exact rfl
  intro u2 Y bI
  replace bI : Below u1.heap.size u1 u2 := bI
  refine fun g0 g1 g2 g3 g4 g5 g6 g7 g8 g9 g10 => ?_
  replace g0 : Y 26 = x1.val := g0
  replace g1 : Y 27 = cf.val := g1
  replace g2 : Y 28 = .tuple #[x1.val, .int .u8 0, .int .i64 0] := g2
  replace g3 : Y 25 = .tuple #[x1.val, .int .u8 0, .int .i64 0] := g3
  replace g4 : Y 29 = x1.val := g4
  replace g5 : Y 30 = .int .u8 0 := g5
  replace g6 : Y 31 = .int .i64 0 := g6
  replace g9 : Y 6 = .int .u8 0 := g9
  replace g10 : Y 7 = .int .i64 0 := g10
  obtain ⟨g1_, eA, hgA, K1⟩ := (show ∃ g, Y 5 = .pointer (some ⟨g, 0, none⟩) ∧ u1.heap.size ≤ g ∧ u2.heap[g]? = some (.cells x1.cells 25 (0, 0)) from g8)
  clear g7 g8 ST
  rename_i K hK
  show K _ u2
  refine hK _ _ ?_
  rw [g0, g1, g2, g3, g4, g5, g6, g9, g10, eA]
  clear hK g0 g1 g2 g3 g4 g5 g6 g9 g10 eA
  try simp only [Act.put, List.setIfInBounds_toArray, List.set_cons_succ, List.set_cons_zero]
  replace H0 := kept_box bI H0
  replace K0 := kept_box bI K0
  replace B0 := bTrans B0 bI
  clear bI hgA
  go_wp2_with fail
  have ST : ∀ {W W' : World}, Below W.heap.size W W' → ∀ i, stab W W' i 0 [fun v _ => v = x1.val, fun v _ => v = cf.val, fun v _ => v = .tuple #[x2.val, .int .u8 0, .int .i64 0], fun v _ => v = .tuple #[x2.val, .int .u8 0, .int .i64 0], fun v _ => v = x2.val, fun v _ => v = .int .u8 0, fun v _ => v = .int .i64 0, fun v W => ∃ g old, v = .pointer (some ⟨g, 0, none⟩) ∧ u2.heap.size ≤ g ∧ W.heap[g]? = some (.cells old 25 (0, 0)) ∧ old.size = 12, fun v W => ∃ g, v = .pointer (some ⟨g, 0, none⟩) ∧ u2.heap.size ≤ g ∧ W.heap[g]? = some (.cells x2.cells 25 (0, 0)), fun v _ => v = .int .u8 0, fun v _ => v = .int .i64 0] := by
    intro W W' hb i
    refine ⟨.inr fun _ h => h, .inr fun _ h => h, .inr fun _ h => h, .inr fun _ h => h, .inr fun _ h => h, .inr fun _ h => h, .inr fun _ h => h, .inr ?_, .inr ?_, .inr fun _ h => h, .inr fun _ h => h, trivial⟩
    · rintro _ ⟨g, old, rfl, hg, hr, ho⟩
      exact ⟨g, old, rfl, hg, kept_box hb hr, ho⟩
    · rintro _ ⟨g, rfl, hg, hr⟩
      exact ⟨g, rfl, hg, kept_box hb hr⟩
  refine flow (fun _ W => Below u2.heap.size u2 W) [fun v _ => v = x1.val, fun v _ => v = cf.val, fun v _ => v = .tuple #[x2.val, .int .u8 0, .int .i64 0], fun v _ => v = .tuple #[x2.val, .int .u8 0, .int .i64 0], fun v _ => v = x2.val, fun v _ => v = .int .u8 0, fun v _ => v = .int .i64 0, fun v W => ∃ g old, v = .pointer (some ⟨g, 0, none⟩) ∧ u2.heap.size ≤ g ∧ W.heap[g]? = some (.cells old 25 (0, 0)) ∧ old.size = 12, fun v W => ∃ g, v = .pointer (some ⟨g, 0, none⟩) ∧ u2.heap.size ≤ g ∧ W.heap[g]? = some (.cells x2.cells 25 (0, 0)), fun v _ => v = .int .u8 0, fun v _ => v = .int .i64 0] [33, 34, 35, 32, 36, 37, 38, 8, 8, 9, 10] [33, 34, 35, 32, 36, 37, 38, 8, 9, 10] 105 (by kernel_rfl) rfl (by kernel_rfl) rfl (bDrew (Below.refl _ _)) ⟨?_, ?_, ?_, ?_, ?_, ?_, ?_, ?_, ?_, ?_, ?_, trivial⟩ ?_
  · intro L a W hz hd hk hI hL hcl hdep
    have hN : a.tmps.size = 105 := hz
    have k5 : a.eval (.tmp 5) = .pointer (some ⟨g1_, 0, none⟩) := eval_of ((hk 5 (by decide)).trans rfl)
    apply step_val (s := 33) (v := x1.val) (w' := W)
    · exact exec_load_row 25 _ rfl k5 (kept_box hI K1) Try.underlying25 rfl (sizeInst.trans rfl)
    · rfl
    · rfl
    · omega
    · exact hI
    · exact stab_refl _ _ _ _
    · exact rfl
  · intro L a W hz hd hk hI hL hcl hdep
    have hN : a.tmps.size = 105 := hz
    apply step_call (s := 34) (f := 28) (args := #[])
    · go_simp
    · rfl
    · rfl
    · omega
    refine (conf_any W).mono ?_
    rintro _ W' ⟨rfl, bw⟩
    exact ⟨_, rfl, bTrans hI bw, ST bw _, rfl⟩
  · intro L a W hz hd hk hI hL hcl hdep
    have hN : a.tmps.size = 105 := hz
    obtain ⟨⟨v0, e0, g0⟩, ⟨v1, e1, g1⟩, -, -⟩ := hdep
    replace g0 : v0 = x1.val := g0
    subst g0
    have k33 : a.eval (.tmp 33) = x1.val := eval_of e0
    replace g1 : v1 = cf.val := g1
    subst g1
    have k34 : a.eval (.tmp 34) = cf.val := eval_of e1
    apply step_call (s := 35) (f := 7) (args := #[x1.val, .int .u8 8, .int .u64 7, .int .u64 0, cf.val])
    · go_simp; exact ⟨idx e0, idx e1⟩
    · rfl
    · rfl
    · omega
    refine (do2 W).mono ?_
    rintro _ W' ⟨rfl, bw⟩
    exact ⟨_, rfl, bTrans hI bw, ST bw _, rfl⟩
  · intro L a W hz hd hk hI hL hcl hdep
    have hN : a.tmps.size = 105 := hz
    obtain ⟨⟨v2, e2, g2⟩, -⟩ := hdep
    replace g2 : v2 = .tuple #[x2.val, .int .u8 0, .int .i64 0] := g2
    subst g2
    have k35 : a.eval (.tmp 35) = .tuple #[x2.val, .int .u8 0, .int .i64 0] := eval_of e2
    apply step_val (s := 32) (v := .tuple #[x2.val, .int .u8 0, .int .i64 0]) (w' := W)
    · simp [execOp, k35]
    · rfl
    · rfl
    · omega
    · exact hI
    · exact stab_refl _ _ _ _
    · exact rfl
  · intro L a W hz hd hk hI hL hcl hdep
    have hN : a.tmps.size = 105 := hz
    obtain ⟨⟨v3, e3, g3⟩, -⟩ := hdep
    replace g3 : v3 = .tuple #[x2.val, .int .u8 0, .int .i64 0] := g3
    subst g3
    have k32 : a.eval (.tmp 32) = .tuple #[x2.val, .int .u8 0, .int .i64 0] := eval_of e3
    apply step_val (s := 36) (v := x2.val) (w' := W)
    · simp [execOp, k32]; go_simp
    · rfl
    · rfl
    · omega
    · exact hI
    · exact stab_refl _ _ _ _
    · exact rfl
  · intro L a W hz hd hk hI hL hcl hdep
    have hN : a.tmps.size = 105 := hz
    obtain ⟨⟨v3, e3, g3⟩, -⟩ := hdep
    replace g3 : v3 = .tuple #[x2.val, .int .u8 0, .int .i64 0] := g3
    subst g3
    have k32 : a.eval (.tmp 32) = .tuple #[x2.val, .int .u8 0, .int .i64 0] := eval_of e3
    apply step_val (s := 37) (v := .int .u8 0) (w' := W)
    · simp [execOp, k32]; go_simp
    · rfl
    · rfl
    · omega
    · exact hI
    · exact stab_refl _ _ _ _
    · exact rfl
  · intro L a W hz hd hk hI hL hcl hdep
    have hN : a.tmps.size = 105 := hz
    obtain ⟨⟨v3, e3, g3⟩, -⟩ := hdep
    replace g3 : v3 = .tuple #[x2.val, .int .u8 0, .int .i64 0] := g3
    subst g3
    have k32 : a.eval (.tmp 32) = .tuple #[x2.val, .int .u8 0, .int .i64 0] := eval_of e3
    apply step_val (s := 38) (v := .int .i64 0) (w' := W)
    · simp [execOp, k32]; go_simp
    · rfl
    · rfl
    · omega
    · exact hI
    · exact stab_refl _ _ _ _
    · exact rfl
  · intro L a W hz hd hk hI hL hcl hdep
    have hN : a.tmps.size = 105 := hz
    apply step_val (s := 8) (v := .pointer (some ⟨W.heap.size, 0, none⟩)) (w' := W.alloc (.cells Inst.none_.cells 25 (0, 0)))
    · go_simp <;> rfl
    · rfl
    · rfl
    · omega
    · exact bAlloc hI _
    · exact ST (bAlloc (Below.refl _ _) _) _
    · exact ⟨W.heap.size, Inst.none_.cells, rfl, hI.size, heap_alloc_new _ _, rfl⟩
  · intro L a W hz hd hk hI hL hcl hdep
    have hN : a.tmps.size = 105 := hz
    obtain ⟨⟨v7, e7, g7⟩, ⟨v4, e4, g4⟩, ⟨v2, e2, g2⟩, ⟨v0, e0, g0⟩, ⟨v1, e1, g1⟩, -, ⟨v3, e3, g3⟩, -, -, -⟩ := hdep
    replace g4 : v4 = x2.val := g4
    subst g4
    have k36 : a.eval (.tmp 36) = x2.val := eval_of e4
    replace g2 : v2 = .tuple #[x2.val, .int .u8 0, .int .i64 0] := g2
    subst g2
    have k35 : a.eval (.tmp 35) = .tuple #[x2.val, .int .u8 0, .int .i64 0] := eval_of e2
    replace g0 : v0 = x1.val := g0
    subst g0
    have k33 : a.eval (.tmp 33) = x1.val := eval_of e0
    replace g1 : v1 = cf.val := g1
    subst g1
    have k34 : a.eval (.tmp 34) = cf.val := eval_of e1
    replace g3 : v3 = .tuple #[x2.val, .int .u8 0, .int .i64 0] := g3
    subst g3
    have k32 : a.eval (.tmp 32) = .tuple #[x2.val, .int .u8 0, .int .i64 0] := eval_of e3
    obtain ⟨g, old, rfl, hg, hr, ho⟩ := (show ∃ g old, v7 = .pointer (some ⟨g, 0, none⟩) ∧ u2.heap.size ≤ g ∧ W.heap[g]? = some (.cells old 25 (0, 0)) ∧ old.size = 12 from g7)
    have k8 : a.eval (.tmp 8) = .pointer (some ⟨g, 0, none⟩) := eval_of e7
    apply Flow.step_skip (w' := W.setRow g x2.cells)
    · exact exec_store_row 25 _ _ rfl k8 k36 hr (sizeInst.trans rfl) (ho.trans rfl) x2.one
    · rfl
    · exact below_row _ hI hg
    · refine ⟨.inr fun _ h => h, .inr fun _ h => h, .inr fun _ h => h, .inr fun _ h => h, .inr fun _ h => h, .inr fun _ h => h, .inr fun _ h => h, .inr ?_, .inl rfl, .inr fun _ h => h, .inr fun _ h => h, trivial⟩
      rintro _ ⟨g', old', rfl, hg', hr', ho'⟩
      by_cases e : g = g'
      · subst e; exact ⟨g, _, rfl, hg', row_at hr', rfl⟩
      · exact ⟨g', old', rfl, hg', (row_else e).trans hr', ho'⟩
    · exact ⟨g, k8, hg, row_at hr⟩
  · intro L a W hz hd hk hI hL hcl hdep
    have hN : a.tmps.size = 105 := hz
    obtain ⟨⟨v5, e5, g5⟩, ⟨v8, e8, g8⟩, ⟨v0, e0, g0⟩, ⟨v1, e1, g1⟩, ⟨v2, e2, g2⟩, ⟨v3, e3, g3⟩, ⟨v4, e4, g4⟩, -, ⟨v7, e7, g7⟩, -, -⟩ := hdep
    replace g5 : v5 = .int .u8 0 := g5
    subst g5
    have k37 : a.eval (.tmp 37) = .int .u8 0 := eval_of e5
    replace g0 : v0 = x1.val := g0
    subst g0
    have k33 : a.eval (.tmp 33) = x1.val := eval_of e0
    replace g1 : v1 = cf.val := g1
    subst g1
    have k34 : a.eval (.tmp 34) = cf.val := eval_of e1
    replace g2 : v2 = .tuple #[x2.val, .int .u8 0, .int .i64 0] := g2
    subst g2
    have k35 : a.eval (.tmp 35) = .tuple #[x2.val, .int .u8 0, .int .i64 0] := eval_of e2
    replace g3 : v3 = .tuple #[x2.val, .int .u8 0, .int .i64 0] := g3
    subst g3
    have k32 : a.eval (.tmp 32) = .tuple #[x2.val, .int .u8 0, .int .i64 0] := eval_of e3
    replace g4 : v4 = x2.val := g4
    subst g4
    have k36 : a.eval (.tmp 36) = x2.val := eval_of e4
    apply step_val (s := 9) (v := .int .u8 0) (w' := W)
    · simp [execOp, k37]
    · rfl
    · rfl
    · omega
    · exact hI
    · exact stab_refl _ _ _ _
    · exact rfl
  · intro L a W hz hd hk hI hL hcl hdep
    have hN : a.tmps.size = 105 := hz
    obtain ⟨⟨v6, e6, g6⟩, ⟨v9, e9, g9⟩, ⟨v0, e0, g0⟩, ⟨v1, e1, g1⟩, ⟨v2, e2, g2⟩, ⟨v3, e3, g3⟩, ⟨v4, e4, g4⟩, ⟨v5, e5, g5⟩, -, ⟨v7, e7, g7⟩, ⟨v8, e8, g8⟩, -, -⟩ := hdep
    replace g6 : v6 = .int .i64 0 := g6
    subst g6
    have k38 : a.eval (.tmp 38) = .int .i64 0 := eval_of e6
    replace g9 : v9 = .int .u8 0 := g9
    subst g9
    have k9 : a.eval (.tmp 9) = .int .u8 0 := eval_of e9
    replace g0 : v0 = x1.val := g0
    subst g0
    have k33 : a.eval (.tmp 33) = x1.val := eval_of e0
    replace g1 : v1 = cf.val := g1
    subst g1
    have k34 : a.eval (.tmp 34) = cf.val := eval_of e1
    replace g2 : v2 = .tuple #[x2.val, .int .u8 0, .int .i64 0] := g2
    subst g2
    have k35 : a.eval (.tmp 35) = .tuple #[x2.val, .int .u8 0, .int .i64 0] := eval_of e2
    replace g3 : v3 = .tuple #[x2.val, .int .u8 0, .int .i64 0] := g3
    subst g3
    have k32 : a.eval (.tmp 32) = .tuple #[x2.val, .int .u8 0, .int .i64 0] := eval_of e3
    replace g4 : v4 = x2.val := g4
    subst g4
    have k36 : a.eval (.tmp 36) = x2.val := eval_of e4
    replace g5 : v5 = .int .u8 0 := g5
    subst g5
    have k37 : a.eval (.tmp 37) = .int .u8 0 := eval_of e5
    apply step_val (s := 10) (v := .int .i64 0) (w' := W)
    · simp [execOp, k38]
    · rfl
    · rfl
    · omega
    · exact hI
    · exact stab_refl _ _ _ _
    · exact rfl
  intro u3 Y bI
  replace bI : Below u2.heap.size u2 u3 := bI
  refine fun g0 g1 g2 g3 g4 g5 g6 g7 g8 g9 g10 => ?_
  replace g0 : Y 33 = x1.val := g0
  replace g1 : Y 34 = cf.val := g1
  replace g2 : Y 35 = .tuple #[x2.val, .int .u8 0, .int .i64 0] := g2
  replace g3 : Y 32 = .tuple #[x2.val, .int .u8 0, .int .i64 0] := g3
  replace g4 : Y 36 = x2.val := g4
  replace g5 : Y 37 = .int .u8 0 := g5
  replace g6 : Y 38 = .int .i64 0 := g6
  replace g9 : Y 9 = .int .u8 0 := g9
  replace g10 : Y 10 = .int .i64 0 := g10
  obtain ⟨g2_, eA, hgA, K2⟩ := (show ∃ g, Y 8 = .pointer (some ⟨g, 0, none⟩) ∧ u2.heap.size ≤ g ∧ u3.heap[g]? = some (.cells x2.cells 25 (0, 0)) from g8)
  clear g7 g8 ST
  rename_i K hK
  show K _ u3
  refine hK _ _ ?_
  rw [g0, g1, g2, g3, g4, g5, g6, g9, g10, eA]
  clear hK g0 g1 g2 g3 g4 g5 g6 g9 g10 eA
  try simp only [Act.put, List.setIfInBounds_toArray, List.set_cons_succ, List.set_cons_zero]
  replace H0 := kept_box bI H0
  replace K0 := kept_box bI K0
  replace K1 := kept_box bI K1
  replace B0 := bTrans B0 bI
  clear bI hgA
  go_wp2_with fail
  have ST : ∀ {W W' : World}, Below W.heap.size W W' → ∀ i, stab W W' i 0 [fun v _ => v = x2.val, fun v _ => v = cf.val, fun v _ => v = .tuple #[x3.val, .int .u8 2, .int .i64 0], fun v _ => v = .tuple #[x3.val, .int .u8 2, .int .i64 0], fun v _ => v = x3.val, fun v _ => v = .int .u8 2, fun v _ => v = .int .i64 0, fun v W => ∃ g old, v = .pointer (some ⟨g, 0, none⟩) ∧ u3.heap.size ≤ g ∧ W.heap[g]? = some (.cells old 25 (0, 0)) ∧ old.size = 12, fun v W => ∃ g, v = .pointer (some ⟨g, 0, none⟩) ∧ u3.heap.size ≤ g ∧ W.heap[g]? = some (.cells x3.cells 25 (0, 0)), fun v _ => v = .int .u8 2, fun v _ => v = .int .i64 0] := by
    intro W W' hb i
    refine ⟨.inr fun _ h => h, .inr fun _ h => h, .inr fun _ h => h, .inr fun _ h => h, .inr fun _ h => h, .inr fun _ h => h, .inr fun _ h => h, .inr ?_, .inr ?_, .inr fun _ h => h, .inr fun _ h => h, trivial⟩
    · rintro _ ⟨g, old, rfl, hg, hr, ho⟩
      exact ⟨g, old, rfl, hg, kept_box hb hr, ho⟩
    · rintro _ ⟨g, rfl, hg, hr⟩
      exact ⟨g, rfl, hg, kept_box hb hr⟩
  refine flow (fun _ W => Below u3.heap.size u3 W) [fun v _ => v = x2.val, fun v _ => v = cf.val, fun v _ => v = .tuple #[x3.val, .int .u8 2, .int .i64 0], fun v _ => v = .tuple #[x3.val, .int .u8 2, .int .i64 0], fun v _ => v = x3.val, fun v _ => v = .int .u8 2, fun v _ => v = .int .i64 0, fun v W => ∃ g old, v = .pointer (some ⟨g, 0, none⟩) ∧ u3.heap.size ≤ g ∧ W.heap[g]? = some (.cells old 25 (0, 0)) ∧ old.size = 12, fun v W => ∃ g, v = .pointer (some ⟨g, 0, none⟩) ∧ u3.heap.size ≤ g ∧ W.heap[g]? = some (.cells x3.cells 25 (0, 0)), fun v _ => v = .int .u8 2, fun v _ => v = .int .i64 0] [40, 41, 42, 39, 43, 44, 45, 11, 11, 12, 13] [40, 41, 42, 39, 43, 44, 45, 11, 12, 13] 105 (by kernel_rfl) rfl (by kernel_rfl) rfl (bDrew (Below.refl _ _)) ⟨?_, ?_, ?_, ?_, ?_, ?_, ?_, ?_, ?_, ?_, ?_, trivial⟩ ?_
  · intro L a W hz hd hk hI hL hcl hdep
    have hN : a.tmps.size = 105 := hz
    have k8 : a.eval (.tmp 8) = .pointer (some ⟨g2_, 0, none⟩) := eval_of ((hk 8 (by decide)).trans rfl)
    apply step_val (s := 40) (v := x2.val) (w' := W)
    · exact exec_load_row 25 _ rfl k8 (kept_box hI K2) Try.underlying25 rfl (sizeInst.trans rfl)
    · rfl
    · rfl
    · omega
    · exact hI
    · exact stab_refl _ _ _ _
    · exact rfl
  · intro L a W hz hd hk hI hL hcl hdep
    have hN : a.tmps.size = 105 := hz
    apply step_call (s := 41) (f := 28) (args := #[])
    · go_simp
    · rfl
    · rfl
    · omega
    refine (conf_any W).mono ?_
    rintro _ W' ⟨rfl, bw⟩
    exact ⟨_, rfl, bTrans hI bw, ST bw _, rfl⟩
  · intro L a W hz hd hk hI hL hcl hdep
    have hN : a.tmps.size = 105 := hz
    obtain ⟨⟨v0, e0, g0⟩, ⟨v1, e1, g1⟩, -, -⟩ := hdep
    replace g0 : v0 = x2.val := g0
    subst g0
    have k40 : a.eval (.tmp 40) = x2.val := eval_of e0
    replace g1 : v1 = cf.val := g1
    subst g1
    have k41 : a.eval (.tmp 41) = cf.val := eval_of e1
    apply step_call (s := 42) (f := 7) (args := #[x2.val, .int .u8 5, .int .u64 8, .int .u64 0, cf.val])
    · go_simp; exact ⟨idx e0, idx e1⟩
    · rfl
    · rfl
    · omega
    refine (do3 W).mono ?_
    rintro _ W' ⟨rfl, bw⟩
    exact ⟨_, rfl, bTrans hI bw, ST bw _, rfl⟩
  · intro L a W hz hd hk hI hL hcl hdep
    have hN : a.tmps.size = 105 := hz
    obtain ⟨⟨v2, e2, g2⟩, -⟩ := hdep
    replace g2 : v2 = .tuple #[x3.val, .int .u8 2, .int .i64 0] := g2
    subst g2
    have k42 : a.eval (.tmp 42) = .tuple #[x3.val, .int .u8 2, .int .i64 0] := eval_of e2
    apply step_val (s := 39) (v := .tuple #[x3.val, .int .u8 2, .int .i64 0]) (w' := W)
    · simp [execOp, k42]
    · rfl
    · rfl
    · omega
    · exact hI
    · exact stab_refl _ _ _ _
    · exact rfl
  · intro L a W hz hd hk hI hL hcl hdep
    have hN : a.tmps.size = 105 := hz
    obtain ⟨⟨v3, e3, g3⟩, -⟩ := hdep
    replace g3 : v3 = .tuple #[x3.val, .int .u8 2, .int .i64 0] := g3
    subst g3
    have k39 : a.eval (.tmp 39) = .tuple #[x3.val, .int .u8 2, .int .i64 0] := eval_of e3
    apply step_val (s := 43) (v := x3.val) (w' := W)
    · simp [execOp, k39]; go_simp
    · rfl
    · rfl
    · omega
    · exact hI
    · exact stab_refl _ _ _ _
    · exact rfl
  · intro L a W hz hd hk hI hL hcl hdep
    have hN : a.tmps.size = 105 := hz
    obtain ⟨⟨v3, e3, g3⟩, -⟩ := hdep
    replace g3 : v3 = .tuple #[x3.val, .int .u8 2, .int .i64 0] := g3
    subst g3
    have k39 : a.eval (.tmp 39) = .tuple #[x3.val, .int .u8 2, .int .i64 0] := eval_of e3
    apply step_val (s := 44) (v := .int .u8 2) (w' := W)
    · simp [execOp, k39]; go_simp
    · rfl
    · rfl
    · omega
    · exact hI
    · exact stab_refl _ _ _ _
    · exact rfl
  · intro L a W hz hd hk hI hL hcl hdep
    have hN : a.tmps.size = 105 := hz
    obtain ⟨⟨v3, e3, g3⟩, -⟩ := hdep
    replace g3 : v3 = .tuple #[x3.val, .int .u8 2, .int .i64 0] := g3
    subst g3
    have k39 : a.eval (.tmp 39) = .tuple #[x3.val, .int .u8 2, .int .i64 0] := eval_of e3
    apply step_val (s := 45) (v := .int .i64 0) (w' := W)
    · simp [execOp, k39]; go_simp
    · rfl
    · rfl
    · omega
    · exact hI
    · exact stab_refl _ _ _ _
    · exact rfl
  · intro L a W hz hd hk hI hL hcl hdep
    have hN : a.tmps.size = 105 := hz
    apply step_val (s := 11) (v := .pointer (some ⟨W.heap.size, 0, none⟩)) (w' := W.alloc (.cells Inst.none_.cells 25 (0, 0)))
    · go_simp <;> rfl
    · rfl
    · rfl
    · omega
    · exact bAlloc hI _
    · exact ST (bAlloc (Below.refl _ _) _) _
    · exact ⟨W.heap.size, Inst.none_.cells, rfl, hI.size, heap_alloc_new _ _, rfl⟩
  · intro L a W hz hd hk hI hL hcl hdep
    have hN : a.tmps.size = 105 := hz
    obtain ⟨⟨v7, e7, g7⟩, ⟨v4, e4, g4⟩, ⟨v2, e2, g2⟩, ⟨v0, e0, g0⟩, ⟨v1, e1, g1⟩, -, ⟨v3, e3, g3⟩, -, -, -⟩ := hdep
    replace g4 : v4 = x3.val := g4
    subst g4
    have k43 : a.eval (.tmp 43) = x3.val := eval_of e4
    replace g2 : v2 = .tuple #[x3.val, .int .u8 2, .int .i64 0] := g2
    subst g2
    have k42 : a.eval (.tmp 42) = .tuple #[x3.val, .int .u8 2, .int .i64 0] := eval_of e2
    replace g0 : v0 = x2.val := g0
    subst g0
    have k40 : a.eval (.tmp 40) = x2.val := eval_of e0
    replace g1 : v1 = cf.val := g1
    subst g1
    have k41 : a.eval (.tmp 41) = cf.val := eval_of e1
    replace g3 : v3 = .tuple #[x3.val, .int .u8 2, .int .i64 0] := g3
    subst g3
    have k39 : a.eval (.tmp 39) = .tuple #[x3.val, .int .u8 2, .int .i64 0] := eval_of e3
    obtain ⟨g, old, rfl, hg, hr, ho⟩ := (show ∃ g old, v7 = .pointer (some ⟨g, 0, none⟩) ∧ u3.heap.size ≤ g ∧ W.heap[g]? = some (.cells old 25 (0, 0)) ∧ old.size = 12 from g7)
    have k11 : a.eval (.tmp 11) = .pointer (some ⟨g, 0, none⟩) := eval_of e7
    apply Flow.step_skip (w' := W.setRow g x3.cells)
    · exact exec_store_row 25 _ _ rfl k11 k43 hr (sizeInst.trans rfl) (ho.trans rfl) x3.one
    · rfl
    · exact below_row _ hI hg
    · refine ⟨.inr fun _ h => h, .inr fun _ h => h, .inr fun _ h => h, .inr fun _ h => h, .inr fun _ h => h, .inr fun _ h => h, .inr fun _ h => h, .inr ?_, .inl rfl, .inr fun _ h => h, .inr fun _ h => h, trivial⟩
      rintro _ ⟨g', old', rfl, hg', hr', ho'⟩
      by_cases e : g = g'
      · subst e; exact ⟨g, _, rfl, hg', row_at hr', rfl⟩
      · exact ⟨g', old', rfl, hg', (row_else e).trans hr', ho'⟩
    · exact ⟨g, k11, hg, row_at hr⟩
  · intro L a W hz hd hk hI hL hcl hdep
    have hN : a.tmps.size = 105 := hz
    obtain ⟨⟨v5, e5, g5⟩, ⟨v8, e8, g8⟩, ⟨v0, e0, g0⟩, ⟨v1, e1, g1⟩, ⟨v2, e2, g2⟩, ⟨v3, e3, g3⟩, ⟨v4, e4, g4⟩, -, ⟨v7, e7, g7⟩, -, -⟩ := hdep
    replace g5 : v5 = .int .u8 2 := g5
    subst g5
    have k44 : a.eval (.tmp 44) = .int .u8 2 := eval_of e5
    replace g0 : v0 = x2.val := g0
    subst g0
    have k40 : a.eval (.tmp 40) = x2.val := eval_of e0
    replace g1 : v1 = cf.val := g1
    subst g1
    have k41 : a.eval (.tmp 41) = cf.val := eval_of e1
    replace g2 : v2 = .tuple #[x3.val, .int .u8 2, .int .i64 0] := g2
    subst g2
    have k42 : a.eval (.tmp 42) = .tuple #[x3.val, .int .u8 2, .int .i64 0] := eval_of e2
    replace g3 : v3 = .tuple #[x3.val, .int .u8 2, .int .i64 0] := g3
    subst g3
    have k39 : a.eval (.tmp 39) = .tuple #[x3.val, .int .u8 2, .int .i64 0] := eval_of e3
    replace g4 : v4 = x3.val := g4
    subst g4
    have k43 : a.eval (.tmp 43) = x3.val := eval_of e4
    apply step_val (s := 12) (v := .int .u8 2) (w' := W)
    · simp [execOp, k44]
    · rfl
    · rfl
    · omega
    · exact hI
    · exact stab_refl _ _ _ _
    · exact rfl
  · intro L a W hz hd hk hI hL hcl hdep
    have hN : a.tmps.size = 105 := hz
    obtain ⟨⟨v6, e6, g6⟩, ⟨v9, e9, g9⟩, ⟨v0, e0, g0⟩, ⟨v1, e1, g1⟩, ⟨v2, e2, g2⟩, ⟨v3, e3, g3⟩, ⟨v4, e4, g4⟩, ⟨v5, e5, g5⟩, -, ⟨v7, e7, g7⟩, ⟨v8, e8, g8⟩, -, -⟩ := hdep
    replace g6 : v6 = .int .i64 0 := g6
    subst g6
    have k45 : a.eval (.tmp 45) = .int .i64 0 := eval_of e6
    replace g9 : v9 = .int .u8 2 := g9
    subst g9
    have k12 : a.eval (.tmp 12) = .int .u8 2 := eval_of e9
    replace g0 : v0 = x2.val := g0
    subst g0
    have k40 : a.eval (.tmp 40) = x2.val := eval_of e0
    replace g1 : v1 = cf.val := g1
    subst g1
    have k41 : a.eval (.tmp 41) = cf.val := eval_of e1
    replace g2 : v2 = .tuple #[x3.val, .int .u8 2, .int .i64 0] := g2
    subst g2
    have k42 : a.eval (.tmp 42) = .tuple #[x3.val, .int .u8 2, .int .i64 0] := eval_of e2
    replace g3 : v3 = .tuple #[x3.val, .int .u8 2, .int .i64 0] := g3
    subst g3
    have k39 : a.eval (.tmp 39) = .tuple #[x3.val, .int .u8 2, .int .i64 0] := eval_of e3
    replace g4 : v4 = x3.val := g4
    subst g4
    have k43 : a.eval (.tmp 43) = x3.val := eval_of e4
    replace g5 : v5 = .int .u8 2 := g5
    subst g5
    have k44 : a.eval (.tmp 44) = .int .u8 2 := eval_of e5
    apply step_val (s := 13) (v := .int .i64 0) (w' := W)
    · simp [execOp, k45]
    · rfl
    · rfl
    · omega
    · exact hI
    · exact stab_refl _ _ _ _
    · exact rfl
  intro u4 Y bI
  replace bI : Below u3.heap.size u3 u4 := bI
  refine fun g0 g1 g2 g3 g4 g5 g6 g7 g8 g9 g10 => ?_
  replace g0 : Y 40 = x2.val := g0
  replace g1 : Y 41 = cf.val := g1
  replace g2 : Y 42 = .tuple #[x3.val, .int .u8 2, .int .i64 0] := g2
  replace g3 : Y 39 = .tuple #[x3.val, .int .u8 2, .int .i64 0] := g3
  replace g4 : Y 43 = x3.val := g4
  replace g5 : Y 44 = .int .u8 2 := g5
  replace g6 : Y 45 = .int .i64 0 := g6
  replace g9 : Y 12 = .int .u8 2 := g9
  replace g10 : Y 13 = .int .i64 0 := g10
  obtain ⟨g3_, eA, hgA, K3⟩ := (show ∃ g, Y 11 = .pointer (some ⟨g, 0, none⟩) ∧ u3.heap.size ≤ g ∧ u4.heap[g]? = some (.cells x3.cells 25 (0, 0)) from g8)
  clear g7 g8 ST
  rename_i K hK
  show K _ u4
  refine hK _ _ ?_
  rw [g0, g1, g2, g3, g4, g5, g6, g9, g10, eA]
  clear hK g0 g1 g2 g3 g4 g5 g6 g9 g10 eA
  try simp only [Act.put, List.setIfInBounds_toArray, List.set_cons_succ, List.set_cons_zero]
  replace H0 := kept_box bI H0
  replace K0 := kept_box bI K0
  replace K1 := kept_box bI K1
  replace K2 := kept_box bI K2
  replace B0 := bTrans B0 bI
  clear bI hgA
  go_wp2_with fail
  have ST : ∀ {W W' : World}, Below W.heap.size W W' → ∀ i, stab W W' i 0 [fun v _ => v = x3.val, fun v _ => v = cf.val, fun v _ => v = .tuple #[x3.val, .int .u8 0, .int .i64 12], fun v _ => v = .tuple #[x3.val, .int .u8 0, .int .i64 12], fun v _ => v = x3.val, fun v _ => v = .int .u8 0, fun v _ => v = .int .i64 12, fun v W => ∃ g old, v = .pointer (some ⟨g, 0, none⟩) ∧ u4.heap.size ≤ g ∧ W.heap[g]? = some (.cells old 25 (0, 0)) ∧ old.size = 12, fun v W => ∃ g, v = .pointer (some ⟨g, 0, none⟩) ∧ u4.heap.size ≤ g ∧ W.heap[g]? = some (.cells x3.cells 25 (0, 0)), fun v _ => v = .int .u8 0, fun v _ => v = .int .i64 12] := by
    intro W W' hb i
    refine ⟨.inr fun _ h => h, .inr fun _ h => h, .inr fun _ h => h, .inr fun _ h => h, .inr fun _ h => h, .inr fun _ h => h, .inr fun _ h => h, .inr ?_, .inr ?_, .inr fun _ h => h, .inr fun _ h => h, trivial⟩
    · rintro _ ⟨g, old, rfl, hg, hr, ho⟩
      exact ⟨g, old, rfl, hg, kept_box hb hr, ho⟩
    · rintro _ ⟨g, rfl, hg, hr⟩
      exact ⟨g, rfl, hg, kept_box hb hr⟩
  refine flow (fun _ W => Below u4.heap.size u4 W) [fun v _ => v = x3.val, fun v _ => v = cf.val, fun v _ => v = .tuple #[x3.val, .int .u8 0, .int .i64 12], fun v _ => v = .tuple #[x3.val, .int .u8 0, .int .i64 12], fun v _ => v = x3.val, fun v _ => v = .int .u8 0, fun v _ => v = .int .i64 12, fun v W => ∃ g old, v = .pointer (some ⟨g, 0, none⟩) ∧ u4.heap.size ≤ g ∧ W.heap[g]? = some (.cells old 25 (0, 0)) ∧ old.size = 12, fun v W => ∃ g, v = .pointer (some ⟨g, 0, none⟩) ∧ u4.heap.size ≤ g ∧ W.heap[g]? = some (.cells x3.cells 25 (0, 0)), fun v _ => v = .int .u8 0, fun v _ => v = .int .i64 12] [47, 48, 49, 46, 50, 51, 52, 14, 14, 15, 16] [47, 48, 49, 46, 50, 51, 52, 14, 15, 16] 105 (by kernel_rfl) rfl (by kernel_rfl) rfl (bDrew (Below.refl _ _)) ⟨?_, ?_, ?_, ?_, ?_, ?_, ?_, ?_, ?_, ?_, ?_, trivial⟩ ?_
  · intro L a W hz hd hk hI hL hcl hdep
    have hN : a.tmps.size = 105 := hz
    have k11 : a.eval (.tmp 11) = .pointer (some ⟨g3_, 0, none⟩) := eval_of ((hk 11 (by decide)).trans rfl)
    apply step_val (s := 47) (v := x3.val) (w' := W)
    · exact exec_load_row 25 _ rfl k11 (kept_box hI K3) Try.underlying25 rfl (sizeInst.trans rfl)
    · rfl
    · rfl
    · omega
    · exact hI
    · exact stab_refl _ _ _ _
    · exact rfl
  · intro L a W hz hd hk hI hL hcl hdep
    have hN : a.tmps.size = 105 := hz
    apply step_call (s := 48) (f := 28) (args := #[])
    · go_simp
    · rfl
    · rfl
    · omega
    refine (conf_any W).mono ?_
    rintro _ W' ⟨rfl, bw⟩
    exact ⟨_, rfl, bTrans hI bw, ST bw _, rfl⟩
  · intro L a W hz hd hk hI hL hcl hdep
    have hN : a.tmps.size = 105 := hz
    obtain ⟨⟨v0, e0, g0⟩, ⟨v1, e1, g1⟩, -, -⟩ := hdep
    replace g0 : v0 = x3.val := g0
    subst g0
    have k47 : a.eval (.tmp 47) = x3.val := eval_of e0
    replace g1 : v1 = cf.val := g1
    subst g1
    have k48 : a.eval (.tmp 48) = cf.val := eval_of e1
    apply step_call (s := 49) (f := 7) (args := #[x3.val, .int .u8 1, .int .u64 9, .int .u64 0, cf.val])
    · go_simp; exact ⟨idx e0, idx e1⟩
    · rfl
    · rfl
    · omega
    refine (do4 W).mono ?_
    rintro _ W' ⟨rfl, bw⟩
    exact ⟨_, rfl, bTrans hI bw, ST bw _, rfl⟩
  · intro L a W hz hd hk hI hL hcl hdep
    have hN : a.tmps.size = 105 := hz
    obtain ⟨⟨v2, e2, g2⟩, -⟩ := hdep
    replace g2 : v2 = .tuple #[x3.val, .int .u8 0, .int .i64 12] := g2
    subst g2
    have k49 : a.eval (.tmp 49) = .tuple #[x3.val, .int .u8 0, .int .i64 12] := eval_of e2
    apply step_val (s := 46) (v := .tuple #[x3.val, .int .u8 0, .int .i64 12]) (w' := W)
    · simp [execOp, k49]
    · rfl
    · rfl
    · omega
    · exact hI
    · exact stab_refl _ _ _ _
    · exact rfl
  · intro L a W hz hd hk hI hL hcl hdep
    have hN : a.tmps.size = 105 := hz
    obtain ⟨⟨v3, e3, g3⟩, -⟩ := hdep
    replace g3 : v3 = .tuple #[x3.val, .int .u8 0, .int .i64 12] := g3
    subst g3
    have k46 : a.eval (.tmp 46) = .tuple #[x3.val, .int .u8 0, .int .i64 12] := eval_of e3
    apply step_val (s := 50) (v := x3.val) (w' := W)
    · simp [execOp, k46]; go_simp
    · rfl
    · rfl
    · omega
    · exact hI
    · exact stab_refl _ _ _ _
    · exact rfl
  · intro L a W hz hd hk hI hL hcl hdep
    have hN : a.tmps.size = 105 := hz
    obtain ⟨⟨v3, e3, g3⟩, -⟩ := hdep
    replace g3 : v3 = .tuple #[x3.val, .int .u8 0, .int .i64 12] := g3
    subst g3
    have k46 : a.eval (.tmp 46) = .tuple #[x3.val, .int .u8 0, .int .i64 12] := eval_of e3
    apply step_val (s := 51) (v := .int .u8 0) (w' := W)
    · simp [execOp, k46]; go_simp
    · rfl
    · rfl
    · omega
    · exact hI
    · exact stab_refl _ _ _ _
    · exact rfl
  · intro L a W hz hd hk hI hL hcl hdep
    have hN : a.tmps.size = 105 := hz
    obtain ⟨⟨v3, e3, g3⟩, -⟩ := hdep
    replace g3 : v3 = .tuple #[x3.val, .int .u8 0, .int .i64 12] := g3
    subst g3
    have k46 : a.eval (.tmp 46) = .tuple #[x3.val, .int .u8 0, .int .i64 12] := eval_of e3
    apply step_val (s := 52) (v := .int .i64 12) (w' := W)
    · simp [execOp, k46]; go_simp
    · rfl
    · rfl
    · omega
    · exact hI
    · exact stab_refl _ _ _ _
    · exact rfl
  · intro L a W hz hd hk hI hL hcl hdep
    have hN : a.tmps.size = 105 := hz
    apply step_val (s := 14) (v := .pointer (some ⟨W.heap.size, 0, none⟩)) (w' := W.alloc (.cells Inst.none_.cells 25 (0, 0)))
    · go_simp <;> rfl
    · rfl
    · rfl
    · omega
    · exact bAlloc hI _
    · exact ST (bAlloc (Below.refl _ _) _) _
    · exact ⟨W.heap.size, Inst.none_.cells, rfl, hI.size, heap_alloc_new _ _, rfl⟩
  · intro L a W hz hd hk hI hL hcl hdep
    have hN : a.tmps.size = 105 := hz
    obtain ⟨⟨v7, e7, g7⟩, ⟨v4, e4, g4⟩, ⟨v2, e2, g2⟩, ⟨v0, e0, g0⟩, ⟨v1, e1, g1⟩, -, ⟨v3, e3, g3⟩, -, -, -⟩ := hdep
    replace g4 : v4 = x3.val := g4
    subst g4
    have k50 : a.eval (.tmp 50) = x3.val := eval_of e4
    replace g2 : v2 = .tuple #[x3.val, .int .u8 0, .int .i64 12] := g2
    subst g2
    have k49 : a.eval (.tmp 49) = .tuple #[x3.val, .int .u8 0, .int .i64 12] := eval_of e2
    replace g0 : v0 = x3.val := g0
    subst g0
    have k47 : a.eval (.tmp 47) = x3.val := eval_of e0
    replace g1 : v1 = cf.val := g1
    subst g1
    have k48 : a.eval (.tmp 48) = cf.val := eval_of e1
    replace g3 : v3 = .tuple #[x3.val, .int .u8 0, .int .i64 12] := g3
    subst g3
    have k46 : a.eval (.tmp 46) = .tuple #[x3.val, .int .u8 0, .int .i64 12] := eval_of e3
    obtain ⟨g, old, rfl, hg, hr, ho⟩ := (show ∃ g old, v7 = .pointer (some ⟨g, 0, none⟩) ∧ u4.heap.size ≤ g ∧ W.heap[g]? = some (.cells old 25 (0, 0)) ∧ old.size = 12 from g7)
    have k14 : a.eval (.tmp 14) = .pointer (some ⟨g, 0, none⟩) := eval_of e7
    apply Flow.step_skip (w' := W.setRow g x3.cells)
    · exact exec_store_row 25 _ _ rfl k14 k50 hr (sizeInst.trans rfl) (ho.trans rfl) x3.one
    · rfl
    · exact below_row _ hI hg
    · refine ⟨.inr fun _ h => h, .inr fun _ h => h, .inr fun _ h => h, .inr fun _ h => h, .inr fun _ h => h, .inr fun _ h => h, .inr fun _ h => h, .inr ?_, .inl rfl, .inr fun _ h => h, .inr fun _ h => h, trivial⟩
      rintro _ ⟨g', old', rfl, hg', hr', ho'⟩
      by_cases e : g = g'
      · subst e; exact ⟨g, _, rfl, hg', row_at hr', rfl⟩
      · exact ⟨g', old', rfl, hg', (row_else e).trans hr', ho'⟩
    · exact ⟨g, k14, hg, row_at hr⟩
  · intro L a W hz hd hk hI hL hcl hdep
    have hN : a.tmps.size = 105 := hz
    obtain ⟨⟨v5, e5, g5⟩, ⟨v8, e8, g8⟩, ⟨v0, e0, g0⟩, ⟨v1, e1, g1⟩, ⟨v2, e2, g2⟩, ⟨v3, e3, g3⟩, ⟨v4, e4, g4⟩, -, ⟨v7, e7, g7⟩, -, -⟩ := hdep
    replace g5 : v5 = .int .u8 0 := g5
    subst g5
    have k51 : a.eval (.tmp 51) = .int .u8 0 := eval_of e5
    replace g0 : v0 = x3.val := g0
    subst g0
    have k47 : a.eval (.tmp 47) = x3.val := eval_of e0
    replace g1 : v1 = cf.val := g1
    subst g1
    have k48 : a.eval (.tmp 48) = cf.val := eval_of e1
    replace g2 : v2 = .tuple #[x3.val, .int .u8 0, .int .i64 12] := g2
    subst g2
    have k49 : a.eval (.tmp 49) = .tuple #[x3.val, .int .u8 0, .int .i64 12] := eval_of e2
    replace g3 : v3 = .tuple #[x3.val, .int .u8 0, .int .i64 12] := g3
    subst g3
    have k46 : a.eval (.tmp 46) = .tuple #[x3.val, .int .u8 0, .int .i64 12] := eval_of e3
    replace g4 : v4 = x3.val := g4
    subst g4
    have k50 : a.eval (.tmp 50) = x3.val := eval_of e4
    apply step_val (s := 15) (v := .int .u8 0) (w' := W)
    · simp [execOp, k51]
    · rfl
    · rfl
    · omega
    · exact hI
    · exact stab_refl _ _ _ _
    · exact rfl
  · intro L a W hz hd hk hI hL hcl hdep
    have hN : a.tmps.size = 105 := hz
    obtain ⟨⟨v6, e6, g6⟩, ⟨v9, e9, g9⟩, ⟨v0, e0, g0⟩, ⟨v1, e1, g1⟩, ⟨v2, e2, g2⟩, ⟨v3, e3, g3⟩, ⟨v4, e4, g4⟩, ⟨v5, e5, g5⟩, -, ⟨v7, e7, g7⟩, ⟨v8, e8, g8⟩, -, -⟩ := hdep
    replace g6 : v6 = .int .i64 12 := g6
    subst g6
    have k52 : a.eval (.tmp 52) = .int .i64 12 := eval_of e6
    replace g9 : v9 = .int .u8 0 := g9
    subst g9
    have k15 : a.eval (.tmp 15) = .int .u8 0 := eval_of e9
    replace g0 : v0 = x3.val := g0
    subst g0
    have k47 : a.eval (.tmp 47) = x3.val := eval_of e0
    replace g1 : v1 = cf.val := g1
    subst g1
    have k48 : a.eval (.tmp 48) = cf.val := eval_of e1
    replace g2 : v2 = .tuple #[x3.val, .int .u8 0, .int .i64 12] := g2
    subst g2
    have k49 : a.eval (.tmp 49) = .tuple #[x3.val, .int .u8 0, .int .i64 12] := eval_of e2
    replace g3 : v3 = .tuple #[x3.val, .int .u8 0, .int .i64 12] := g3
    subst g3
    have k46 : a.eval (.tmp 46) = .tuple #[x3.val, .int .u8 0, .int .i64 12] := eval_of e3
    replace g4 : v4 = x3.val := g4
    subst g4
    have k50 : a.eval (.tmp 50) = x3.val := eval_of e4
    replace g5 : v5 = .int .u8 0 := g5
    subst g5
    have k51 : a.eval (.tmp 51) = .int .u8 0 := eval_of e5
    apply step_val (s := 16) (v := .int .i64 12) (w' := W)
    · simp [execOp, k52]
    · rfl
    · rfl
    · omega
    · exact hI
    · exact stab_refl _ _ _ _
    · exact rfl
  intro u5 Y bI
  replace bI : Below u4.heap.size u4 u5 := bI
  refine fun g0 g1 g2 g3 g4 g5 g6 g7 g8 g9 g10 => ?_
  replace g0 : Y 47 = x3.val := g0
  replace g1 : Y 48 = cf.val := g1
  replace g2 : Y 49 = .tuple #[x3.val, .int .u8 0, .int .i64 12] := g2
  replace g3 : Y 46 = .tuple #[x3.val, .int .u8 0, .int .i64 12] := g3
  replace g4 : Y 50 = x3.val := g4
  replace g5 : Y 51 = .int .u8 0 := g5
  replace g6 : Y 52 = .int .i64 12 := g6
  replace g9 : Y 15 = .int .u8 0 := g9
  replace g10 : Y 16 = .int .i64 12 := g10
  obtain ⟨g4_, eA, hgA, K4⟩ := (show ∃ g, Y 14 = .pointer (some ⟨g, 0, none⟩) ∧ u4.heap.size ≤ g ∧ u5.heap[g]? = some (.cells x3.cells 25 (0, 0)) from g8)
  clear g7 g8 ST
  rename_i K hK
  show K _ u5
  refine hK _ _ ?_
  rw [g0, g1, g2, g3, g4, g5, g6, g9, g10, eA]
  clear hK g0 g1 g2 g3 g4 g5 g6 g9 g10 eA
  try simp only [Act.put, List.setIfInBounds_toArray, List.set_cons_succ, List.set_cons_zero]
  replace H0 := kept_box bI H0
  replace K0 := kept_box bI K0
  replace K1 := kept_box bI K1
  replace K2 := kept_box bI K2
  replace K3 := kept_box bI K3
  replace B0 := bTrans B0 bI
  clear bI hgA
  have s1 : u5.cell? ⟨g0_, 5, none⟩ = some (.int .u8 4) := cell_row K0 rfl
  have t1 : u5.cell? ⟨g0_, 6, none⟩ = some (.int .u64 7) := cell_row K0 rfl
  have s2 : u5.cell? ⟨g1_, 5, none⟩ = some (.int .u8 4) := cell_row K1 rfl
  have t2 : u5.cell? ⟨g1_, 6, none⟩ = some (.int .u64 7) := cell_row K1 rfl
  have s3 : u5.cell? ⟨g2_, 5, none⟩ = some (.int .u8 5) := cell_row K2 rfl
  have t3 : u5.cell? ⟨g2_, 6, none⟩ = some (.int .u64 10) := cell_row K2 rfl
  have s4 : u5.cell? ⟨g3_, 5, none⟩ = some (.int .u8 6) := cell_row K3 rfl
  have t4 : u5.cell? ⟨g3_, 6, none⟩ = some (.int .u64 0) := cell_row K3 rfl
  have s5 : u5.cell? ⟨g4_, 5, none⟩ = some (.int .u8 6) := cell_row K4 rfl
  have t5 : u5.cell? ⟨g4_, 6, none⟩ = some (.int .u64 0) := cell_row K4 rfl
  go_wp2_with fail
  go_ret
  exact ⟨rfl, B0⟩
end Go.Proofs.Ytmbafedpbmldmaa.Does
