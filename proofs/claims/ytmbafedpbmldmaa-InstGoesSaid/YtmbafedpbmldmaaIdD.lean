
/- What becomes of an instance: the program's answer. -/
import Derived.Test.YtmbafedpbmldmaaIdC
import Derived.Test.YtmbafedpbmldmaaFlow
namespace Go.Proofs.Ytmbafedpbmldmaa.Does
open Go.RowKit Go.ChangeShapes Go.WideShapes Go.ChangeAt
open Mem Arr Lst Rec Inst Grown Opens St0 Flow
attribute [local go_sem] Oper.semAt_some
/-- the instance that has become of another by a row -/
def goneX (x : Ins) (what now at_ : Int) (c : Cfg) (r : Rw) : Ins :=
  { x with st := r.to, due := untV r.wait x.due now c, ntd := (if what = 2 then true else x.ntd), kill := (if what = 2 then at_ else x.kill), risk := (if what = 3 then true else x.risk) }
structure Ans where
  x : Ins
  ask : Int
  e : Int
def doV (x : Ins) (what now at_ : Int) (c : Cfg) : Ans :=
  if mayDoB x what now at_ c = false then ⟨x, 0, 2⟩
  else if what = 8 ∧ ((rowOf what x.st).isSome = false ∨ now < x.due) then ⟨x, 0, 0⟩
  else if (rowOf what x.st).isSome = false then ⟨x, 0, 12⟩
  else if what = 4 ∧ x.ntd = true ∧ x.st = 5 then ⟨x, 0, 0⟩
  else ⟨goneX x what now at_ c (unhV what c (rowV what x.st)), (unhV what c (rowV what x.st)).ask, 0⟩
@[reducible] def Ans.val (a : Ans) : Value := .tuple #[a.x.val, .int .u8 a.ask, .int .i64 a.e]
theorem mayDo_is (x : Ins) (what now at_ : Int) (c : Cfg) {v : Bool} (hv : mayDoB x what now at_ c = v) (w : World) : Calls Try.prog 18 #[x.val, .int .u8 what, .int .u64 now, .int .u64 at_, c.val] w fun e w' => e = .returned (.bool v) ∧ Below w.heap.size w w' := by
  have := mayDo_any x what now at_ c w; rw [hv] at this; exact this
structure In0 (now at_ : Int) (c : Cfg) : Prop where
  n0 : 0 ≤ now
  a0 : 0 ≤ c.hookIn
  b0 : 0 ≤ c.hookOut
  d0 : 0 ≤ c.drain
  e0 : 0 ≤ c.deadline
theorem mayDo_in {x : Ins} {what now at_ : Int} {c : Cfg} (h : In0 now at_ c) (hm : mayDoB x what now at_ c = true) : InC now c := by
  unfold mayDoB at hm
  simp only [Bool.and_eq_true, decide_eq_true_eq] at hm
  obtain ⟨⟨⟨h1, h2, h3, h4⟩, _⟩, _, _, h5, _⟩ := hm
  exact ⟨h.n0, h5, h.a0, h1, h.b0, h2, h.d0, h3, h.e0, h4⟩
theorem results_row_tmp2 {fn : Func} {p u v : Tmp} {ty : TypeId} (h : fn.results = #[.cell p ty, .tmp u, .tmp v]) (tmps : Array Value) {P : Program} (w : World) (g : Nat) (t : TypeId) (cs : Array Value) (fr : Nat × Nat) {d : TypeDesc}
    (hx : tmps.getD p undef = .pointer (some ⟨g, 0, none⟩)) (hg : w.heap[g]? = some (.cells cs t fr)) (hu : P.underlying ty = some d) (hd : d.isRow = true) (hi : (P.info? ty).map (·.size) = some cs.size) :
    (results fn tmps).run P w = .ok (.tuple #[.agg cs, tmps.getD u undef, tmps.getD v undef]) w := by
  have e : (results fn tmps).run P w = ((asAddr (tmps.getD p undef)).run P w).andThen fun a w₁ => ((loadVar ty a).run P w₁).andThen fun x w₂ => .ok (.tuple #[x, tmps.getD u undef, tmps.getD v undef]) w₂ := by
    simp only [results, h]
    simp [Sem.run_bind, Result.andThen]
  rw [e, hx]
  simp only [asAddr, Sem.run_pure, Result.andThen_ok, run_loadVar_mid w g 0 ty cs.toList d (range_row hg) hu hd (by rw [hi]; simp)]
theorem MapL.row {w W : World} {b g : Nat} {l : List Nat} {old vs : Array Value} {t : TypeId} (h : MapL w b l W) (hr : W.heap[g]? = some (.cells old t (0, 0))) (hg : w.heap.size ≤ g) : MapL w b l (W.setRow g vs) := by
  obtain ⟨es, clock, hb, he⟩ := h.r
  have e : g ≠ b := fun e => by subst e; rw [hr] at hb; cases hb
  exact ⟨⟨es, clock, (row_else e).trans hb, he⟩, below_row _ h.below hg, h.le, h.lt⟩
theorem unh_is (what : Int) (r r' : Rw) (c : Cfg) (h : unhV what c r = r') (w : World) : Calls Try.prog 20 #[rv r.to r.wait r.ask, .int .u8 what, c.val] w fun e w' => e = .returned (rv r'.to r'.wait r'.ask) ∧ Below w.heap.size w w' := by
  have := unhooked_any what r c w; rw [h] at this; exact this
/-- what stands in the blocks of the call while the instance is turned -/
structure S11 (w : World) (x : Ins) (z : Array Value) (c : Cfg) (r : Rw) (g : Nat) (W : World) : Prop where
  b : Below w.heap.size w W
  x : W.heap[w.heap.size]? = some (.cells x.cells 25 (0, 0))
  c : W.heap[w.heap.size + 1]? = some (.cells c.cells 30 (0, 0))
  z : W.heap[w.heap.size + 1 + 1]? = some (.cells z 25 (0, 0))
  r : W.heap[g]? = some (.cells (rc r.to r.wait r.ask) 51 (0, 0))
  lt : w.heap.size + 1 + 1 < g
theorem S11.call {w W W' : World} {x : Ins} {z : Array Value} {c : Cfg} {r : Rw} {g : Nat} (h : S11 w x z c r g W) (hb : Below W.heap.size W W') : S11 w x z c r g W' :=
  ⟨bTrans h.b hb, kept_box hb h.x, kept_box hb h.c, kept_box hb h.z, kept_box hb h.r, h.lt⟩
theorem S11.set {w W : World} {x y : Ins} {z : Array Value} {c : Cfg} {r : Rw} {g k : Nat} {v : Value} (h : S11 w x z c r g W) (e : x.cells.setIfInBounds k v = y.cells) : S11 w y z c r g (W.setCell ⟨w.heap.size, k, none⟩ v) := by
  have hl := h.lt
  rw [setCell_row h.x, e]
  exact ⟨below_row _ h.b (Nat.le_refl _), row_at h.x, (row_else (by omega)).trans h.c, (row_else (by omega)).trans h.z, (row_else (by omega)).trans h.r, hl⟩
theorem S11.out {w W : World} {x : Ins} {z z' : Array Value} {c : Cfg} {r : Rw} {g : Nat} (h : S11 w x z c r g W) : S11 w x z' c r g (W.setRow (w.heap.size + 1 + 1) z') := by
  have hl := h.lt
  exact ⟨below_row _ h.b (by omega), (row_else (by omega)).trans h.x, (row_else (by omega)).trans h.c, row_at h.z, (row_else (by omega)).trans h.r, hl⟩
set_option maxHeartbeats 8000000 in
set_option maxRecDepth 100000 in
theorem do_any (x : Ins) (what now at_ : Int) (c : Cfg) (h : In0 now at_ c) (w : World) : Calls Try.prog 7 #[x.val, .int .u8 what, .int .u64 now, .int .u64 at_, c.val] w fun e w' => e = .returned (doV x what now at_ c).val ∧ Below w.heap.size w w' := by
  have RC : (((w.alloc (.cells x.cells 25)).alloc (.cells c.cells 30)).alloc (.cells Inst.none_.cells 25)).heap[w.heap.size + 1]? = some (.cells c.cells 30 (0, 0)) := by
    have := heap_alloc_new (w.alloc (.cells x.cells 25)) (.cells c.cells 30)
    rw [World.size_alloc] at this; exact heap_under this
  have RX : (((w.alloc (.cells x.cells 25)).alloc (.cells c.cells 30)).alloc (.cells Inst.none_.cells 25)).heap[w.heap.size]? = some (.cells x.cells 25 (0, 0)) := heap_under (heap_under (heap_alloc_new _ _))
  have R := range_row RX
  have RZ := heap_alloc_new ((w.alloc (.cells x.cells 25)).alloc (.cells c.cells 30)) (.cells Inst.none_.cells 25)
  have eZ : ((w.alloc (.cells x.cells 25)).alloc (.cells c.cells 30)).heap.size = w.heap.size + 1 + 1 := by simp
  rw [eZ] at RZ
  have BW := bAlloc (bAlloc (bAlloc (Below.refl _ w) (.cells x.cells 25)) (.cells c.cells 30)) (.cells Inst.none_.cells 25)
  rcases hm : mayDoB x what now at_ c with _ | _
  · have M := Lib.hid (fun W => mayDo_is x what now at_ c hm W)
    have HV : Hid (doV x what now at_ c = ⟨x, 0, 2⟩) := Lib.hid (by unfold doV; rw [if_pos hm])
    go_enter Try.func7, Try.ntmps7
    go_wp2_with (first | (refine load_cfg rfl _ rfl _ rfl c _ _ RC ?_) | ((with_reducible refine at_load' 25 ?_); (refine load_ins rfl _ rfl _ _ rfl x R ?_)))
    refine (M.out _).mono ?_
    rintro _ u ⟨rfl, bu⟩
    have UX := kept_box bu RX
    have UZ := kept_box bu RZ
    have BU : Below w.heap.size w u := bTrans BW bu
    have R3 := range_row UX
    clear BW RX RC RZ R M bu
    go_wp2_with (first | ((with_reducible refine at_load' 25 ?_); (refine load_ins rfl _ rfl _ _ rfl x R3 ?_)) | ((with_reducible refine at_store 25 ?_); (refine store_whole rfl 25 _ _ rfl (w.heap.size + 1 + 1) x.cells _ _ rfl rfl UZ (sizeInst.trans rfl) rfl x.one ?_)))
    refine bodyPost_ret (v := Ans.val ⟨x, 0, 2⟩) (results_row_tmp2 (fn := Try.f7) (p := 10) (u := 11) (v := 12) rfl _ _ (w.heap.size + 1 + 1) _ x.cells _ rfl (row_at UZ) Try.underlying25 rfl (sizeInst.trans rfl)) rfl ?_
    exact ⟨by rw [HV.out], below_row _ BU (by omega)⟩
  have M := Lib.hid (fun W => mayDo_is x what now at_ c hm W)
  have hc := mayDo_in h hm
  go_enter Try.func7, Try.ntmps7
  go_wp2_with (first | (refine load_cfg rfl _ rfl _ rfl c _ _ RC ?_) | ((with_reducible refine at_load' 25 ?_); (refine load_ins rfl _ rfl _ _ rfl x R ?_)))
  refine (M.out _).mono ?_
  rintro _ u ⟨rfl, bu⟩
  have UX := kept_box bu RX
  have UC := kept_box bu RC
  have UZ := kept_box bu RZ
  have BU : Below w.heap.size w u := bTrans BW bu
  have hs : u.heap.size ≥ w.heap.size + 1 + 1 + 1 := by have := bu.size; simp at this; omega
  go_wp2_with fail

  have U2 := UX
  have ST := cell_row U2 x.f5
  have ST3 : ∀ {W W' : World}, Below W.heap.size W W' → ∀ i, stab W W' i 0 ([fun v W => ∃ b l, v = .map (some b) ∧ MapL u b l W ∧ ∀ k, k ∈ l ↔ k < 32, fun v _ => v = .int .u8 what, fun v _ => v = .pointer (some ⟨w.heap.size, 5, none⟩), fun v _ => v = .int .u8 x.st, fun v _ => v = kv what x.st,
    fun v _ => v = .tuple #[rv (rowV what x.st).to (rowV what x.st).wait (rowV what x.st).ask, .bool (rowOf what x.st).isSome], fun v _ => v = .tuple #[rv (rowV what x.st).to (rowV what x.st).wait (rowV what x.st).ask, .bool (rowOf what x.st).isSome],
    fun v _ => v = rv (rowV what x.st).to (rowV what x.st).wait (rowV what x.st).ask, fun v _ => v = .bool (rowOf what x.st).isSome, fun v W => ∃ g old, v = .pointer (some ⟨g, 0, none⟩) ∧ u.heap.size ≤ g ∧ W.heap[g]? = some (.cells old 51 (0, 0)) ∧ old.size = 3,
    fun v W => ∃ g, v = .pointer (some ⟨g, 0, none⟩) ∧ u.heap.size ≤ g ∧ W.heap[g]? = some (.cells (rc (rowV what x.st).to (rowV what x.st).wait (rowV what x.st).ask) 51 (0, 0)), fun v _ => v = .bool (rowOf what x.st).isSome]) := by
    intro W W' hb i
    refine ⟨.inr ?_, .inr fun _ h => h, .inr fun _ h => h, .inr fun _ h => h, .inr fun _ h => h, .inr fun _ h => h, .inr fun _ h => h, .inr fun _ h => h, .inr fun _ h => h, .inr ?_, .inr ?_, .inr fun _ h => h, trivial⟩
    · rintro _ ⟨b, l, rfl, ml, fl⟩
      exact ⟨b, l, rfl, ml.call hb, fl⟩
    · rintro _ ⟨g, old, rfl, hg, hr, ho⟩
      exact ⟨g, old, rfl, hg, kept_box hb hr, ho⟩
    · rintro _ ⟨g, rfl, hg, hr⟩
      exact ⟨g, rfl, hg, kept_box hb hr⟩
  refine flow (fun _ W => Below u.heap.size u W) ([fun v W => ∃ b l, v = .map (some b) ∧ MapL u b l W ∧ ∀ k, k ∈ l ↔ k < 32, fun v _ => v = .int .u8 what, fun v _ => v = .pointer (some ⟨w.heap.size, 5, none⟩), fun v _ => v = .int .u8 x.st, fun v _ => v = kv what x.st,
    fun v _ => v = .tuple #[rv (rowV what x.st).to (rowV what x.st).wait (rowV what x.st).ask, .bool (rowOf what x.st).isSome], fun v _ => v = .tuple #[rv (rowV what x.st).to (rowV what x.st).wait (rowV what x.st).ask, .bool (rowOf what x.st).isSome],
    fun v _ => v = rv (rowV what x.st).to (rowV what x.st).wait (rowV what x.st).ask, fun v _ => v = .bool (rowOf what x.st).isSome, fun v W => ∃ g old, v = .pointer (some ⟨g, 0, none⟩) ∧ u.heap.size ≤ g ∧ W.heap[g]? = some (.cells old 51 (0, 0)) ∧ old.size = 3,
    fun v W => ∃ g, v = .pointer (some ⟨g, 0, none⟩) ∧ u.heap.size ≤ g ∧ W.heap[g]? = some (.cells (rc (rowV what x.st).to (rowV what x.st).wait (rowV what x.st).ask) 51 (0, 0)), fun v _ => v = .bool (rowOf what x.st).isSome])
    [24, 25, 26, 27, 28, 29, 23, 30, 31, 13, 13, 14] [24, 25, 26, 27, 28, 29, 23, 30, 31, 13, 14] 90 (by kernel_rfl) rfl (by kernel_rfl) rfl (bDrew (Below.refl _ _)) ⟨?_, ?_, ?_, ?_, ?_, ?_, ?_, ?_, ?_, ?_, ?_, ?_, trivial⟩ ?_
  · intro L a W hz hd hk hI hL hcl hdep
    have hN : a.tmps.size = 90 := hz
    apply step_call (s := 24) (f := 19) (args := #[])
    · go_simp
    · rfl
    · rfl
    · omega
    refine (rows_any W).mono ?_
    rintro _ W' ⟨b, l, rfl, ml, fl⟩
    have bw := ml.below
    exact ⟨_, rfl, bTrans hI bw, ST3 bw _, b, l, rfl, ⟨ml.r, bTrans hI bw, Nat.le_trans hI.size ml.le, ml.lt⟩, fl⟩
  · intro L a W hz hd hk hI hL hcl hdep
    have hN : a.tmps.size = 90 := hz
    have k1 := eval_of ((hk 1 (by decide)).trans rfl)
    apply step_val (s := 25) (v := .int .u8 what) (w' := W)
    · simp [execOp, k1]
    · rfl
    · rfl
    · omega
    · exact hI
    · exact stab_refl _ _ _ _
    · exact rfl
  · intro L a W hz hd hk hI hL hcl hdep
    have hN : a.tmps.size = 90 := hz
    have k5 := eval_of ((hk 5 (by decide)).trans rfl)
    apply step_val (s := 26) (v := .pointer (some ⟨w.heap.size, 5, none⟩)) (w' := W)
    · simp [execOp, k5]; go_simp
    · rfl
    · rfl
    · omega
    · exact hI
    · exact stab_refl _ _ _ _
    · exact rfl
  · intro L a W hz hd hk hI hL hcl hdep
    have hN : a.tmps.size = 90 := hz
    obtain ⟨⟨v26, e26, g26⟩, -⟩ := hdep
    replace g26 : v26 = .pointer (some ⟨w.heap.size, 5, none⟩) := g26
    subst g26
    have k26 : a.eval (.tmp 26) = .pointer (some ⟨w.heap.size, 5, none⟩) := eval_of e26
    have c5 : W.cell? ⟨w.heap.size, 5, none⟩ = some (.int .u8 x.st) := cell_row (kept_box hI U2) x.f5
    apply step_val (s := 27) (v := .int .u8 x.st) (w' := W)
    · simp [execOp, k26]; go_simp
    · rfl
    · rfl
    · omega
    · exact hI
    · exact stab_refl _ _ _ _
    · exact rfl
  · intro L a W hz hd hk hI hL hcl hdep
    have hN : a.tmps.size = 90 := hz
    obtain ⟨⟨v25, e25, g25⟩, ⟨v27, e27, g27⟩, -⟩ := hdep
    replace g25 : v25 = .int .u8 what := g25
    subst g25
    have k25 : a.eval (.tmp 25) = .int .u8 what := eval_of e25
    replace g27 : v27 = .int .u8 x.st := g27
    subst g27
    have k27 : a.eval (.tmp 27) = .int .u8 x.st := eval_of e27
    apply step_val (s := 28) (v := kv what x.st) (w' := W)
    · simp [execOp, k25, k27]; rfl
    · rfl
    · rfl
    · omega
    · exact hI
    · exact stab_refl _ _ _ _
    · exact rfl
  · intro L a W hz hd hk hI hL hcl hdep
    have hN : a.tmps.size = 90 := hz
    obtain ⟨⟨v24, e24, g24⟩, ⟨v28, e28, g28⟩, -⟩ := hdep
    have k24 : a.eval (.tmp 24) = v24 := eval_of e24
    replace g28 : v28 = kv what x.st := g28
    subst g28
    have k28 : a.eval (.tmp 28) = kv what x.st := eval_of e28
    obtain ⟨b, l, rfl, ml, fl⟩ := (show ∃ b l, v24 = .map (some b) ∧ MapL u b l W ∧ ∀ k, k ∈ l ↔ k < 32 from g24)
    apply step_val (s := 29) (v := .tuple #[rv (rowV what x.st).to (rowV what x.st).wait (rowV what x.st).ask, .bool (rowOf what x.st).isSome]) (w' := W)
    · simp [execOp, k24, k28, run_look ml fl]
    · rfl
    · rfl
    · omega
    · exact hI
    · exact stab_refl _ _ _ _
    · exact rfl
  · intro L a W hz hd hk hI hL hcl hdep
    have hN : a.tmps.size = 90 := hz
    obtain ⟨⟨v29, e29, g29⟩, -⟩ := hdep
    replace g29 : v29 = .tuple #[rv (rowV what x.st).to (rowV what x.st).wait (rowV what x.st).ask, .bool (rowOf what x.st).isSome] := g29
    subst g29
    have k29 : a.eval (.tmp 29) = .tuple #[rv (rowV what x.st).to (rowV what x.st).wait (rowV what x.st).ask, .bool (rowOf what x.st).isSome] := eval_of e29
    apply step_val (s := 23) (v := .tuple #[rv (rowV what x.st).to (rowV what x.st).wait (rowV what x.st).ask, .bool (rowOf what x.st).isSome]) (w' := W)
    · simp [execOp, k29]
    · rfl
    · rfl
    · omega
    · exact hI
    · exact stab_refl _ _ _ _
    · exact rfl
  · intro L a W hz hd hk hI hL hcl hdep
    have hN : a.tmps.size = 90 := hz
    obtain ⟨⟨v23, e23, g23⟩, -⟩ := hdep
    replace g23 : v23 = .tuple #[rv (rowV what x.st).to (rowV what x.st).wait (rowV what x.st).ask, .bool (rowOf what x.st).isSome] := g23
    subst g23
    have k23 : a.eval (.tmp 23) = .tuple #[rv (rowV what x.st).to (rowV what x.st).wait (rowV what x.st).ask, .bool (rowOf what x.st).isSome] := eval_of e23
    apply step_val (s := 30) (v := rv (rowV what x.st).to (rowV what x.st).wait (rowV what x.st).ask) (w' := W)
    · simp [execOp, k23]; go_simp
    · rfl
    · rfl
    · omega
    · exact hI
    · exact stab_refl _ _ _ _
    · exact rfl
  · intro L a W hz hd hk hI hL hcl hdep
    have hN : a.tmps.size = 90 := hz
    obtain ⟨⟨v23, e23, g23⟩, -⟩ := hdep
    replace g23 : v23 = .tuple #[rv (rowV what x.st).to (rowV what x.st).wait (rowV what x.st).ask, .bool (rowOf what x.st).isSome] := g23
    subst g23
    have k23 : a.eval (.tmp 23) = .tuple #[rv (rowV what x.st).to (rowV what x.st).wait (rowV what x.st).ask, .bool (rowOf what x.st).isSome] := eval_of e23
    apply step_val (s := 31) (v := .bool (rowOf what x.st).isSome) (w' := W)
    · simp [execOp, k23]; go_simp
    · rfl
    · rfl
    · omega
    · exact hI
    · exact stab_refl _ _ _ _
    · exact rfl
  · intro L a W hz hd hk hI hL hcl hdep
    have hN : a.tmps.size = 90 := hz
    apply step_val (s := 13) (v := .pointer (some ⟨W.heap.size, 0, none⟩)) (w' := W.alloc (.cells (rc 0 0 0) 51 (0, 0)))
    · go_simp
    · rfl
    · rfl
    · omega
    · exact bAlloc hI _
    · exact ST3 (bAlloc (Below.refl _ _) _) _
    · exact ⟨W.heap.size, rc 0 0 0, rfl, hI.size, heap_alloc_new _ _, rfl⟩
  · intro L a W hz hd hk hI hL hcl hdep
    have hN : a.tmps.size = 90 := hz
    obtain ⟨⟨v13, e13, g13⟩, ⟨v30, e30, g30⟩, -⟩ := hdep
    have k13 : a.eval (.tmp 13) = v13 := eval_of e13
    replace g30 : v30 = rv (rowV what x.st).to (rowV what x.st).wait (rowV what x.st).ask := g30
    subst g30
    have k30 : a.eval (.tmp 30) = rv (rowV what x.st).to (rowV what x.st).wait (rowV what x.st).ask := eval_of e30
    obtain ⟨g, old, rfl, hg, hr, ho⟩ := (show ∃ g old, v13 = .pointer (some ⟨g, 0, none⟩) ∧ u.heap.size ≤ g ∧ W.heap[g]? = some (.cells old 51 (0, 0)) ∧ old.size = 3 from g13)
    apply Flow.step_skip (w' := W.setRow g (rc (rowV what x.st).to (rowV what x.st).wait (rowV what x.st).ask))
    · exact exec_store_row 51 _ _ rfl k13 k30 hr (sizeRow.trans rfl) ho (rc_one _ _ _)
    · rfl
    · exact below_row _ hI hg
    · refine ⟨.inr ?_, .inr fun _ h => h, .inr fun _ h => h, .inr fun _ h => h, .inr fun _ h => h, .inr fun _ h => h, .inr fun _ h => h, .inr fun _ h => h, .inr fun _ h => h, .inr ?_, .inl rfl, .inr fun _ h => h, trivial⟩
      · rintro _ ⟨b, l, rfl, ml, fl⟩
        exact ⟨b, l, rfl, ml.row hr hg, fl⟩
      · rintro _ ⟨g', old', rfl, hg', hr', ho'⟩
        by_cases e : g = g'
        · subst e; exact ⟨g, _, rfl, hg', row_at hr', rfl⟩
        · exact ⟨g', old', rfl, hg', (row_else e).trans hr', ho'⟩
    · exact ⟨g, k13, hg, row_at hr⟩
  · intro L a W hz hd hk hI hL hcl hdep
    have hN : a.tmps.size = 90 := hz
    obtain ⟨⟨v31, e31, g31⟩, -⟩ := hdep
    replace g31 : v31 = .bool (rowOf what x.st).isSome := g31
    subst g31
    have k31 : a.eval (.tmp 31) = .bool (rowOf what x.st).isSome := eval_of e31
    apply step_val (s := 14) (v := .bool (rowOf what x.st).isSome) (w' := W)
    · simp [execOp, k31]
    · rfl
    · rfl
    · omega
    · exact hI
    · exact stab_refl _ _ _ _
    · exact rfl
  · intro W X hI
    replace hI : Below u.heap.size u W := hI
    refine fun g24 g25 g26 g27 g28 g29 g23 g30 g31 g13 gS g14 => ?_
    replace g25 : X 25 = .int .u8 what := g25
    replace g26 : X 26 = .pointer (some ⟨w.heap.size, 5, none⟩) := g26
    replace g27 : X 27 = .int .u8 x.st := g27
    replace g28 : X 28 = kv what x.st := g28
    replace g29 : X 29 = .tuple #[rv (rowV what x.st).to (rowV what x.st).wait (rowV what x.st).ask, .bool (rowOf what x.st).isSome] := g29
    replace g23 : X 23 = .tuple #[rv (rowV what x.st).to (rowV what x.st).wait (rowV what x.st).ask, .bool (rowOf what x.st).isSome] := g23
    replace g30 : X 30 = rv (rowV what x.st).to (rowV what x.st).wait (rowV what x.st).ask := g30
    replace g31 : X 31 = .bool (rowOf what x.st).isSome := g31
    replace g14 : X 14 = .bool (rowOf what x.st).isSome := g14
    obtain ⟨b, l, e24, ml, fl⟩ := (show ∃ b l, X 24 = .map (some b) ∧ MapL u b l W ∧ ∀ k, k ∈ l ↔ k < 32 from g24)
    obtain ⟨g, e13, hg, hr⟩ := (show ∃ g, X 13 = .pointer (some ⟨g, 0, none⟩) ∧ u.heap.size ≤ g ∧ W.heap[g]? = some (.cells (rc (rowV what x.st).to (rowV what x.st).wait (rowV what x.st).ask) 51 (0, 0)) from gS)
    clear gS g13 g24 ml fl ST3 M R RC RX
    rename_i K hK
    show K _ W
    refine hK _ _ ?_
    rw [e24, g25, g26, g27, g28, g29, g23, g30, g31, e13, g14]
    clear hK e24 g25 g26 g27 g28 g29 g23 g30 g31 e13 g14
    have X3 := kept_box hI UX
    have C3 := kept_box hI UC
    have Z3 := kept_box hI UZ
    have B3 : Below w.heap.size w W := bTrans BU hI
    have DU := cell_row X3 x.f6
    have D5 := cell_row X3 x.f5
    have D7 := cell_row X3 x.f7
    have R3 := range_row X3
    have RGr := range_row hr
    clear hI UX UC UZ BU BW bu U2 ST
    obtain ⟨r, er⟩ : ∃ r, unhV what c (rowV what x.st) = r := ⟨_, rfl⟩
    have hU := Lib.hid (fun W => unh_is what (rowV what x.st) r c er W)
    have hT := Lib.hid (fun W => until_any r.wait x.due now c hc W)
    simp only [List.setIfInBounds_toArray, List.set_cons_succ, List.set_cons_zero]
    by_cases q8 : what = 8
    · have c8 : (what == 8) = true := by simp [q8]
      have c4 : (what == 4) = false := by simp [q8]
      rcases io : (rowOf what x.st).isSome with _ | _
      · skip
        have HV : Hid (doV x what now at_ c = ⟨x, 0, 0⟩) := Lib.hid (by unfold doV; rw [if_neg (by rw [hm]; simp), if_pos ⟨q8, .inl io⟩])
        clear q8
        go_wp2_with (first | ((with_reducible refine at_load' 25 ?_); (refine load_ins rfl _ rfl _ _ rfl x R3 ?_)) | ((with_reducible refine at_store 25 ?_); (refine store_whole rfl 25 _ _ rfl (w.heap.size + 1 + 1) x.cells _ _ rfl rfl Z3 (sizeInst.trans rfl) rfl x.one ?_)))
        refine bodyPost_ret (v := Ans.val ⟨x, 0, 0⟩) (results_row_tmp2 (fn := Try.f7) (p := 10) (u := 11) (v := 12) rfl _ _ (w.heap.size + 1 + 1) _ x.cells _ rfl (row_at Z3) Try.underlying25 rfl (sizeInst.trans rfl)) rfl ?_
        exact ⟨by rw [HV.out], below_row _ B3 (by omega)⟩
      · by_cases qd : now < x.due
        · have k0 := decide_eq_true qd
          have HV : Hid (doV x what now at_ c = ⟨x, 0, 0⟩) := Lib.hid (by unfold doV; rw [if_neg (by rw [hm]; simp), if_pos ⟨q8, .inr qd⟩])
          clear q8 qd
          go_wp2_with (first | ((with_reducible refine at_load' 25 ?_); (refine load_ins rfl _ rfl _ _ rfl x R3 ?_)) | ((with_reducible refine at_store 25 ?_); (refine store_whole rfl 25 _ _ rfl (w.heap.size + 1 + 1) x.cells _ _ rfl rfl Z3 (sizeInst.trans rfl) rfl x.one ?_)))
          refine bodyPost_ret (v := Ans.val ⟨x, 0, 0⟩) (results_row_tmp2 (fn := Try.f7) (p := 10) (u := 11) (v := 12) rfl _ _ (w.heap.size + 1 + 1) _ x.cells _ rfl (row_at Z3) Try.underlying25 rfl (sizeInst.trans rfl)) rfl ?_
          exact ⟨by rw [HV.out], below_row _ B3 (by omega)⟩
        · have k0 := decide_eq_false qd
          have HV : Hid (doV x what now at_ c = ⟨goneX x what now at_ c r, r.ask, 0⟩) := Lib.hid (by unfold doV; rw [if_neg (by rw [hm]; simp), if_neg (fun e => e.2.elim (fun h => by rw [io] at h; cases h) qd), if_neg (by rw [io]; simp), if_neg (by omega)]; rw [er])
          have HG : Hid (goneX x what now at_ c r = { x with st := r.to, due := untV r.wait x.due now c }) := Lib.hid (by unfold goneX; rw [if_neg (by omega), if_neg (by omega), if_neg (by omega)])
          have c2 : (what == 2) = false := by simp; omega
          have c3 : (what == 3) = false := by simp; omega
          clear q8 qd
          go_wp2_with (first | (refine load_cfg rfl _ rfl _ rfl c _ _ C3 ?_) | ((with_reducible refine at_load' 51 ?_); (refine wpList_load_mid rfl 51 _ rfl g 0 rfl (rc (rowV what x.st).to (rowV what x.st).wait (rowV what x.st).ask).toList _ RGr Try.underlying51 rfl (sizeRow.trans rfl) ?_)))
          refine (hU.out _).mono ?_
          rintro _ v ⟨rfl, bv⟩
          have hr4 := kept_box bv hr
          go_wp2_with ((with_reducible refine at_store 51 ?_); (refine store_whole rfl 51 _ _ rfl g (rc r.to r.wait r.ask) _ _ rfl rfl hr4 (sizeRow.trans rfl) rfl (rc_one _ _ _) ?_))
          have HS : S11 w x Inst.none_.cells c r g (v.setRow g (rc r.to r.wait r.ask)) := ⟨below_row _ (bTrans B3 bv) (by omega), (row_else (by omega)).trans (kept_box bv X3), (row_else (by omega)).trans (kept_box bv C3), (row_else (by omega)).trans (kept_box bv Z3), row_at hr4, by omega⟩
          generalize v.setRow g (rc r.to r.wait r.ask) = V at HS ⊢
          clear X3 C3 Z3 B3 DU D5 D7 R3 hr4 bv RGr hr hU
          refine flow (fun L W => S11 w { x with st := cond (L 10) r.to x.st, due := cond (L 12) (untV r.wait x.due now c) x.due } Inst.none_.cells c r g W) [fun v _ => v = .pointer (some ⟨g, 0, none⟩), fun v _ => v = .int .u8 r.to, fun v _ => v = .pointer (some ⟨g, 1, none⟩), fun v _ => v = .int .u8 r.wait, fun v _ => v = .pointer (some ⟨w.heap.size, 6, none⟩), fun v _ => v = .int .u64 x.due, fun v _ => v = .int .u64 now, fun v _ => v = c.val, fun v _ => v = .int .u64 (untV r.wait x.due now c), fun v _ => v = .pointer (some ⟨w.heap.size, 5, none⟩), fun _ _ => True, fun v _ => v = .pointer (some ⟨w.heap.size, 6, none⟩), fun _ _ => True] [67, 68, 69, 70, 71, 72, 73, 74, 75, 76, 76, 77, 77] [67, 68, 69, 70, 71, 72, 73, 74, 75, 76, 77] 90 (by kernel_rfl) rfl (by kernel_rfl) rfl (S11.call HS (bDrew (Below.refl _ _))) ⟨?_, ?_, ?_, ?_, ?_, ?_, ?_, ?_, ?_, ?_, ?_, ?_, ?_, trivial⟩ ?_
          · intro L a W hz hd hk hI hL hcl hdep
            have hN : a.tmps.size = 90 := hz
            have k13 : a.eval (.tmp 13) = .pointer (some ⟨g, 0, none⟩) := eval_of ((hk 13 (by decide)).trans rfl)
            apply step_val (s := 67) (v := .pointer (some ⟨g, 0, none⟩)) (w' := W)
            · simp [execOp, k13]; go_simp
            · rfl
            · rfl
            · omega
            · exact hI
            · exact stab_refl _ _ _ _
            · exact rfl
          · intro L a W hz hd hk hI hL hcl hdep
            have hN : a.tmps.size = 90 := hz
            obtain ⟨⟨v67, e67, g67⟩, -⟩ := hdep
            replace g67 : v67 = .pointer (some ⟨g, 0, none⟩) := g67
            subst g67
            have k67 : a.eval (.tmp 67) = .pointer (some ⟨g, 0, none⟩) := eval_of e67
            have c0 : W.cell? ⟨g, 0, none⟩ = some (.int .u8 r.to) := cell_row hI.r rfl
            apply step_val (s := 68) (v := .int .u8 r.to) (w' := W)
            · simp [execOp, k67]; go_simp
            · rfl
            · rfl
            · omega
            · exact hI
            · exact stab_refl _ _ _ _
            · exact rfl
          · intro L a W hz hd hk hI hL hcl hdep
            have hN : a.tmps.size = 90 := hz
            have k13 : a.eval (.tmp 13) = .pointer (some ⟨g, 0, none⟩) := eval_of ((hk 13 (by decide)).trans rfl)
            apply step_val (s := 69) (v := .pointer (some ⟨g, 1, none⟩)) (w' := W)
            · simp [execOp, k13]; go_simp
            · rfl
            · rfl
            · omega
            · exact hI
            · exact stab_refl _ _ _ _
            · exact rfl
          · intro L a W hz hd hk hI hL hcl hdep
            have hN : a.tmps.size = 90 := hz
            obtain ⟨⟨v69, e69, g69⟩, -⟩ := hdep
            replace g69 : v69 = .pointer (some ⟨g, 1, none⟩) := g69
            subst g69
            have k69 : a.eval (.tmp 69) = .pointer (some ⟨g, 1, none⟩) := eval_of e69
            have c0 : W.cell? ⟨g, 1, none⟩ = some (.int .u8 r.wait) := cell_row hI.r rfl
            apply step_val (s := 70) (v := .int .u8 r.wait) (w' := W)
            · simp [execOp, k69]; go_simp
            · rfl
            · rfl
            · omega
            · exact hI
            · exact stab_refl _ _ _ _
            · exact rfl
          · intro L a W hz hd hk hI hL hcl hdep
            have hN : a.tmps.size = 90 := hz
            have k5 : a.eval (.tmp 5) = .pointer (some ⟨w.heap.size, 0, none⟩) := eval_of ((hk 5 (by decide)).trans rfl)
            apply step_val (s := 71) (v := .pointer (some ⟨w.heap.size, 6, none⟩)) (w' := W)
            · simp [execOp, k5]; go_simp
            · rfl
            · rfl
            · omega
            · exact hI
            · exact stab_refl _ _ _ _
            · exact rfl
          · intro L a W hz hd hk hI hL hcl hdep
            have hN : a.tmps.size = 90 := hz
            obtain ⟨⟨v71, e71, g71⟩, -⟩ := hdep
            replace g71 : v71 = .pointer (some ⟨w.heap.size, 6, none⟩) := g71
            subst g71
            have k71 : a.eval (.tmp 71) = .pointer (some ⟨w.heap.size, 6, none⟩) := eval_of e71
            have n12 : L 12 = false := by
              cases e : L 12 with
              | false => rfl
              | true =>
                have e8 := hcl 12 _ rfl e ⟨8, .data⟩ (by simp) rfl
                have e5 := hcl 8 _ rfl e8 ⟨5, .data⟩ (by simp) rfl
                exact absurd (hL.symm.trans e5) (by simp)
            have c0 : W.cell? ⟨w.heap.size, 6, none⟩ = some (.int .u64 x.due) := by
              have hx := hI.x
              rw [n12] at hx
              exact cell_row hx rfl
            apply step_val (s := 72) (v := .int .u64 x.due) (w' := W)
            · simp [execOp, k71]; go_simp
            · rfl
            · rfl
            · omega
            · exact hI
            · exact stab_refl _ _ _ _
            · exact rfl
          · intro L a W hz hd hk hI hL hcl hdep
            have hN : a.tmps.size = 90 := hz
            have k2 : a.eval (.tmp 2) = .int .u64 now := eval_of ((hk 2 (by decide)).trans rfl)
            apply step_val (s := 73) (v := .int .u64 now) (w' := W)
            · simp [execOp, k2]
            · rfl
            · rfl
            · omega
            · exact hI
            · exact stab_refl _ _ _ _
            · exact rfl
          · intro L a W hz hd hk hI hL hcl hdep
            have hN : a.tmps.size = 90 := hz
            have k9 : a.eval (.tmp 9) = .pointer (some ⟨w.heap.size + 1, 0, none⟩) := eval_of ((hk 9 (by decide)).trans rfl)
            apply step_val (s := 74) (v := c.val) (w' := W)
            · exact exec_load_row 30 _ rfl k9 hI.c Try.underlying30 rfl (infoCfg.trans rfl)
            · rfl
            · rfl
            · omega
            · exact hI
            · exact stab_refl _ _ _ _
            · exact rfl
          · intro L a W hz hd hk hI hL hcl hdep
            have hN : a.tmps.size = 90 := hz
            obtain ⟨⟨v70, e70, g70⟩, ⟨v72, e72, g72⟩, ⟨v73, e73, g73⟩, ⟨v74, e74, g74⟩, -⟩ := hdep
            replace g70 : v70 = .int .u8 r.wait := g70
            subst g70
            have k70 : a.eval (.tmp 70) = .int .u8 r.wait := eval_of e70
            replace g72 : v72 = .int .u64 x.due := g72
            subst g72
            have k72 : a.eval (.tmp 72) = .int .u64 x.due := eval_of e72
            replace g73 : v73 = .int .u64 now := g73
            subst g73
            have k73 : a.eval (.tmp 73) = .int .u64 now := eval_of e73
            replace g74 : v74 = c.val := g74
            subst g74
            have k74 : a.eval (.tmp 74) = c.val := eval_of e74
            apply step_call (s := 75) (f := 21) (args := #[.int .u8 r.wait, .int .u64 x.due, .int .u64 now, c.val])
            · go_simp; exact ⟨idx e70, idx e72, idx e73, idx e74⟩
            · rfl
            · rfl
            · omega
            refine (hT.out W).mono ?_
            rintro _ W' ⟨rfl, bw⟩
            exact ⟨_, rfl, hI.call bw, ⟨.inr fun _ h => h, .inr fun _ h => h, .inr fun _ h => h, .inr fun _ h => h, .inr fun _ h => h, .inr fun _ h => h, .inr fun _ h => h, .inr fun _ h => h, .inr fun _ h => h, .inr fun _ h => h, .inr fun _ h => h, .inr fun _ h => h, .inr fun _ h => h, trivial⟩, rfl⟩
          · intro L a W hz hd hk hI hL hcl hdep
            have hN : a.tmps.size = 90 := hz
            have k5 : a.eval (.tmp 5) = .pointer (some ⟨w.heap.size, 0, none⟩) := eval_of ((hk 5 (by decide)).trans rfl)
            apply step_val (s := 76) (v := .pointer (some ⟨w.heap.size, 5, none⟩)) (w' := W)
            · simp [execOp, k5]; go_simp
            · rfl
            · rfl
            · omega
            · exact hI
            · exact stab_refl _ _ _ _
            · exact rfl
          · intro L a W hz hd hk hI hL hcl hdep
            have hN : a.tmps.size = 90 := hz
            obtain ⟨⟨v76, e76, g76⟩, ⟨v68, e68, g68⟩, -⟩ := hdep
            replace g76 : v76 = .pointer (some ⟨w.heap.size, 5, none⟩) := g76
            subst g76
            have k76 : a.eval (.tmp 76) = .pointer (some ⟨w.heap.size, 5, none⟩) := eval_of e76
            replace g68 : v68 = .int .u8 r.to := g68
            subst g68
            have k68 : a.eval (.tmp 68) = .int .u8 r.to := eval_of e68
            have fr := free_row hI.x
            have c0 := cell_row (k := 5) hI.x rfl
            apply Flow.step_skip (w' := W.setCell ⟨w.heap.size, 5, none⟩ (.int .u8 r.to))
            · simp [execOp, k76, k68]; go_simp
            · rfl
            · exact hI.set rfl
            · exact ⟨.inr fun _ h => h, .inr fun _ h => h, .inr fun _ h => h, .inr fun _ h => h, .inr fun _ h => h, .inr fun _ h => h, .inr fun _ h => h, .inr fun _ h => h, .inr fun _ h => h, .inr fun _ h => h, .inr fun _ h => h, .inr fun _ h => h, .inr fun _ h => h, trivial⟩
            · trivial
          · intro L a W hz hd hk hI hL hcl hdep
            have hN : a.tmps.size = 90 := hz
            have k5 : a.eval (.tmp 5) = .pointer (some ⟨w.heap.size, 0, none⟩) := eval_of ((hk 5 (by decide)).trans rfl)
            apply step_val (s := 77) (v := .pointer (some ⟨w.heap.size, 6, none⟩)) (w' := W)
            · simp [execOp, k5]; go_simp
            · rfl
            · rfl
            · omega
            · exact hI
            · exact stab_refl _ _ _ _
            · exact rfl
          · intro L a W hz hd hk hI hL hcl hdep
            have hN : a.tmps.size = 90 := hz
            obtain ⟨⟨v77, e77, g77⟩, ⟨v75, e75, g75⟩, -⟩ := hdep
            replace g77 : v77 = .pointer (some ⟨w.heap.size, 6, none⟩) := g77
            subst g77
            have k77 : a.eval (.tmp 77) = .pointer (some ⟨w.heap.size, 6, none⟩) := eval_of e77
            replace g75 : v75 = .int .u64 (untV r.wait x.due now c) := g75
            subst g75
            have k75 : a.eval (.tmp 75) = .int .u64 (untV r.wait x.due now c) := eval_of e75
            have fr := free_row hI.x
            have c0 := cell_row (k := 6) hI.x rfl
            apply Flow.step_skip (w' := W.setCell ⟨w.heap.size, 6, none⟩ (.int .u64 (untV r.wait x.due now c)))
            · simp [execOp, k77, k75]; go_simp
            · rfl
            · exact hI.set rfl
            · exact ⟨.inr fun _ h => h, .inr fun _ h => h, .inr fun _ h => h, .inr fun _ h => h, .inr fun _ h => h, .inr fun _ h => h, .inr fun _ h => h, .inr fun _ h => h, .inr fun _ h => h, .inr fun _ h => h, .inr fun _ h => h, .inr fun _ h => h, .inr fun _ h => h, trivial⟩
            · trivial
          clear HS
          intro W Y HS
          replace HS : S11 w { x with st := r.to, due := untV r.wait x.due now c } Inst.none_.cells c r g W := HS
          refine fun g67 g68 g69 g70 g71 g72 g73 g74 g75 g76 gS1 g77 gS2 => ?_
          replace g67 : Y 67 = .pointer (some ⟨g, 0, none⟩) := g67
          replace g68 : Y 68 = .int .u8 r.to := g68
          replace g69 : Y 69 = .pointer (some ⟨g, 1, none⟩) := g69
          replace g70 : Y 70 = .int .u8 r.wait := g70
          replace g71 : Y 71 = .pointer (some ⟨w.heap.size, 6, none⟩) := g71
          replace g72 : Y 72 = .int .u64 x.due := g72
          replace g73 : Y 73 = .int .u64 now := g73
          replace g74 : Y 74 = c.val := g74
          replace g75 : Y 75 = .int .u64 (untV r.wait x.due now c) := g75
          replace g76 : Y 76 = .pointer (some ⟨w.heap.size, 5, none⟩) := g76
          replace g77 : Y 77 = .pointer (some ⟨w.heap.size, 6, none⟩) := g77
          clear gS1 gS2
          rename_i K hK
          show K _ W
          refine hK _ _ ?_
          rw [g67, g68, g69, g70, g71, g72, g73, g74, g75, g76, g77]
          clear hK g67 g68 g69 g70 g71 g72 g73 g74 g75 g76 g77
          try simp only [List.setIfInBounds_toArray, List.set_cons_succ, List.set_cons_zero]
          go_wp2_with fail
          obtain ⟨y, ey⟩ : ∃ y : Ins, goneX x what now at_ c r = y := ⟨_, rfl⟩
          rw [← HG.out, ey] at HS
          rw [ey] at HV
          clear HG
          refine flow (fun L W => S11 w y (cond (L 3) y.cells Inst.none_.cells) c r g W) [fun v _ => v = y.val, fun v _ => v = .pointer (some ⟨g, 2, none⟩), fun v _ => v = .int .u8 r.ask, fun _ _ => True, fun v _ => v = .int .u8 r.ask, fun v _ => v = .int .i64 0] [87, 88, 89, 87, 11, 12] [87, 88, 89, 11, 12] 90 (by kernel_rfl) rfl (by kernel_rfl) rfl (S11.call HS (bDrew (Below.refl _ _))) ⟨?_, ?_, ?_, ?_, ?_, ?_, trivial⟩ ?_
          · intro L a W hz hd hk hI hL hcl hdep
            have hN : a.tmps.size = 90 := hz
            have k5 : a.eval (.tmp 5) = .pointer (some ⟨w.heap.size, 0, none⟩) := eval_of ((hk 5 (by decide)).trans rfl)
            apply step_val (s := 87) (v := y.val) (w' := W)
            · exact exec_load_row 25 _ rfl k5 hI.x Try.underlying25 rfl (sizeInst.trans rfl)
            · rfl
            · rfl
            · omega
            · exact hI
            · exact stab_refl _ _ _ _
            · exact rfl
          · intro L a W hz hd hk hI hL hcl hdep
            have hN : a.tmps.size = 90 := hz
            have k13 : a.eval (.tmp 13) = .pointer (some ⟨g, 0, none⟩) := eval_of ((hk 13 (by decide)).trans rfl)
            apply step_val (s := 88) (v := .pointer (some ⟨g, 2, none⟩)) (w' := W)
            · simp [execOp, k13]; go_simp
            · rfl
            · rfl
            · omega
            · exact hI
            · exact stab_refl _ _ _ _
            · exact rfl
          · intro L a W hz hd hk hI hL hcl hdep
            have hN : a.tmps.size = 90 := hz
            obtain ⟨⟨v88, e88, g88⟩, -⟩ := hdep
            replace g88 : v88 = .pointer (some ⟨g, 2, none⟩) := g88
            subst g88
            have k88 : a.eval (.tmp 88) = .pointer (some ⟨g, 2, none⟩) := eval_of e88
            have c0 : W.cell? ⟨g, 2, none⟩ = some (.int .u8 r.ask) := cell_row hI.r rfl
            apply step_val (s := 89) (v := .int .u8 r.ask) (w' := W)
            · simp [execOp, k88]; go_simp
            · rfl
            · rfl
            · omega
            · exact hI
            · exact stab_refl _ _ _ _
            · exact rfl
          · intro L a W hz hd hk hI hL hcl hdep
            have hN : a.tmps.size = 90 := hz
            have k10 : a.eval (.tmp 10) = .pointer (some ⟨w.heap.size + 1 + 1, 0, none⟩) := eval_of ((hk 10 (by decide)).trans rfl)
            replace hdep := hdep.1
            have hdep := And.intro hdep True.intro
            obtain ⟨⟨v87, e87, g87⟩, -⟩ := hdep
            replace g87 : v87 = y.val := g87
            subst g87
            have k87 : a.eval (.tmp 87) = y.val := eval_of e87
            apply Flow.step_skip (w' := W.setRow (w.heap.size + 1 + 1) y.cells)
            · refine exec_store_row 25 _ _ rfl k10 k87 hI.z (sizeInst.trans rfl) ?_ y.one
              cases L 3 <;> rfl
            · rfl
            · exact hI.out
            · exact ⟨.inr fun _ h => h, .inr fun _ h => h, .inr fun _ h => h, .inr fun _ h => h, .inr fun _ h => h, .inr fun _ h => h, trivial⟩
            · trivial
          · intro L a W hz hd hk hI hL hcl hdep
            have hN : a.tmps.size = 90 := hz
            replace hdep := And.intro hdep.1 True.intro
            obtain ⟨⟨v89, e89, g89⟩, -⟩ := hdep
            replace g89 : v89 = .int .u8 r.ask := g89
            subst g89
            have k89 : a.eval (.tmp 89) = .int .u8 r.ask := eval_of e89
            apply step_val (s := 11) (v := .int .u8 r.ask) (w' := W)
            · simp [execOp, k89]
            · rfl
            · rfl
            · omega
            · exact hI
            · exact stab_refl _ _ _ _
            · exact rfl
          · intro L a W hz hd hk hI hL hcl hdep
            have hN : a.tmps.size = 90 := hz
            apply step_val (s := 12) (v := .int .i64 0) (w' := W)
            · simp [execOp]; rfl
            · rfl
            · rfl
            · omega
            · exact hI
            · exact stab_refl _ _ _ _
            · exact rfl
          clear HS
          intro W Y HS
          replace HS : S11 w y y.cells c r g W := HS
          refine fun g87 g88 g89 gS g11 g12 => ?_
          replace g87 : Y 87 = y.val := g87
          replace g88 : Y 88 = .pointer (some ⟨g, 2, none⟩) := g88
          replace g89 : Y 89 = .int .u8 r.ask := g89
          replace g11 : Y 11 = .int .u8 r.ask := g11
          replace g12 : Y 12 = .int .i64 0 := g12
          clear gS
          rename_i K hK
          show K _ W
          refine hK _ _ ?_
          rw [g87, g88, g89, g11, g12]
          clear hK g87 g88 g89 g11 g12
          try simp only [List.setIfInBounds_toArray, List.set_cons_succ, List.set_cons_zero]
          go_wp2_with fail
          refine bodyPost_ret (v := Ans.val ⟨y, r.ask, 0⟩) (results_row_tmp2 (fn := Try.f7) (p := 10) (u := 11) (v := 12) rfl _ _ (w.heap.size + 1 + 1) _ y.cells _ rfl HS.z Try.underlying25 rfl (sizeInst.trans rfl)) rfl ?_
          exact ⟨by rw [HV.out], HS.b⟩
    · have c8 : (what == 8) = false := by simp [q8]
      rcases io : (rowOf what x.st).isSome with _ | _
      · skip
        have HV : Hid (doV x what now at_ c = ⟨x, 0, 12⟩) := Lib.hid (by unfold doV; rw [if_neg (by rw [hm]; simp), if_neg (fun e => q8 e.1), if_pos io])
        clear q8
        go_wp2_with (first | ((with_reducible refine at_load' 25 ?_); (refine load_ins rfl _ rfl _ _ rfl x R3 ?_)) | ((with_reducible refine at_store 25 ?_); (refine store_whole rfl 25 _ _ rfl (w.heap.size + 1 + 1) x.cells _ _ rfl rfl Z3 (sizeInst.trans rfl) rfl x.one ?_)))
        refine bodyPost_ret (v := Ans.val ⟨x, 0, 12⟩) (results_row_tmp2 (fn := Try.f7) (p := 10) (u := 11) (v := 12) rfl _ _ (w.heap.size + 1 + 1) _ x.cells _ rfl (row_at Z3) Try.underlying25 rfl (sizeInst.trans rfl)) rfl ?_
        exact ⟨by rw [HV.out], below_row _ B3 (by omega)⟩
      · by_cases q4 : what = 4
        · have c4 : (what == 4) = true := by simp [q4]
          rcases hn : x.ntd with _ | _
          · rw [hn] at D7
            have HV : Hid (doV x what now at_ c = ⟨goneX x what now at_ c r, r.ask, 0⟩) := Lib.hid (by unfold doV; rw [if_neg (by rw [hm]; simp), if_neg (fun e => q8 e.1), if_neg (by rw [io]; simp), if_neg (fun e => by rw [hn] at e; exact absurd e.2.1 (by simp))]; rw [er])
            have HG : Hid (goneX x what now at_ c r = { x with st := r.to, due := untV r.wait x.due now c }) := Lib.hid (by unfold goneX; rw [if_neg (by omega), if_neg (by omega), if_neg (by omega)])
            have c2 : (what == 2) = false := by simp; omega
            have c3 : (what == 3) = false := by simp; omega
            clear q4 q8
            go_wp2_with (first | (refine load_cfg rfl _ rfl _ rfl c _ _ C3 ?_) | ((with_reducible refine at_load' 51 ?_); (refine wpList_load_mid rfl 51 _ rfl g 0 rfl (rc (rowV what x.st).to (rowV what x.st).wait (rowV what x.st).ask).toList _ RGr Try.underlying51 rfl (sizeRow.trans rfl) ?_)))
            refine (hU.out _).mono ?_
            rintro _ v ⟨rfl, bv⟩
            have hr4 := kept_box bv hr
            go_wp2_with ((with_reducible refine at_store 51 ?_); (refine store_whole rfl 51 _ _ rfl g (rc r.to r.wait r.ask) _ _ rfl rfl hr4 (sizeRow.trans rfl) rfl (rc_one _ _ _) ?_))
            have HS : S11 w x Inst.none_.cells c r g (v.setRow g (rc r.to r.wait r.ask)) := ⟨below_row _ (bTrans B3 bv) (by omega), (row_else (by omega)).trans (kept_box bv X3), (row_else (by omega)).trans (kept_box bv C3), (row_else (by omega)).trans (kept_box bv Z3), row_at hr4, by omega⟩
            generalize v.setRow g (rc r.to r.wait r.ask) = V at HS ⊢
            clear X3 C3 Z3 B3 DU D5 D7 R3 hr4 bv RGr hr hU
            refine flow (fun L W => S11 w { x with st := cond (L 10) r.to x.st, due := cond (L 12) (untV r.wait x.due now c) x.due } Inst.none_.cells c r g W) [fun v _ => v = .pointer (some ⟨g, 0, none⟩), fun v _ => v = .int .u8 r.to, fun v _ => v = .pointer (some ⟨g, 1, none⟩), fun v _ => v = .int .u8 r.wait, fun v _ => v = .pointer (some ⟨w.heap.size, 6, none⟩), fun v _ => v = .int .u64 x.due, fun v _ => v = .int .u64 now, fun v _ => v = c.val, fun v _ => v = .int .u64 (untV r.wait x.due now c), fun v _ => v = .pointer (some ⟨w.heap.size, 5, none⟩), fun _ _ => True, fun v _ => v = .pointer (some ⟨w.heap.size, 6, none⟩), fun _ _ => True] [67, 68, 69, 70, 71, 72, 73, 74, 75, 76, 76, 77, 77] [67, 68, 69, 70, 71, 72, 73, 74, 75, 76, 77] 90 (by kernel_rfl) rfl (by kernel_rfl) rfl (S11.call HS (bDrew (Below.refl _ _))) ⟨?_, ?_, ?_, ?_, ?_, ?_, ?_, ?_, ?_, ?_, ?_, ?_, ?_, trivial⟩ ?_
            · intro L a W hz hd hk hI hL hcl hdep
              have hN : a.tmps.size = 90 := hz
              have k13 : a.eval (.tmp 13) = .pointer (some ⟨g, 0, none⟩) := eval_of ((hk 13 (by decide)).trans rfl)
              apply step_val (s := 67) (v := .pointer (some ⟨g, 0, none⟩)) (w' := W)
              · simp [execOp, k13]; go_simp
              · rfl
              · rfl
              · omega
              · exact hI
              · exact stab_refl _ _ _ _
              · exact rfl
            · intro L a W hz hd hk hI hL hcl hdep
              have hN : a.tmps.size = 90 := hz
              obtain ⟨⟨v67, e67, g67⟩, -⟩ := hdep
              replace g67 : v67 = .pointer (some ⟨g, 0, none⟩) := g67
              subst g67
              have k67 : a.eval (.tmp 67) = .pointer (some ⟨g, 0, none⟩) := eval_of e67
              have c0 : W.cell? ⟨g, 0, none⟩ = some (.int .u8 r.to) := cell_row hI.r rfl
              apply step_val (s := 68) (v := .int .u8 r.to) (w' := W)
              · simp [execOp, k67]; go_simp
              · rfl
              · rfl
              · omega
              · exact hI
              · exact stab_refl _ _ _ _
              · exact rfl
            · intro L a W hz hd hk hI hL hcl hdep
              have hN : a.tmps.size = 90 := hz
              have k13 : a.eval (.tmp 13) = .pointer (some ⟨g, 0, none⟩) := eval_of ((hk 13 (by decide)).trans rfl)
              apply step_val (s := 69) (v := .pointer (some ⟨g, 1, none⟩)) (w' := W)
              · simp [execOp, k13]; go_simp
              · rfl
              · rfl
              · omega
              · exact hI
              · exact stab_refl _ _ _ _
              · exact rfl
            · intro L a W hz hd hk hI hL hcl hdep
              have hN : a.tmps.size = 90 := hz
              obtain ⟨⟨v69, e69, g69⟩, -⟩ := hdep
              replace g69 : v69 = .pointer (some ⟨g, 1, none⟩) := g69
              subst g69
              have k69 : a.eval (.tmp 69) = .pointer (some ⟨g, 1, none⟩) := eval_of e69
              have c0 : W.cell? ⟨g, 1, none⟩ = some (.int .u8 r.wait) := cell_row hI.r rfl
              apply step_val (s := 70) (v := .int .u8 r.wait) (w' := W)
              · simp [execOp, k69]; go_simp
              · rfl
              · rfl
              · omega
              · exact hI
              · exact stab_refl _ _ _ _
              · exact rfl
            · intro L a W hz hd hk hI hL hcl hdep
              have hN : a.tmps.size = 90 := hz
              have k5 : a.eval (.tmp 5) = .pointer (some ⟨w.heap.size, 0, none⟩) := eval_of ((hk 5 (by decide)).trans rfl)
              apply step_val (s := 71) (v := .pointer (some ⟨w.heap.size, 6, none⟩)) (w' := W)
              · simp [execOp, k5]; go_simp
              · rfl
              · rfl
              · omega
              · exact hI
              · exact stab_refl _ _ _ _
              · exact rfl
            · intro L a W hz hd hk hI hL hcl hdep
              have hN : a.tmps.size = 90 := hz
              obtain ⟨⟨v71, e71, g71⟩, -⟩ := hdep
              replace g71 : v71 = .pointer (some ⟨w.heap.size, 6, none⟩) := g71
              subst g71
              have k71 : a.eval (.tmp 71) = .pointer (some ⟨w.heap.size, 6, none⟩) := eval_of e71
              have n12 : L 12 = false := by
                cases e : L 12 with
                | false => rfl
                | true =>
                  have e8 := hcl 12 _ rfl e ⟨8, .data⟩ (by simp) rfl
                  have e5 := hcl 8 _ rfl e8 ⟨5, .data⟩ (by simp) rfl
                  exact absurd (hL.symm.trans e5) (by simp)
              have c0 : W.cell? ⟨w.heap.size, 6, none⟩ = some (.int .u64 x.due) := by
                have hx := hI.x
                rw [n12] at hx
                exact cell_row hx rfl
              apply step_val (s := 72) (v := .int .u64 x.due) (w' := W)
              · simp [execOp, k71]; go_simp
              · rfl
              · rfl
              · omega
              · exact hI
              · exact stab_refl _ _ _ _
              · exact rfl
            · intro L a W hz hd hk hI hL hcl hdep
              have hN : a.tmps.size = 90 := hz
              have k2 : a.eval (.tmp 2) = .int .u64 now := eval_of ((hk 2 (by decide)).trans rfl)
              apply step_val (s := 73) (v := .int .u64 now) (w' := W)
              · simp [execOp, k2]
              · rfl
              · rfl
              · omega
              · exact hI
              · exact stab_refl _ _ _ _
              · exact rfl
            · intro L a W hz hd hk hI hL hcl hdep
              have hN : a.tmps.size = 90 := hz
              have k9 : a.eval (.tmp 9) = .pointer (some ⟨w.heap.size + 1, 0, none⟩) := eval_of ((hk 9 (by decide)).trans rfl)
              apply step_val (s := 74) (v := c.val) (w' := W)
              · exact exec_load_row 30 _ rfl k9 hI.c Try.underlying30 rfl (infoCfg.trans rfl)
              · rfl
              · rfl
              · omega
              · exact hI
              · exact stab_refl _ _ _ _
              · exact rfl
            · intro L a W hz hd hk hI hL hcl hdep
              have hN : a.tmps.size = 90 := hz
              obtain ⟨⟨v70, e70, g70⟩, ⟨v72, e72, g72⟩, ⟨v73, e73, g73⟩, ⟨v74, e74, g74⟩, -⟩ := hdep
              replace g70 : v70 = .int .u8 r.wait := g70
              subst g70
              have k70 : a.eval (.tmp 70) = .int .u8 r.wait := eval_of e70
              replace g72 : v72 = .int .u64 x.due := g72
              subst g72
              have k72 : a.eval (.tmp 72) = .int .u64 x.due := eval_of e72
              replace g73 : v73 = .int .u64 now := g73
              subst g73
              have k73 : a.eval (.tmp 73) = .int .u64 now := eval_of e73
              replace g74 : v74 = c.val := g74
              subst g74
              have k74 : a.eval (.tmp 74) = c.val := eval_of e74
              apply step_call (s := 75) (f := 21) (args := #[.int .u8 r.wait, .int .u64 x.due, .int .u64 now, c.val])
              · go_simp; exact ⟨idx e70, idx e72, idx e73, idx e74⟩
              · rfl
              · rfl
              · omega
              refine (hT.out W).mono ?_
              rintro _ W' ⟨rfl, bw⟩
              exact ⟨_, rfl, hI.call bw, ⟨.inr fun _ h => h, .inr fun _ h => h, .inr fun _ h => h, .inr fun _ h => h, .inr fun _ h => h, .inr fun _ h => h, .inr fun _ h => h, .inr fun _ h => h, .inr fun _ h => h, .inr fun _ h => h, .inr fun _ h => h, .inr fun _ h => h, .inr fun _ h => h, trivial⟩, rfl⟩
            · intro L a W hz hd hk hI hL hcl hdep
              have hN : a.tmps.size = 90 := hz
              have k5 : a.eval (.tmp 5) = .pointer (some ⟨w.heap.size, 0, none⟩) := eval_of ((hk 5 (by decide)).trans rfl)
              apply step_val (s := 76) (v := .pointer (some ⟨w.heap.size, 5, none⟩)) (w' := W)
              · simp [execOp, k5]; go_simp
              · rfl
              · rfl
              · omega
              · exact hI
              · exact stab_refl _ _ _ _
              · exact rfl
            · intro L a W hz hd hk hI hL hcl hdep
              have hN : a.tmps.size = 90 := hz
              obtain ⟨⟨v76, e76, g76⟩, ⟨v68, e68, g68⟩, -⟩ := hdep
              replace g76 : v76 = .pointer (some ⟨w.heap.size, 5, none⟩) := g76
              subst g76
              have k76 : a.eval (.tmp 76) = .pointer (some ⟨w.heap.size, 5, none⟩) := eval_of e76
              replace g68 : v68 = .int .u8 r.to := g68
              subst g68
              have k68 : a.eval (.tmp 68) = .int .u8 r.to := eval_of e68
              have fr := free_row hI.x
              have c0 := cell_row (k := 5) hI.x rfl
              apply Flow.step_skip (w' := W.setCell ⟨w.heap.size, 5, none⟩ (.int .u8 r.to))
              · simp [execOp, k76, k68]; go_simp
              · rfl
              · exact hI.set rfl
              · exact ⟨.inr fun _ h => h, .inr fun _ h => h, .inr fun _ h => h, .inr fun _ h => h, .inr fun _ h => h, .inr fun _ h => h, .inr fun _ h => h, .inr fun _ h => h, .inr fun _ h => h, .inr fun _ h => h, .inr fun _ h => h, .inr fun _ h => h, .inr fun _ h => h, trivial⟩
              · trivial
            · intro L a W hz hd hk hI hL hcl hdep
              have hN : a.tmps.size = 90 := hz
              have k5 : a.eval (.tmp 5) = .pointer (some ⟨w.heap.size, 0, none⟩) := eval_of ((hk 5 (by decide)).trans rfl)
              apply step_val (s := 77) (v := .pointer (some ⟨w.heap.size, 6, none⟩)) (w' := W)
              · simp [execOp, k5]; go_simp
              · rfl
              · rfl
              · omega
              · exact hI
              · exact stab_refl _ _ _ _
              · exact rfl
            · intro L a W hz hd hk hI hL hcl hdep
              have hN : a.tmps.size = 90 := hz
              obtain ⟨⟨v77, e77, g77⟩, ⟨v75, e75, g75⟩, -⟩ := hdep
              replace g77 : v77 = .pointer (some ⟨w.heap.size, 6, none⟩) := g77
              subst g77
              have k77 : a.eval (.tmp 77) = .pointer (some ⟨w.heap.size, 6, none⟩) := eval_of e77
              replace g75 : v75 = .int .u64 (untV r.wait x.due now c) := g75
              subst g75
              have k75 : a.eval (.tmp 75) = .int .u64 (untV r.wait x.due now c) := eval_of e75
              have fr := free_row hI.x
              have c0 := cell_row (k := 6) hI.x rfl
              apply Flow.step_skip (w' := W.setCell ⟨w.heap.size, 6, none⟩ (.int .u64 (untV r.wait x.due now c)))
              · simp [execOp, k77, k75]; go_simp
              · rfl
              · exact hI.set rfl
              · exact ⟨.inr fun _ h => h, .inr fun _ h => h, .inr fun _ h => h, .inr fun _ h => h, .inr fun _ h => h, .inr fun _ h => h, .inr fun _ h => h, .inr fun _ h => h, .inr fun _ h => h, .inr fun _ h => h, .inr fun _ h => h, .inr fun _ h => h, .inr fun _ h => h, trivial⟩
              · trivial
            clear HS
            intro W Y HS
            replace HS : S11 w { x with st := r.to, due := untV r.wait x.due now c } Inst.none_.cells c r g W := HS
            refine fun g67 g68 g69 g70 g71 g72 g73 g74 g75 g76 gS1 g77 gS2 => ?_
            replace g67 : Y 67 = .pointer (some ⟨g, 0, none⟩) := g67
            replace g68 : Y 68 = .int .u8 r.to := g68
            replace g69 : Y 69 = .pointer (some ⟨g, 1, none⟩) := g69
            replace g70 : Y 70 = .int .u8 r.wait := g70
            replace g71 : Y 71 = .pointer (some ⟨w.heap.size, 6, none⟩) := g71
            replace g72 : Y 72 = .int .u64 x.due := g72
            replace g73 : Y 73 = .int .u64 now := g73
            replace g74 : Y 74 = c.val := g74
            replace g75 : Y 75 = .int .u64 (untV r.wait x.due now c) := g75
            replace g76 : Y 76 = .pointer (some ⟨w.heap.size, 5, none⟩) := g76
            replace g77 : Y 77 = .pointer (some ⟨w.heap.size, 6, none⟩) := g77
            clear gS1 gS2
            rename_i K hK
            show K _ W
            refine hK _ _ ?_
            rw [g67, g68, g69, g70, g71, g72, g73, g74, g75, g76, g77]
            clear hK g67 g68 g69 g70 g71 g72 g73 g74 g75 g76 g77
            try simp only [List.setIfInBounds_toArray, List.set_cons_succ, List.set_cons_zero]
            go_wp2_with fail
            obtain ⟨y, ey⟩ : ∃ y : Ins, goneX x what now at_ c r = y := ⟨_, rfl⟩
            rw [← HG.out, ey] at HS
            rw [ey] at HV
            clear HG
            refine flow (fun L W => S11 w y (cond (L 3) y.cells Inst.none_.cells) c r g W) [fun v _ => v = y.val, fun v _ => v = .pointer (some ⟨g, 2, none⟩), fun v _ => v = .int .u8 r.ask, fun _ _ => True, fun v _ => v = .int .u8 r.ask, fun v _ => v = .int .i64 0] [87, 88, 89, 87, 11, 12] [87, 88, 89, 11, 12] 90 (by kernel_rfl) rfl (by kernel_rfl) rfl (S11.call HS (bDrew (Below.refl _ _))) ⟨?_, ?_, ?_, ?_, ?_, ?_, trivial⟩ ?_
            · intro L a W hz hd hk hI hL hcl hdep
              have hN : a.tmps.size = 90 := hz
              have k5 : a.eval (.tmp 5) = .pointer (some ⟨w.heap.size, 0, none⟩) := eval_of ((hk 5 (by decide)).trans rfl)
              apply step_val (s := 87) (v := y.val) (w' := W)
              · exact exec_load_row 25 _ rfl k5 hI.x Try.underlying25 rfl (sizeInst.trans rfl)
              · rfl
              · rfl
              · omega
              · exact hI
              · exact stab_refl _ _ _ _
              · exact rfl
            · intro L a W hz hd hk hI hL hcl hdep
              have hN : a.tmps.size = 90 := hz
              have k13 : a.eval (.tmp 13) = .pointer (some ⟨g, 0, none⟩) := eval_of ((hk 13 (by decide)).trans rfl)
              apply step_val (s := 88) (v := .pointer (some ⟨g, 2, none⟩)) (w' := W)
              · simp [execOp, k13]; go_simp
              · rfl
              · rfl
              · omega
              · exact hI
              · exact stab_refl _ _ _ _
              · exact rfl
            · intro L a W hz hd hk hI hL hcl hdep
              have hN : a.tmps.size = 90 := hz
              obtain ⟨⟨v88, e88, g88⟩, -⟩ := hdep
              replace g88 : v88 = .pointer (some ⟨g, 2, none⟩) := g88
              subst g88
              have k88 : a.eval (.tmp 88) = .pointer (some ⟨g, 2, none⟩) := eval_of e88
              have c0 : W.cell? ⟨g, 2, none⟩ = some (.int .u8 r.ask) := cell_row hI.r rfl
              apply step_val (s := 89) (v := .int .u8 r.ask) (w' := W)
              · simp [execOp, k88]; go_simp
              · rfl
              · rfl
              · omega
              · exact hI
              · exact stab_refl _ _ _ _
              · exact rfl
            · intro L a W hz hd hk hI hL hcl hdep
              have hN : a.tmps.size = 90 := hz
              have k10 : a.eval (.tmp 10) = .pointer (some ⟨w.heap.size + 1 + 1, 0, none⟩) := eval_of ((hk 10 (by decide)).trans rfl)
              replace hdep := hdep.1
              have hdep := And.intro hdep True.intro
              obtain ⟨⟨v87, e87, g87⟩, -⟩ := hdep
              replace g87 : v87 = y.val := g87
              subst g87
              have k87 : a.eval (.tmp 87) = y.val := eval_of e87
              apply Flow.step_skip (w' := W.setRow (w.heap.size + 1 + 1) y.cells)
              · refine exec_store_row 25 _ _ rfl k10 k87 hI.z (sizeInst.trans rfl) ?_ y.one
                cases L 3 <;> rfl
              · rfl
              · exact hI.out
              · exact ⟨.inr fun _ h => h, .inr fun _ h => h, .inr fun _ h => h, .inr fun _ h => h, .inr fun _ h => h, .inr fun _ h => h, trivial⟩
              · trivial
            · intro L a W hz hd hk hI hL hcl hdep
              have hN : a.tmps.size = 90 := hz
              replace hdep := And.intro hdep.1 True.intro
              obtain ⟨⟨v89, e89, g89⟩, -⟩ := hdep
              replace g89 : v89 = .int .u8 r.ask := g89
              subst g89
              have k89 : a.eval (.tmp 89) = .int .u8 r.ask := eval_of e89
              apply step_val (s := 11) (v := .int .u8 r.ask) (w' := W)
              · simp [execOp, k89]
              · rfl
              · rfl
              · omega
              · exact hI
              · exact stab_refl _ _ _ _
              · exact rfl
            · intro L a W hz hd hk hI hL hcl hdep
              have hN : a.tmps.size = 90 := hz
              apply step_val (s := 12) (v := .int .i64 0) (w' := W)
              · simp [execOp]; rfl
              · rfl
              · rfl
              · omega
              · exact hI
              · exact stab_refl _ _ _ _
              · exact rfl
            clear HS
            intro W Y HS
            replace HS : S11 w y y.cells c r g W := HS
            refine fun g87 g88 g89 gS g11 g12 => ?_
            replace g87 : Y 87 = y.val := g87
            replace g88 : Y 88 = .pointer (some ⟨g, 2, none⟩) := g88
            replace g89 : Y 89 = .int .u8 r.ask := g89
            replace g11 : Y 11 = .int .u8 r.ask := g11
            replace g12 : Y 12 = .int .i64 0 := g12
            clear gS
            rename_i K hK
            show K _ W
            refine hK _ _ ?_
            rw [g87, g88, g89, g11, g12]
            clear hK g87 g88 g89 g11 g12
            try simp only [List.setIfInBounds_toArray, List.set_cons_succ, List.set_cons_zero]
            go_wp2_with fail
            refine bodyPost_ret (v := Ans.val ⟨y, r.ask, 0⟩) (results_row_tmp2 (fn := Try.f7) (p := 10) (u := 11) (v := 12) rfl _ _ (w.heap.size + 1 + 1) _ y.cells _ rfl HS.z Try.underlying25 rfl (sizeInst.trans rfl)) rfl ?_
            exact ⟨by rw [HV.out], HS.b⟩
          · rw [hn] at D7
            by_cases q5 : x.st = 5
            · have c5 : (x.st == 5) = true := by simp [q5]
              have HV : Hid (doV x what now at_ c = ⟨x, 0, 0⟩) := Lib.hid (by unfold doV; rw [if_neg (by rw [hm]; simp), if_neg (fun e => q8 e.1), if_neg (by rw [io]; simp), if_pos ⟨q4, hn, q5⟩])
              clear q4 q8 q5
              go_wp2_with (first | ((with_reducible refine at_load' 25 ?_); (refine load_ins rfl _ rfl _ _ rfl x R3 ?_)) | ((with_reducible refine at_store 25 ?_); (refine store_whole rfl 25 _ _ rfl (w.heap.size + 1 + 1) x.cells _ _ rfl rfl Z3 (sizeInst.trans rfl) rfl x.one ?_)))
              refine bodyPost_ret (v := Ans.val ⟨x, 0, 0⟩) (results_row_tmp2 (fn := Try.f7) (p := 10) (u := 11) (v := 12) rfl _ _ (w.heap.size + 1 + 1) _ x.cells _ rfl (row_at Z3) Try.underlying25 rfl (sizeInst.trans rfl)) rfl ?_
              exact ⟨by rw [HV.out], below_row _ B3 (by omega)⟩
            · have c5 : (x.st == 5) = false := by simp [q5]
              have HV : Hid (doV x what now at_ c = ⟨goneX x what now at_ c r, r.ask, 0⟩) := Lib.hid (by unfold doV; rw [if_neg (by rw [hm]; simp), if_neg (fun e => q8 e.1), if_neg (by rw [io]; simp), if_neg (fun e => q5 e.2.2)]; rw [er])
              have HG : Hid (goneX x what now at_ c r = { x with st := r.to, due := untV r.wait x.due now c }) := Lib.hid (by unfold goneX; rw [if_neg (by omega), if_neg (by omega), if_neg (by omega)])
              have c2 : (what == 2) = false := by simp; omega
              have c3 : (what == 3) = false := by simp; omega
              clear q4 q8 q5
              go_wp2_with (first | (refine load_cfg rfl _ rfl _ rfl c _ _ C3 ?_) | ((with_reducible refine at_load' 51 ?_); (refine wpList_load_mid rfl 51 _ rfl g 0 rfl (rc (rowV what x.st).to (rowV what x.st).wait (rowV what x.st).ask).toList _ RGr Try.underlying51 rfl (sizeRow.trans rfl) ?_)))
              refine (hU.out _).mono ?_
              rintro _ v ⟨rfl, bv⟩
              have hr4 := kept_box bv hr
              go_wp2_with ((with_reducible refine at_store 51 ?_); (refine store_whole rfl 51 _ _ rfl g (rc r.to r.wait r.ask) _ _ rfl rfl hr4 (sizeRow.trans rfl) rfl (rc_one _ _ _) ?_))
              have HS : S11 w x Inst.none_.cells c r g (v.setRow g (rc r.to r.wait r.ask)) := ⟨below_row _ (bTrans B3 bv) (by omega), (row_else (by omega)).trans (kept_box bv X3), (row_else (by omega)).trans (kept_box bv C3), (row_else (by omega)).trans (kept_box bv Z3), row_at hr4, by omega⟩
              generalize v.setRow g (rc r.to r.wait r.ask) = V at HS ⊢
              clear X3 C3 Z3 B3 DU D5 D7 R3 hr4 bv RGr hr hU
              refine flow (fun L W => S11 w { x with st := cond (L 10) r.to x.st, due := cond (L 12) (untV r.wait x.due now c) x.due } Inst.none_.cells c r g W) [fun v _ => v = .pointer (some ⟨g, 0, none⟩), fun v _ => v = .int .u8 r.to, fun v _ => v = .pointer (some ⟨g, 1, none⟩), fun v _ => v = .int .u8 r.wait, fun v _ => v = .pointer (some ⟨w.heap.size, 6, none⟩), fun v _ => v = .int .u64 x.due, fun v _ => v = .int .u64 now, fun v _ => v = c.val, fun v _ => v = .int .u64 (untV r.wait x.due now c), fun v _ => v = .pointer (some ⟨w.heap.size, 5, none⟩), fun _ _ => True, fun v _ => v = .pointer (some ⟨w.heap.size, 6, none⟩), fun _ _ => True] [67, 68, 69, 70, 71, 72, 73, 74, 75, 76, 76, 77, 77] [67, 68, 69, 70, 71, 72, 73, 74, 75, 76, 77] 90 (by kernel_rfl) rfl (by kernel_rfl) rfl (S11.call HS (bDrew (Below.refl _ _))) ⟨?_, ?_, ?_, ?_, ?_, ?_, ?_, ?_, ?_, ?_, ?_, ?_, ?_, trivial⟩ ?_
              · intro L a W hz hd hk hI hL hcl hdep
                have hN : a.tmps.size = 90 := hz
                have k13 : a.eval (.tmp 13) = .pointer (some ⟨g, 0, none⟩) := eval_of ((hk 13 (by decide)).trans rfl)
                apply step_val (s := 67) (v := .pointer (some ⟨g, 0, none⟩)) (w' := W)
                · simp [execOp, k13]; go_simp
                · rfl
                · rfl
                · omega
                · exact hI
                · exact stab_refl _ _ _ _
                · exact rfl
              · intro L a W hz hd hk hI hL hcl hdep
                have hN : a.tmps.size = 90 := hz
                obtain ⟨⟨v67, e67, g67⟩, -⟩ := hdep
                replace g67 : v67 = .pointer (some ⟨g, 0, none⟩) := g67
                subst g67
                have k67 : a.eval (.tmp 67) = .pointer (some ⟨g, 0, none⟩) := eval_of e67
                have c0 : W.cell? ⟨g, 0, none⟩ = some (.int .u8 r.to) := cell_row hI.r rfl
                apply step_val (s := 68) (v := .int .u8 r.to) (w' := W)
                · simp [execOp, k67]; go_simp
                · rfl
                · rfl
                · omega
                · exact hI
                · exact stab_refl _ _ _ _
                · exact rfl
              · intro L a W hz hd hk hI hL hcl hdep
                have hN : a.tmps.size = 90 := hz
                have k13 : a.eval (.tmp 13) = .pointer (some ⟨g, 0, none⟩) := eval_of ((hk 13 (by decide)).trans rfl)
                apply step_val (s := 69) (v := .pointer (some ⟨g, 1, none⟩)) (w' := W)
                · simp [execOp, k13]; go_simp
                · rfl
                · rfl
                · omega
                · exact hI
                · exact stab_refl _ _ _ _
                · exact rfl
              · intro L a W hz hd hk hI hL hcl hdep
                have hN : a.tmps.size = 90 := hz
                obtain ⟨⟨v69, e69, g69⟩, -⟩ := hdep
                replace g69 : v69 = .pointer (some ⟨g, 1, none⟩) := g69
                subst g69
                have k69 : a.eval (.tmp 69) = .pointer (some ⟨g, 1, none⟩) := eval_of e69
                have c0 : W.cell? ⟨g, 1, none⟩ = some (.int .u8 r.wait) := cell_row hI.r rfl
                apply step_val (s := 70) (v := .int .u8 r.wait) (w' := W)
                · simp [execOp, k69]; go_simp
                · rfl
                · rfl
                · omega
                · exact hI
                · exact stab_refl _ _ _ _
                · exact rfl
              · intro L a W hz hd hk hI hL hcl hdep
                have hN : a.tmps.size = 90 := hz
                have k5 : a.eval (.tmp 5) = .pointer (some ⟨w.heap.size, 0, none⟩) := eval_of ((hk 5 (by decide)).trans rfl)
                apply step_val (s := 71) (v := .pointer (some ⟨w.heap.size, 6, none⟩)) (w' := W)
                · simp [execOp, k5]; go_simp
                · rfl
                · rfl
                · omega
                · exact hI
                · exact stab_refl _ _ _ _
                · exact rfl
              · intro L a W hz hd hk hI hL hcl hdep
                have hN : a.tmps.size = 90 := hz
                obtain ⟨⟨v71, e71, g71⟩, -⟩ := hdep
                replace g71 : v71 = .pointer (some ⟨w.heap.size, 6, none⟩) := g71
                subst g71
                have k71 : a.eval (.tmp 71) = .pointer (some ⟨w.heap.size, 6, none⟩) := eval_of e71
                have n12 : L 12 = false := by
                  cases e : L 12 with
                  | false => rfl
                  | true =>
                    have e8 := hcl 12 _ rfl e ⟨8, .data⟩ (by simp) rfl
                    have e5 := hcl 8 _ rfl e8 ⟨5, .data⟩ (by simp) rfl
                    exact absurd (hL.symm.trans e5) (by simp)
                have c0 : W.cell? ⟨w.heap.size, 6, none⟩ = some (.int .u64 x.due) := by
                  have hx := hI.x
                  rw [n12] at hx
                  exact cell_row hx rfl
                apply step_val (s := 72) (v := .int .u64 x.due) (w' := W)
                · simp [execOp, k71]; go_simp
                · rfl
                · rfl
                · omega
                · exact hI
                · exact stab_refl _ _ _ _
                · exact rfl
              · intro L a W hz hd hk hI hL hcl hdep
                have hN : a.tmps.size = 90 := hz
                have k2 : a.eval (.tmp 2) = .int .u64 now := eval_of ((hk 2 (by decide)).trans rfl)
                apply step_val (s := 73) (v := .int .u64 now) (w' := W)
                · simp [execOp, k2]
                · rfl
                · rfl
                · omega
                · exact hI
                · exact stab_refl _ _ _ _
                · exact rfl
              · intro L a W hz hd hk hI hL hcl hdep
                have hN : a.tmps.size = 90 := hz
                have k9 : a.eval (.tmp 9) = .pointer (some ⟨w.heap.size + 1, 0, none⟩) := eval_of ((hk 9 (by decide)).trans rfl)
                apply step_val (s := 74) (v := c.val) (w' := W)
                · exact exec_load_row 30 _ rfl k9 hI.c Try.underlying30 rfl (infoCfg.trans rfl)
                · rfl
                · rfl
                · omega
                · exact hI
                · exact stab_refl _ _ _ _
                · exact rfl
              · intro L a W hz hd hk hI hL hcl hdep
                have hN : a.tmps.size = 90 := hz
                obtain ⟨⟨v70, e70, g70⟩, ⟨v72, e72, g72⟩, ⟨v73, e73, g73⟩, ⟨v74, e74, g74⟩, -⟩ := hdep
                replace g70 : v70 = .int .u8 r.wait := g70
                subst g70
                have k70 : a.eval (.tmp 70) = .int .u8 r.wait := eval_of e70
                replace g72 : v72 = .int .u64 x.due := g72
                subst g72
                have k72 : a.eval (.tmp 72) = .int .u64 x.due := eval_of e72
                replace g73 : v73 = .int .u64 now := g73
                subst g73
                have k73 : a.eval (.tmp 73) = .int .u64 now := eval_of e73
                replace g74 : v74 = c.val := g74
                subst g74
                have k74 : a.eval (.tmp 74) = c.val := eval_of e74
                apply step_call (s := 75) (f := 21) (args := #[.int .u8 r.wait, .int .u64 x.due, .int .u64 now, c.val])
                · go_simp; exact ⟨idx e70, idx e72, idx e73, idx e74⟩
                · rfl
                · rfl
                · omega
                refine (hT.out W).mono ?_
                rintro _ W' ⟨rfl, bw⟩
                exact ⟨_, rfl, hI.call bw, ⟨.inr fun _ h => h, .inr fun _ h => h, .inr fun _ h => h, .inr fun _ h => h, .inr fun _ h => h, .inr fun _ h => h, .inr fun _ h => h, .inr fun _ h => h, .inr fun _ h => h, .inr fun _ h => h, .inr fun _ h => h, .inr fun _ h => h, .inr fun _ h => h, trivial⟩, rfl⟩
              · intro L a W hz hd hk hI hL hcl hdep
                have hN : a.tmps.size = 90 := hz
                have k5 : a.eval (.tmp 5) = .pointer (some ⟨w.heap.size, 0, none⟩) := eval_of ((hk 5 (by decide)).trans rfl)
                apply step_val (s := 76) (v := .pointer (some ⟨w.heap.size, 5, none⟩)) (w' := W)
                · simp [execOp, k5]; go_simp
                · rfl
                · rfl
                · omega
                · exact hI
                · exact stab_refl _ _ _ _
                · exact rfl
              · intro L a W hz hd hk hI hL hcl hdep
                have hN : a.tmps.size = 90 := hz
                obtain ⟨⟨v76, e76, g76⟩, ⟨v68, e68, g68⟩, -⟩ := hdep
                replace g76 : v76 = .pointer (some ⟨w.heap.size, 5, none⟩) := g76
                subst g76
                have k76 : a.eval (.tmp 76) = .pointer (some ⟨w.heap.size, 5, none⟩) := eval_of e76
                replace g68 : v68 = .int .u8 r.to := g68
                subst g68
                have k68 : a.eval (.tmp 68) = .int .u8 r.to := eval_of e68
                have fr := free_row hI.x
                have c0 := cell_row (k := 5) hI.x rfl
                apply Flow.step_skip (w' := W.setCell ⟨w.heap.size, 5, none⟩ (.int .u8 r.to))
                · simp [execOp, k76, k68]; go_simp
                · rfl
                · exact hI.set rfl
                · exact ⟨.inr fun _ h => h, .inr fun _ h => h, .inr fun _ h => h, .inr fun _ h => h, .inr fun _ h => h, .inr fun _ h => h, .inr fun _ h => h, .inr fun _ h => h, .inr fun _ h => h, .inr fun _ h => h, .inr fun _ h => h, .inr fun _ h => h, .inr fun _ h => h, trivial⟩
                · trivial
              · intro L a W hz hd hk hI hL hcl hdep
                have hN : a.tmps.size = 90 := hz
                have k5 : a.eval (.tmp 5) = .pointer (some ⟨w.heap.size, 0, none⟩) := eval_of ((hk 5 (by decide)).trans rfl)
                apply step_val (s := 77) (v := .pointer (some ⟨w.heap.size, 6, none⟩)) (w' := W)
                · simp [execOp, k5]; go_simp
                · rfl
                · rfl
                · omega
                · exact hI
                · exact stab_refl _ _ _ _
                · exact rfl
              · intro L a W hz hd hk hI hL hcl hdep
                have hN : a.tmps.size = 90 := hz
                obtain ⟨⟨v77, e77, g77⟩, ⟨v75, e75, g75⟩, -⟩ := hdep
                replace g77 : v77 = .pointer (some ⟨w.heap.size, 6, none⟩) := g77
                subst g77
                have k77 : a.eval (.tmp 77) = .pointer (some ⟨w.heap.size, 6, none⟩) := eval_of e77
                replace g75 : v75 = .int .u64 (untV r.wait x.due now c) := g75
                subst g75
                have k75 : a.eval (.tmp 75) = .int .u64 (untV r.wait x.due now c) := eval_of e75
                have fr := free_row hI.x
                have c0 := cell_row (k := 6) hI.x rfl
                apply Flow.step_skip (w' := W.setCell ⟨w.heap.size, 6, none⟩ (.int .u64 (untV r.wait x.due now c)))
                · simp [execOp, k77, k75]; go_simp
                · rfl
                · exact hI.set rfl
                · exact ⟨.inr fun _ h => h, .inr fun _ h => h, .inr fun _ h => h, .inr fun _ h => h, .inr fun _ h => h, .inr fun _ h => h, .inr fun _ h => h, .inr fun _ h => h, .inr fun _ h => h, .inr fun _ h => h, .inr fun _ h => h, .inr fun _ h => h, .inr fun _ h => h, trivial⟩
                · trivial
              clear HS
              intro W Y HS
              replace HS : S11 w { x with st := r.to, due := untV r.wait x.due now c } Inst.none_.cells c r g W := HS
              refine fun g67 g68 g69 g70 g71 g72 g73 g74 g75 g76 gS1 g77 gS2 => ?_
              replace g67 : Y 67 = .pointer (some ⟨g, 0, none⟩) := g67
              replace g68 : Y 68 = .int .u8 r.to := g68
              replace g69 : Y 69 = .pointer (some ⟨g, 1, none⟩) := g69
              replace g70 : Y 70 = .int .u8 r.wait := g70
              replace g71 : Y 71 = .pointer (some ⟨w.heap.size, 6, none⟩) := g71
              replace g72 : Y 72 = .int .u64 x.due := g72
              replace g73 : Y 73 = .int .u64 now := g73
              replace g74 : Y 74 = c.val := g74
              replace g75 : Y 75 = .int .u64 (untV r.wait x.due now c) := g75
              replace g76 : Y 76 = .pointer (some ⟨w.heap.size, 5, none⟩) := g76
              replace g77 : Y 77 = .pointer (some ⟨w.heap.size, 6, none⟩) := g77
              clear gS1 gS2
              rename_i K hK
              show K _ W
              refine hK _ _ ?_
              rw [g67, g68, g69, g70, g71, g72, g73, g74, g75, g76, g77]
              clear hK g67 g68 g69 g70 g71 g72 g73 g74 g75 g76 g77
              try simp only [List.setIfInBounds_toArray, List.set_cons_succ, List.set_cons_zero]
              go_wp2_with fail
              obtain ⟨y, ey⟩ : ∃ y : Ins, goneX x what now at_ c r = y := ⟨_, rfl⟩
              rw [← HG.out, ey] at HS
              rw [ey] at HV
              clear HG
              refine flow (fun L W => S11 w y (cond (L 3) y.cells Inst.none_.cells) c r g W) [fun v _ => v = y.val, fun v _ => v = .pointer (some ⟨g, 2, none⟩), fun v _ => v = .int .u8 r.ask, fun _ _ => True, fun v _ => v = .int .u8 r.ask, fun v _ => v = .int .i64 0] [87, 88, 89, 87, 11, 12] [87, 88, 89, 11, 12] 90 (by kernel_rfl) rfl (by kernel_rfl) rfl (S11.call HS (bDrew (Below.refl _ _))) ⟨?_, ?_, ?_, ?_, ?_, ?_, trivial⟩ ?_
              · intro L a W hz hd hk hI hL hcl hdep
                have hN : a.tmps.size = 90 := hz
                have k5 : a.eval (.tmp 5) = .pointer (some ⟨w.heap.size, 0, none⟩) := eval_of ((hk 5 (by decide)).trans rfl)
                apply step_val (s := 87) (v := y.val) (w' := W)
                · exact exec_load_row 25 _ rfl k5 hI.x Try.underlying25 rfl (sizeInst.trans rfl)
                · rfl
                · rfl
                · omega
                · exact hI
                · exact stab_refl _ _ _ _
                · exact rfl
              · intro L a W hz hd hk hI hL hcl hdep
                have hN : a.tmps.size = 90 := hz
                have k13 : a.eval (.tmp 13) = .pointer (some ⟨g, 0, none⟩) := eval_of ((hk 13 (by decide)).trans rfl)
                apply step_val (s := 88) (v := .pointer (some ⟨g, 2, none⟩)) (w' := W)
                · simp [execOp, k13]; go_simp
                · rfl
                · rfl
                · omega
                · exact hI
                · exact stab_refl _ _ _ _
                · exact rfl
              · intro L a W hz hd hk hI hL hcl hdep
                have hN : a.tmps.size = 90 := hz
                obtain ⟨⟨v88, e88, g88⟩, -⟩ := hdep
                replace g88 : v88 = .pointer (some ⟨g, 2, none⟩) := g88
                subst g88
                have k88 : a.eval (.tmp 88) = .pointer (some ⟨g, 2, none⟩) := eval_of e88
                have c0 : W.cell? ⟨g, 2, none⟩ = some (.int .u8 r.ask) := cell_row hI.r rfl
                apply step_val (s := 89) (v := .int .u8 r.ask) (w' := W)
                · simp [execOp, k88]; go_simp
                · rfl
                · rfl
                · omega
                · exact hI
                · exact stab_refl _ _ _ _
                · exact rfl
              · intro L a W hz hd hk hI hL hcl hdep
                have hN : a.tmps.size = 90 := hz
                have k10 : a.eval (.tmp 10) = .pointer (some ⟨w.heap.size + 1 + 1, 0, none⟩) := eval_of ((hk 10 (by decide)).trans rfl)
                replace hdep := hdep.1
                have hdep := And.intro hdep True.intro
                obtain ⟨⟨v87, e87, g87⟩, -⟩ := hdep
                replace g87 : v87 = y.val := g87
                subst g87
                have k87 : a.eval (.tmp 87) = y.val := eval_of e87
                apply Flow.step_skip (w' := W.setRow (w.heap.size + 1 + 1) y.cells)
                · refine exec_store_row 25 _ _ rfl k10 k87 hI.z (sizeInst.trans rfl) ?_ y.one
                  cases L 3 <;> rfl
                · rfl
                · exact hI.out
                · exact ⟨.inr fun _ h => h, .inr fun _ h => h, .inr fun _ h => h, .inr fun _ h => h, .inr fun _ h => h, .inr fun _ h => h, trivial⟩
                · trivial
              · intro L a W hz hd hk hI hL hcl hdep
                have hN : a.tmps.size = 90 := hz
                replace hdep := And.intro hdep.1 True.intro
                obtain ⟨⟨v89, e89, g89⟩, -⟩ := hdep
                replace g89 : v89 = .int .u8 r.ask := g89
                subst g89
                have k89 : a.eval (.tmp 89) = .int .u8 r.ask := eval_of e89
                apply step_val (s := 11) (v := .int .u8 r.ask) (w' := W)
                · simp [execOp, k89]
                · rfl
                · rfl
                · omega
                · exact hI
                · exact stab_refl _ _ _ _
                · exact rfl
              · intro L a W hz hd hk hI hL hcl hdep
                have hN : a.tmps.size = 90 := hz
                apply step_val (s := 12) (v := .int .i64 0) (w' := W)
                · simp [execOp]; rfl
                · rfl
                · rfl
                · omega
                · exact hI
                · exact stab_refl _ _ _ _
                · exact rfl
              clear HS
              intro W Y HS
              replace HS : S11 w y y.cells c r g W := HS
              refine fun g87 g88 g89 gS g11 g12 => ?_
              replace g87 : Y 87 = y.val := g87
              replace g88 : Y 88 = .pointer (some ⟨g, 2, none⟩) := g88
              replace g89 : Y 89 = .int .u8 r.ask := g89
              replace g11 : Y 11 = .int .u8 r.ask := g11
              replace g12 : Y 12 = .int .i64 0 := g12
              clear gS
              rename_i K hK
              show K _ W
              refine hK _ _ ?_
              rw [g87, g88, g89, g11, g12]
              clear hK g87 g88 g89 g11 g12
              try simp only [List.setIfInBounds_toArray, List.set_cons_succ, List.set_cons_zero]
              go_wp2_with fail
              refine bodyPost_ret (v := Ans.val ⟨y, r.ask, 0⟩) (results_row_tmp2 (fn := Try.f7) (p := 10) (u := 11) (v := 12) rfl _ _ (w.heap.size + 1 + 1) _ y.cells _ rfl HS.z Try.underlying25 rfl (sizeInst.trans rfl)) rfl ?_
              exact ⟨by rw [HV.out], HS.b⟩
        · have c4 : (what == 4) = false := by simp [q4]
          by_cases q2 : what = 2
          · skip
            have HV : Hid (doV x what now at_ c = ⟨goneX x what now at_ c r, r.ask, 0⟩) := Lib.hid (by unfold doV; rw [if_neg (by rw [hm]; simp), if_neg (fun e => q8 e.1), if_neg (by rw [io]; simp), if_neg (fun e => q4 e.1)]; rw [er])
            have HG : Hid (goneX x what now at_ c r = { x with st := r.to, due := untV r.wait x.due now c, ntd := true, kill := at_ }) := Lib.hid (by unfold goneX; rw [if_pos q2, if_pos q2, if_neg (by omega)])
            have c2 : (what == 2) = true := by simp; omega
            have c3 : (what == 3) = false := by simp; omega
            clear q4 q8 q2
            go_wp2_with (first | (refine load_cfg rfl _ rfl _ rfl c _ _ C3 ?_) | ((with_reducible refine at_load' 51 ?_); (refine wpList_load_mid rfl 51 _ rfl g 0 rfl (rc (rowV what x.st).to (rowV what x.st).wait (rowV what x.st).ask).toList _ RGr Try.underlying51 rfl (sizeRow.trans rfl) ?_)))
            refine (hU.out _).mono ?_
            rintro _ v ⟨rfl, bv⟩
            have hr4 := kept_box bv hr
            go_wp2_with ((with_reducible refine at_store 51 ?_); (refine store_whole rfl 51 _ _ rfl g (rc r.to r.wait r.ask) _ _ rfl rfl hr4 (sizeRow.trans rfl) rfl (rc_one _ _ _) ?_))
            have HS : S11 w x Inst.none_.cells c r g (v.setRow g (rc r.to r.wait r.ask)) := ⟨below_row _ (bTrans B3 bv) (by omega), (row_else (by omega)).trans (kept_box bv X3), (row_else (by omega)).trans (kept_box bv C3), (row_else (by omega)).trans (kept_box bv Z3), row_at hr4, by omega⟩
            generalize v.setRow g (rc r.to r.wait r.ask) = V at HS ⊢
            clear X3 C3 Z3 B3 DU D5 D7 R3 hr4 bv RGr hr hU
            refine flow (fun L W => S11 w { x with st := cond (L 10) r.to x.st, due := cond (L 12) (untV r.wait x.due now c) x.due } Inst.none_.cells c r g W) [fun v _ => v = .pointer (some ⟨g, 0, none⟩), fun v _ => v = .int .u8 r.to, fun v _ => v = .pointer (some ⟨g, 1, none⟩), fun v _ => v = .int .u8 r.wait, fun v _ => v = .pointer (some ⟨w.heap.size, 6, none⟩), fun v _ => v = .int .u64 x.due, fun v _ => v = .int .u64 now, fun v _ => v = c.val, fun v _ => v = .int .u64 (untV r.wait x.due now c), fun v _ => v = .pointer (some ⟨w.heap.size, 5, none⟩), fun _ _ => True, fun v _ => v = .pointer (some ⟨w.heap.size, 6, none⟩), fun _ _ => True] [67, 68, 69, 70, 71, 72, 73, 74, 75, 76, 76, 77, 77] [67, 68, 69, 70, 71, 72, 73, 74, 75, 76, 77] 90 (by kernel_rfl) rfl (by kernel_rfl) rfl (S11.call HS (bDrew (Below.refl _ _))) ⟨?_, ?_, ?_, ?_, ?_, ?_, ?_, ?_, ?_, ?_, ?_, ?_, ?_, trivial⟩ ?_
            · intro L a W hz hd hk hI hL hcl hdep
              have hN : a.tmps.size = 90 := hz
              have k13 : a.eval (.tmp 13) = .pointer (some ⟨g, 0, none⟩) := eval_of ((hk 13 (by decide)).trans rfl)
              apply step_val (s := 67) (v := .pointer (some ⟨g, 0, none⟩)) (w' := W)
              · simp [execOp, k13]; go_simp
              · rfl
              · rfl
              · omega
              · exact hI
              · exact stab_refl _ _ _ _
              · exact rfl
            · intro L a W hz hd hk hI hL hcl hdep
              have hN : a.tmps.size = 90 := hz
              obtain ⟨⟨v67, e67, g67⟩, -⟩ := hdep
              replace g67 : v67 = .pointer (some ⟨g, 0, none⟩) := g67
              subst g67
              have k67 : a.eval (.tmp 67) = .pointer (some ⟨g, 0, none⟩) := eval_of e67
              have c0 : W.cell? ⟨g, 0, none⟩ = some (.int .u8 r.to) := cell_row hI.r rfl
              apply step_val (s := 68) (v := .int .u8 r.to) (w' := W)
              · simp [execOp, k67]; go_simp
              · rfl
              · rfl
              · omega
              · exact hI
              · exact stab_refl _ _ _ _
              · exact rfl
            · intro L a W hz hd hk hI hL hcl hdep
              have hN : a.tmps.size = 90 := hz
              have k13 : a.eval (.tmp 13) = .pointer (some ⟨g, 0, none⟩) := eval_of ((hk 13 (by decide)).trans rfl)
              apply step_val (s := 69) (v := .pointer (some ⟨g, 1, none⟩)) (w' := W)
              · simp [execOp, k13]; go_simp
              · rfl
              · rfl
              · omega
              · exact hI
              · exact stab_refl _ _ _ _
              · exact rfl
            · intro L a W hz hd hk hI hL hcl hdep
              have hN : a.tmps.size = 90 := hz
              obtain ⟨⟨v69, e69, g69⟩, -⟩ := hdep
              replace g69 : v69 = .pointer (some ⟨g, 1, none⟩) := g69
              subst g69
              have k69 : a.eval (.tmp 69) = .pointer (some ⟨g, 1, none⟩) := eval_of e69
              have c0 : W.cell? ⟨g, 1, none⟩ = some (.int .u8 r.wait) := cell_row hI.r rfl
              apply step_val (s := 70) (v := .int .u8 r.wait) (w' := W)
              · simp [execOp, k69]; go_simp
              · rfl
              · rfl
              · omega
              · exact hI
              · exact stab_refl _ _ _ _
              · exact rfl
            · intro L a W hz hd hk hI hL hcl hdep
              have hN : a.tmps.size = 90 := hz
              have k5 : a.eval (.tmp 5) = .pointer (some ⟨w.heap.size, 0, none⟩) := eval_of ((hk 5 (by decide)).trans rfl)
              apply step_val (s := 71) (v := .pointer (some ⟨w.heap.size, 6, none⟩)) (w' := W)
              · simp [execOp, k5]; go_simp
              · rfl
              · rfl
              · omega
              · exact hI
              · exact stab_refl _ _ _ _
              · exact rfl
            · intro L a W hz hd hk hI hL hcl hdep
              have hN : a.tmps.size = 90 := hz
              obtain ⟨⟨v71, e71, g71⟩, -⟩ := hdep
              replace g71 : v71 = .pointer (some ⟨w.heap.size, 6, none⟩) := g71
              subst g71
              have k71 : a.eval (.tmp 71) = .pointer (some ⟨w.heap.size, 6, none⟩) := eval_of e71
              have n12 : L 12 = false := by
                cases e : L 12 with
                | false => rfl
                | true =>
                  have e8 := hcl 12 _ rfl e ⟨8, .data⟩ (by simp) rfl
                  have e5 := hcl 8 _ rfl e8 ⟨5, .data⟩ (by simp) rfl
                  exact absurd (hL.symm.trans e5) (by simp)
              have c0 : W.cell? ⟨w.heap.size, 6, none⟩ = some (.int .u64 x.due) := by
                have hx := hI.x
                rw [n12] at hx
                exact cell_row hx rfl
              apply step_val (s := 72) (v := .int .u64 x.due) (w' := W)
              · simp [execOp, k71]; go_simp
              · rfl
              · rfl
              · omega
              · exact hI
              · exact stab_refl _ _ _ _
              · exact rfl
            · intro L a W hz hd hk hI hL hcl hdep
              have hN : a.tmps.size = 90 := hz
              have k2 : a.eval (.tmp 2) = .int .u64 now := eval_of ((hk 2 (by decide)).trans rfl)
              apply step_val (s := 73) (v := .int .u64 now) (w' := W)
              · simp [execOp, k2]
              · rfl
              · rfl
              · omega
              · exact hI
              · exact stab_refl _ _ _ _
              · exact rfl
            · intro L a W hz hd hk hI hL hcl hdep
              have hN : a.tmps.size = 90 := hz
              have k9 : a.eval (.tmp 9) = .pointer (some ⟨w.heap.size + 1, 0, none⟩) := eval_of ((hk 9 (by decide)).trans rfl)
              apply step_val (s := 74) (v := c.val) (w' := W)
              · exact exec_load_row 30 _ rfl k9 hI.c Try.underlying30 rfl (infoCfg.trans rfl)
              · rfl
              · rfl
              · omega
              · exact hI
              · exact stab_refl _ _ _ _
              · exact rfl
            · intro L a W hz hd hk hI hL hcl hdep
              have hN : a.tmps.size = 90 := hz
              obtain ⟨⟨v70, e70, g70⟩, ⟨v72, e72, g72⟩, ⟨v73, e73, g73⟩, ⟨v74, e74, g74⟩, -⟩ := hdep
              replace g70 : v70 = .int .u8 r.wait := g70
              subst g70
              have k70 : a.eval (.tmp 70) = .int .u8 r.wait := eval_of e70
              replace g72 : v72 = .int .u64 x.due := g72
              subst g72
              have k72 : a.eval (.tmp 72) = .int .u64 x.due := eval_of e72
              replace g73 : v73 = .int .u64 now := g73
              subst g73
              have k73 : a.eval (.tmp 73) = .int .u64 now := eval_of e73
              replace g74 : v74 = c.val := g74
              subst g74
              have k74 : a.eval (.tmp 74) = c.val := eval_of e74
              apply step_call (s := 75) (f := 21) (args := #[.int .u8 r.wait, .int .u64 x.due, .int .u64 now, c.val])
              · go_simp; exact ⟨idx e70, idx e72, idx e73, idx e74⟩
              · rfl
              · rfl
              · omega
              refine (hT.out W).mono ?_
              rintro _ W' ⟨rfl, bw⟩
              exact ⟨_, rfl, hI.call bw, ⟨.inr fun _ h => h, .inr fun _ h => h, .inr fun _ h => h, .inr fun _ h => h, .inr fun _ h => h, .inr fun _ h => h, .inr fun _ h => h, .inr fun _ h => h, .inr fun _ h => h, .inr fun _ h => h, .inr fun _ h => h, .inr fun _ h => h, .inr fun _ h => h, trivial⟩, rfl⟩
            · intro L a W hz hd hk hI hL hcl hdep
              have hN : a.tmps.size = 90 := hz
              have k5 : a.eval (.tmp 5) = .pointer (some ⟨w.heap.size, 0, none⟩) := eval_of ((hk 5 (by decide)).trans rfl)
              apply step_val (s := 76) (v := .pointer (some ⟨w.heap.size, 5, none⟩)) (w' := W)
              · simp [execOp, k5]; go_simp
              · rfl
              · rfl
              · omega
              · exact hI
              · exact stab_refl _ _ _ _
              · exact rfl
            · intro L a W hz hd hk hI hL hcl hdep
              have hN : a.tmps.size = 90 := hz
              obtain ⟨⟨v76, e76, g76⟩, ⟨v68, e68, g68⟩, -⟩ := hdep
              replace g76 : v76 = .pointer (some ⟨w.heap.size, 5, none⟩) := g76
              subst g76
              have k76 : a.eval (.tmp 76) = .pointer (some ⟨w.heap.size, 5, none⟩) := eval_of e76
              replace g68 : v68 = .int .u8 r.to := g68
              subst g68
              have k68 : a.eval (.tmp 68) = .int .u8 r.to := eval_of e68
              have fr := free_row hI.x
              have c0 := cell_row (k := 5) hI.x rfl
              apply Flow.step_skip (w' := W.setCell ⟨w.heap.size, 5, none⟩ (.int .u8 r.to))
              · simp [execOp, k76, k68]; go_simp
              · rfl
              · exact hI.set rfl
              · exact ⟨.inr fun _ h => h, .inr fun _ h => h, .inr fun _ h => h, .inr fun _ h => h, .inr fun _ h => h, .inr fun _ h => h, .inr fun _ h => h, .inr fun _ h => h, .inr fun _ h => h, .inr fun _ h => h, .inr fun _ h => h, .inr fun _ h => h, .inr fun _ h => h, trivial⟩
              · trivial
            · intro L a W hz hd hk hI hL hcl hdep
              have hN : a.tmps.size = 90 := hz
              have k5 : a.eval (.tmp 5) = .pointer (some ⟨w.heap.size, 0, none⟩) := eval_of ((hk 5 (by decide)).trans rfl)
              apply step_val (s := 77) (v := .pointer (some ⟨w.heap.size, 6, none⟩)) (w' := W)
              · simp [execOp, k5]; go_simp
              · rfl
              · rfl
              · omega
              · exact hI
              · exact stab_refl _ _ _ _
              · exact rfl
            · intro L a W hz hd hk hI hL hcl hdep
              have hN : a.tmps.size = 90 := hz
              obtain ⟨⟨v77, e77, g77⟩, ⟨v75, e75, g75⟩, -⟩ := hdep
              replace g77 : v77 = .pointer (some ⟨w.heap.size, 6, none⟩) := g77
              subst g77
              have k77 : a.eval (.tmp 77) = .pointer (some ⟨w.heap.size, 6, none⟩) := eval_of e77
              replace g75 : v75 = .int .u64 (untV r.wait x.due now c) := g75
              subst g75
              have k75 : a.eval (.tmp 75) = .int .u64 (untV r.wait x.due now c) := eval_of e75
              have fr := free_row hI.x
              have c0 := cell_row (k := 6) hI.x rfl
              apply Flow.step_skip (w' := W.setCell ⟨w.heap.size, 6, none⟩ (.int .u64 (untV r.wait x.due now c)))
              · simp [execOp, k77, k75]; go_simp
              · rfl
              · exact hI.set rfl
              · exact ⟨.inr fun _ h => h, .inr fun _ h => h, .inr fun _ h => h, .inr fun _ h => h, .inr fun _ h => h, .inr fun _ h => h, .inr fun _ h => h, .inr fun _ h => h, .inr fun _ h => h, .inr fun _ h => h, .inr fun _ h => h, .inr fun _ h => h, .inr fun _ h => h, trivial⟩
              · trivial
            clear HS
            intro W Y HS
            replace HS : S11 w { x with st := r.to, due := untV r.wait x.due now c } Inst.none_.cells c r g W := HS
            refine fun g67 g68 g69 g70 g71 g72 g73 g74 g75 g76 gS1 g77 gS2 => ?_
            replace g67 : Y 67 = .pointer (some ⟨g, 0, none⟩) := g67
            replace g68 : Y 68 = .int .u8 r.to := g68
            replace g69 : Y 69 = .pointer (some ⟨g, 1, none⟩) := g69
            replace g70 : Y 70 = .int .u8 r.wait := g70
            replace g71 : Y 71 = .pointer (some ⟨w.heap.size, 6, none⟩) := g71
            replace g72 : Y 72 = .int .u64 x.due := g72
            replace g73 : Y 73 = .int .u64 now := g73
            replace g74 : Y 74 = c.val := g74
            replace g75 : Y 75 = .int .u64 (untV r.wait x.due now c) := g75
            replace g76 : Y 76 = .pointer (some ⟨w.heap.size, 5, none⟩) := g76
            replace g77 : Y 77 = .pointer (some ⟨w.heap.size, 6, none⟩) := g77
            clear gS1 gS2
            rename_i K hK
            show K _ W
            refine hK _ _ ?_
            rw [g67, g68, g69, g70, g71, g72, g73, g74, g75, g76, g77]
            clear hK g67 g68 g69 g70 g71 g72 g73 g74 g75 g76 g77
            try simp only [List.setIfInBounds_toArray, List.set_cons_succ, List.set_cons_zero]
            have fr := free_row HS.x
            have d7 := cell_row (k := 7) HS.x rfl
            have d8 := cell_row (k := 8) HS.x rfl
            have d9 := cell_row (k := 9) HS.x rfl
            go_wp2_with fail
            clear fr d7 d8 d9
            have HT : S11 w { x with st := r.to, due := untV r.wait x.due now c, ntd := true, kill := at_ } Inst.none_.cells c r g _ := (HS.set (k := 7) (y := { x with st := r.to, due := untV r.wait x.due now c, ntd := true }) (v := .bool true) rfl).set (k := 8) (v := .int .u64 at_) rfl
            replace HS := HT
            clear HT
            obtain ⟨y, ey⟩ : ∃ y : Ins, goneX x what now at_ c r = y := ⟨_, rfl⟩
            rw [← HG.out, ey] at HS
            rw [ey] at HV
            clear HG
            refine flow (fun L W => S11 w y (cond (L 3) y.cells Inst.none_.cells) c r g W) [fun v _ => v = y.val, fun v _ => v = .pointer (some ⟨g, 2, none⟩), fun v _ => v = .int .u8 r.ask, fun _ _ => True, fun v _ => v = .int .u8 r.ask, fun v _ => v = .int .i64 0] [87, 88, 89, 87, 11, 12] [87, 88, 89, 11, 12] 90 (by kernel_rfl) rfl (by kernel_rfl) rfl (S11.call HS (bDrew (Below.refl _ _))) ⟨?_, ?_, ?_, ?_, ?_, ?_, trivial⟩ ?_
            · intro L a W hz hd hk hI hL hcl hdep
              have hN : a.tmps.size = 90 := hz
              have k5 : a.eval (.tmp 5) = .pointer (some ⟨w.heap.size, 0, none⟩) := eval_of ((hk 5 (by decide)).trans rfl)
              apply step_val (s := 87) (v := y.val) (w' := W)
              · exact exec_load_row 25 _ rfl k5 hI.x Try.underlying25 rfl (sizeInst.trans rfl)
              · rfl
              · rfl
              · omega
              · exact hI
              · exact stab_refl _ _ _ _
              · exact rfl
            · intro L a W hz hd hk hI hL hcl hdep
              have hN : a.tmps.size = 90 := hz
              have k13 : a.eval (.tmp 13) = .pointer (some ⟨g, 0, none⟩) := eval_of ((hk 13 (by decide)).trans rfl)
              apply step_val (s := 88) (v := .pointer (some ⟨g, 2, none⟩)) (w' := W)
              · simp [execOp, k13]; go_simp
              · rfl
              · rfl
              · omega
              · exact hI
              · exact stab_refl _ _ _ _
              · exact rfl
            · intro L a W hz hd hk hI hL hcl hdep
              have hN : a.tmps.size = 90 := hz
              obtain ⟨⟨v88, e88, g88⟩, -⟩ := hdep
              replace g88 : v88 = .pointer (some ⟨g, 2, none⟩) := g88
              subst g88
              have k88 : a.eval (.tmp 88) = .pointer (some ⟨g, 2, none⟩) := eval_of e88
              have c0 : W.cell? ⟨g, 2, none⟩ = some (.int .u8 r.ask) := cell_row hI.r rfl
              apply step_val (s := 89) (v := .int .u8 r.ask) (w' := W)
              · simp [execOp, k88]; go_simp
              · rfl
              · rfl
              · omega
              · exact hI
              · exact stab_refl _ _ _ _
              · exact rfl
            · intro L a W hz hd hk hI hL hcl hdep
              have hN : a.tmps.size = 90 := hz
              have k10 : a.eval (.tmp 10) = .pointer (some ⟨w.heap.size + 1 + 1, 0, none⟩) := eval_of ((hk 10 (by decide)).trans rfl)
              replace hdep := hdep.1
              have hdep := And.intro hdep True.intro
              obtain ⟨⟨v87, e87, g87⟩, -⟩ := hdep
              replace g87 : v87 = y.val := g87
              subst g87
              have k87 : a.eval (.tmp 87) = y.val := eval_of e87
              apply Flow.step_skip (w' := W.setRow (w.heap.size + 1 + 1) y.cells)
              · refine exec_store_row 25 _ _ rfl k10 k87 hI.z (sizeInst.trans rfl) ?_ y.one
                cases L 3 <;> rfl
              · rfl
              · exact hI.out
              · exact ⟨.inr fun _ h => h, .inr fun _ h => h, .inr fun _ h => h, .inr fun _ h => h, .inr fun _ h => h, .inr fun _ h => h, trivial⟩
              · trivial
            · intro L a W hz hd hk hI hL hcl hdep
              have hN : a.tmps.size = 90 := hz
              replace hdep := And.intro hdep.1 True.intro
              obtain ⟨⟨v89, e89, g89⟩, -⟩ := hdep
              replace g89 : v89 = .int .u8 r.ask := g89
              subst g89
              have k89 : a.eval (.tmp 89) = .int .u8 r.ask := eval_of e89
              apply step_val (s := 11) (v := .int .u8 r.ask) (w' := W)
              · simp [execOp, k89]
              · rfl
              · rfl
              · omega
              · exact hI
              · exact stab_refl _ _ _ _
              · exact rfl
            · intro L a W hz hd hk hI hL hcl hdep
              have hN : a.tmps.size = 90 := hz
              apply step_val (s := 12) (v := .int .i64 0) (w' := W)
              · simp [execOp]; rfl
              · rfl
              · rfl
              · omega
              · exact hI
              · exact stab_refl _ _ _ _
              · exact rfl
            clear HS
            intro W Y HS
            replace HS : S11 w y y.cells c r g W := HS
            refine fun g87 g88 g89 gS g11 g12 => ?_
            replace g87 : Y 87 = y.val := g87
            replace g88 : Y 88 = .pointer (some ⟨g, 2, none⟩) := g88
            replace g89 : Y 89 = .int .u8 r.ask := g89
            replace g11 : Y 11 = .int .u8 r.ask := g11
            replace g12 : Y 12 = .int .i64 0 := g12
            clear gS
            rename_i K hK
            show K _ W
            refine hK _ _ ?_
            rw [g87, g88, g89, g11, g12]
            clear hK g87 g88 g89 g11 g12
            try simp only [List.setIfInBounds_toArray, List.set_cons_succ, List.set_cons_zero]
            go_wp2_with fail
            refine bodyPost_ret (v := Ans.val ⟨y, r.ask, 0⟩) (results_row_tmp2 (fn := Try.f7) (p := 10) (u := 11) (v := 12) rfl _ _ (w.heap.size + 1 + 1) _ y.cells _ rfl HS.z Try.underlying25 rfl (sizeInst.trans rfl)) rfl ?_
            exact ⟨by rw [HV.out], HS.b⟩
          · by_cases q3 : what = 3
            · skip
              have HV : Hid (doV x what now at_ c = ⟨goneX x what now at_ c r, r.ask, 0⟩) := Lib.hid (by unfold doV; rw [if_neg (by rw [hm]; simp), if_neg (fun e => q8 e.1), if_neg (by rw [io]; simp), if_neg (fun e => q4 e.1)]; rw [er])
              have HG : Hid (goneX x what now at_ c r = { x with st := r.to, due := untV r.wait x.due now c, risk := true }) := Lib.hid (by unfold goneX; rw [if_neg (by omega), if_neg (by omega), if_pos q3])
              have c2 : (what == 2) = false := by simp; omega
              have c3 : (what == 3) = true := by simp; omega
              clear q4 q8 q2 q3
              go_wp2_with (first | (refine load_cfg rfl _ rfl _ rfl c _ _ C3 ?_) | ((with_reducible refine at_load' 51 ?_); (refine wpList_load_mid rfl 51 _ rfl g 0 rfl (rc (rowV what x.st).to (rowV what x.st).wait (rowV what x.st).ask).toList _ RGr Try.underlying51 rfl (sizeRow.trans rfl) ?_)))
              refine (hU.out _).mono ?_
              rintro _ v ⟨rfl, bv⟩
              have hr4 := kept_box bv hr
              go_wp2_with ((with_reducible refine at_store 51 ?_); (refine store_whole rfl 51 _ _ rfl g (rc r.to r.wait r.ask) _ _ rfl rfl hr4 (sizeRow.trans rfl) rfl (rc_one _ _ _) ?_))
              have HS : S11 w x Inst.none_.cells c r g (v.setRow g (rc r.to r.wait r.ask)) := ⟨below_row _ (bTrans B3 bv) (by omega), (row_else (by omega)).trans (kept_box bv X3), (row_else (by omega)).trans (kept_box bv C3), (row_else (by omega)).trans (kept_box bv Z3), row_at hr4, by omega⟩
              generalize v.setRow g (rc r.to r.wait r.ask) = V at HS ⊢
              clear X3 C3 Z3 B3 DU D5 D7 R3 hr4 bv RGr hr hU
              refine flow (fun L W => S11 w { x with st := cond (L 10) r.to x.st, due := cond (L 12) (untV r.wait x.due now c) x.due } Inst.none_.cells c r g W) [fun v _ => v = .pointer (some ⟨g, 0, none⟩), fun v _ => v = .int .u8 r.to, fun v _ => v = .pointer (some ⟨g, 1, none⟩), fun v _ => v = .int .u8 r.wait, fun v _ => v = .pointer (some ⟨w.heap.size, 6, none⟩), fun v _ => v = .int .u64 x.due, fun v _ => v = .int .u64 now, fun v _ => v = c.val, fun v _ => v = .int .u64 (untV r.wait x.due now c), fun v _ => v = .pointer (some ⟨w.heap.size, 5, none⟩), fun _ _ => True, fun v _ => v = .pointer (some ⟨w.heap.size, 6, none⟩), fun _ _ => True] [67, 68, 69, 70, 71, 72, 73, 74, 75, 76, 76, 77, 77] [67, 68, 69, 70, 71, 72, 73, 74, 75, 76, 77] 90 (by kernel_rfl) rfl (by kernel_rfl) rfl (S11.call HS (bDrew (Below.refl _ _))) ⟨?_, ?_, ?_, ?_, ?_, ?_, ?_, ?_, ?_, ?_, ?_, ?_, ?_, trivial⟩ ?_
              · intro L a W hz hd hk hI hL hcl hdep
                have hN : a.tmps.size = 90 := hz
                have k13 : a.eval (.tmp 13) = .pointer (some ⟨g, 0, none⟩) := eval_of ((hk 13 (by decide)).trans rfl)
                apply step_val (s := 67) (v := .pointer (some ⟨g, 0, none⟩)) (w' := W)
                · simp [execOp, k13]; go_simp
                · rfl
                · rfl
                · omega
                · exact hI
                · exact stab_refl _ _ _ _
                · exact rfl
              · intro L a W hz hd hk hI hL hcl hdep
                have hN : a.tmps.size = 90 := hz
                obtain ⟨⟨v67, e67, g67⟩, -⟩ := hdep
                replace g67 : v67 = .pointer (some ⟨g, 0, none⟩) := g67
                subst g67
                have k67 : a.eval (.tmp 67) = .pointer (some ⟨g, 0, none⟩) := eval_of e67
                have c0 : W.cell? ⟨g, 0, none⟩ = some (.int .u8 r.to) := cell_row hI.r rfl
                apply step_val (s := 68) (v := .int .u8 r.to) (w' := W)
                · simp [execOp, k67]; go_simp
                · rfl
                · rfl
                · omega
                · exact hI
                · exact stab_refl _ _ _ _
                · exact rfl
              · intro L a W hz hd hk hI hL hcl hdep
                have hN : a.tmps.size = 90 := hz
                have k13 : a.eval (.tmp 13) = .pointer (some ⟨g, 0, none⟩) := eval_of ((hk 13 (by decide)).trans rfl)
                apply step_val (s := 69) (v := .pointer (some ⟨g, 1, none⟩)) (w' := W)
                · simp [execOp, k13]; go_simp
                · rfl
                · rfl
                · omega
                · exact hI
                · exact stab_refl _ _ _ _
                · exact rfl
              · intro L a W hz hd hk hI hL hcl hdep
                have hN : a.tmps.size = 90 := hz
                obtain ⟨⟨v69, e69, g69⟩, -⟩ := hdep
                replace g69 : v69 = .pointer (some ⟨g, 1, none⟩) := g69
                subst g69
                have k69 : a.eval (.tmp 69) = .pointer (some ⟨g, 1, none⟩) := eval_of e69
                have c0 : W.cell? ⟨g, 1, none⟩ = some (.int .u8 r.wait) := cell_row hI.r rfl
                apply step_val (s := 70) (v := .int .u8 r.wait) (w' := W)
                · simp [execOp, k69]; go_simp
                · rfl
                · rfl
                · omega
                · exact hI
                · exact stab_refl _ _ _ _
                · exact rfl
              · intro L a W hz hd hk hI hL hcl hdep
                have hN : a.tmps.size = 90 := hz
                have k5 : a.eval (.tmp 5) = .pointer (some ⟨w.heap.size, 0, none⟩) := eval_of ((hk 5 (by decide)).trans rfl)
                apply step_val (s := 71) (v := .pointer (some ⟨w.heap.size, 6, none⟩)) (w' := W)
                · simp [execOp, k5]; go_simp
                · rfl
                · rfl
                · omega
                · exact hI
                · exact stab_refl _ _ _ _
                · exact rfl
              · intro L a W hz hd hk hI hL hcl hdep
                have hN : a.tmps.size = 90 := hz
                obtain ⟨⟨v71, e71, g71⟩, -⟩ := hdep
                replace g71 : v71 = .pointer (some ⟨w.heap.size, 6, none⟩) := g71
                subst g71
                have k71 : a.eval (.tmp 71) = .pointer (some ⟨w.heap.size, 6, none⟩) := eval_of e71
                have n12 : L 12 = false := by
                  cases e : L 12 with
                  | false => rfl
                  | true =>
                    have e8 := hcl 12 _ rfl e ⟨8, .data⟩ (by simp) rfl
                    have e5 := hcl 8 _ rfl e8 ⟨5, .data⟩ (by simp) rfl
                    exact absurd (hL.symm.trans e5) (by simp)
                have c0 : W.cell? ⟨w.heap.size, 6, none⟩ = some (.int .u64 x.due) := by
                  have hx := hI.x
                  rw [n12] at hx
                  exact cell_row hx rfl
                apply step_val (s := 72) (v := .int .u64 x.due) (w' := W)
                · simp [execOp, k71]; go_simp
                · rfl
                · rfl
                · omega
                · exact hI
                · exact stab_refl _ _ _ _
                · exact rfl
              · intro L a W hz hd hk hI hL hcl hdep
                have hN : a.tmps.size = 90 := hz
                have k2 : a.eval (.tmp 2) = .int .u64 now := eval_of ((hk 2 (by decide)).trans rfl)
                apply step_val (s := 73) (v := .int .u64 now) (w' := W)
                · simp [execOp, k2]
                · rfl
                · rfl
                · omega
                · exact hI
                · exact stab_refl _ _ _ _
                · exact rfl
              · intro L a W hz hd hk hI hL hcl hdep
                have hN : a.tmps.size = 90 := hz
                have k9 : a.eval (.tmp 9) = .pointer (some ⟨w.heap.size + 1, 0, none⟩) := eval_of ((hk 9 (by decide)).trans rfl)
                apply step_val (s := 74) (v := c.val) (w' := W)
                · exact exec_load_row 30 _ rfl k9 hI.c Try.underlying30 rfl (infoCfg.trans rfl)
                · rfl
                · rfl
                · omega
                · exact hI
                · exact stab_refl _ _ _ _
                · exact rfl
              · intro L a W hz hd hk hI hL hcl hdep
                have hN : a.tmps.size = 90 := hz
                obtain ⟨⟨v70, e70, g70⟩, ⟨v72, e72, g72⟩, ⟨v73, e73, g73⟩, ⟨v74, e74, g74⟩, -⟩ := hdep
                replace g70 : v70 = .int .u8 r.wait := g70
                subst g70
                have k70 : a.eval (.tmp 70) = .int .u8 r.wait := eval_of e70
                replace g72 : v72 = .int .u64 x.due := g72
                subst g72
                have k72 : a.eval (.tmp 72) = .int .u64 x.due := eval_of e72
                replace g73 : v73 = .int .u64 now := g73
                subst g73
                have k73 : a.eval (.tmp 73) = .int .u64 now := eval_of e73
                replace g74 : v74 = c.val := g74
                subst g74
                have k74 : a.eval (.tmp 74) = c.val := eval_of e74
                apply step_call (s := 75) (f := 21) (args := #[.int .u8 r.wait, .int .u64 x.due, .int .u64 now, c.val])
                · go_simp; exact ⟨idx e70, idx e72, idx e73, idx e74⟩
                · rfl
                · rfl
                · omega
                refine (hT.out W).mono ?_
                rintro _ W' ⟨rfl, bw⟩
                exact ⟨_, rfl, hI.call bw, ⟨.inr fun _ h => h, .inr fun _ h => h, .inr fun _ h => h, .inr fun _ h => h, .inr fun _ h => h, .inr fun _ h => h, .inr fun _ h => h, .inr fun _ h => h, .inr fun _ h => h, .inr fun _ h => h, .inr fun _ h => h, .inr fun _ h => h, .inr fun _ h => h, trivial⟩, rfl⟩
              · intro L a W hz hd hk hI hL hcl hdep
                have hN : a.tmps.size = 90 := hz
                have k5 : a.eval (.tmp 5) = .pointer (some ⟨w.heap.size, 0, none⟩) := eval_of ((hk 5 (by decide)).trans rfl)
                apply step_val (s := 76) (v := .pointer (some ⟨w.heap.size, 5, none⟩)) (w' := W)
                · simp [execOp, k5]; go_simp
                · rfl
                · rfl
                · omega
                · exact hI
                · exact stab_refl _ _ _ _
                · exact rfl
              · intro L a W hz hd hk hI hL hcl hdep
                have hN : a.tmps.size = 90 := hz
                obtain ⟨⟨v76, e76, g76⟩, ⟨v68, e68, g68⟩, -⟩ := hdep
                replace g76 : v76 = .pointer (some ⟨w.heap.size, 5, none⟩) := g76
                subst g76
                have k76 : a.eval (.tmp 76) = .pointer (some ⟨w.heap.size, 5, none⟩) := eval_of e76
                replace g68 : v68 = .int .u8 r.to := g68
                subst g68
                have k68 : a.eval (.tmp 68) = .int .u8 r.to := eval_of e68
                have fr := free_row hI.x
                have c0 := cell_row (k := 5) hI.x rfl
                apply Flow.step_skip (w' := W.setCell ⟨w.heap.size, 5, none⟩ (.int .u8 r.to))
                · simp [execOp, k76, k68]; go_simp
                · rfl
                · exact hI.set rfl
                · exact ⟨.inr fun _ h => h, .inr fun _ h => h, .inr fun _ h => h, .inr fun _ h => h, .inr fun _ h => h, .inr fun _ h => h, .inr fun _ h => h, .inr fun _ h => h, .inr fun _ h => h, .inr fun _ h => h, .inr fun _ h => h, .inr fun _ h => h, .inr fun _ h => h, trivial⟩
                · trivial
              · intro L a W hz hd hk hI hL hcl hdep
                have hN : a.tmps.size = 90 := hz
                have k5 : a.eval (.tmp 5) = .pointer (some ⟨w.heap.size, 0, none⟩) := eval_of ((hk 5 (by decide)).trans rfl)
                apply step_val (s := 77) (v := .pointer (some ⟨w.heap.size, 6, none⟩)) (w' := W)
                · simp [execOp, k5]; go_simp
                · rfl
                · rfl
                · omega
                · exact hI
                · exact stab_refl _ _ _ _
                · exact rfl
              · intro L a W hz hd hk hI hL hcl hdep
                have hN : a.tmps.size = 90 := hz
                obtain ⟨⟨v77, e77, g77⟩, ⟨v75, e75, g75⟩, -⟩ := hdep
                replace g77 : v77 = .pointer (some ⟨w.heap.size, 6, none⟩) := g77
                subst g77
                have k77 : a.eval (.tmp 77) = .pointer (some ⟨w.heap.size, 6, none⟩) := eval_of e77
                replace g75 : v75 = .int .u64 (untV r.wait x.due now c) := g75
                subst g75
                have k75 : a.eval (.tmp 75) = .int .u64 (untV r.wait x.due now c) := eval_of e75
                have fr := free_row hI.x
                have c0 := cell_row (k := 6) hI.x rfl
                apply Flow.step_skip (w' := W.setCell ⟨w.heap.size, 6, none⟩ (.int .u64 (untV r.wait x.due now c)))
                · simp [execOp, k77, k75]; go_simp
                · rfl
                · exact hI.set rfl
                · exact ⟨.inr fun _ h => h, .inr fun _ h => h, .inr fun _ h => h, .inr fun _ h => h, .inr fun _ h => h, .inr fun _ h => h, .inr fun _ h => h, .inr fun _ h => h, .inr fun _ h => h, .inr fun _ h => h, .inr fun _ h => h, .inr fun _ h => h, .inr fun _ h => h, trivial⟩
                · trivial
              clear HS
              intro W Y HS
              replace HS : S11 w { x with st := r.to, due := untV r.wait x.due now c } Inst.none_.cells c r g W := HS
              refine fun g67 g68 g69 g70 g71 g72 g73 g74 g75 g76 gS1 g77 gS2 => ?_
              replace g67 : Y 67 = .pointer (some ⟨g, 0, none⟩) := g67
              replace g68 : Y 68 = .int .u8 r.to := g68
              replace g69 : Y 69 = .pointer (some ⟨g, 1, none⟩) := g69
              replace g70 : Y 70 = .int .u8 r.wait := g70
              replace g71 : Y 71 = .pointer (some ⟨w.heap.size, 6, none⟩) := g71
              replace g72 : Y 72 = .int .u64 x.due := g72
              replace g73 : Y 73 = .int .u64 now := g73
              replace g74 : Y 74 = c.val := g74
              replace g75 : Y 75 = .int .u64 (untV r.wait x.due now c) := g75
              replace g76 : Y 76 = .pointer (some ⟨w.heap.size, 5, none⟩) := g76
              replace g77 : Y 77 = .pointer (some ⟨w.heap.size, 6, none⟩) := g77
              clear gS1 gS2
              rename_i K hK
              show K _ W
              refine hK _ _ ?_
              rw [g67, g68, g69, g70, g71, g72, g73, g74, g75, g76, g77]
              clear hK g67 g68 g69 g70 g71 g72 g73 g74 g75 g76 g77
              try simp only [List.setIfInBounds_toArray, List.set_cons_succ, List.set_cons_zero]
              have fr := free_row HS.x
              have d7 := cell_row (k := 7) HS.x rfl
              have d8 := cell_row (k := 8) HS.x rfl
              have d9 := cell_row (k := 9) HS.x rfl
              go_wp2_with fail
              clear fr d7 d8 d9
              replace HS : S11 w { x with st := r.to, due := untV r.wait x.due now c, risk := true } Inst.none_.cells c r g _ := HS.set (k := 9) (v := .bool true) rfl
              obtain ⟨y, ey⟩ : ∃ y : Ins, goneX x what now at_ c r = y := ⟨_, rfl⟩
              rw [← HG.out, ey] at HS
              rw [ey] at HV
              clear HG
              refine flow (fun L W => S11 w y (cond (L 3) y.cells Inst.none_.cells) c r g W) [fun v _ => v = y.val, fun v _ => v = .pointer (some ⟨g, 2, none⟩), fun v _ => v = .int .u8 r.ask, fun _ _ => True, fun v _ => v = .int .u8 r.ask, fun v _ => v = .int .i64 0] [87, 88, 89, 87, 11, 12] [87, 88, 89, 11, 12] 90 (by kernel_rfl) rfl (by kernel_rfl) rfl (S11.call HS (bDrew (Below.refl _ _))) ⟨?_, ?_, ?_, ?_, ?_, ?_, trivial⟩ ?_
              · intro L a W hz hd hk hI hL hcl hdep
                have hN : a.tmps.size = 90 := hz
                have k5 : a.eval (.tmp 5) = .pointer (some ⟨w.heap.size, 0, none⟩) := eval_of ((hk 5 (by decide)).trans rfl)
                apply step_val (s := 87) (v := y.val) (w' := W)
                · exact exec_load_row 25 _ rfl k5 hI.x Try.underlying25 rfl (sizeInst.trans rfl)
                · rfl
                · rfl
                · omega
                · exact hI
                · exact stab_refl _ _ _ _
                · exact rfl
              · intro L a W hz hd hk hI hL hcl hdep
                have hN : a.tmps.size = 90 := hz
                have k13 : a.eval (.tmp 13) = .pointer (some ⟨g, 0, none⟩) := eval_of ((hk 13 (by decide)).trans rfl)
                apply step_val (s := 88) (v := .pointer (some ⟨g, 2, none⟩)) (w' := W)
                · simp [execOp, k13]; go_simp
                · rfl
                · rfl
                · omega
                · exact hI
                · exact stab_refl _ _ _ _
                · exact rfl
              · intro L a W hz hd hk hI hL hcl hdep
                have hN : a.tmps.size = 90 := hz
                obtain ⟨⟨v88, e88, g88⟩, -⟩ := hdep
                replace g88 : v88 = .pointer (some ⟨g, 2, none⟩) := g88
                subst g88
                have k88 : a.eval (.tmp 88) = .pointer (some ⟨g, 2, none⟩) := eval_of e88
                have c0 : W.cell? ⟨g, 2, none⟩ = some (.int .u8 r.ask) := cell_row hI.r rfl
                apply step_val (s := 89) (v := .int .u8 r.ask) (w' := W)
                · simp [execOp, k88]; go_simp
                · rfl
                · rfl
                · omega
                · exact hI
                · exact stab_refl _ _ _ _
                · exact rfl
              · intro L a W hz hd hk hI hL hcl hdep
                have hN : a.tmps.size = 90 := hz
                have k10 : a.eval (.tmp 10) = .pointer (some ⟨w.heap.size + 1 + 1, 0, none⟩) := eval_of ((hk 10 (by decide)).trans rfl)
                replace hdep := hdep.1
                have hdep := And.intro hdep True.intro
                obtain ⟨⟨v87, e87, g87⟩, -⟩ := hdep
                replace g87 : v87 = y.val := g87
                subst g87
                have k87 : a.eval (.tmp 87) = y.val := eval_of e87
                apply Flow.step_skip (w' := W.setRow (w.heap.size + 1 + 1) y.cells)
                · refine exec_store_row 25 _ _ rfl k10 k87 hI.z (sizeInst.trans rfl) ?_ y.one
                  cases L 3 <;> rfl
                · rfl
                · exact hI.out
                · exact ⟨.inr fun _ h => h, .inr fun _ h => h, .inr fun _ h => h, .inr fun _ h => h, .inr fun _ h => h, .inr fun _ h => h, trivial⟩
                · trivial
              · intro L a W hz hd hk hI hL hcl hdep
                have hN : a.tmps.size = 90 := hz
                replace hdep := And.intro hdep.1 True.intro
                obtain ⟨⟨v89, e89, g89⟩, -⟩ := hdep
                replace g89 : v89 = .int .u8 r.ask := g89
                subst g89
                have k89 : a.eval (.tmp 89) = .int .u8 r.ask := eval_of e89
                apply step_val (s := 11) (v := .int .u8 r.ask) (w' := W)
                · simp [execOp, k89]
                · rfl
                · rfl
                · omega
                · exact hI
                · exact stab_refl _ _ _ _
                · exact rfl
              · intro L a W hz hd hk hI hL hcl hdep
                have hN : a.tmps.size = 90 := hz
                apply step_val (s := 12) (v := .int .i64 0) (w' := W)
                · simp [execOp]; rfl
                · rfl
                · rfl
                · omega
                · exact hI
                · exact stab_refl _ _ _ _
                · exact rfl
              clear HS
              intro W Y HS
              replace HS : S11 w y y.cells c r g W := HS
              refine fun g87 g88 g89 gS g11 g12 => ?_
              replace g87 : Y 87 = y.val := g87
              replace g88 : Y 88 = .pointer (some ⟨g, 2, none⟩) := g88
              replace g89 : Y 89 = .int .u8 r.ask := g89
              replace g11 : Y 11 = .int .u8 r.ask := g11
              replace g12 : Y 12 = .int .i64 0 := g12
              clear gS
              rename_i K hK
              show K _ W
              refine hK _ _ ?_
              rw [g87, g88, g89, g11, g12]
              clear hK g87 g88 g89 g11 g12
              try simp only [List.setIfInBounds_toArray, List.set_cons_succ, List.set_cons_zero]
              go_wp2_with fail
              refine bodyPost_ret (v := Ans.val ⟨y, r.ask, 0⟩) (results_row_tmp2 (fn := Try.f7) (p := 10) (u := 11) (v := 12) rfl _ _ (w.heap.size + 1 + 1) _ y.cells _ rfl HS.z Try.underlying25 rfl (sizeInst.trans rfl)) rfl ?_
              exact ⟨by rw [HV.out], HS.b⟩
            · skip
              have HV : Hid (doV x what now at_ c = ⟨goneX x what now at_ c r, r.ask, 0⟩) := Lib.hid (by unfold doV; rw [if_neg (by rw [hm]; simp), if_neg (fun e => q8 e.1), if_neg (by rw [io]; simp), if_neg (fun e => q4 e.1)]; rw [er])
              have HG : Hid (goneX x what now at_ c r = { x with st := r.to, due := untV r.wait x.due now c }) := Lib.hid (by unfold goneX; rw [if_neg (by omega), if_neg (by omega), if_neg (by omega)])
              have c2 : (what == 2) = false := by simp; omega
              have c3 : (what == 3) = false := by simp; omega
              clear q4 q8 q2 q3
              go_wp2_with (first | (refine load_cfg rfl _ rfl _ rfl c _ _ C3 ?_) | ((with_reducible refine at_load' 51 ?_); (refine wpList_load_mid rfl 51 _ rfl g 0 rfl (rc (rowV what x.st).to (rowV what x.st).wait (rowV what x.st).ask).toList _ RGr Try.underlying51 rfl (sizeRow.trans rfl) ?_)))
              refine (hU.out _).mono ?_
              rintro _ v ⟨rfl, bv⟩
              have hr4 := kept_box bv hr
              go_wp2_with ((with_reducible refine at_store 51 ?_); (refine store_whole rfl 51 _ _ rfl g (rc r.to r.wait r.ask) _ _ rfl rfl hr4 (sizeRow.trans rfl) rfl (rc_one _ _ _) ?_))
              have HS : S11 w x Inst.none_.cells c r g (v.setRow g (rc r.to r.wait r.ask)) := ⟨below_row _ (bTrans B3 bv) (by omega), (row_else (by omega)).trans (kept_box bv X3), (row_else (by omega)).trans (kept_box bv C3), (row_else (by omega)).trans (kept_box bv Z3), row_at hr4, by omega⟩
              generalize v.setRow g (rc r.to r.wait r.ask) = V at HS ⊢
              clear X3 C3 Z3 B3 DU D5 D7 R3 hr4 bv RGr hr hU
              refine flow (fun L W => S11 w { x with st := cond (L 10) r.to x.st, due := cond (L 12) (untV r.wait x.due now c) x.due } Inst.none_.cells c r g W) [fun v _ => v = .pointer (some ⟨g, 0, none⟩), fun v _ => v = .int .u8 r.to, fun v _ => v = .pointer (some ⟨g, 1, none⟩), fun v _ => v = .int .u8 r.wait, fun v _ => v = .pointer (some ⟨w.heap.size, 6, none⟩), fun v _ => v = .int .u64 x.due, fun v _ => v = .int .u64 now, fun v _ => v = c.val, fun v _ => v = .int .u64 (untV r.wait x.due now c), fun v _ => v = .pointer (some ⟨w.heap.size, 5, none⟩), fun _ _ => True, fun v _ => v = .pointer (some ⟨w.heap.size, 6, none⟩), fun _ _ => True] [67, 68, 69, 70, 71, 72, 73, 74, 75, 76, 76, 77, 77] [67, 68, 69, 70, 71, 72, 73, 74, 75, 76, 77] 90 (by kernel_rfl) rfl (by kernel_rfl) rfl (S11.call HS (bDrew (Below.refl _ _))) ⟨?_, ?_, ?_, ?_, ?_, ?_, ?_, ?_, ?_, ?_, ?_, ?_, ?_, trivial⟩ ?_
              · intro L a W hz hd hk hI hL hcl hdep
                have hN : a.tmps.size = 90 := hz
                have k13 : a.eval (.tmp 13) = .pointer (some ⟨g, 0, none⟩) := eval_of ((hk 13 (by decide)).trans rfl)
                apply step_val (s := 67) (v := .pointer (some ⟨g, 0, none⟩)) (w' := W)
                · simp [execOp, k13]; go_simp
                · rfl
                · rfl
                · omega
                · exact hI
                · exact stab_refl _ _ _ _
                · exact rfl
              · intro L a W hz hd hk hI hL hcl hdep
                have hN : a.tmps.size = 90 := hz
                obtain ⟨⟨v67, e67, g67⟩, -⟩ := hdep
                replace g67 : v67 = .pointer (some ⟨g, 0, none⟩) := g67
                subst g67
                have k67 : a.eval (.tmp 67) = .pointer (some ⟨g, 0, none⟩) := eval_of e67
                have c0 : W.cell? ⟨g, 0, none⟩ = some (.int .u8 r.to) := cell_row hI.r rfl
                apply step_val (s := 68) (v := .int .u8 r.to) (w' := W)
                · simp [execOp, k67]; go_simp
                · rfl
                · rfl
                · omega
                · exact hI
                · exact stab_refl _ _ _ _
                · exact rfl
              · intro L a W hz hd hk hI hL hcl hdep
                have hN : a.tmps.size = 90 := hz
                have k13 : a.eval (.tmp 13) = .pointer (some ⟨g, 0, none⟩) := eval_of ((hk 13 (by decide)).trans rfl)
                apply step_val (s := 69) (v := .pointer (some ⟨g, 1, none⟩)) (w' := W)
                · simp [execOp, k13]; go_simp
                · rfl
                · rfl
                · omega
                · exact hI
                · exact stab_refl _ _ _ _
                · exact rfl
              · intro L a W hz hd hk hI hL hcl hdep
                have hN : a.tmps.size = 90 := hz
                obtain ⟨⟨v69, e69, g69⟩, -⟩ := hdep
                replace g69 : v69 = .pointer (some ⟨g, 1, none⟩) := g69
                subst g69
                have k69 : a.eval (.tmp 69) = .pointer (some ⟨g, 1, none⟩) := eval_of e69
                have c0 : W.cell? ⟨g, 1, none⟩ = some (.int .u8 r.wait) := cell_row hI.r rfl
                apply step_val (s := 70) (v := .int .u8 r.wait) (w' := W)
                · simp [execOp, k69]; go_simp
                · rfl
                · rfl
                · omega
                · exact hI
                · exact stab_refl _ _ _ _
                · exact rfl
              · intro L a W hz hd hk hI hL hcl hdep
                have hN : a.tmps.size = 90 := hz
                have k5 : a.eval (.tmp 5) = .pointer (some ⟨w.heap.size, 0, none⟩) := eval_of ((hk 5 (by decide)).trans rfl)
                apply step_val (s := 71) (v := .pointer (some ⟨w.heap.size, 6, none⟩)) (w' := W)
                · simp [execOp, k5]; go_simp
                · rfl
                · rfl
                · omega
                · exact hI
                · exact stab_refl _ _ _ _
                · exact rfl
              · intro L a W hz hd hk hI hL hcl hdep
                have hN : a.tmps.size = 90 := hz
                obtain ⟨⟨v71, e71, g71⟩, -⟩ := hdep
                replace g71 : v71 = .pointer (some ⟨w.heap.size, 6, none⟩) := g71
                subst g71
                have k71 : a.eval (.tmp 71) = .pointer (some ⟨w.heap.size, 6, none⟩) := eval_of e71
                have n12 : L 12 = false := by
                  cases e : L 12 with
                  | false => rfl
                  | true =>
                    have e8 := hcl 12 _ rfl e ⟨8, .data⟩ (by simp) rfl
                    have e5 := hcl 8 _ rfl e8 ⟨5, .data⟩ (by simp) rfl
                    exact absurd (hL.symm.trans e5) (by simp)
                have c0 : W.cell? ⟨w.heap.size, 6, none⟩ = some (.int .u64 x.due) := by
                  have hx := hI.x
                  rw [n12] at hx
                  exact cell_row hx rfl
                apply step_val (s := 72) (v := .int .u64 x.due) (w' := W)
                · simp [execOp, k71]; go_simp
                · rfl
                · rfl
                · omega
                · exact hI
                · exact stab_refl _ _ _ _
                · exact rfl
              · intro L a W hz hd hk hI hL hcl hdep
                have hN : a.tmps.size = 90 := hz
                have k2 : a.eval (.tmp 2) = .int .u64 now := eval_of ((hk 2 (by decide)).trans rfl)
                apply step_val (s := 73) (v := .int .u64 now) (w' := W)
                · simp [execOp, k2]
                · rfl
                · rfl
                · omega
                · exact hI
                · exact stab_refl _ _ _ _
                · exact rfl
              · intro L a W hz hd hk hI hL hcl hdep
                have hN : a.tmps.size = 90 := hz
                have k9 : a.eval (.tmp 9) = .pointer (some ⟨w.heap.size + 1, 0, none⟩) := eval_of ((hk 9 (by decide)).trans rfl)
                apply step_val (s := 74) (v := c.val) (w' := W)
                · exact exec_load_row 30 _ rfl k9 hI.c Try.underlying30 rfl (infoCfg.trans rfl)
                · rfl
                · rfl
                · omega
                · exact hI
                · exact stab_refl _ _ _ _
                · exact rfl
              · intro L a W hz hd hk hI hL hcl hdep
                have hN : a.tmps.size = 90 := hz
                obtain ⟨⟨v70, e70, g70⟩, ⟨v72, e72, g72⟩, ⟨v73, e73, g73⟩, ⟨v74, e74, g74⟩, -⟩ := hdep
                replace g70 : v70 = .int .u8 r.wait := g70
                subst g70
                have k70 : a.eval (.tmp 70) = .int .u8 r.wait := eval_of e70
                replace g72 : v72 = .int .u64 x.due := g72
                subst g72
                have k72 : a.eval (.tmp 72) = .int .u64 x.due := eval_of e72
                replace g73 : v73 = .int .u64 now := g73
                subst g73
                have k73 : a.eval (.tmp 73) = .int .u64 now := eval_of e73
                replace g74 : v74 = c.val := g74
                subst g74
                have k74 : a.eval (.tmp 74) = c.val := eval_of e74
                apply step_call (s := 75) (f := 21) (args := #[.int .u8 r.wait, .int .u64 x.due, .int .u64 now, c.val])
                · go_simp; exact ⟨idx e70, idx e72, idx e73, idx e74⟩
                · rfl
                · rfl
                · omega
                refine (hT.out W).mono ?_
                rintro _ W' ⟨rfl, bw⟩
                exact ⟨_, rfl, hI.call bw, ⟨.inr fun _ h => h, .inr fun _ h => h, .inr fun _ h => h, .inr fun _ h => h, .inr fun _ h => h, .inr fun _ h => h, .inr fun _ h => h, .inr fun _ h => h, .inr fun _ h => h, .inr fun _ h => h, .inr fun _ h => h, .inr fun _ h => h, .inr fun _ h => h, trivial⟩, rfl⟩
              · intro L a W hz hd hk hI hL hcl hdep
                have hN : a.tmps.size = 90 := hz
                have k5 : a.eval (.tmp 5) = .pointer (some ⟨w.heap.size, 0, none⟩) := eval_of ((hk 5 (by decide)).trans rfl)
                apply step_val (s := 76) (v := .pointer (some ⟨w.heap.size, 5, none⟩)) (w' := W)
                · simp [execOp, k5]; go_simp
                · rfl
                · rfl
                · omega
                · exact hI
                · exact stab_refl _ _ _ _
                · exact rfl
              · intro L a W hz hd hk hI hL hcl hdep
                have hN : a.tmps.size = 90 := hz
                obtain ⟨⟨v76, e76, g76⟩, ⟨v68, e68, g68⟩, -⟩ := hdep
                replace g76 : v76 = .pointer (some ⟨w.heap.size, 5, none⟩) := g76
                subst g76
                have k76 : a.eval (.tmp 76) = .pointer (some ⟨w.heap.size, 5, none⟩) := eval_of e76
                replace g68 : v68 = .int .u8 r.to := g68
                subst g68
                have k68 : a.eval (.tmp 68) = .int .u8 r.to := eval_of e68
                have fr := free_row hI.x
                have c0 := cell_row (k := 5) hI.x rfl
                apply Flow.step_skip (w' := W.setCell ⟨w.heap.size, 5, none⟩ (.int .u8 r.to))
                · simp [execOp, k76, k68]; go_simp
                · rfl
                · exact hI.set rfl
                · exact ⟨.inr fun _ h => h, .inr fun _ h => h, .inr fun _ h => h, .inr fun _ h => h, .inr fun _ h => h, .inr fun _ h => h, .inr fun _ h => h, .inr fun _ h => h, .inr fun _ h => h, .inr fun _ h => h, .inr fun _ h => h, .inr fun _ h => h, .inr fun _ h => h, trivial⟩
                · trivial
              · intro L a W hz hd hk hI hL hcl hdep
                have hN : a.tmps.size = 90 := hz
                have k5 : a.eval (.tmp 5) = .pointer (some ⟨w.heap.size, 0, none⟩) := eval_of ((hk 5 (by decide)).trans rfl)
                apply step_val (s := 77) (v := .pointer (some ⟨w.heap.size, 6, none⟩)) (w' := W)
                · simp [execOp, k5]; go_simp
                · rfl
                · rfl
                · omega
                · exact hI
                · exact stab_refl _ _ _ _
                · exact rfl
              · intro L a W hz hd hk hI hL hcl hdep
                have hN : a.tmps.size = 90 := hz
                obtain ⟨⟨v77, e77, g77⟩, ⟨v75, e75, g75⟩, -⟩ := hdep
                replace g77 : v77 = .pointer (some ⟨w.heap.size, 6, none⟩) := g77
                subst g77
                have k77 : a.eval (.tmp 77) = .pointer (some ⟨w.heap.size, 6, none⟩) := eval_of e77
                replace g75 : v75 = .int .u64 (untV r.wait x.due now c) := g75
                subst g75
                have k75 : a.eval (.tmp 75) = .int .u64 (untV r.wait x.due now c) := eval_of e75
                have fr := free_row hI.x
                have c0 := cell_row (k := 6) hI.x rfl
                apply Flow.step_skip (w' := W.setCell ⟨w.heap.size, 6, none⟩ (.int .u64 (untV r.wait x.due now c)))
                · simp [execOp, k77, k75]; go_simp
                · rfl
                · exact hI.set rfl
                · exact ⟨.inr fun _ h => h, .inr fun _ h => h, .inr fun _ h => h, .inr fun _ h => h, .inr fun _ h => h, .inr fun _ h => h, .inr fun _ h => h, .inr fun _ h => h, .inr fun _ h => h, .inr fun _ h => h, .inr fun _ h => h, .inr fun _ h => h, .inr fun _ h => h, trivial⟩
                · trivial
              clear HS
              intro W Y HS
              replace HS : S11 w { x with st := r.to, due := untV r.wait x.due now c } Inst.none_.cells c r g W := HS
              refine fun g67 g68 g69 g70 g71 g72 g73 g74 g75 g76 gS1 g77 gS2 => ?_
              replace g67 : Y 67 = .pointer (some ⟨g, 0, none⟩) := g67
              replace g68 : Y 68 = .int .u8 r.to := g68
              replace g69 : Y 69 = .pointer (some ⟨g, 1, none⟩) := g69
              replace g70 : Y 70 = .int .u8 r.wait := g70
              replace g71 : Y 71 = .pointer (some ⟨w.heap.size, 6, none⟩) := g71
              replace g72 : Y 72 = .int .u64 x.due := g72
              replace g73 : Y 73 = .int .u64 now := g73
              replace g74 : Y 74 = c.val := g74
              replace g75 : Y 75 = .int .u64 (untV r.wait x.due now c) := g75
              replace g76 : Y 76 = .pointer (some ⟨w.heap.size, 5, none⟩) := g76
              replace g77 : Y 77 = .pointer (some ⟨w.heap.size, 6, none⟩) := g77
              clear gS1 gS2
              rename_i K hK
              show K _ W
              refine hK _ _ ?_
              rw [g67, g68, g69, g70, g71, g72, g73, g74, g75, g76, g77]
              clear hK g67 g68 g69 g70 g71 g72 g73 g74 g75 g76 g77
              try simp only [List.setIfInBounds_toArray, List.set_cons_succ, List.set_cons_zero]
              go_wp2_with fail
              obtain ⟨y, ey⟩ : ∃ y : Ins, goneX x what now at_ c r = y := ⟨_, rfl⟩
              rw [← HG.out, ey] at HS
              rw [ey] at HV
              clear HG
              refine flow (fun L W => S11 w y (cond (L 3) y.cells Inst.none_.cells) c r g W) [fun v _ => v = y.val, fun v _ => v = .pointer (some ⟨g, 2, none⟩), fun v _ => v = .int .u8 r.ask, fun _ _ => True, fun v _ => v = .int .u8 r.ask, fun v _ => v = .int .i64 0] [87, 88, 89, 87, 11, 12] [87, 88, 89, 11, 12] 90 (by kernel_rfl) rfl (by kernel_rfl) rfl (S11.call HS (bDrew (Below.refl _ _))) ⟨?_, ?_, ?_, ?_, ?_, ?_, trivial⟩ ?_
              · intro L a W hz hd hk hI hL hcl hdep
                have hN : a.tmps.size = 90 := hz
                have k5 : a.eval (.tmp 5) = .pointer (some ⟨w.heap.size, 0, none⟩) := eval_of ((hk 5 (by decide)).trans rfl)
                apply step_val (s := 87) (v := y.val) (w' := W)
                · exact exec_load_row 25 _ rfl k5 hI.x Try.underlying25 rfl (sizeInst.trans rfl)
                · rfl
                · rfl
                · omega
                · exact hI
                · exact stab_refl _ _ _ _
                · exact rfl
              · intro L a W hz hd hk hI hL hcl hdep
                have hN : a.tmps.size = 90 := hz
                have k13 : a.eval (.tmp 13) = .pointer (some ⟨g, 0, none⟩) := eval_of ((hk 13 (by decide)).trans rfl)
                apply step_val (s := 88) (v := .pointer (some ⟨g, 2, none⟩)) (w' := W)
                · simp [execOp, k13]; go_simp
                · rfl
                · rfl
                · omega
                · exact hI
                · exact stab_refl _ _ _ _
                · exact rfl
              · intro L a W hz hd hk hI hL hcl hdep
                have hN : a.tmps.size = 90 := hz
                obtain ⟨⟨v88, e88, g88⟩, -⟩ := hdep
                replace g88 : v88 = .pointer (some ⟨g, 2, none⟩) := g88
                subst g88
                have k88 : a.eval (.tmp 88) = .pointer (some ⟨g, 2, none⟩) := eval_of e88
                have c0 : W.cell? ⟨g, 2, none⟩ = some (.int .u8 r.ask) := cell_row hI.r rfl
                apply step_val (s := 89) (v := .int .u8 r.ask) (w' := W)
                · simp [execOp, k88]; go_simp
                · rfl
                · rfl
                · omega
                · exact hI
                · exact stab_refl _ _ _ _
                · exact rfl
              · intro L a W hz hd hk hI hL hcl hdep
                have hN : a.tmps.size = 90 := hz
                have k10 : a.eval (.tmp 10) = .pointer (some ⟨w.heap.size + 1 + 1, 0, none⟩) := eval_of ((hk 10 (by decide)).trans rfl)
                replace hdep := hdep.1
                have hdep := And.intro hdep True.intro
                obtain ⟨⟨v87, e87, g87⟩, -⟩ := hdep
                replace g87 : v87 = y.val := g87
                subst g87
                have k87 : a.eval (.tmp 87) = y.val := eval_of e87
                apply Flow.step_skip (w' := W.setRow (w.heap.size + 1 + 1) y.cells)
                · refine exec_store_row 25 _ _ rfl k10 k87 hI.z (sizeInst.trans rfl) ?_ y.one
                  cases L 3 <;> rfl
                · rfl
                · exact hI.out
                · exact ⟨.inr fun _ h => h, .inr fun _ h => h, .inr fun _ h => h, .inr fun _ h => h, .inr fun _ h => h, .inr fun _ h => h, trivial⟩
                · trivial
              · intro L a W hz hd hk hI hL hcl hdep
                have hN : a.tmps.size = 90 := hz
                replace hdep := And.intro hdep.1 True.intro
                obtain ⟨⟨v89, e89, g89⟩, -⟩ := hdep
                replace g89 : v89 = .int .u8 r.ask := g89
                subst g89
                have k89 : a.eval (.tmp 89) = .int .u8 r.ask := eval_of e89
                apply step_val (s := 11) (v := .int .u8 r.ask) (w' := W)
                · simp [execOp, k89]
                · rfl
                · rfl
                · omega
                · exact hI
                · exact stab_refl _ _ _ _
                · exact rfl
              · intro L a W hz hd hk hI hL hcl hdep
                have hN : a.tmps.size = 90 := hz
                apply step_val (s := 12) (v := .int .i64 0) (w' := W)
                · simp [execOp]; rfl
                · rfl
                · rfl
                · omega
                · exact hI
                · exact stab_refl _ _ _ _
                · exact rfl
              clear HS
              intro W Y HS
              replace HS : S11 w y y.cells c r g W := HS
              refine fun g87 g88 g89 gS g11 g12 => ?_
              replace g87 : Y 87 = y.val := g87
              replace g88 : Y 88 = .pointer (some ⟨g, 2, none⟩) := g88
              replace g89 : Y 89 = .int .u8 r.ask := g89
              replace g11 : Y 11 = .int .u8 r.ask := g11
              replace g12 : Y 12 = .int .i64 0 := g12
              clear gS
              rename_i K hK
              show K _ W
              refine hK _ _ ?_
              rw [g87, g88, g89, g11, g12]
              clear hK g87 g88 g89 g11 g12
              try simp only [List.setIfInBounds_toArray, List.set_cons_succ, List.set_cons_zero]
              go_wp2_with fail
              refine bodyPost_ret (v := Ans.val ⟨y, r.ask, 0⟩) (results_row_tmp2 (fn := Try.f7) (p := 10) (u := 11) (v := 12) rfl _ _ (w.heap.size + 1 + 1) _ y.cells _ rfl HS.z Try.underlying25 rfl (sizeInst.trans rfl)) rfl ?_
              exact ⟨by rw [HV.out], HS.b⟩
end Go.Proofs.Ytmbafedpbmldmaa.Does
