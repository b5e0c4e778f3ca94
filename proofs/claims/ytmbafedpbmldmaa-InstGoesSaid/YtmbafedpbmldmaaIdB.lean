
/- The map of what becomes of an instance, as the program makes it: whatever order is drawn. -/
import Derived.Test.YtmbafedpbmldmaaIdA
import Derived.Test.YtmbafedpbmldmaaDrw
import Derived.Test.YtmbafedpbmldmaaStX1
import Derived.Test.YtmbafedpbmldmaaCfgP
namespace Go.Proofs.Ytmbafedpbmldmaa.Does
open Go.RowKit Go.ChangeShapes Go.WideShapes Go.ChangeAt
open Mem Arr Lst Rec Inst Grown Opens St0 Drw
attribute [local go_sem] Oper.semAt_some
theorem sizeRow : (Try.prog.info? 51).map (·.size) = some 3 := by kernel_rfl
@[reducible] def rc (a b c : Int) : Array Value := #[.int .u8 a, .int .u8 b, .int .u8 c]
theorem rc_one (a b c : Int) : (rc a b c).all (·.oneCell') = true := by simp [rc, Value.oneCell']
set_option maxHeartbeats 1000000 in
theorem ends_any (w : World) : Calls Try.prog 29 #[] w fun e w' => e = .returned (rv 6 0 2) ∧ Below w.heap.size w w' := by
  go_enter Try.func29, Try.ntmps29
  go_wp2_with ((with_reducible refine at_store 51 ?_); (refine store_plain rfl 51 _ _ rfl (rc 6 0 2) _ _ rfl rfl (sizeRow.trans rfl) rfl (rc_one _ _ _) ?_))
  refine bodyPost_ret (v := rv 6 0 2) (results_cell_row rfl _ _ w.heap.size _ (rc 6 0 2) _ _ rfl (heap_alloc_new _ _) Try.underlying51 rfl (sizeRow.trans rfl)) rfl ?_
  exact ⟨rfl, bAlloc (Below.refl _ _) _⟩
/-- the operations of the one region that draws -/
def opsOf (c : Option Code) : Array Oper :=
  match c with
  | some (.seq _ (.seq (.region _ ops _) _)) => ops
  | _ => #[]
section
theorem ops_size : (opsOf Try.f19.body).size = 99 := by kernel_rfl
theorem op_map : ∃ t p f, (opsOf Try.f19.body)[0]? = some ⟨some 1, .makeMap 53 none, t, p, f, none⟩ := ⟨_, _, _, rfl⟩
theorem op_move : ∃ t p f, (opsOf Try.f19.body)[97]? = some ⟨some 66, .move (.tmp 1), t, p, f, none⟩ ∧ f[0]? = some ⟨0, .data⟩ := ⟨_, _, _, rfl, rfl⟩
theorem op_res : ∃ t p f, (opsOf Try.f19.body)[98]? = some ⟨some 0, .assign (.tmp 66), t, p, f, none⟩ ∧ f[0]? = some ⟨97, .data⟩ := ⟨_, _, _, rfl, rfl⟩
theorem op_key : ∀ k, k < 32 → ∃ t p f, (opsOf Try.f19.body)[3 * k + 1]? = some ⟨some (2 + 2 * k), .build 55 #[(0, .const (.int .u8 (tabF k).what)), (1, .const (.int .u8 (tabF k).st))], t, p, f, none⟩ := by
  intro k hk
  rcases (by omega : k = 0 ∨ k = 1 ∨ k = 2 ∨ k = 3 ∨ k = 4 ∨ k = 5 ∨ k = 6 ∨ k = 7 ∨ k = 8 ∨ k = 9 ∨ k = 10 ∨ k = 11 ∨ k = 12 ∨ k = 13 ∨ k = 14 ∨ k = 15 ∨ k = 16 ∨ k = 17 ∨ k = 18 ∨ k = 19 ∨ k = 20 ∨ k = 21 ∨ k = 22 ∨ k = 23 ∨ k = 24 ∨ k = 25 ∨ k = 26 ∨ k = 27 ∨ k = 28 ∨ k = 29 ∨ k = 30 ∨ k = 31) with rfl | rfl | rfl | rfl | rfl | rfl | rfl | rfl | rfl | rfl | rfl | rfl | rfl | rfl | rfl | rfl | rfl | rfl | rfl | rfl | rfl | rfl | rfl | rfl | rfl | rfl | rfl | rfl | rfl | rfl | rfl | rfl <;> exact ⟨_, _, _, rfl⟩
theorem op_val : ∀ k, k < 32 → (∃ t p f, (opsOf Try.f19.body)[3 * k + 2]? = some ⟨some (3 + 2 * k), .build 51 #[(0, .const (.int .u8 (tabF k).to)), (1, .const (.int .u8 (tabF k).wait)), (2, .const (.int .u8 (tabF k).ask))], t, p, f, none⟩) ∨
    ((∃ t p f, (opsOf Try.f19.body)[3 * k + 2]? = some ⟨some (3 + 2 * k), .call { callee := .value (.func 29), args := #[], argTypes := #[] }, t, p, f, none⟩) ∧ rvF k = rv 6 0 2) := by
  intro k hk
  rcases (by omega : k = 0 ∨ k = 1 ∨ k = 2 ∨ k = 3 ∨ k = 4 ∨ k = 5 ∨ k = 6 ∨ k = 7 ∨ k = 8 ∨ k = 9 ∨ k = 10 ∨ k = 11 ∨ k = 12 ∨ k = 13 ∨ k = 14 ∨ k = 15 ∨ k = 16 ∨ k = 17 ∨ k = 18 ∨ k = 19 ∨ k = 20 ∨ k = 21 ∨ k = 22 ∨ k = 23 ∨ k = 24 ∨ k = 25 ∨ k = 26 ∨ k = 27 ∨ k = 28 ∨ k = 29 ∨ k = 30 ∨ k = 31) with rfl | rfl | rfl | rfl | rfl | rfl | rfl | rfl | rfl | rfl | rfl | rfl | rfl | rfl | rfl | rfl | rfl | rfl | rfl | rfl | rfl | rfl | rfl | rfl | rfl | rfl | rfl | rfl | rfl | rfl | rfl | rfl <;> first | exact .inl ⟨_, _, _, rfl⟩ | exact .inr ⟨⟨_, _, _, rfl⟩, rfl⟩
theorem op_ins : ∀ k, k < 32 → ∃ t p, (opsOf Try.f19.body)[3 * k + 3]? = some ⟨none, .insert 53 (.tmp 1) (.tmp (2 + 2 * k)) (.tmp (3 + 2 * k)), t, p, #[⟨0, .data⟩, ⟨3 * k + 1, .data⟩, ⟨3 * k + 2, .data⟩], none⟩ := by
  intro k hk
  rcases (by omega : k = 0 ∨ k = 1 ∨ k = 2 ∨ k = 3 ∨ k = 4 ∨ k = 5 ∨ k = 6 ∨ k = 7 ∨ k = 8 ∨ k = 9 ∨ k = 10 ∨ k = 11 ∨ k = 12 ∨ k = 13 ∨ k = 14 ∨ k = 15 ∨ k = 16 ∨ k = 17 ∨ k = 18 ∨ k = 19 ∨ k = 20 ∨ k = 21 ∨ k = 22 ∨ k = 23 ∨ k = 24 ∨ k = 25 ∨ k = 26 ∨ k = 27 ∨ k = 28 ∨ k = 29 ∨ k = 30 ∨ k = 31) with rfl | rfl | rfl | rfl | rfl | rfl | rfl | rfl | rfl | rfl | rfl | rfl | rfl | rfl | rfl | rfl | rfl | rfl | rfl | rfl | rfl | rfl | rfl | rfl | rfl | rfl | rfl | rfl | rfl | rfl | rfl | rfl <;> exact ⟨_, _, rfl⟩
theorem ops_down : ∀ (i : Nat) (o : Oper), (opsOf Try.f19.body)[i]? = some o → ∀ e : Edge, e ∈ o.after → e.on < i := by
  have h : (List.range 99).all (fun i => (((opsOf Try.f19.body)[i]?).map (fun o => o.after.all fun e => decide (e.on < i))).getD false) = true := by kernel_rfl
  intro i o ho e he
  have hi : i < 99 := by rw [← ops_size]; exact (Array.getElem?_eq_some_iff.1 ho).1
  have := List.all_eq_true.1 h i (List.mem_range.2 hi)
  rw [ho] at this
  have := Array.all_eq_true_iff_forall_mem.1 this e he
  exact of_decide_eq_true this
end
/-- what is known in the midst of the region -/
structure J (w0 : World) (listed : Array Bool) (a : Act) (w : World) : Prop where
  sz : listed.size = 99
  tz : a.tmps.size = 67
  df : a.defers = []
  bl : Below w0.heap.size w0 w
  ky : ∀ k, k < 32 → listed.getD (3 * k + 1) false = true → a.tmps[2 + 2 * k]? = some (kvF k)
  vl : ∀ k, k < 32 → listed.getD (3 * k + 2) false = true → a.tmps[3 + 2 * k]? = some (rvF k)
  no : listed.getD 0 false = false → (∀ k, k < 32 → listed.getD (3 * k + 3) false = false) ∧ listed.getD 97 false = false ∧ listed.getD 98 false = false
  mp : listed.getD 0 false = true → ∃ b l, MapL w0 b l w ∧ a.tmps[1]? = some (.map (some b)) ∧ (∀ k, k < 32 → (k ∈ l ↔ listed.getD (3 * k + 3) false = true)) ∧ (listed.getD 97 false = true → a.tmps[66]? = some (.map (some b))) ∧ (listed.getD 98 false = true → a.tmps[0]? = some (.map (some b)))
section
variable {w0 : World} {listed : Array Bool} {a : Act} {w : World}
theorem J.get (h : J w0 listed a w) {i j : Nat} (hi : i < 99) : (listed.setIfInBounds i true).getD j false = if j = i then true else listed.getD j false := set_get (by rw [h.sz]; exact hi)
theorem tmp_set {t : Array Value} {i j : Nat} {v : Value} (hi : i < t.size) : (t.setIfInBounds i v)[j]? = if j = i then some v else t[j]? := by
  rw [Array.getElem?_setIfInBounds]
  by_cases e : i = j
  · subst e; simp [hi]
  · rw [if_neg e, if_neg (fun h => e h.symm)]
/-- a slot is filled that is no key's and no row's, the rest as it was -/
theorem J.key (h : J w0 listed a w) {k : Nat} (hk : k < 32) (p : listed.getD (3 * k + 1) false = false) : J w0 (listed.setIfInBounds (3 * k + 1) true) (a.put (some (2 + 2 * k)) (kvF k)) w := by
  have g := fun j => h.get (i := 3 * k + 1) (j := j) (by omega)
  have s : ∀ j, (a.put (some (2 + 2 * k)) (kvF k)).tmps[j]? = if j = 2 + 2 * k then some (kvF k) else a.tmps[j]? := fun j => tmp_set (by rw [h.tz]; omega)
  refine ⟨by rw [Array.size_setIfInBounds]; exact h.sz, ?_, h.df, h.bl, ?_, ?_, ?_, ?_⟩
  · show (a.tmps.setIfInBounds _ _).size = 67
    rw [Array.size_setIfInBounds]; exact h.tz
  · intro j hj hl
    rw [s]
    rw [g] at hl
    by_cases e : j = k
    · subst e; rw [if_pos rfl]
    · rw [if_neg (by omega)] at hl ⊢; exact h.ky j hj hl
  · intro j hj hl
    rw [s, if_neg (by omega)]
    rw [g, if_neg (by omega)] at hl
    exact h.vl j hj hl
  · intro h0
    rw [g, if_neg (by omega)] at h0
    obtain ⟨n1, n2, n3⟩ := h.no h0
    exact ⟨fun j hj => by rw [g, if_neg (by omega)]; exact n1 j hj, by rw [g, if_neg (by omega)]; exact n2, by rw [g, if_neg (by omega)]; exact n3⟩
  · intro h0
    rw [g, if_neg (by omega)] at h0
    obtain ⟨b, l, m1, m2, m3, m4, m5⟩ := h.mp h0
    refine ⟨b, l, m1, by rw [s, if_neg (by omega)]; exact m2, fun j hj => by rw [g, if_neg (by omega)]; exact m3 j hj, fun hl => ?_, fun hl => ?_⟩
    · rw [g, if_neg (by omega)] at hl; rw [s, if_neg (by omega)]; exact m4 hl
    · rw [g, if_neg (by omega)] at hl; rw [s, if_neg (by omega)]; exact m5 hl
theorem J.val (h : J w0 listed a w) {k : Nat} (hk : k < 32) {w' : World} (u : Below w.heap.size w w') : J w0 (listed.setIfInBounds (3 * k + 2) true) (a.put (some (3 + 2 * k)) (rvF k)) w' := by
  have g := fun j => h.get (i := 3 * k + 2) (j := j) (by omega)
  have s : ∀ j, (a.put (some (3 + 2 * k)) (rvF k)).tmps[j]? = if j = 3 + 2 * k then some (rvF k) else a.tmps[j]? := fun j => tmp_set (by rw [h.tz]; omega)
  refine ⟨by rw [Array.size_setIfInBounds]; exact h.sz, ?_, h.df, bTrans h.bl u, ?_, ?_, ?_, ?_⟩
  · show (a.tmps.setIfInBounds _ _).size = 67
    rw [Array.size_setIfInBounds]; exact h.tz
  · intro j hj hl
    rw [s, if_neg (by omega)]
    rw [g, if_neg (by omega)] at hl
    exact h.ky j hj hl
  · intro j hj hl
    rw [s]
    rw [g] at hl
    by_cases e : j = k
    · subst e; rw [if_pos rfl]
    · rw [if_neg (by omega)] at hl ⊢; exact h.vl j hj hl
  · intro h0
    rw [g, if_neg (by omega)] at h0
    obtain ⟨n1, n2, n3⟩ := h.no h0
    exact ⟨fun j hj => by rw [g, if_neg (by omega)]; exact n1 j hj, by rw [g, if_neg (by omega)]; exact n2, by rw [g, if_neg (by omega)]; exact n3⟩
  · intro h0
    rw [g, if_neg (by omega)] at h0
    obtain ⟨b, l, m1, m2, m3, m4, m5⟩ := h.mp h0
    refine ⟨b, l, m1.call u, by rw [s, if_neg (by omega)]; exact m2, fun j hj => by rw [g, if_neg (by omega)]; exact m3 j hj, fun hl => ?_, fun hl => ?_⟩
    · rw [g, if_neg (by omega)] at hl; rw [s, if_neg (by omega)]; exact m4 hl
    · rw [g, if_neg (by omega)] at hl; rw [s, if_neg (by omega)]; exact m5 hl
theorem J.make (h : J w0 listed a w) (p : listed.getD 0 false = false) : J w0 (listed.setIfInBounds 0 true) (a.put (some 1) (.map (some w.heap.size))) (w.alloc (.map #[] 0)) := by
  have g := fun j => h.get (i := 0) (j := j) (by omega)
  have s : ∀ j, (a.put (some 1) (.map (some w.heap.size))).tmps[j]? = if j = 1 then some (.map (some w.heap.size)) else a.tmps[j]? := fun j => tmp_set (by rw [h.tz]; omega)
  obtain ⟨n1, n2, n3⟩ := h.no p
  refine ⟨by rw [Array.size_setIfInBounds]; exact h.sz, ?_, h.df, bAlloc h.bl _, ?_, ?_, ?_, ?_⟩
  · show (a.tmps.setIfInBounds _ _).size = 67
    rw [Array.size_setIfInBounds]; exact h.tz
  · intro j hj hl
    rw [s, if_neg (by omega)]
    rw [g, if_neg (by omega)] at hl
    exact h.ky j hj hl
  · intro j hj hl
    rw [s, if_neg (by omega)]
    rw [g, if_neg (by omega)] at hl
    exact h.vl j hj hl
  · intro h0
    rw [g, if_pos rfl] at h0; cases h0
  · intro _
    refine ⟨w.heap.size, [], ⟨⟨#[], 0, heap_alloc_new _ _, rfl⟩, bAlloc h.bl _, h.bl.size, fun _ hk => by cases hk⟩, by rw [s, if_pos rfl], fun j hj => ?_, fun hl => ?_, fun hl => ?_⟩
    · rw [g, if_neg (by omega), n1 j hj]; simp
    · rw [g, if_neg (by omega), n2] at hl; cases hl
    · rw [g, if_neg (by omega), n3] at hl; cases hl
theorem J.more (h : J w0 listed a w) {k b : Nat} {l : List Nat} {w' : World} (hk : k < 32) (hb : Below w0.heap.size w0 w') (h0 : listed.getD 0 false = true)
    (m1 : MapL w0 b (l ++ [k]) w') (m2 : a.tmps[1]? = some (.map (some b))) (m3 : ∀ k, k < 32 → (k ∈ l ↔ listed.getD (3 * k + 3) false = true)) (m4 : listed.getD 97 false = true → a.tmps[66]? = some (.map (some b))) (m5 : listed.getD 98 false = true → a.tmps[0]? = some (.map (some b))) :
    J w0 (listed.setIfInBounds (3 * k + 3) true) a w' := by
  have g := fun j => h.get (i := 3 * k + 3) (j := j) (by omega)
  refine ⟨by rw [Array.size_setIfInBounds]; exact h.sz, h.tz, h.df, hb, ?_, ?_, ?_, ?_⟩
  · intro j hj hl
    rw [g, if_neg (by omega)] at hl
    exact h.ky j hj hl
  · intro j hj hl
    rw [g, if_neg (by omega)] at hl
    exact h.vl j hj hl
  · intro q
    rw [g, if_neg (by omega), h0] at q; cases q
  · intro _
    refine ⟨b, l ++ [k], m1, m2, fun j hj => ?_, fun hl => ?_, fun hl => ?_⟩
    · rw [g, List.mem_append, m3 j hj, List.mem_singleton]
      by_cases e : j = k
      · subst e; simp
      · rw [if_neg (by omega)]; simp [e]
    · rw [g, if_neg (by omega)] at hl; exact m4 hl
    · rw [g, if_neg (by omega)] at hl; exact m5 hl
theorem J.move (h : J w0 listed a w) {b : Nat} {l : List Nat} (h0 : listed.getD 0 false = true)
    (m1 : MapL w0 b l w) (m2 : a.tmps[1]? = some (.map (some b))) (m3 : ∀ k, k < 32 → (k ∈ l ↔ listed.getD (3 * k + 3) false = true)) (m5 : listed.getD 98 false = true → a.tmps[0]? = some (.map (some b))) :
    J w0 (listed.setIfInBounds 97 true) (a.put (some 66) (.map (some b))) w := by
  have g := fun j => h.get (i := 97) (j := j) (by omega)
  have s : ∀ j, (a.put (some 66) (.map (some b))).tmps[j]? = if j = 66 then some (.map (some b)) else a.tmps[j]? := fun j => tmp_set (by rw [h.tz]; omega)
  refine ⟨by rw [Array.size_setIfInBounds]; exact h.sz, ?_, h.df, h.bl, ?_, ?_, ?_, ?_⟩
  · show (a.tmps.setIfInBounds _ _).size = 67
    rw [Array.size_setIfInBounds]; exact h.tz
  · intro j hj hl
    rw [s, if_neg (by omega)]
    rw [g, if_neg (by omega)] at hl
    exact h.ky j hj hl
  · intro j hj hl
    rw [s, if_neg (by omega)]
    rw [g, if_neg (by omega)] at hl
    exact h.vl j hj hl
  · intro q
    rw [g, if_neg (by omega), h0] at q; cases q
  · intro _
    refine ⟨b, l, m1, by rw [s, if_neg (by omega)]; exact m2, fun j hj => by rw [g, if_neg (by omega)]; exact m3 j hj, fun _ => by rw [s, if_pos rfl], fun hl => ?_⟩
    rw [g, if_neg (by omega)] at hl
    rw [s, if_neg (by omega)]; exact m5 hl
theorem J.res (h : J w0 listed a w) {b : Nat} {l : List Nat} (h0 : listed.getD 0 false = true)
    (m1 : MapL w0 b l w) (m2 : a.tmps[1]? = some (.map (some b))) (m3 : ∀ k, k < 32 → (k ∈ l ↔ listed.getD (3 * k + 3) false = true)) (m4 : listed.getD 97 false = true → a.tmps[66]? = some (.map (some b))) :
    J w0 (listed.setIfInBounds 98 true) (a.put (some 0) (.map (some b))) w := by
  have g := fun j => h.get (i := 98) (j := j) (by omega)
  have s : ∀ j, (a.put (some 0) (.map (some b))).tmps[j]? = if j = 0 then some (.map (some b)) else a.tmps[j]? := fun j => tmp_set (by rw [h.tz]; omega)
  refine ⟨by rw [Array.size_setIfInBounds]; exact h.sz, ?_, h.df, h.bl, ?_, ?_, ?_, ?_⟩
  · show (a.tmps.setIfInBounds _ _).size = 67
    rw [Array.size_setIfInBounds]; exact h.tz
  · intro j hj hl
    rw [s, if_neg (by omega)]
    rw [g, if_neg (by omega)] at hl
    exact h.ky j hj hl
  · intro j hj hl
    rw [s, if_neg (by omega)]
    rw [g, if_neg (by omega)] at hl
    exact h.vl j hj hl
  · intro q
    rw [g, if_neg (by omega), h0] at q; cases q
  · intro _
    refine ⟨b, l, m1, by rw [s, if_neg (by omega)]; exact m2, fun j hj => by rw [g, if_neg (by omega)]; exact m3 j hj, fun hl => ?_, fun _ => by rw [s, if_pos rfl]⟩
    rw [g, if_neg (by omega)] at hl
    rw [s, if_neg (by omega)]; exact m4 hl
end
theorem eval_tmp {a : Act} {t : Nat} {v : Value} (h : a.tmps[t]? = some v) : a.eval (.tmp t) = v := by
  show a.tmps.getD t undef = v
  rw [Array.getD_eq_getD_getElem?, h]; rfl
theorem run_key (ρ : Operand → Value) (hρ : ∀ v, ρ (.const v) = v) (a b : Int) (w : World) (d t p f g) : (execOp ρ ⟨d, .build 55 #[(0, .const (.int .u8 a)), (1, .const (.int .u8 b))], t, p, f, g⟩).run Try.prog w = .ok (.value (kv a b)) w := by
  have e1 := hρ (.int .u8 a)
  have e2 := hρ (.int .u8 b)
  simp [execOp, e1, e2]
  rfl
theorem run_val (ρ : Operand → Value) (hρ : ∀ v, ρ (.const v) = v) (a b c : Int) (w : World) (d t p f g) : (execOp ρ ⟨d, .build 51 #[(0, .const (.int .u8 a)), (1, .const (.int .u8 b)), (2, .const (.int .u8 c))], t, p, f, g⟩).run Try.prog w = .ok (.value (rv a b c)) w := by
  have e1 := hρ (.int .u8 a)
  have e2 := hρ (.int .u8 b)
  have e3 := hρ (.int .u8 c)
  simp [execOp, e1, e2, e3]
  first | go_simp | kernel_rfl
theorem J.step {w0 : World} {Q : Exit → Act → World → Prop} {i : Nat} {listed : Array Bool} {a : Act} {w : World} (hi : i ∈ Region.ready .any (opsOf Try.f19.body) listed) (h : J w0 listed a w) : wpOp Try.prog (opsOf Try.f19.body) Q i (J w0 (listed.setIfInBounds i true)) a w := by
  obtain ⟨h1, h2, o, ho, he⟩ := Drw.mem_ready.1 hi
  rw [ops_size] at h1
  have p : listed.getD i false = false := by
    rw [Array.getD_eq_getD_getElem?] at h2 ⊢
    rw [Array.getElem?_eq_getElem (by rw [h.sz]; exact h1)] at h2 ⊢
    exact h2
  have key : ∀ x, (opsOf Try.f19.body)[i]? = some x → x.guard = none → x.wp Try.prog a w (J w0 (listed.setIfInBounds i true)) Q → wpOp Try.prog (opsOf Try.f19.body) Q i (J w0 (listed.setIfInBounds i true)) a w := by
    intro x hx hg hw
    unfold wpOp
    rw [hx]
    show (if Region.wanted x (yielded (opsOf Try.f19.body) a.tmps) = true then _ else _)
    rw [if_pos (by unfold Region.wanted; rw [hg])]
    exact .inl hw
  have hc : i = 0 ∨ i = 97 ∨ i = 98 ∨ (∃ k, k < 32 ∧ i = 3 * k + 1) ∨ (∃ k, k < 32 ∧ i = 3 * k + 2) ∨ (∃ k, k < 32 ∧ i = 3 * k + 3) := by
    rcases (by omega : i = 0 ∨ i = 97 ∨ i = 98 ∨ ((i - 1) / 3 < 32 ∧ i = 3 * ((i - 1) / 3) + 1) ∨ ((i - 1) / 3 < 32 ∧ i = 3 * ((i - 1) / 3) + 2) ∨ ((i - 1) / 3 < 32 ∧ i = 3 * ((i - 1) / 3) + 3)) with h | h | h | h | h | h
    · exact .inl h
    · exact .inr (.inl h)
    · exact .inr (.inr (.inl h))
    · exact .inr (.inr (.inr (.inl ⟨_, h⟩)))
    · exact .inr (.inr (.inr (.inr (.inl ⟨_, h⟩))))
    · exact .inr (.inr (.inr (.inr (.inr ⟨_, h⟩))))
  rcases hc with rfl | rfl | rfl | ⟨k, hk, rfl⟩ | ⟨k, hk, rfl⟩ | ⟨k, hk, rfl⟩
  · obtain ⟨t, ps, f, hx⟩ := op_map
    exact key _ hx rfl (h.make p)
  · obtain ⟨t, ps, f, hx, hf⟩ := op_move
    have := hx.symm.trans ho
    injection this with this
    subst this
    have h0 : listed.getD 0 false = true := he _ (Array.mem_of_getElem? hf) rfl
    obtain ⟨b, l, m1, m2, m3, m4, m5⟩ := h.mp h0
    refine key _ hx rfl ?_
    unfold Oper.wp
    simp [execOp, eval_tmp m2]
    exact h.move h0 m1 m2 m3 m5
  · obtain ⟨t, ps, f, hx, hf⟩ := op_res
    have := hx.symm.trans ho
    injection this with this
    subst this
    have h7 : listed.getD 97 false = true := he _ (Array.mem_of_getElem? hf) rfl
    have h0 : listed.getD 0 false = true := by
      cases hq : listed.getD 0 false with
      | true => rfl
      | false => rw [(h.no hq).2.1] at h7; cases h7
    obtain ⟨b, l, m1, m2, m3, m4, m5⟩ := h.mp h0
    refine key _ hx rfl ?_
    unfold Oper.wp
    simp [execOp, eval_tmp (m4 h7)]
    exact h.res h0 m1 m2 m3 m4
  · obtain ⟨t, ps, f, hx⟩ := op_key k hk
    refine key _ hx rfl ?_
    unfold Oper.wp
    rw [run_key _ (fun _ => rfl)]
    exact h.key hk p
  · rcases op_val k hk with ⟨t, ps, f, hx⟩ | ⟨⟨t, ps, f, hx⟩, hv⟩
    · refine key _ hx rfl ?_
      unfold Oper.wp
      rw [run_val _ (fun _ => rfl)]
      exact h.val hk (Below.refl _ _)
    · refine key _ hx rfl ?_
      unfold Oper.wp
      go_simp
      refine (ends_any w).mono ?_
      rintro _ w' ⟨rfl, bu⟩
      have := h.val hk bu
      rw [hv] at this
      exact this
  · obtain ⟨t, ps, hx⟩ := op_ins k hk
    have := hx.symm.trans ho
    injection this with this
    subst this
    have h0 := he ⟨0, .data⟩ (by simp) rfl
    have h1' := he ⟨3 * k + 1, .data⟩ (by simp) rfl
    have h2' := he ⟨3 * k + 2, .data⟩ (by simp) rfl
    obtain ⟨b, l, m1, m2, m3, m4, m5⟩ := h.mp h0
    obtain ⟨W', hr, hm⟩ := m1.ins hk (fun hkl => by rw [(m3 k hk).1 hkl] at p; cases p)
    refine key _ hx rfl ?_
    unfold Oper.wp
    simp [execOp, eval_tmp m2, eval_tmp (h.ky k hk h1'), eval_tmp (h.vl k hk h2'), hr, Result.andThen]
    exact h.more hk hm.below h0 hm m2 m3 m4 m5
set_option maxHeartbeats 2000000 in
theorem rows_any (w : World) : Calls Try.prog 19 #[] w fun e w' => ∃ b l, e = .returned (.map (some b)) ∧ MapL w b l w' ∧ ∀ k, k ∈ l ↔ k < 32 := by
  go_enter Try.func19, Try.ntmps19
  go_wp2_with fail
  show Code.wp Try.prog (Code.region 1 (opsOf Try.f19.body) true) _ _ _
  refine region_inv (J := J w) (by kernel_rfl) (fun listed a w' h => h.sz.trans ops_size.symm) (fun i listed a w' hi h => J.step hi h) ?_ ?_
  · intro listed a w' hr h
    have hd := all_done ops_down (h.sz.trans ops_size.symm) hr
    rw [ops_size] at hd
    obtain ⟨b, l, m1, m2, m3, m4, m5⟩ := h.mp (hd 0 (by omega))
    have r0 := m5 (hd 98 (by omega))
    have hl : ∀ k, k ∈ l ↔ k < 32 := fun k => ⟨m1.lt k, fun hk => (m3 k hk).2 (hd _ (by omega))⟩
    rename_i K hK
    show K a w'
    refine hK _ _ ?_
    go_wp2_with fail
    have e0 : a.tmps.getD 0 undef = .map (some b) := by rw [Array.getD_eq_getD_getElem?, r0]; rfl
    have hret : (results Try.f19 a.tmps).run Try.prog w' = .ok (.map (some b)) w' := by rw [results_tmp rfl, e0]
    exact bodyPost_ret (R := fun e w' => ∃ b l, e = .returned (.map (some b)) ∧ MapL w b l w' ∧ ∀ k, k ∈ l ↔ k < 32) hret h.df ⟨b, l, rfl, m1, hl⟩
  · refine ⟨by rw [Array.size_replicate, ops_size], rfl, rfl, bDrew (Below.refl _ _), ?_, ?_, ?_, ?_⟩
    · intro k hk hl
      rw [Array.getD_eq_getD_getElem?, Array.getElem?_replicate] at hl
      split at hl <;> cases hl
    · intro k hk hl
      rw [Array.getD_eq_getD_getElem?, Array.getElem?_replicate] at hl
      split at hl <;> cases hl
    · intro _
      have e : ∀ i, (Array.replicate (opsOf Try.f19.body).size false).getD i false = false := fun i => by
        rw [Array.getD_eq_getD_getElem?, Array.getElem?_replicate]; split <;> rfl
      exact ⟨fun k _ => e _, e _, e _⟩
    · intro hl
      rw [Array.getD_eq_getD_getElem?, Array.getElem?_replicate] at hl
      split at hl <;> cases hl
end Go.Proofs.Ytmbafedpbmldmaa.Does
