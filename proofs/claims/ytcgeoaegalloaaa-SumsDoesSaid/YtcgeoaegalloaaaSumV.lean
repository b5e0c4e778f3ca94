
/- What is there of things, as a value; what sums.add adds. -/
import Derived.Test.YtcgeoaegalloaaaThg
import Derived.Deep.RegionHeld3
import Derived.Deep.Cut
namespace Go.Proofs.Ytcgeoaegalloaaa.Thg
open Go.ChangeShapes Go.WideShapes Go.ChangeAt Go.RowKit
open Mem Arr Lst Rec Inst Grown Sums Opens St0
structure Sm where
  live : Int
  liveD : Int
  com : Int
  comD : Int
  warm : Int
  many : Int
def Sm.cells (x : Sm) : Array Value := #[.int .i64 x.live, .int .i64 x.liveD, .int .i64 x.com, .int .i64 x.comD, .int .i64 x.warm, .int .i64 x.many]
@[reducible] def Sm.val (x : Sm) : Value := .agg x.cells
theorem Sm.one (x : Sm) : x.cells.all (·.oneCell') = true := by unfold Sm.cells; simp [Value.oneCell']
def sm0 : Sm := ⟨0, 0, 0, 0, 0, 0⟩
theorem sizeSum : (Try.prog.info? 31).map (·.size) = some 6 := by kernel_rfl
def dem (t : Th) : Int := if t.spot = true then 0 else t.wt
/-- what is there, one thing more -/
def addT (v : Int) (s : Sm) (t : Th) : Sm :=
  if v ≠ 0 ∧ t.ver ≠ v then s
  else if t.serves = true then { s with many := s.many + 1, live := s.live + t.wt, liveD := s.liveD + dem t }
  else if t.comes = true then { s with many := s.many + 1, com := s.com + t.wt, comD := s.comD + dem t }
  else if t.stands = true then { s with many := s.many + 1, warm := s.warm + t.wt }
  else { s with many := s.many + 1 }
def sumT (v : Int) (l : List Th) : Sm := l.foldl (addT v) sm0
theorem sumT_snoc (v : Int) (l : List Th) (t : Th) : sumT v (l ++ [t]) = addT v (sumT v l) t := by unfold sumT; rw [List.foldl_append]; rfl
structure InSm (n : Int) (s : Sm) : Prop where
  a : 0 ≤ s.live ∧ s.live ≤ 100 * n
  b : 0 ≤ s.liveD ∧ s.liveD ≤ s.live
  c : 0 ≤ s.com ∧ s.com ≤ 100 * n
  d : 0 ≤ s.comD ∧ s.comD ≤ s.com
  e : 0 ≤ s.warm ∧ s.warm ≤ 100 * n
  f : 0 ≤ s.many ∧ s.many ≤ n
theorem dem_bd {t : Th} (h : 1 ≤ t.wt ∧ t.wt ≤ 100) : 0 ≤ dem t ∧ dem t ≤ t.wt := by unfold dem; split <;> omega
theorem inSm_step {n : Int} {s : Sm} {t : Th} (v : Int) (h : InSm n s) (ht : 1 ≤ t.wt ∧ t.wt ≤ 100) : InSm (n + 1) (addT v s t) := by
  have d := dem_bd ht
  obtain ⟨a, b, c, e, f, g⟩ := h
  unfold addT
  split
  · exact ⟨by omega, by omega, by omega, by omega, by omega, by omega⟩
  · split
    · exact ⟨by dsimp only; omega, by dsimp only; omega, by dsimp only; omega, by dsimp only; omega, by dsimp only; omega, by dsimp only; omega⟩
    · split
      · exact ⟨by dsimp only; omega, by dsimp only; omega, by dsimp only; omega, by dsimp only; omega, by dsimp only; omega, by dsimp only; omega⟩
      · split
        · exact ⟨by dsimp only; omega, by dsimp only; omega, by dsimp only; omega, by dsimp only; omega, by dsimp only; omega, by dsimp only; omega⟩
        · exact ⟨by dsimp only; omega, by dsimp only; omega, by dsimp only; omega, by dsimp only; omega, by dsimp only; omega, by dsimp only; omega⟩
theorem inSm_fold (v : Int) : ∀ (l : List OkTh) (n : Nat) (s : Sm), InSm n s → InSm ((n + l.length : Nat) : Int) ((l.map (·.1)).foldl (addT v) s) := by
  intro l
  induction l with
  | nil => intro n s h; exact h
  | cons x l ih =>
    intro n s h
    have := ih (n + 1) (addT v s x.1) (by have := inSm_step v h x.2; simpa using this)
    rw [List.map_cons, List.foldl_cons, List.length_cons]
    rw [show n + (l.length + 1) = n + 1 + l.length by omega]
    exact this
theorem inSm_all (v : Int) (l : List OkTh) : InSm l.length (sumT v (l.map (·.1))) := by
  have := inSm_fold v l 0 sm0 ⟨by decide, by decide, by decide, by decide, by decide, by decide⟩
  rw [Nat.zero_add] at this
  exact this
/-- a block of the call's own has turned, all else lies as it lay -/
def Turned (g : Nat) (C : Array Value) (w w' : World) : Prop := ∃ w1, Below w.heap.size w w1 ∧ w' = w1.setRow g C
def addC (sp : Bool) (C : Array Value) (i j : Nat) (a b : Int) : Array Value := match sp with
  | true => C.setIfInBounds i (.int .i64 a)
  | false => (C.setIfInBounds i (.int .i64 a)).setIfInBounds j (.int .i64 b)
set_option maxHeartbeats 1000000 in
theorem add_any (g i j : Nat) (C : Array Value) (T : TypeId) (a b : Int) (t : Th) (w : World) (hg : w.heap[g]? = some (.cells C T (0, 0))) (hi : C[i]? = some (.int .i64 a)) (hj : C[j]? = some (.int .i64 b)) (hij : i ≠ j)
    (ha : 0 ≤ a ∧ a ≤ 1000000) (hb : 0 ≤ b ∧ b ≤ 1000000) (ht : 1 ≤ t.wt ∧ t.wt ≤ 100) :
    Calls Try.prog 32 #[.pointer (some ⟨g, i, none⟩), .pointer (some ⟨g, j, none⟩), t.val] w fun e w' => (∃ v, e = .returned v) ∧
      Turned g (addC t.spot C i j (a + t.wt) (b + t.wt)) w w' := by
  have hlt : g < w.heap.size := (Array.getElem?_eq_some_iff.1 hg).1
  have W1 : IntKind.i64.wrap (a + t.wt) = a + t.wt := IntWalk.i64_in _ (by omega)
  have W2 : IntKind.i64.wrap (b + t.wt) = b + t.wt := IntWalk.i64_in _ (by omega)
  have R0 : (w.alloc (.cells t.cells 56)).heap[g]? = some (.cells C T (0, 0)) := heap_under hg
  have RT := heap_alloc_new w (.cells t.cells 56)
  have ci := cell_row R0 hi
  have cj := cell_row R0 hj
  have fr := free_row R0
  have t1 := cell_row RT t.f1
  have t2 := cell_row RT t.f2
  go_enter Try.func32, Try.ntmps32
  go_upto_region 1 with fail
  generalize hW : w.alloc (.cells t.cells 56) = w1 at R0 RT ci cj fr t1 t2 ⊢
  go_region
  have e1 : w1.setCell ⟨g, i, none⟩ (.int .i64 (a + t.wt)) = w1.setRow g (C.setIfInBounds i (.int .i64 (a + t.wt))) := setCell_row R0
  have R1 : (w1.setCell ⟨g, i, none⟩ (.int .i64 (a + t.wt))).drew.heap[g]? = some (.cells (C.setIfInBounds i (.int .i64 (a + t.wt))) T (0, 0)) := by rw [e1]; exact row_at R0
  have R2 : (w1.setCell ⟨g, i, none⟩ (.int .i64 (a + t.wt))).drew.heap[w.heap.size]? = some (.cells t.cells 56 (0, 0)) := by rw [e1]; exact (row_else (by omega)).trans RT
  have B1 : Below w.heap.size w w1 := hW ▸ bAlloc (Below.refl _ _) _
  have E2 : (w1.setCell ⟨g, i, none⟩ (.int .i64 (a + t.wt))).drew = w1.drew.setRow g (C.setIfInBounds i (.int .i64 (a + t.wt))) := by rw [e1]; rfl
  clear R0 RT ci cj fr t1 t2 e1 hW
  generalize (w1.setCell ⟨g, i, none⟩ (.int .i64 (a + t.wt))).drew = w2 at R1 R2 E2 ⊢
  replace E2 := Lib.hid E2
  have cj : w2.cell? ⟨g, j, none⟩ = some (.int .i64 b) := cell_row R1 (by rw [Array.getElem?_setIfInBounds_ne hij]; exact hj)
  have t1 := cell_row R2 t.f1
  have t2 := cell_row R2 t.f2
  have fr := free_row R1
  rcases hs : t.spot with _ | _
  · rw [hs] at t2
    go_upto_region 3 with fail
    go_region
    have e2 : w2.setCell ⟨g, j, none⟩ (.int .i64 (b + t.wt)) = w2.setRow g ((C.setIfInBounds i (.int .i64 (a + t.wt))).setIfInBounds j (.int .i64 (b + t.wt))) := setCell_row R1
    have E3 : (w2.setCell ⟨g, j, none⟩ (.int .i64 (b + t.wt))).drew = w1.drew.drew.setRow g ((C.setIfInBounds i (.int .i64 (a + t.wt))).setIfInBounds j (.int .i64 (b + t.wt))) := by
      rw [e2, E2.out, setRow_setRow]; rfl
    clear e2 t1 t2 cj fr R1 R2
    generalize (w2.setCell ⟨g, j, none⟩ (.int .i64 (b + t.wt))).drew = w3 at E3 ⊢
    replace E3 := Lib.hid E3
    go_wp2
    go_end0
    exact ⟨⟨_, rfl⟩, _, bDrew (bDrew B1), by rw [hs]; exact E3.out⟩
  · rw [hs] at t2
    go_wp2
    go_end0
    exact ⟨⟨_, rfl⟩, _, bDrew B1, by rw [hs]; exact E2.out⟩
end Go.Proofs.Ytcgeoaegalloaaa.Thg
