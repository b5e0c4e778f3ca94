
/- Layer 17: what is there of all versions is the sum of what is there of each. No code of the program. -/
import Derived.Test.YtcgeoaegalloaaaSumE
namespace Go.Proofs.Ytcgeoaegalloaaa.Thg
open Go.ChangeShapes Go.WideShapes Go.ChangeAt Go.RowKit
open Mem Arr Lst Rec Inst Grown Sums Opens St0
def newV (z : Int) : Int := 1 + z % 4
def verI (x : Ins) : Ins := { x with ver := newV x.ver }
def verO (x : Opn) : Opn := { x with ver := newV x.ver }
theorem newV_in (z : Int) : 1 ≤ newV z ∧ newV z ≤ 4 := by unfold newV; omega
def Sm.plus (a b : Sm) : Sm := ⟨a.live + b.live, a.liveD + b.liveD, a.com + b.com, a.comD + b.comD, a.warm + b.warm, a.many + b.many⟩
theorem Sm.eta {a b : Sm} (h0 : a.live = b.live) (h1 : a.liveD = b.liveD) (h2 : a.com = b.com) (h3 : a.comD = b.comD) (h4 : a.warm = b.warm) (h5 : a.many = b.many) : a = b := by
  cases a; cases b; simp_all
theorem add_plus (v : Int) (a b : Sm) (t : Th) (hv : v = 0 ∨ t.ver = v) : addT v (a.plus b) t = (addT v a t).plus b := by
  have hn : ¬ (v ≠ 0 ∧ t.ver ≠ v) := by omega
  unfold addT
  rw [if_neg hn, if_neg hn]
  rcases t.serves with _ | _ <;> rcases t.comes with _ | _ <;> rcases t.stands with _ | _ <;> (unfold Sm.plus; refine Sm.eta ?_ ?_ ?_ ?_ ?_ ?_ <;> simp <;> omega)
theorem plus_comm (a b : Sm) : a.plus b = b.plus a := by unfold Sm.plus; refine Sm.eta ?_ ?_ ?_ ?_ ?_ ?_ <;> simp <;> omega
theorem plus_assoc (a b c : Sm) : (a.plus b).plus c = a.plus (b.plus c) := by unfold Sm.plus; refine Sm.eta ?_ ?_ ?_ ?_ ?_ ?_ <;> simp <;> omega
theorem add_same (v : Int) (s : Sm) (t : Th) (hv : t.ver = v) : addT v s t = addT 0 s t := by
  unfold addT
  rw [if_neg (show ¬ (v ≠ 0 ∧ t.ver ≠ v) from fun e => e.2 hv), if_neg (show ¬ ((0 : Int) ≠ 0 ∧ t.ver ≠ 0) from fun e => e.1 rfl)]
theorem add_skip (v : Int) (s : Sm) (t : Th) (h0 : v ≠ 0) (hv : t.ver ≠ v) : addT v s t = s := by
  unfold addT
  rw [if_pos (show v ≠ 0 ∧ t.ver ≠ v from ⟨h0, hv⟩)]
theorem parts_step (a b c d : Sm) (t : Th) (h : 1 ≤ t.ver ∧ t.ver ≤ 4) :
    addT 0 (((a.plus b).plus c).plus d) t = (((addT 1 a t).plus (addT 2 b t)).plus (addT 3 c t)).plus (addT 4 d t) := by
  have z := fun x y : Sm => add_plus 0 x y t (.inl rfl)
  rcases (by omega : t.ver = 1 ∨ t.ver = 2 ∨ t.ver = 3 ∨ t.ver = 4) with e | e | e | e
  · rw [add_same 1 a t e, add_skip 2 b t (by decide) (by omega), add_skip 3 c t (by decide) (by omega), add_skip 4 d t (by decide) (by omega), z, z, z]
  · rw [add_skip 1 a t (by decide) (by omega), add_same 2 b t e, add_skip 3 c t (by decide) (by omega), add_skip 4 d t (by decide) (by omega), z, z, plus_comm a b, z, plus_comm (addT 0 b t) a]
  · rw [add_skip 1 a t (by decide) (by omega), add_skip 2 b t (by decide) (by omega), add_same 3 c t e, add_skip 4 d t (by decide) (by omega), z, plus_comm (a.plus b) c, z, plus_comm (addT 0 c t) (a.plus b)]
  · rw [add_skip 1 a t (by decide) (by omega), add_skip 2 b t (by decide) (by omega), add_skip 3 c t (by decide) (by omega), add_same 4 d t e, plus_comm ((a.plus b).plus c) d, z, plus_comm]
theorem parts_all (l : List Th) (h : ∀ t ∈ l, 1 ≤ t.ver ∧ t.ver ≤ 4) : ∀ k, k ≤ l.length → sumT 0 (l.take k) = (((sumT 1 (l.take k)).plus (sumT 2 (l.take k))).plus (sumT 3 (l.take k))).plus (sumT 4 (l.take k)) := by
  intro k
  induction k with
  | zero => intro _; rfl
  | succ k ih =>
    intro hk
    have i := ih (by omega)
    rw [List.take_succ_eq_append_getElem (by omega), sumT_snoc, sumT_snoc, sumT_snoc, sumT_snoc, sumT_snoc, i]
    exact parts_step _ _ _ _ _ (h _ (List.getElem_mem _))
theorem ver_all {L : Nat → Ins} {O : Nat → Opn} {n m : Nat} : ∀ t ∈ thsL (fun i => verI (L i)) n (fun i => verO (O i)) m, 1 ≤ t.ver ∧ t.ver ≤ 4 := by
  intro t ht
  unfold thsL at ht
  rcases List.mem_append.1 ht with ht | ht
  · unfold insL at ht
    rw [List.mem_map] at ht
    obtain ⟨i, _, rfl⟩ := ht
    exact newV_in _
  · rw [List.mem_map] at ht
    obtain ⟨x, hx, rfl⟩ := ht
    have : ∀ k, ∀ x ∈ lau (fun i => verO (O i)) k, 1 ≤ x.ver ∧ x.ver ≤ 4 := by
      intro k
      induction k with
      | zero => intro x h; cases h
      | succ k ih =>
        intro x h
        have e : lau (fun i => verO (O i)) (k + 1) = if lauB (verO (O k)) = true ∧ (lau (fun i => verO (O i)) k).length < 4096 then lau (fun i => verO (O i)) k ++ [verO (O k)] else lau (fun i => verO (O i)) k := rfl
        by_cases hc : lauB (verO (O k)) = true ∧ (lau (fun i => verO (O i)) k).length < 4096
        · rw [if_pos hc] at e
          rw [e] at h
          rcases List.mem_append.1 h with h | h
          · exact ih x h
          · simp at h; subst h; exact newV_in _
        · rw [if_neg hc] at e
          rw [e] at h
          exact ih x h
    exact this m x hx
def ofV (L : Nat → Ins) (n : Nat) (O : Nat → Opn) (m : Nat) (v : Int) : Sm := sumT v (thsL (fun i => verI (L i)) n (fun i => verO (O i)) m)
theorem ofS_ver {L : Nat → Ins} {O : Nat → Opn} {n m : Nat} (hm : mayB L n = true) (v : Int) : ofS v (fun i => verI (L i)) n (fun i => verO (O i)) m = ofV L n O m v := by
  unfold ofS ofV
  rw [if_pos (show mayB (fun i => verI (L i)) n = true from hm)]
theorem parts_of (L : Nat → Ins) (n : Nat) (O : Nat → Opn) (m : Nat) : ofV L n O m 0 = (((ofV L n O m 1).plus (ofV L n O m 2)).plus (ofV L n O m 3)).plus (ofV L n O m 4) := by
  unfold ofV
  have := parts_all _ (ver_all (L := L) (O := O) (n := n) (m := m)) _ (Nat.le_refl _)
  rw [List.take_length] at this
  exact this
theorem of_in {L : Nat → Ins} {O : Nat → Opn} {n m : Nat} (hm : mayB L n = true) (hn : n ≤ 100) (hmm : m ≤ 100) (v : Int) : InSm 200 (ofV L n O m v) := by
  have h := inSm_sum v (thsL (fun i => verI (L i)) n (fun i => verO (O i)) m) (by
    intro t ht
    rcases List.mem_append.1 ht with ht | ht
    · exact insL_ok (L := fun i => verI (L i)) (n := n) hm (Nat.le_refl _) t ht
    · exact lauL_ok t ht)
  have hl : ((thsL (fun i => verI (L i)) n (fun i => verO (O i)) m).length : Int) ≤ 200 := by
    unfold thsL
    rw [List.length_append, insL_len, List.length_map]
    have := lau_len (fun i => verO (O i)) m
    omega
  obtain ⟨a, b, c, d, e, f⟩ := h
  unfold ofV
  exact ⟨by omega, b, by omega, d, by omega, by omega⟩
theorem own_cell {w : World} {base : Nat} {E : TypeId} {sz : Nat} {v : Value} {n : Nat} {V : Nat → Nat → Value} (h : Row.Own w base E sz v n V) {g : Nat} (hg : g < base) (k : Nat) (u : Value) : Row.Own (w.setCell ⟨g, k, none⟩ u) base E sz v n V := by
  refine ⟨h.1, ?_⟩
  rcases h.2 with h' | ⟨g1, cap, cur, h', hbg, hg1, hnc, hcm, hcs, ht⟩
  · exact .inl h'
  · exact .inr ⟨g1, cap, cur, h', hbg, (set_else (by omega)).trans hg1, hnc, hcm, hcs, ht⟩
/-- a sum that is added to, beside another one -/
structure St5 (W3 : World) (gs : Nat) (acc s : Sm) (V : World) : Prop where
  r9 : V.heap[W3.heap.size]? = some (.cells acc.cells 31 (0, 0))
  rs : V.heap[gs]? = some (.cells s.cells 31 (0, 0))
  b : Below W3.heap.size W3 V
  ne : W3.heap.size ≠ gs
section
variable {W3 V : World} {gs : Nat} {acc acc' s : Sm}
theorem St5.set (h : St5 W3 gs acc s V) (k : Nat) (v : Value) (he : acc.cells.setIfInBounds k v = acc'.cells) : St5 W3 gs acc' s (V.setCell ⟨W3.heap.size, k, none⟩ v) :=
  ⟨by rw [setCell_row h.r9, he]; exact row_at h.r9, (set_else h.ne).trans h.rs, bSet h.b (p := ⟨W3.heap.size, k, none⟩) (Nat.le_refl _) v, h.ne⟩
theorem St5.ca (h : St5 W3 gs acc s V) {k : Nat} {v : Value} (hk : acc.cells[k]? = some v) : V.cell? ⟨W3.heap.size, k, none⟩ = some v := cell_row h.r9 hk
theorem St5.cs (h : St5 W3 gs acc s V) {k : Nat} {v : Value} (hk : s.cells[k]? = some v) : V.cell? ⟨gs, k, none⟩ = some v := cell_row h.rs hk
theorem St5.free (h : St5 W3 gs acc s V) : ∀ k, V.frozen? ⟨W3.heap.size, k, none⟩ = false := free_row h.r9
end
theorem exec_sum (ρ : Operand → Value) (x : Operand) (dst : Option Tmp) (ty : TypeId) (pos : String) (after : Array Edge) (guard : Option (Nat × Bool)) :
    execOp ρ { dst, op := .load 31 x, type := ty, pos, after, guard } = loadRec 31 (ρ x) := rfl
theorem run_sum {w : World} {b : Nat} {c : Sm} (h : w.heap[b]? = some (.cells c.cells 31 (0, 0))) : (loadRec 31 (.pointer (some ⟨b, 0, none⟩))).run Try.prog w = .ok (.value (.agg #[.int .i64 c.live, .int .i64 c.liveD, .int .i64 c.com, .int .i64 c.comD, .int .i64 c.warm, .int .i64 c.many])) w :=
  run_loadMid 31 Try.underlying31 rfl (sizeSum.trans rfl) (range_row h)
end Go.Proofs.Ytcgeoaegalloaaa.Thg
