
/- Records (structs of many fields) that lie whole in a block of their own: loaded, stored, told. No code of the program. -/
import Derived.Test.YtoiofdoipmdajaaMem
import Derived.Laws.Tables
import Derived.Laws.Rows
import Derived.Deep.RegionHeld3
import Derived.Deep.DrawnRows
namespace Go.Proofs.Ytoiofdoipmdajaa.Rec
open Go.ChangeShapes Go.WideShapes Go.ChangeAt Go.RowKit
open Mem

theorem setRow_alloc (w : World) (old cells : Array Value) (t : TypeId) : (w.alloc (.cells old t (0, 0))).setRow w.heap.size cells = w.alloc (.cells cells t (0, 0)) := by
  have e : (w.heap.push (Obj.cells old t (0, 0))).modify w.heap.size (fun x => match x with | .cells _ elem frozen => .cells cells elem frozen | o => o) = w.heap.push (.cells cells t (0, 0)) := by
    apply Array.ext
    · simp
    · intro i h1 h2
      rw [Array.getElem_modify]
      by_cases hi : w.heap.size = i
      · subst hi; simp
      · have hlt : i < w.heap.size := by simp at h2; omega
        rw [if_neg hi]
        simp [Array.getElem_push, hlt]
  show ({ heap := (w.heap.push (Obj.cells old t (0, 0))).modify w.heap.size (fun x => match x with | .cells _ elem frozen => .cells cells elem frozen | o => o), tape := w.tape, drawn := w.drawn, os := w.os, output := w.output } : World) = { heap := w.heap.push (.cells cells t (0, 0)), tape := w.tape, drawn := w.drawn, os := w.os, output := w.output }
  rw [e]
section
variable {P : Program}
/-- a whole record is stored into the block that was laid last -/
theorem store_new {ops : Array Oper} {rest : List Oper} {o : Oper} {a : Act} {w : World} {Q : Exit → Act → World → Prop} (hw : Region.wanted o (yielded ops a.tmps) = true) (ty : TypeId) (x y : Operand) (ho : o.op = .store ty x y)
    (cells old : Array Value) (t : TypeId) (hx : a.eval x = .pointer (some ⟨w.heap.size, 0, none⟩)) (hy : a.eval y = .agg cells)
    (hi : (P.info? ty).map (·.size) = some cells.size) (hold : old.size = cells.size) (h1 : cells.all (·.oneCell') = true)
    (h : wpList P ops Q rest (a.put o.dst undef) (w.alloc (.cells cells t (0, 0)))) : wpList P ops Q (o :: rest) a (w.alloc (.cells old t (0, 0))) :=
  BigFrame.wpList_want hw fun _ hK => wp_store_row ty x y ho w.heap.size cells hx hy t old (heap_alloc_new w _) hi hold h1 (by rw [setRow_alloc]; exact hK _ _ h)
/-- a whole record is loaded -/
theorem load_whole {ops : Array Oper} {rest : List Oper} {o : Oper} {a : Act} {w : World} {Q : Exit → Act → World → Prop} (hw : Region.wanted o (yielded ops a.tmps) = true) (ty : TypeId) (x : Operand) (ho : o.op = .load ty x)
    (g : Nat) (hx : a.eval x = .pointer (some ⟨g, 0, none⟩)) (t : TypeId) (cs : Array Value) (fr : Nat × Nat) (d : TypeDesc) (hg : w.heap[g]? = some (.cells cs t fr))
    (hu : P.underlying ty = some d) (hd : (match d with | .struct _ | .array _ _ => true | _ => false) = true) (hi : (P.info? ty).map (·.size) = some cs.size)
    (h : wpList P ops Q rest (a.put o.dst (.agg cs)) w) : wpList P ops Q (o :: rest) a w :=
  BigFrame.wpList_want hw fun _ hK => wp_load_row ty x ho g hx t cs fr d hg hu hd hi (hK _ _ h)
end

/-! A record that is loaded whole in a region that draws its order: said of its block, by two words that the walk does not open. -/
def recIn (w : World) (g : Nat) : Array Value := match w.heap[g]? with | some (.cells cs _ _) => cs | _ => #[]
def RecOK (w : World) (g n : Nat) : Prop := ∃ cs t fr, w.heap[g]? = some (.cells cs t fr) ∧ cs.size = n
def loadRec (T : TypeId) (v : Value) : Sem Next := do pure (.value (← Instr.loadAt T v))
theorem rec_of {w : World} {g n : Nat} {cs : Array Value} {t : TypeId} {fr : Nat × Nat} (h : w.heap[g]? = some (.cells cs t fr)) (hn : cs.size = n) : RecOK w g n ∧ recIn w g = cs :=
  ⟨⟨cs, t, fr, h, hn⟩, by unfold recIn; rw [h]⟩
theorem rec_lt {w : World} {g n : Nat} (h : RecOK w g n) : g < w.heap.size := by
  obtain ⟨cs, t, fr, h, _⟩ := h
  rcases Nat.lt_or_ge g w.heap.size with hlt | hge
  · exact hlt
  · rw [Array.getElem?_eq_none hge] at h; cases h
theorem rec_same {w w1 : World} {g n : Nat} {cs : Array Value} (e : w1.heap[g]? = w.heap[g]?) (h : RecOK w g n ∧ recIn w g = cs) : RecOK w1 g n ∧ recIn w1 g = cs := by
  obtain ⟨h1, h2⟩ := h
  refine ⟨?_, ?_⟩
  · obtain ⟨cs, t, fr, h, hn⟩ := h1
    exact ⟨cs, t, fr, e.trans h, hn⟩
  · rw [← h2]; unfold recIn; rw [e]
theorem rec_kept {w w1 : World} {g n : Nat} {cs : Array Value} (hb : Below w.heap.size w w1) (h : RecOK w g n ∧ recIn w g = cs) : RecOK w1 g n ∧ recIn w1 g = cs :=
  rec_same (hb.block g (rec_lt h.1)) h
theorem rec_alloc {w : World} {g n : Nat} {cs : Array Value} (h : RecOK w g n ∧ recIn w g = cs) (o : Obj) : RecOK (w.alloc o) g n ∧ recIn (w.alloc o) g = cs :=
  rec_same (by rw [World.alloc]; exact Array.getElem?_push_lt (rec_lt h.1) |>.trans (Array.getElem?_eq_getElem (rec_lt h.1)).symm) h
theorem rec_drew {w : World} {g n : Nat} {cs : Array Value} (h : RecOK w g n ∧ recIn w g = cs) : RecOK w.drew g n ∧ recIn w.drew g = cs := h
theorem run_loadRec {P : Program} (T : TypeId) {d : TypeDesc} (hu : P.underlying T = some d) (hd : (match d with | .struct _ | .array _ _ => true | _ => false) = true) {n : Nat} (hi : (P.info? T).map (·.size) = some n)
    (w : World) (g : Nat) (h : RecOK w g n) : (loadRec T (.pointer (some ⟨g, 0, none⟩))).run P w = .ok (.value (.agg (recIn w g))) w := by
  obtain ⟨cs, t, fr, h, hn⟩ := h
  have e : recIn w g = cs := by unfold recIn; rw [h]
  unfold loadRec
  simp only [Instr.loadAt, Instr.sureAddr, Sem.run_bind, Sem.run_pure, Result.andThen_ok, run_loadVar_row w g t T cs fr d h hu hd (by rw [hi, hn]), e]
end Go.Proofs.Ytoiofdoipmdajaa.Rec
