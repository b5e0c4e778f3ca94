
/- A slice of slices of bytes that came in. No code of the program. -/
import Derived.Test.YtpbapcjgaeifjaaDoorUpto
import Derived.Test.YtpbapcjgaeifjaaDoorList
import Derived.Deep.Matrix
namespace Go.Proofs.YtpbapcjgaeifjaaDoor.Mat
open Go.ChangeShapes Go.WideShapes Go.ChangeAt Go.RowKit Go.Deep
open Mem Arr Lst Upto

/-- the first k of the lists, behind one another -/
def cat (Z : Nat → List Int) : Nat → List Int
  | 0 => []
  | k + 1 => cat Z k ++ Z k
/-- what a walk is told of it: its elements, and what each of them reads as; all of them are short together -/
structure MatArg (w : World) (A : Option Addr) (n : Nat) (R : Nat → Option Addr) (L C : Nat → Nat) (Z : Nat → List Int) : Prop where
  rd : Reads w w.heap.size A n (fun i => .slice (R i) (L i) (C i))
  each : ∀ i, i < n → Rd w w.heap.size (R i) (L i) (Z i)
  none_ : ∀ i, i < n → R i = none → C i = 0
  byte : ∀ i, i < n → ∀ j, 0 ≤ (Z i).getD j 0 ∧ (Z i).getD j 0 ≤ 255
  bulk : (cat Z n).length + n ≤ 1048576
theorem cat_le {Z : Nat → List Int} {k n : Nat} (h : k ≤ n) : (cat Z k).length ≤ (cat Z n).length := by
  induction n with
  | zero => obtain rfl : k = 0 := by omega
            exact Nat.le_refl _
  | succ n ih =>
    rcases Nat.lt_or_ge n k with h' | h'
    · obtain rfl : k = n + 1 := by omega
      exact Nat.le_refl _
    · have := ih h'
      simp only [cat, List.length_append]; omega
theorem cat_bytes {Z : Nat → List Int} {n : Nat} (h : ∀ i, i < n → ∀ j, 0 ≤ (Z i).getD j 0 ∧ (Z i).getD j 0 ≤ 255) : ∀ k, k ≤ n → ∀ j, 0 ≤ (cat Z k).getD j 0 ∧ (cat Z k).getD j 0 ≤ 255 := by
  intro k
  induction k with
  | zero => intro _ j; simp [cat]
  | succ k ih =>
    intro hk j
    simp only [cat]
    rcases Nat.lt_or_ge j (cat Z k).length with hj | hj
    · have : (cat Z k ++ Z k).getD j 0 = (cat Z k).getD j 0 := by simp [List.getD, List.getElem?_append_left hj]
      rw [this]; exact ih (by omega) j
    · have : (cat Z k ++ Z k).getD j 0 = (Z k).getD (j - (cat Z k).length) 0 := by simp [List.getD, List.getElem?_append_right hj]
      rw [this]; exact h k (by omega) _
theorem bulk_append {H : Type} : ∀ (a b : List (DataW H)), Rows.uptoBulkAll (a ++ b) = Rows.uptoBulkAll a + Rows.uptoBulkAll b
  | [], b => by simp [Rows.uptoBulkAll]
  | d :: a, b => by
    simp only [List.cons_append, Rows.uptoBulkAll, bulk_append a b]; omega
theorem bulk_row {H : Type} (A : Option Addr) (L : Nat) (zs : List Int) (h : A = none → L = 0) (hl : L ≤ zs.length) : L + 1 ≤ Rows.uptoBulk (intRow .u8 A L zs : DataW H) := by
  cases A with
  | none => rw [h rfl]; simp [intRow, Rows.uptoBulk]
  | some a =>
    have := bulk_lits (H := H) (zs.take L)
    rw [List.length_take] at this
    simp only [intRow, Rows.uptoBulk]; omega
theorem mat_arg {H : Type} {enc : TypeId × Value → H} {w : World} {A : Option Addr} {n c : Nat} {ds : List (DataW H)} {d : DataW H} {p : List MemPlace} (hk : Rows.uptoSmall H ds = true) {j : Nat} (hd : ds[j]? = some d)
    (h : DataW.Trod enc Tryd.prog w 0 (fun _ => true) true 32 (.slice A n c) d p) : ∃ R L C Z, MatArg w A n R L C Z := by
  obtain ⟨fuel, hf⟩ := h
  rcases open_int_rows Tryd.underlying32 Tryd.underlying23 Tryd.underlying5 (by kernel_rfl) (by kernel_rfl) hf with ⟨hcs, hx⟩ | ⟨a, len, cap, R, L, C, Z, hcs, _, hl, hm, hx, hr⟩
  · simp [Value.cells] at hcs
    obtain ⟨rfl, rfl, rfl⟩ := hcs
    refine ⟨fun _ => none, fun _ => 0, fun _ => 0, fun _ => [], ⟨reads_nil _ _ _, fun i hi => absurd hi (by omega), fun i hi => absurd hi (by omega), fun i hi => absurd hi (by omega), ?_⟩⟩
    simp [cat]
  · simp [Value.cells] at hcs
    obtain ⟨rfl, rfl, rfl⟩ := hcs
    injection hx with hx1 hx2
    have hb : ∀ k, k ≤ n → (cat (fun i => (Z i).take (L i)) k).length + k ≤ Rows.uptoBulkAll ((List.range k).map fun r => (intRow .u8 (R r) (L r) (Z r) : DataW H)) := by
      intro k
      induction k with
      | zero => intro _; simp [cat]
      | succ k ih =>
        intro hkn
        obtain ⟨_, h2, _, h4, _, h6, _⟩ := hr k (by omega)
        have := ih (by omega)
        have h8 := bulk_row (H := H) (R k) (L k) (Z k) (fun e => by have := h6 e; omega) (by omega)
        rw [List.range_succ, List.map_append, bulk_append]
        simp only [cat, List.length_append, List.length_take, List.map_cons, List.map_nil, Rows.uptoBulkAll]
        omega
    refine ⟨R, L, C, fun i => (Z i).take (L i), ⟨⟨fun e => (by cases e), fun h0 => ?_⟩, fun i hi => ?_, fun i hi => (hr i (by omega)).2.2.2.2.2.1, fun i hi j => ?_, ?_⟩⟩
    · obtain ⟨b, off, spot⟩ := a
      have h1 := (hr 0 (by omega)).1
      have hspot : spot = none := by simpa [Addr.add] using World.cell?_spot h1
      subst hspot
      refine ⟨b, off, rfl, ?_, fun i j hin hj => ?_⟩
      · rcases Nat.lt_or_ge b w.heap.size with hlt | hge
        · exact hlt
        · rw [add_form] at h1; simp [World.cell?, Array.getElem?_eq_none hge] at h1
      · obtain rfl : j = 0 := by omega
        have := (hr i (by omega)).1
        rw [add_form] at this
        rw [show off + (i * 1 + 0) = off + i by omega]
        exact this
    · obtain ⟨h1, h2, h3, h4, h5, h6, h7⟩ := hr i (by omega)
      refine ⟨by rw [List.length_take]; omega, fun e => by have := h6 e; omega, fun h0 => ?_⟩
      rcases hRi : R i with _ | ai
      · have := h6 hRi; omega
      · obtain ⟨_, hc⟩ := h7 ai hRi
        obtain ⟨b, off, spot⟩ := ai
        have g1 := hc 0 (by omega)
        have hspot : spot = none := by simpa [Addr.add] using World.cell?_spot g1
        subst hspot
        refine ⟨b, off, rfl, ?_, fun k hk => ?_⟩
        · rcases Nat.lt_or_ge b w.heap.size with hlt | hge
          · exact hlt
          · rw [add_form] at g1; simp [World.cell?, Array.getElem?_eq_none hge] at g1
        · have := hc k (by omega)
          rw [add_form] at this
          rw [this]; simp [List.getD, hk]
    · obtain ⟨h1, h2, h3, h4, h5, h6, h7⟩ := hr i (by omega)
      rcases Nat.lt_or_ge j ((Z i).take (L i)).length with hj | hj
      · have e : ((Z i).take (L i)).getD j 0 = ((Z i).take (L i))[j] := by simp [List.getD, List.getElem?_eq_getElem hj]
        rw [e]
        exact bounds_u8 (h5 _ (List.mem_of_mem_take (List.getElem_mem hj)))
      · have e : ((Z i).take (L i)).getD j 0 = 0 := by simp only [List.getD, List.getElem?_eq_none hj]; rfl
        rw [e]; omega
    · have h1 := bulk_mem hd
      have h2 : Rows.uptoBulkAll ds ≤ 1048576 := of_decide_eq_true hk
      have h3 := hb n (Nat.le_refl _)
      rw [hx1] at h1
      simp only [Rows.uptoBulk] at h1
      omega
end Go.Proofs.YtpbapcjgaeifjaaDoor.Mat
