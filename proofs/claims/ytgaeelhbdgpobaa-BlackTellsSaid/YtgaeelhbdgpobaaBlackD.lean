
/- Layer 14: the least tick that is later, the program's and the document's. -/
import Derived.Test.YtgaeelhbdgpobaaBlackC
namespace Go.Proofs.Ytgaeelhbdgpobaa.Black
open Go.ChangeShapes Go.WideShapes Go.ChangeAt Go.RowKit
open Mem Arr Lst

theorem ret_ub {a b : Int} {p q : Bool} (h : a = b) (h' : p = q) : Ending.returned (.tuple #[.int .u64 a, .bool p]) = .returned (.tuple #[.int .u64 b, .bool q]) := by rw [h, h']
/-- the least of the Untils above now, of the first k; and whether there is one -/
def nx (U : Nat → Int) (now : Int) : Nat → Int × Bool
  | 0 => (0, false)
  | k + 1 => if now < U k ∧ ((nx U now k).2 = false ∨ U k < (nx U now k).1) then (U k, true) else nx U now k
theorem nx_fact (U : Nat → Int) (now : Int) (k : Nat) :
    ((nx U now k).2 = false → (nx U now k).1 = 0 ∧ ∀ i, i < k → ¬ now < U i) ∧ ((nx U now k).2 = true → (∃ i, i < k ∧ now < U i ∧ U i = (nx U now k).1) ∧ ∀ i, i < k → now < U i → (nx U now k).1 ≤ U i) := by
  induction k with
  | zero => exact ⟨fun _ => ⟨rfl, fun i h => absurd h (by omega)⟩, fun h => (by cases h)⟩
  | succ k ih =>
    obtain ⟨i1, i2⟩ := ih
    unfold nx
    by_cases h : now < U k ∧ ((nx U now k).2 = false ∨ U k < (nx U now k).1)
    · rw [if_pos h]
      refine ⟨fun e => (by cases e), fun _ => ⟨⟨k, by omega, h.1, rfl⟩, fun i hi hu => ?_⟩⟩
      show U k ≤ U i
      by_cases he : i = k
      · subst he; omega
      · cases hb : (nx U now k).2
        · exact absurd hu ((i1 hb).2 i (by omega))
        · have h1 := (i2 hb).2 i (by omega) hu
          rcases h.2 with h2 | h2
          · rw [hb] at h2; cases h2
          · omega
    · rw [if_neg h]
      constructor
      · intro e
        refine ⟨(i1 e).1, fun i hi hu => ?_⟩
        by_cases he : i = k
        · subst he; exact h ⟨hu, .inl e⟩
        · exact (i1 e).2 i (by omega) hu
      · intro e
        obtain ⟨⟨j, hj, h1, h2⟩, h3⟩ := i2 e
        refine ⟨⟨j, by omega, h1, h2⟩, fun i hi hu => ?_⟩
        by_cases he : i = k
        · subst he
          by_cases h4 : U i < (nx U now i).1
          · exact absurd ⟨hu, .inr h4⟩ h
          · omega
        · exact h3 i (by omega) hu
theorem nx_none {U : Nat → Int} {now : Int} {n : Nat} (h : (sel (laterB U now) n).length = 0) : nx U now n = (0, false) := by
  cases hb : (nx U now n).2
  · have := ((nx_fact U now n).1 hb).1
    exact Prod.ext this hb
  · obtain ⟨⟨i, hi, h1, _⟩, _⟩ := (nx_fact U now n).2 hb
    obtain ⟨j, hj, _⟩ := sel_of hi (g := laterB U now) (decide_eq_true h1)
    omega
def least (U : Nat → Int) (L : List Nat) (z : Int) (j : Nat) : Prop := (∃ i, i < L.length ∧ U (L.getD i 0) = z) ∧ ∀ i, i < j → z ≤ U (L.getD i 0)
theorem nx_some {U : Nat → Int} {now z : Int} {n : Nat} (h : least U (sel (laterB U now) n) z (sel (laterB U now) n).length) : nx U now n = (z, true) := by
  obtain ⟨⟨i, hi, h1⟩, h2⟩ := h
  obtain ⟨h3, h4⟩ := sel_at hi
  have h4' := of_decide_eq_true h4
  cases hb : (nx U now n).2
  · exact absurd h4' (((nx_fact U now n).1 hb).2 _ h3)
  · obtain ⟨⟨j, hj, g1, g2⟩, g3⟩ := (nx_fact U now n).2 hb
    obtain ⟨l, hl, el⟩ := sel_of hj (g := laterB U now) (decide_eq_true g1)
    have a := h2 l hl
    have b := g3 _ h3 h4'
    rw [el] at a
    exact Prod.ext (by show (nx U now n).1 = z; omega) hb
theorem least_start {U : Nat → Int} {L : List Nat} (h : 0 < L.length) : least U L (U (L.getD 0 0)) 0 := ⟨⟨0, h, rfl⟩, fun i hi => absurd hi (by omega)⟩
theorem least_step {U : Nat → Int} {L : List Nat} {z : Int} {j : Nat} (h : least U L z j) (hj : j < L.length) : least U L (if U (L.getD j 0) < z then U (L.getD j 0) else z) (j + 1) := by
  obtain ⟨⟨i, hi, h1⟩, h2⟩ := h
  by_cases hl : U (L.getD j 0) < z
  · rw [if_pos hl]
    refine ⟨⟨j, hj, rfl⟩, fun i hi => ?_⟩
    by_cases he : i = j
    · subst he; omega
    · have := h2 i (by omega); omega
  · rw [if_neg hl]
    refine ⟨⟨i, hi, h1⟩, fun i hi => ?_⟩
    by_cases he : i = j
    · subst he; omega
    · exact h2 i (by omega)

theorem next_any (A : Option Addr) (n c : Nat) (P S U : Nat → Int) (now : Int) (w : World) (h : Quotes w w.heap.size A n P S U) (hn : n ≤ 200) :
    Calls Try.prog 14 #[.slice A n c, .int .u64 now] w fun e w' => e = .returned (.tuple #[.int .u64 (nx U now n).1, .bool (nx U now n).2]) ∧ Below w.heap.size w w' := by
  have hp : ((w.alloc (.cells #[.slice A n c] 28)).alloc (.cells #[.int .u64 now] 23)).cell? ⟨w.heap.size, 0, none⟩ = some (.slice A n c) := by go_simp
  have hq : ((w.alloc (.cells #[.slice A n c] 28)).alloc (.cells #[.int .u64 now] 23)).cell? ⟨w.heap.size + 1, 0, none⟩ = some (.int .u64 now) := by go_simp
  have hB0 : Below w.heap.size w ((w.alloc (.cells #[.slice A n c] 28)).alloc (.cells #[.int .u64 now] 23)) := bAlloc (bAlloc (Below.refl _ _) _) _
  have hs : ((w.alloc (.cells #[.slice A n c] 28)).alloc (.cells #[.int .u64 now] 23)).heap.size = w.heap.size + 2 := by simp
  have HS := Lib.hid (filterNext_any A n c P S U now w.heap.size (w.heap.size + 1) _ (h.later hB0) hn hp hq (by omega) (by omega))
  have HP := Lib.hid (show w.heap.size < _ ∧ _ from ⟨(by omega : w.heap.size < ((w.alloc (.cells #[.slice A n c] 28)).alloc (.cells #[.int .u64 now] 23)).heap.size), hp⟩)
  have H := Lib.hid h
  have HB0 := Lib.hid hB0
  clear h hp hq hB0 hs
  go_enter Try.func14, Try.ntmps14
  go_wp2_with fail
  refine HS.out.mono ?_
  rintro e w2 ⟨v, rfl, own2, hb2⟩
  have hp2 : w2.cell? ⟨w.heap.size, 0, none⟩ = some (.slice A n c) := ((bcell hb2).1 _ _ HP.out.1).trans HP.out.2
  have hpl : w.heap.size < w2.heap.size := Nat.lt_of_lt_of_le HP.out.1 hb2.size
  have hB := bTrans HB0.out hb2
  clear HS HP HB0 hb2
  by_cases hL : (sel (laterB U now) n).length = 0
  · have HV := Lib.hid (nx_none hL)
    have z1 : ((((sel (laterB U now) n).length : Nat) : Int) == 0) = true := by simpa using hL
    obtain ⟨A1, cap1, rfl, -, -, -, -⟩ := own2.shape
    clear hL
    go_wp2
    go_ret2
    exact ⟨ret_ub (by rw [HV.out]) (by rw [HV.out]), hB⟩
  · have z1 : ((((sel (laterB U now) n).length : Nat) : Int) == 0) = false := by simpa using hL
    have hL1 : 0 < (sel (laterB U now) n).length := by omega
    have hL2 := sel_len (laterB U now) n
    obtain ⟨g, cap, rfl, hg1, hg2, hg3, hg4⟩ := own2.form hL1
    have hk0 := (sel_at hL1).1
    have l0 : w2.cell? ⟨g, 0, none⟩ = some (.int .i64 (((sel (laterB U now) n).getD 0 0 : Nat) : Int)) := own2.cell hL1
    have hst := least_start (U := U) hL1
    generalize (sel (laterB U now) n).getD 0 0 = e0 at hk0 l0 hst
    obtain ⟨b, off, rfl⟩ := quotes_at H.out (by omega)
    obtain ⟨hbl, c0, c1, c2⟩ := quote_cells H.out hB rfl hk0
    have d0 : decide (0 < (sel (laterB U now) n).length) = true := decide_eq_true hL1
    have d1 : decide (e0 < n) = true := decide_eq_true hk0
    have HT := Lib.hid hst
    clear hL hst
    go_wp2
    go_quiet (fail)
    go_wp2_with fail
    clear l0 c0 c1 c2 d0 d1
    have OW := Lib.hid own2
    clear own2
    go_loopw [7, 26] (fun l i wr => ∃ (j : Nat) (z : Int), j ≤ (sel (laterB U now) n).length ∧ i = .int .i64 j ∧ l = .int .u64 z ∧ Hid (least U (sel (laterB U now) n) z j) ∧ ∃ m, w2.drewN m = wr) (fun _ i _ => (sel (laterB U now) n).length - (intOf i).toNat)
    case atStart => exact ⟨0, _, by omega, rfl, rfl, HT, _, rfl⟩
    case round =>
      obtain ⟨j, z, hj, rfl, rfl, hz, m, rfl⟩ := hrel
      by_cases hlt : j < (sel (laterB U now) n).length
      · have hk0 := (sel_at hlt).1
        have l0 : w2.cell? ⟨g, j, none⟩ = some (.int .i64 (((sel (laterB U now) n).getD j 0 : Nat) : Int)) := OW.out.cell hlt
        have hst := least_step hz.out hlt
        generalize (sel (laterB U now) n).getD j 0 = e1 at hk0 l0 hst
        obtain ⟨hbl, c0, c1, c2⟩ := quote_cells H.out hB rfl hk0
        have d1 : decide (e1 < n) = true := decide_eq_true hk0
        by_cases hd : U e1 < z
        · rw [if_pos hd] at hst
          have HT2 := Lib.hid hst
          clear hst
          go_wp2_with fail
          go_roundw
          case rel => exact ⟨j + 1, _, by omega, by go_num, rfl, HT2, _, rfl⟩
          case measure => simp [intOf]; omega
        · rw [if_neg hd] at hst
          have HT2 := Lib.hid hst
          clear hst
          have hd2 : z ≤ U e1 := by omega
          go_wp2_with fail
          go_roundw
          case rel => exact ⟨j + 1, _, by omega, by go_num, rfl, HT2, _, rfl⟩
          case measure => simp [intOf]; omega
      · obtain rfl : j = (sel (laterB U now) n).length := by omega
        have HV := Lib.hid (nx_some hz.out)
        go_wp2
        go_ret2
        exact ⟨ret_ub (by rw [HV.out]) (by rw [HV.out]), bDrewN _ hB⟩
end Go.Proofs.Ytgaeelhbdgpobaa.Black
