
/- Layer 14: the pools that a function picks; the next tick. -/
import Derived.Test.YtgaeelhbdgpobaaBlackB
namespace Go.Proofs.Ytgaeelhbdgpobaa.Black
open Go.ChangeShapes Go.WideShapes Go.ChangeAt Go.RowKit
open Mem Arr Lst

theorem infoInt : (Try.prog.info? 3).map (fun i => (i.zero, i.size, i.bytes)) = some (some (.int .i64 0), 1, 8) := by kernel_rfl
/-- the places below k of which g says yes -/
def sel (g : Nat → Bool) (k : Nat) : List Nat := (List.range k).filter g
def placeV (L : List Nat) (i : Nat) : Value := .int .i64 ((L.getD i 0 : Nat) : Int)
theorem sel_succ (g : Nat → Bool) (k : Nat) : sel g (k + 1) = sel g k ++ if g k then [k] else [] := by
  unfold sel
  rw [List.range_succ, List.filter_append]
  by_cases h : g k = true
  · simp [h]
  · simp [h]
theorem sel_yes {g : Nat → Bool} {k : Nat} (h : g k = true) : sel g (k + 1) = sel g k ++ [k] := by rw [sel_succ, h]; rfl
theorem sel_no {g : Nat → Bool} {k : Nat} (h : g k = false) : sel g (k + 1) = sel g k := by rw [sel_succ, h]; simp
theorem sel_len (g : Nat → Bool) (k : Nat) : (sel g k).length ≤ k := by
  have := List.length_filter_le g (List.range k)
  rw [List.length_range] at this; exact this
theorem sel_at {g : Nat → Bool} {k i : Nat} (h : i < (sel g k).length) : (sel g k).getD i 0 < k ∧ g ((sel g k).getD i 0) = true := by
  have e : (sel g k).getD i 0 = (sel g k)[i] := by simp [h]
  rw [e]
  have hm : (sel g k)[i] ∈ sel g k := List.getElem_mem h
  unfold sel at hm
  rw [List.mem_filter, List.mem_range] at hm
  exact hm
theorem sel_of {g : Nat → Bool} {k e : Nat} (h : e < k) (hg : g e = true) : ∃ i, i < (sel g k).length ∧ (sel g k).getD i 0 = e := by
  have hm : e ∈ sel g k := by unfold sel; rw [List.mem_filter, List.mem_range]; exact ⟨h, hg⟩
  obtain ⟨i, hi, he⟩ := List.getElem_of_mem hm
  exact ⟨i, hi, by simp [hi, he]⟩
theorem place_push (L : List Nat) (k i : Nat) (h : i < L.length + 1) : (if i < L.length then placeV L i else .int .i64 (k : Int)) = placeV (L ++ [k]) i := by
  unfold placeV
  by_cases hi : i < L.length
  · rw [if_pos hi]; simp [hi, List.getElem?_append_left]
  · rw [if_neg hi]
    obtain rfl : i = L.length := by omega
    simp

def laterB (U : Nat → Int) (now : Int) (i : Nat) : Bool := decide (now < U i)
theorem later_any (A : Option Addr) (n c : Nat) (P S U : Nat → Int) (now : Int) (k : Nat) (p q : Nat) (w : World) (h : Quotes w w.heap.size A n P S U) (hk : k < n) (hn : n ≤ 9223372036854775807)
    (hp : w.cell? ⟨p, 0, none⟩ = some (.slice A n c)) (hq : w.cell? ⟨q, 0, none⟩ = some (.int .u64 now)) :
    Calls Try.prog 26 #[.int .i64 k, .pointer (some ⟨p, 0, none⟩), .pointer (some ⟨q, 0, none⟩)] w fun e w' => e = .returned (.bool (laterB U now k)) ∧ ∃ m, w.drewN m = w' := by
  obtain ⟨b, off, rfl⟩ := quotes_at h (by omega)
  obtain ⟨hbl, c0, c1, c2⟩ := quote_cells h (Below.refl _ _) rfl hk
  clear h
  go_enter Try.func26, Try.ntmps26
  go_wp2
  go_quiet (fail)
  go_wp2
  go_ret
  exact ⟨rfl, _, rfl⟩
theorem filterNext_any (A : Option Addr) (n c : Nat) (P S U : Nat → Int) (now : Int) (p q : Nat) (w : World) (h : Quotes w w.heap.size A n P S U) (hn : n ≤ 200)
    (hp : w.cell? ⟨p, 0, none⟩ = some (.slice A n c)) (hq : w.cell? ⟨q, 0, none⟩ = some (.int .u64 now)) (hpl : p < w.heap.size) (hql : q < w.heap.size) :
    Calls Try.prog 25 #[.int .i64 n, .func (.func 26) #[] #[.pointer (some ⟨p, 0, none⟩), .pointer (some ⟨q, 0, none⟩)]] w fun e w' => ∃ v, e = .returned v ∧ Own w' w.heap.size 3 v (sel (laterB U now) n).length (placeV (sel (laterB U now) n)) ∧ Below w.heap.size w w' := by
  obtain ⟨i0, hi, hz0, hz1, hz2⟩ := info_parts infoInt
  have H := Lib.hid h
  clear h
  go_enter Try.func25, Try.ntmps25
  go_wp2
  go_loopw [5, 8] (fun l i wr => ∃ k : Nat, k ≤ n ∧ i = .int .i64 k ∧ Own wr w.heap.size 3 l (sel (laterB U now) k).length (placeV (sel (laterB U now) k)) ∧ Below w.heap.size w wr) (fun _ i _ => n - (intOf i).toNat)
  case atStart => exact ⟨0, by omega, rfl, own_nil _ _ _ _, Below.refl _ _⟩
  case round =>
    obtain ⟨k, hk, rfl, hown, hb⟩ := hrel
    by_cases hlt : k < n
    · have hpc := hp
      have hqc := hq
      rw [← (bcell hb).1 p 0 hpl] at hpc
      rw [← (bcell hb).1 q 0 hql] at hqc
      have C := Lib.hid (fun (W : World) (hW : Below w.heap.size w W) (a : W.cell? ⟨p, 0, none⟩ = some (.slice A n c)) (b : W.cell? ⟨q, 0, none⟩ = some (.int .u64 now)) => later_any A n c P S U now k p q W (H.out.later hW) hlt (by omega) a b)
      have hL := sel_len (laterB U now) k
      by_cases hd : laterB U now k = true
      · have D := Lib.hid hd
        have EL := Lib.hid (sel_yes hd)
        clear hd
        go_wp2_with fail
        refine (C.out _ hb hpc hqc).mono ?_
        rintro e w2 ⟨rfl, m, rfl⟩
        have own2 : Own (wr.drewN m) w.heap.size 3 u5 (sel (laterB U now) k).length (placeV (sel (laterB U now) k)) := hown
        have hb2 := bDrewN m hb
        clear hown hb hpc hqc
        obtain ⟨A1, cap1, rfl, -, -, -, -⟩ := own2.shape
        rw [D.out]
        go_wp2_with (at_builtin; refine append_list rfl _ _ 41 rfl w.heap.size 3 i0 (.int .i64 0) 8 Try.underlying41 hi hz0 hz1 hz2 rfl _ (sel (laterB U now) k).length (placeV (sel (laterB U now) k)) (by rfl) (own2.alloc _) ((wr.drewN m).heap.size + 1) (some ⟨(wr.drewN m).heap.size, 0, none⟩) 1 1 (fun _ => .int .i64 (k : Int)) rfl (reads_new _ _ _) (fun _ _ => rfl) (fun e => (by cases e)) (by unfold maxLen; omega) (by omega) (by have := hb2.size; simp at *; omega) ?_; intro v1 w4 hown4 hgrow)
        have hb5 := below_grown (bAlloc hb2 _) (own2.alloc _) hgrow
        go_roundw
        case rel => exact ⟨k + 1, by omega, by go_num, by rw [EL.out, List.length_append]; exact hown4.congr (fun i hi => place_push _ _ _ hi), hb5⟩
        case measure => simp [intOf]; omega
      · have D : Hid (laterB U now k = false) := Lib.hid (by simpa using hd)
        have EL := Lib.hid (sel_no D.out)
        clear hd
        go_wp2_with fail
        refine (C.out _ hb hpc hqc).mono ?_
        rintro e w2 ⟨rfl, m, rfl⟩
        have own2 : Own (wr.drewN m) w.heap.size 3 u5 (sel (laterB U now) k).length (placeV (sel (laterB U now) k)) := hown
        have hb2 := bDrewN m hb
        clear hown hb hpc hqc
        rw [D.out]
        go_wp2
        go_roundw
        case rel => exact ⟨k + 1, by omega, by go_num, by rw [EL.out]; exact own2, hb2⟩
        case measure => simp [intOf]; omega
    · obtain rfl : k = n := by omega
      go_wp2
      go_ret
      exact ⟨_, rfl, hown, hb⟩
end Go.Proofs.Ytgaeelhbdgpobaa.Black
