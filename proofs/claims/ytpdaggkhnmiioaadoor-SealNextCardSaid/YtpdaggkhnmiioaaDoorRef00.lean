
/- Contracts of what the references share: Same, Copy, Wide, Left, over slices of bytes. -/
import Derived.Test.YtpdaggkhnmiioaaDoorRows
import Derived.Test.YtpdaggkhnmiioaaDoorMem
namespace Go.Proofs.YtpdaggkhnmiioaaDoor.Ref00
open Go.ChangeShapes Go.WideShapes Go.ChangeAt Go.RowKit
open Mem
set_option linter.unusedVariables false

theorem infoByte : (Tryd.prog.info? 5).map (fun i => (i.zero, i.size, i.bytes)) = some (some (.int .u8 0), 1, 1) := by kernel_rfl

theorem same_true (A A' : Option Addr) (n n' c c' : Nat) (bs : List Int) (w : World) (B B' : Nat) (h : Rd w B A n bs) (h' : Rd w B' A' n' bs) :
    Calls Tryd.prog 15 #[.slice A n c, .slice A' n' c'] w fun e w' => e = .returned (.bool true) ∧ w = w' := by
  have k1 := run_str Tryd.prog w 23 5 9 Tryd.underlying23 Tryd.underlying5 Tryd.underlying9 c h
  have k2 := run_str Tryd.prog w 23 5 9 Tryd.underlying23 Tryd.underlying5 Tryd.underlying9 c' h'
  clear h h'
  go_enter Tryd.func15, Tryd.ntmps15
  go_wp2
  go_ret
  exact ⟨rfl, rfl⟩

theorem copy_any (A : Option Addr) (n c : Nat) (bs : List Int) (w : World) (h : Rd w w.heap.size A n bs) (hc : A = none → c = 0) (hn : n ≤ 140737488351232) :
    Calls Tryd.prog 23 #[.slice A n c] w fun e w' => ∃ v, e = .returned v ∧ w'.ownsRow w.heap.size 5 1 v n (bytesV bs) ∧ Below w.heap.size w w' := by
  obtain ⟨i0, hi, hz0, hz1, hz2⟩ := info_parts infoByte
  rcases A with _ | ad
  · obtain rfl := hc rfl
    obtain rfl := h.2.1 rfl
    obtain rfl : bs = [] := List.eq_nil_of_length_eq_zero h.1
    clear h hc
    go_enter Tryd.func23, Tryd.ntmps23
    go_wp2_with (first | (at_builtin; refine wpList_append_own_none rfl _ _ 23 rfl w.heap.size 5 i0 1 Tryd.underlying23 hi _ 0 [] rfl (World.ownsRow_nil _ _ _ _) rfl ?_))
    go_ret
    exact ⟨_, rfl, World.ownsRow_nil _ _ _ _, Below.refl _ _⟩
  · obtain ⟨ad', e, hcells⟩ := h.cells (by simp)
    injection e with e
    subst e
    have hl := h.1
    have HL : Hid ((bytesV bs).length = n * 1) := by rw [bytesV_length, hl]; exact Lib.hid (by omega)
    clear h hc
    have HC := Lib.hid hcells; clear hcells
    clear hl
    go_enter Tryd.func23, Tryd.ntmps23
    go_wp2_with (first | (at_builtin; refine wpList_append_own _ rfl _ _ 23 rfl w.heap.size 5 i0 (.int .u8 0) 1 1 Tryd.underlying23 hi hz0 hz1 hz2 rfl (by decide) _ 0 [] rfl (World.ownsRow_nil _ _ _ _) ad n c (bytesV bs) rfl HL.out HC.out (bytesV_one bs) (by unfold maxLen; omega) (by omega) (by omega) ?_; intro v' w1 hown1 hgrow1 _))
    go_ret
    exact ⟨_, rfl, by simpa using hown1, (Below.refl _ _).grown hgrow1 (Nat.le_refl _) (fun k hk => by cases hk)⟩

theorem wide_any (A : Option Addr) (n c : Nat) (bs : List Int) (w : World) (h : Rd w w.heap.size A n bs) (hc : A = none → c = 0) (hn : n ≤ 140737488351232) :
    Calls Tryd.prog 8 #[.slice A n c] w fun e w' => ∃ g cap, e = .returned (.slice (some ⟨g, 0, none⟩) n cap) ∧ n + 3 ≤ cap ∧ cap ≤ 9223372036854775807 ∧ w.heap.size ≤ g ∧ Rd w' w'.heap.size (some ⟨g, 0, none⟩) (n + 3) (bs ++ [9, 9, 9]) ∧ Below w.heap.size w w' := by
  obtain ⟨i0, hi, hz0, hz1, hz2⟩ := info_parts infoByte
  have hl := Lib.hid h.1
  have C := Lib.hid (copy_any A n c bs w h hc hn)
  clear h hc
  have L9 : Hid ((bytesV [9, 9, 9]).length = 3 * 1) := Lib.hid rfl
  go_enter Tryd.func8, Tryd.ntmps8
  go_wp2_with (first
    | (go_at_call 23; refine C.out.mono ?_; rintro e w1 ⟨v, rfl, hown, hb⟩)
    | (at_builtin; refine wpList_append_own _ rfl _ _ 23 rfl w.heap.size 5 i0 (.int .u8 0) 1 1 Tryd.underlying23 hi hz0 hz1 hz2 rfl (by decide) _ n (bytesV bs) rfl (hown.alloc _) ⟨w1.heap.size, 0, none⟩ 3 3 (bytesV [9, 9, 9]) rfl L9.out ?c1 (bytesV_one _) (by unfold maxLen; omega) (by omega) (by have := hb.size; simp; omega) ?_))
  case c1 => exact new_cells w1 [9, 9, 9] _
  intro v' w2 hown2 hgrow2 _
  have hb2 : Below w.heap.size w w2 := (hb.alloc hb.size _).grown hgrow2 (by have := hb.size; simp; omega) (fun k hk => (hown.lt k hk).1)
  rw [← bytesV_append] at hown2
  obtain ⟨g, cap, rfl, hg1, hg2, hcap, hcm⟩ := own_form hown2 (by omega)
  have HR := Lib.hid (Rd.of_own hown2)
  have HB := Lib.hid hb2
  clear hown2 hgrow2 hb2 hb hown C
  go_wp2
  go_ret
  exact ⟨g, cap, rfl, hcap, hcm, hg1, HR.out, HB.out⟩

theorem left_true (g n cap : Nat) (A : Option Addr) (c : Nat) (bs : List Int) (w : World) (B B' : Nat) (h : Rd w B (some ⟨g, 0, none⟩) (n + 3) (bs ++ [9, 9, 9])) (hcap : n + 3 ≤ cap) (h' : Rd w B' A n bs) (hn : n ≤ 140737488351232) :
    Calls Tryd.prog 11 #[.slice (some ⟨g, 0, none⟩) n cap, .slice A n c] w fun e w' => e = .returned (.bool true) ∧ w = w' := by
  have hl := h'.1
  have hv : Rd w B (some ⟨g, 0, none⟩) n bs := by
    have := h.ahead (m := n) (by omega)
    rwa [List.take_left' hl] at this
  have hcell : ∀ i, i < 3 → w.cell? ⟨g, n + i, none⟩ = some (.int .u8 9) := by
    intro i hi
    obtain ⟨b, off, e, _, hc⟩ := h.2.2 (by omega)
    injection e with e
    injection e with e1 e2
    subst e1; subst e2
    have := hc (n + i) (by omega)
    rw [show 0 + (n + i) = n + i by omega] at this
    rw [this]
    subst hl
    rcases (show i = 0 ∨ i = 1 ∨ i = 2 by omega) with rfl | rfl | rfl <;> simp [List.getD]
  have c0 := hcell 0 (by omega)
  have c1 := hcell 1 (by omega)
  have c2 := hcell 2 (by omega)
  simp only [Nat.add_zero] at c0
  have S := Lib.hid (same_true (some ⟨g, 0, none⟩) A n n cap c bs w B B' hv h')
  clear hcell hv h h' hl
  go_enter Tryd.func11, Tryd.ntmps11
  go_wp2_with (first | (go_at_call 15; refine S.out.mono ?_; rintro e w' ⟨rfl, rfl⟩))
  go_ret
  exact ⟨rfl, rfl⟩
end Go.Proofs.YtpdaggkhnmiioaaDoor.Ref00
