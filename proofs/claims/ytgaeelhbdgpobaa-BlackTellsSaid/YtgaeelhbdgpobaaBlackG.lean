
/- Layer 14: the document's pools that are open. -/
import Derived.Test.YtgaeelhbdgpobaaBlackF
namespace Go.Proofs.Ytgaeelhbdgpobaa.Black
open Go.ChangeShapes Go.WideShapes Go.ChangeAt Go.RowKit
open Mem Arr Lst

theorem box_at {w wr : World} {cs : Array Value} {t : TypeId} (hb : Below (w.alloc (.cells cs t)).heap.size (w.alloc (.cells cs t)) wr) (k : Nat) : wr.cell? ⟨w.heap.size, k, none⟩ = cs[k]? := by
  rw [hb.cell (p := ⟨w.heap.size, k, none⟩) (by simp), cell_of_row _ _ _ _ _ _ (heap_alloc_new w _)]
theorem below_box {w wr : World} {o : Obj} (hb : Below (w.alloc o).heap.size (w.alloc o) wr) : Below w.heap.size w wr := bTrans (bAlloc (Below.refl _ _) _) hb
theorem refOpen_is (A : Option Addr) (n c : Nat) (P S U : Nat → Int) (p now : Int) (t : Bool) (w : World) (h : Quotes w w.heap.size A n P S U) (hn : n ≤ 9223372036854775807) (ht : Hid (openB n P U p now = t)) :
    Calls Try.prog 17 #[.slice A n c, .int .i64 p, .int .u64 now] w fun e w' => e = .returned (.bool t) ∧ w = w' := by
  have := refOpen_any A n c P S U p now w h hn
  rw [ht.out] at this; exact this

theorem refOpens_any (cf : Cfg) (A : Option Addr) (n c : Nat) (P S U : Nat → Int) (M : Nat → Bool) (spot : Bool) (now : Int) (w : World) (h : Quotes w w.heap.size A n P S U) (h' : Pools w w.heap.size cf.pA cf.pN M) (hn : n ≤ 200) :
    Calls Try.prog 20 #[cf.val, .slice A n c, .bool spot, .int .u64 now] w fun e w' => ∃ v, e = .returned v ∧ Own w' w.heap.size 3 v (opens n cf.pN P U M spot now).length (placeV (opens n cf.pN P U M spot now)) ∧ Below w.heap.size w w' := by
  obtain ⟨i0, hi, hz0, hz1, hz2⟩ := info_parts infoInt
  have f0 := cf.f0
  have H := Lib.hid h
  have H' := Lib.hid h'
  clear h h'
  go_enter Try.func20, Try.ntmps20
  go_wp2
  go_loopw [9, 10] (fun l i wr => ∃ k : Nat, k ≤ n ∧ k ≤ cf.pN ∧ i = .int .i64 k ∧ Own wr (w.alloc (.cells cf.cells 27)).heap.size 3 l (sel (pickB n P U M spot now) k).length (placeV (sel (pickB n P U M spot now) k)) ∧ Below (w.alloc (.cells cf.cells 27)).heap.size (w.alloc (.cells cf.cells 27)) wr) (fun _ i _ => n - (intOf i).toNat)
  case atStart => exact ⟨0, by omega, by omega, rfl, own_nil _ _ _ _, Below.refl _ _⟩
  case round =>
    obtain ⟨k, hk, hk', rfl, hown, hb⟩ := hrel
    have hc0 := (box_at hb 0).trans f0
    have hL := sel_len (pickB n P U M spot now) k
    by_cases hp : k < cf.pN
    · by_cases hlt : k < n
      · have hb0 := below_box hb
        obtain ⟨b, off, epa, hbl, c1⟩ := pool_at (H'.out.later hb0) hp
        rw [epa] at hc0
        have HQ := Lib.hid (H.out.later hb0)
        by_cases hM : M k = spot
        · have z : (M k == spot) = true := by simpa using hM
          cases ho : openB n P U k now with
          | true =>
            have EL := Lib.hid (sel_yes (g := pickB n P U M spot now) (k := k) (by unfold pickB; rw [z, ho]; rfl))
            have HT := Lib.hid ho
            clear ho hM hb0
            obtain ⟨A1, cap1, rfl, -, -, -, -⟩ := hown.shape
            go_wp2_with (first | (go_at_call 17; refine (refOpen_is _ _ _ _ _ _ _ _ _ _ HQ.out (by omega) HT).mono ?_; rintro e w2 ⟨rfl, rfl⟩) | (at_builtin; refine append_list rfl _ _ 41 rfl (w.alloc (.cells cf.cells 27)).heap.size 3 i0 (.int .i64 0) 8 Try.underlying41 hi hz0 hz1 hz2 rfl _ (sel (pickB n P U M spot now) k).length (placeV (sel (pickB n P U M spot now) k)) (by rfl) (hown.alloc _) (wr.heap.size + 1) (some ⟨wr.heap.size, 0, none⟩) 1 1 (fun _ => .int .i64 (k : Int)) rfl (reads_new _ _ _) (fun _ _ => rfl) (fun e => (by cases e)) (by unfold maxLen; omega) (by omega) (by have := hb.size; simp at *; omega) ?_; intro v1 w4 hown4 hgrow))
            have hb5 := below_grown (bAlloc hb _) (hown.alloc _) hgrow
            go_roundw
            case rel => exact ⟨k + 1, by omega, by omega, by go_num, by rw [EL.out, List.length_append]; exact hown4.congr (fun i hi => place_push _ _ _ hi), hb5⟩
            case measure => simp [intOf]; omega
          | false =>
            have EL := Lib.hid (sel_no (g := pickB n P U M spot now) (k := k) (by unfold pickB; rw [z, ho]; rfl))
            have HT := Lib.hid ho
            clear ho hM hb0
            go_wp2_with (first | (go_at_call 17; refine (refOpen_is _ _ _ _ _ _ _ _ _ _ HQ.out (by omega) HT).mono ?_; rintro e w2 ⟨rfl, rfl⟩))
            go_roundw
            case rel => exact ⟨k + 1, by omega, by omega, by go_num, by rw [EL.out]; exact hown, hb⟩
            case measure => simp [intOf]; omega
        · have z : (M k == spot) = false := by simpa using hM
          have EL := Lib.hid (sel_no (g := pickB n P U M spot now) (k := k) (by unfold pickB; rw [z]; rfl))
          clear hM hb0
          go_wp2
          go_roundw
          case rel => exact ⟨k + 1, by omega, by omega, by go_num, by rw [EL.out]; exact hown, hb⟩
          case measure => simp [intOf]; omega
      · have e2 : Hid (opens n cf.pN P U M spot now = sel (pickB n P U M spot now) k) := Lib.hid (by unfold opens; rw [show min cf.pN n = k by omega])
        go_wp2
        go_ret
        exact ⟨_, rfl, by rw [e2.out]; exact own_low hown (by simp), below_box hb⟩
    · have e2 : Hid (opens n cf.pN P U M spot now = sel (pickB n P U M spot now) k) := Lib.hid (by unfold opens; rw [show min cf.pN n = k by omega])
      go_wp2
      go_ret
      exact ⟨_, rfl, by rw [e2.out]; exact own_low hown (by simp), below_box hb⟩
end Go.Proofs.Ytgaeelhbdgpobaa.Black
