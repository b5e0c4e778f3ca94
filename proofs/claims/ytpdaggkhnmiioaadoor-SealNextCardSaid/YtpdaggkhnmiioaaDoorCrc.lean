
/- Contracts of layer 3: sums of bytes; the program's (by a table that a package-level variable holds) and the document's. -/
import Derived.Test.YtpdaggkhnmiioaaDoorRows
import Derived.Test.YtpdaggkhnmiioaaDoorMem
import Derived.Test.YtpdaggkhnmiioaaDoorCrcM
import Derived.Lib.SlBytesConst
namespace Go.Proofs.YtpdaggkhnmiioaaDoor.Crc
open Go.ChangeShapes Go.WideShapes Go.ChangeAt Go.RowKit
open Mem CrcM
set_option linter.unusedVariables false

/-- the variable's block holds the table -/
def Laid (w : World) : Prop := ∀ i, i < 16 → w.cell? ⟨0, i, none⟩ = some (.int .u32 (num (T i)))
theorem Laid.pos {w : World} (h : Laid w) : 0 < w.heap.size := by
  have h1 := h 0 (by omega)
  rcases Nat.lt_or_ge 0 w.heap.size with hlt | hge
  · exact hlt
  · simp [World.cell?, Array.getElem?_eq_none hge] at h1
theorem Laid.below {w w' : World} (h : Laid w) (hb : Below w.heap.size w w') : Laid w' := fun i hi => ((bcell hb).1 0 i h.pos).trans (h i hi)
theorem ret_u32 {a b : Int} (h : a = b) : Ending.returned (.int .u32 a) = .returned (.int .u32 b) := by rw [h]

theorem four_any (r : BitVec 32) (w : World) (L : Laid w) :
    Calls Tryd.prog 40 #[.int .u32 (num r)] w fun e w' => e = .returned (.int .u32 (num (step4 r))) ∧ w = w' := by
  have h0 := num_lo r
  have h1 := num_hi r
  have k0 : 0 ≤ num r / 268435456 := by omega
  have k1 : num r / 268435456 < 16 := by omega
  have hc := L (r.toNat / 268435456) (by have := r.isLt; omega)
  rw [← num_index] at hc
  have HE := Lib.hid (num_four r)
  clear L
  go_enter Tryd.func40, Tryd.ntmps40
  go_wp2
  go_ret
  exact ⟨ret_u32 HE.out, rfl⟩
theorem num_step1 (a : BitVec 32) : bits .xor .u32 (num a * 2 % 4294967296) (num (T (a.toNat / 2147483648))) = num (stepB a) := by
  rw [num_shl a 1 2 (by decide), num_xor]
  by_cases h : 2147483648 ≤ a.toNat
  · have e : a.toNat / 2147483648 = 1 := by have := a.isLt; omega
    have hm : a.msb = true := by rw [BitVec.msb_eq_decide]; simp; omega
    unfold stepB
    rw [e, hm]; rfl
  · have e : a.toNat / 2147483648 = 0 := by omega
    have hm : a.msb = false := by rw [BitVec.msb_eq_decide]; simp; omega
    unfold stepB
    rw [e, hm]; rfl
theorem take_any (r : BitVec 32) (c : Int) (w : World) (L : Laid w) (h2 : 0 ≤ c) (h3 : c ≤ 255) :
    Calls Tryd.prog 38 #[.int .u32 (num r), .int .u8 c] w fun e w' => e = .returned (.int .u32 (num (takeB r c))) ∧ w = w' := by
  have h0 := num_lo r
  have h1 := num_hi r
  have C := Lib.hid (four_any (r ^^^ (byteB c <<< 24)) w L)
  have C2 := Lib.hid (four_any (step4 (r ^^^ (byteB c <<< 24))) w L)
  have E := Lib.hid (num_take r h2 h3)
  clear L
  go_enter Tryd.func38, Tryd.ntmps38
  go_wp2_with fail
  rw [E.out]
  refine C.out.mono ?_
  rintro e w1 ⟨rfl, rfl⟩
  go_wp2_with fail
  refine C2.out.mono ?_
  rintro e w1 ⟨rfl, rfl⟩
  go_wp2
  go_ret
  exact ⟨rfl, rfl⟩
theorem more_any (r : BitVec 32) (A : Option Addr) (n c : Nat) (bs : List Int) (w : World) (B : Nat) (L : Laid w) (h : Rd w B A n bs) (hb : ∀ i, 0 ≤ bs.getD i 0 ∧ bs.getD i 0 ≤ 255) (hn : n ≤ 140737488355328) :
    Calls Tryd.prog 34 #[.int .u32 (num r), .slice A n c] w fun e w' => e = .returned (.int .u32 (num (sumB r bs))) ∧ w = w' := by
  have H := Lib.hid h
  have HB := Lib.hid hb
  have HL := Lib.hid L
  have hl := Lib.hid h.1
  clear h hb L
  go_enter Tryd.func34, Tryd.ntmps34
  go_wp2
  go_loop [0, 9] (fun s i => ∃ k : Nat, k ≤ n ∧ i = .int .i64 k ∧ s = .int .u32 (num (sumB r (bs.take k)))) (fun _ i => n - (intOf i).toNat)
  case atStart => exact ⟨0, by omega, rfl, rfl⟩
  case round =>
    obtain ⟨k, hk, rfl, rfl⟩ := hrel
    by_cases hlt : k < n
    · obtain ⟨b, off, rfl, _, hc⟩ := H.out.2.2 (by omega)
      have c0 := hc k hlt
      obtain ⟨b0, b1⟩ := HB.out k
      have C := Lib.hid (take_any (sumB r (bs.take k)) (bs.getD k 0) w HL.out b0 b1)
      have E := Lib.hid (sum_take (k := k) r (by rw [hl.out]; exact hlt) : sumB r (bs.take (k + 1)) = takeB (sumB r (bs.take k)) (bs.getD k 0))
      clear hc
      go_wp2_with fail
      refine C.out.mono ?_
      rintro e w1 ⟨rfl, rfl⟩
      go_wp2_with fail
      go_round
      case rel => exact ⟨k + 1, by omega, by go_num, by rw [E.out]; rfl⟩
      case measure => simp [intOf]; omega
    · go_wp2
      go_ret
      exact ⟨ret_u32 (by rw [List.take_of_length_le (by rw [hl.out]; omega)]), rfl⟩
theorem of_any (A : Option Addr) (n c : Nat) (bs : List Int) (w : World) (B : Nat) (L : Laid w) (h : Rd w B A n bs) (hb : ∀ i, 0 ≤ bs.getD i 0 ∧ bs.getD i 0 ≤ 255) (hn : n ≤ 140737488355328) :
    Calls Tryd.prog 25 #[.slice A n c] w fun e w' => e = .returned (.int .u32 (num (sumB 0xffffffff#32 bs))) ∧ w = w' := by
  have C := Lib.hid (more_any 0xffffffff#32 A n c bs w B L h hb hn)
  clear h hb L
  go_enter Tryd.func25, Tryd.ntmps25
  go_wp2_with fail
  refine C.out.mono ?_
  rintro e w1 ⟨rfl, rfl⟩
  go_wp2
  go_ret
  exact ⟨rfl, rfl⟩
/-! The document's. -/
theorem rstep_any (r : BitVec 32) (w : World) :
    Calls Tryd.prog 39 #[.int .u32 (num r)] w fun e w' => e = .returned (.int .u32 (num (stepB r))) ∧ w = w' := by
  have h0 := num_lo r
  have h1 := num_hi r
  by_cases h : 2147483648 ≤ num r
  · have HE := Lib.hid (num_step r h)
    go_enter Tryd.func39, Tryd.ntmps39
    go_wp2
    go_ret
    exact ⟨ret_u32 HE.out, rfl⟩
  · have HE : Hid (2 * num r = num (stepB r)) := Lib.hid (by rw [← num_step' r (by omega)]; omega)
    go_enter Tryd.func39, Tryd.ntmps39
    go_wp2
    go_ret
    exact ⟨ret_u32 HE.out, rfl⟩
theorem rtake_any (r : BitVec 32) (c : Int) (w : World) (h2 : 0 ≤ c) (h3 : c ≤ 255) :
    Calls Tryd.prog 36 #[.int .u32 (num r), .int .u8 c] w fun e w' => e = .returned (.int .u32 (num (takeB r c))) ∧ w = w' := by
  have h0 := num_lo r
  have h1 := num_hi r
  have E := Lib.hid (num_take r h2 h3)
  go_enter Tryd.func36, Tryd.ntmps36
  go_wp2
  rw [E.out]
  have hx : ∃ x : BitVec 32, x = r ^^^ (byteB c <<< 24) := ⟨_, rfl⟩
  obtain ⟨x, hx⟩ := hx
  have HX : Hid (takeB r c = step8 x) := Lib.hid (by rw [hx]; rfl)
  rw [← hx]
  clear hx
  refine wp_loop_rounds 9 ?_
  iterate 8
    rw [rounds_succ]
    go_wp2_with fail
    refine (rstep_any _ w).mono ?_
    rintro e w1 ⟨rfl, rfl⟩
    go_wp2_with fail
  rw [rounds_succ]
  go_wp2
  go_ret
  exact ⟨ret_u32 (by rw [HX.out]; rfl), rfl⟩
theorem rmore_any (r : BitVec 32) (A : Option Addr) (n c : Nat) (bs : List Int) (w : World) (B : Nat) (h : Rd w B A n bs) (hb : ∀ i, 0 ≤ bs.getD i 0 ∧ bs.getD i 0 ≤ 255) (hn : n ≤ 140737488355328) :
    Calls Tryd.prog 31 #[.int .u32 (num r), .slice A n c] w fun e w' => e = .returned (.int .u32 (num (sumB r bs))) ∧ w = w' := by
  have H := Lib.hid h
  have HB := Lib.hid hb
  have hl := Lib.hid h.1
  clear h hb
  go_enter Tryd.func31, Tryd.ntmps31
  go_wp2
  go_loop [0, 5] (fun s i => ∃ k : Nat, k ≤ n ∧ i = .int .i64 k ∧ s = .int .u32 (num (sumB r (bs.take k)))) (fun _ i => n - (intOf i).toNat)
  case atStart => exact ⟨0, by omega, rfl, rfl⟩
  case round =>
    obtain ⟨k, hk, rfl, rfl⟩ := hrel
    by_cases hlt : k < n
    · obtain ⟨b, off, rfl, _, hc⟩ := H.out.2.2 (by omega)
      have c0 := hc k hlt
      obtain ⟨b0, b1⟩ := HB.out k
      have C := Lib.hid (rtake_any (sumB r (bs.take k)) (bs.getD k 0) w b0 b1)
      have E := Lib.hid (sum_take (k := k) r (by rw [hl.out]; exact hlt) : sumB r (bs.take (k + 1)) = takeB (sumB r (bs.take k)) (bs.getD k 0))
      clear hc
      go_wp2_with fail
      refine C.out.mono ?_
      rintro e w1 ⟨rfl, rfl⟩
      go_wp2_with fail
      go_round
      case rel => exact ⟨k + 1, by omega, by go_num, by rw [E.out]; rfl⟩
      case measure => simp [intOf]; omega
    · go_wp2
      go_ret
      exact ⟨ret_u32 (by rw [List.take_of_length_le (by rw [hl.out]; omega)]), rfl⟩
theorem rof_any (A : Option Addr) (n c : Nat) (bs : List Int) (w : World) (B : Nat) (h : Rd w B A n bs) (hb : ∀ i, 0 ≤ bs.getD i 0 ∧ bs.getD i 0 ≤ 255) (hn : n ≤ 140737488355328) :
    Calls Tryd.prog 21 #[.slice A n c] w fun e w' => e = .returned (.int .u32 (num (sumB 0xffffffff#32 bs))) ∧ w = w' := by
  have C := Lib.hid (rmore_any 0xffffffff#32 A n c bs w B h hb hn)
  clear h hb
  go_enter Tryd.func21, Tryd.ntmps21
  go_wp2_with fail
  refine C.out.mono ?_
  rintro e w1 ⟨rfl, rfl⟩
  go_wp2
  go_ret
  exact ⟨rfl, rfl⟩
/-! What the document tells. -/
theorem digits (w : World) (T : TypeId) : Rd (w.alloc (.cells #[.int .u8 49, .int .u8 50, .int .u8 51, .int .u8 52, .int .u8 53, .int .u8 54, .int .u8 55, .int .u8 56, .int .u8 57] T (9, 10))) (w.heap.size + 1) (some ⟨w.heap.size, 0, none⟩) 9 [49, 50, 51, 52, 53, 54, 55, 56, 57] := by
  refine ⟨rfl, fun e => (by cases e), fun _ => ⟨w.heap.size, 0, rfl, by omega, fun i hi => ?_⟩⟩
  rw [Nat.zero_add, World.cell?_alloc_mark]
  rcases (by omega : i = 0 ∨ i = 1 ∨ i = 2 ∨ i = 3 ∨ i = 4 ∨ i = 5 ∨ i = 6 ∨ i = 7 ∨ i = 8) with rfl | rfl | rfl | rfl | rfl | rfl | rfl | rfl | rfl <;> rfl
theorem digit_bytes : ∀ i, 0 ≤ [(49 : Int), 50, 51, 52, 53, 54, 55, 56, 57].getD i 0 ∧ [(49 : Int), 50, 51, 52, 53, 54, 55, 56, 57].getD i 0 ≤ 255 := by
  intro i
  rcases Nat.lt_or_ge i 9 with h | h
  · rcases (by omega : i = 0 ∨ i = 1 ∨ i = 2 ∨ i = 3 ∨ i = 4 ∨ i = 5 ∨ i = 6 ∨ i = 7 ∨ i = 8) with rfl | rfl | rfl | rfl | rfl | rfl | rfl | rfl | rfl <;> decide
  · have : [(49 : Int), 50, 51, 52, 53, 54, 55, 56, 57].getD i 0 = 0 := by simp [List.getD, List.getElem?_eq_none (show [(49 : Int), 50, 51, 52, 53, 54, 55, 56, 57].length ≤ i by simpa using h)]
    rw [this]; decide
end Go.Proofs.YtpdaggkhnmiioaaDoor.Crc
