
/- Contracts of layer 7: the document's Put. -/
import Derived.Test.YtpdaggkhnmiioaaDoorSealE
import Derived.Outline
namespace Go.Proofs.YtpdaggkhnmiioaaDoor.NumA
open Go.ChangeShapes Go.WideShapes Go.ChangeAt Go.RowKit
open NumM Mem Ref00
set_option linter.unusedVariables false

theorem refPut_own (n : Int) (S : Nat) (w : World) (h0 : 0 ≤ n) (h1 : n ≤ 18446744073709551615) (hS : S ≤ 8) (hp : 0 < S) (hs : sizeB (S : Int) = true) (hfit : bigB n S = false) :
    Calls Tryd.prog 27 #[.int .u64 n, .int .i64 S] w fun e w' => ∃ g cap, e = .returned (.tuple #[.slice (some ⟨g, 0, none⟩) S cap, .int .i64 0]) ∧ w.heap.size ≤ g ∧ S ≤ cap ∧ cap ≤ 9223372036854775807 ∧ Rd w' w'.heap.size (some ⟨g, 0, none⟩) S (digs n S) ∧ Below w.heap.size w w' := by
  obtain ⟨i0, hi, hz0, hz1, hz2⟩ := info_parts infoByte
  have H := Lib.hid hs
  clear hs
  have HN := Lib.hid h1
  clear h1
  go_enter Tryd.func27, Tryd.ntmps27
  go_wp2_with (first | (go_at_call 30; refine (size_is _ true _ H).mono ?_; rintro e w' ⟨rfl, rfl⟩))
  go_loopw [0, 6, 7] (fun m v i wr => ∃ k : Nat, k ≤ S ∧ i = .int .i64 k ∧ m = .int .u64 (sh n k) ∧ wr.ownsRow w.heap.size 5 1 v k (bytesV (digs n k)) ∧ Below w.heap.size w wr) (fun _ _ i _ => S - (intOf i).toNat)
  case atStart => exact ⟨0, Nat.zero_le _, rfl, by rw [sh_zero], World.ownsRow_nil _ _ _ _, Below.refl _ _⟩
  case round =>
    obtain ⟨k, hk, rfl, rfl, hown, hb⟩ := hrel
    have g0 := sh_nonneg h0 k
    have g1 : sh n k ≤ 18446744073709551615 := Int.le_trans (sh_le h0 k) HN.out
    by_cases hlt : k < S
    · have L1 : Hid ((bytesV [sh n k % 256]).length = 1 * 1) := Lib.hid rfl
      go_wp2_with (first
        | (at_builtin; refine wpList_append_own _ rfl _ _ 23 rfl w.heap.size 5 i0 (.int .u8 0) 1 1 Tryd.underlying23 hi hz0 hz1 hz2 rfl (by decide) _ k (bytesV (digs n k)) rfl (hown.alloc _) ⟨wr.heap.size, 0, none⟩ 1 1 (bytesV [sh n k % 256]) rfl L1.out ?c1 (bytesV_one _) (by unfold maxLen; omega) (by omega) (by have := hb.size; simp; omega) ?_))
      case c1 => exact new_cells wr [sh n k % 256] _
      intro v' w2 hown2 hgrow2 _
      have hb2 : Below w.heap.size w w2 := (hb.alloc hb.size _).grown hgrow2 (by have := hb.size; simp; omega) (fun k hk => (hown.lt k hk).1)
      rw [← bytesV_append, ← digs_succ] at hown2
      have HO := Lib.hid hown2
      have HB := Lib.hid hb2
      have HS := Lib.hid (sh_succ n k)
      clear hown2 hgrow2 hb2 hb hown
      go_wp2
      go_roundw
      case rel => exact ⟨k + 1, by omega, by go_num, by rw [HS.out], HO.out, HB.out⟩
      case measure => simp [intOf]; omega
    · obtain rfl : k = S := by omega
      have hbig : ¬ 0 < sh n k := of_decide_eq_false hfit
      clear hfit
      obtain ⟨g, cap, rfl, h1, h2, h3, h4⟩ := own_form hown hp
      have HR := Lib.hid (Rd.of_own hown)
      have HB := Lib.hid hb
      clear hown hb
      go_wp2
      go_ret2
      exact ⟨g, cap, rfl, h1, h3, h4, HR.out, HB.out⟩

end Go.Proofs.YtpdaggkhnmiioaaDoor.NumA
namespace Go.Proofs.YtpdaggkhnmiioaaDoor.Seal
open Go.ChangeShapes Go.WideShapes Go.ChangeAt Go.RowKit Go.Deep
open Mem Rec Crc Blk Ref00
set_option linter.unusedVariables false

theorem big8 {n : Int} (h0 : 0 ≤ n) (h1 : n ≤ 18446744073709551615) : NumA.bigB n 8 = false := by
  have : NumA.sh n 8 = 0 := by unfold NumA.sh; omega
  simp [NumA.bigB, this]
theorem big4 {n : Int} (h0 : 0 ≤ n) (h1 : n ≤ 4294967295) : NumA.bigB n 4 = false := by
  have : NumA.sh n 4 = 0 := by unfold NumA.sh; omega
  simp [NumA.bigB, this]
theorem behind_any (n : Int) (A : Option Addr) (m c : Nat) (bs : List Int) (w : World) (h0 : 0 ≤ n) (h1 : n ≤ 18446744073709551615) (hm : m ≤ 44) (hr : Rd w w.heap.size A m bs) (hA : A = none → c = 0) :
    Calls Tryd.prog 26 #[.int .u64 n, .slice A m c] w fun e w' => ∃ g cap, e = .returned (.slice (some ⟨g, 0, none⟩) 60 cap) ∧ w.heap.size ≤ g ∧ 60 ≤ cap ∧ cap ≤ 9223372036854775807 ∧ Rd w' w'.heap.size (some ⟨g, 0, none⟩) 60 (mid n bs) ∧ Below w.heap.size w w' := by
  have C1 := Lib.hid (NumA.refPut_own n 8 w h0 h1 (by omega) (by omega) (by decide) (big8 h0 h1))
  have HR := Lib.hid hr
  have HA := Lib.hid hA
  have hl := hr.1
  have HMid : Hid (bytesV (((([] ++ NumA.digs n 8) ++ bs) ++ List.replicate (44 - m) 0) ++ NumA.digs n 8) = bytesV (mid n bs)) := Lib.hid (by unfold mid zs; rw [hl]; simp)
  have HL := Lib.hid hl
  obtain ⟨i0, hi, hz0, hz1, hz2⟩ := info_parts infoByte
  clear hr hA hl
  go_enter Tryd.func26, Tryd.ntmps26
  go_wp2_with fail
  refine C1.out.mono ?_
  rintro e w1 ⟨g1, c1, rfl, hg1, hc1, hc1', r1, b1⟩
  have R1 := Lib.hid r1
  have HB1 := Lib.hid b1
  clear r1 b1
  go_wp2_with (first
    | (at_builtin; refine append_bytes rfl (.tmp 13) (.tmp 14) 23 rfl w1.heap.size 5 i0 Tryd.underlying23 hi hz0 hz1 hz2 _ 0 [] rfl (World.ownsRow_nil _ _ _ _) _ (some ⟨g1, 0, none⟩) 8 c1 (NumA.digs n 8) rfl R1.out (fun e => (by cases e)) (by omega) (Nat.le_refl _) ?_; intro v2 w2 own2 grow2; have HO2 := Lib.hid own2; have HB2 := Lib.hid ((Below.refl w1.heap.size w1).grown grow2 (Nat.le_refl _) (fun k hk => by cases hk)); clear own2 grow2)
    | (at_builtin; refine append_bytes rfl (.tmp 16) (.tmp 17) 23 rfl w1.heap.size 5 i0 Tryd.underlying23 hi hz0 hz1 hz2 _ (0 + 8) ([] ++ NumA.digs n 8) rfl HO2.out _ A m c bs rfl (HR.out.below (bTrans HB1.out HB2.out)) HA.out (by omega) (by have := HB2.out.size; omega) ?_; intro v3 w3 own3 grow3; have HB3 := Lib.hid (HB2.out.grown grow3 (by have := HB2.out.size; omega) (fun k hk => (HO2.out.lt k hk).1)); have HO3 := Lib.hid own3; clear own3 grow3)
    | (at_builtin; refine append_zeros rfl (.tmp 19) (.tmp 22) 23 3 rfl w1.heap.size 5 i0 .i64 .i64 Tryd.underlying23 Tryd.underlying3 hi hz0 hz1 hz2 _ (0 + 8 + m) (([] ++ NumA.digs n 8) ++ bs) rfl HO3.out (by omega) (44 - m) _ rfl (by omega) (by omega) (by have := HB3.out.size; omega) ?_; intro v4 w4 own4 grow4; have HB4 := Lib.hid (HB3.out.grown grow4 (by have := HB3.out.size; omega) (fun k hk => (HO3.out.lt k hk).1)); have HO4 := Lib.hid own4; clear own4 grow4)
    | (at_builtin; refine append_bytes rfl (.tmp 24) (.tmp 25) 23 rfl w1.heap.size 5 i0 Tryd.underlying23 hi hz0 hz1 hz2 _ (0 + 8 + m + (44 - m)) ((([] ++ NumA.digs n 8) ++ bs) ++ List.replicate (44 - m) 0) rfl HO4.out _ (some ⟨g1, 0, none⟩) 8 c1 (NumA.digs n 8) rfl (R1.out.below HB4.out) (fun e => (by cases e)) (by omega) (by have := HB4.out.size; omega) ?_; intro v5 w5 own5 grow5; have HB5 := Lib.hid (HB4.out.grown grow5 (by have := HB4.out.size; omega) (fun k hk => (HO4.out.lt k hk).1)); have HO5 := Lib.hid own5; clear own5 grow5))
  have e60 : 0 + 8 + m + (44 - m) + 8 = 60 := by omega
  rw [HMid.out, e60] at HO5
  obtain ⟨g, cap, rfl, p1, p2, p3, p4⟩ := own_form HO5.out (by omega)
  go_ret
  exact ⟨g, cap, rfl, by have := HB1.out.size; omega, p3, p4, Rd.of_own HO5.out, bTrans HB1.out HB5.out⟩
end Go.Proofs.YtpdaggkhnmiioaaDoor.Seal
