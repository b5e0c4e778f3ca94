
/- Contracts of Get, the program's and the document's. -/
import Derived.Test.YtpdaggkhnmiioaaDoorNumP
import Derived.Test.YtpdaggkhnmiioaaDoorMem
import Derived.Laws.BitsAllLaws
namespace Go.Proofs.YtpdaggkhnmiioaaDoor.NumA
open Go.ChangeShapes Go.WideShapes Go.ChangeAt Go.RowKit
open NumM Mem
set_option linter.unusedVariables false

theorem or_zero {c : Int} (h : 0 ≤ c) (h' : c ≤ 255) : bits .or .u64 0 c = c := by
  rw [u64_or 0 c (by omega) (by omega) h (by omega)]; simp; omega
theorem or_hi {x c : Int} (j : Nat) (h0 : 0 ≤ x) (h1 : x < (2 : Int) ^ j) (hj : j ≤ 56) (hc : 0 ≤ c) (hc' : c ≤ 255) : bits .or .u64 x (c * (2 : Int) ^ j) = x + c * (2 : Int) ^ j := by
  obtain ⟨X, rfl⟩ := Int.eq_ofNat_of_zero_le h0
  obtain ⟨C, rfl⟩ := Int.eq_ofNat_of_zero_le hc
  have hX : X < 2 ^ j := by exact_mod_cast h1
  have hp : (2 : Nat) ^ j ≤ 2 ^ 56 := Nat.pow_le_pow_right (by omega) hj
  have hm : C * 2 ^ j ≤ 255 * 2 ^ 56 := Nat.mul_le_mul (by omega) hp
  have e : ((C : Int) * (2 : Int) ^ j) = ((C * 2 ^ j : Nat) : Int) := by push_cast; rfl
  rw [e, u64_or _ _ (by omega) (by omega) (by omega) (by omega)]
  simp only [Int.toNat_natCast]
  have := Nat.two_pow_add_eq_or_of_lt hX C
  rw [Nat.or_comm, Nat.mul_comm C, ← this]
  push_cast
  omega
theorem or_1 {x c : Int} (h0 : 0 ≤ x) (h1 : x < 256) (hc : 0 ≤ c) (hc' : c ≤ 255) : bits .or .u64 x (c * 256) = x + c * 256 := or_hi 8 h0 h1 (by omega) hc hc'
theorem or_2 {x c : Int} (h0 : 0 ≤ x) (h1 : x < 65536) (hc : 0 ≤ c) (hc' : c ≤ 255) : bits .or .u64 x (c * 65536) = x + c * 65536 := or_hi 16 h0 h1 (by omega) hc hc'
theorem or_3 {x c : Int} (h0 : 0 ≤ x) (h1 : x < 16777216) (hc : 0 ≤ c) (hc' : c ≤ 255) : bits .or .u64 x (c * 16777216) = x + c * 16777216 := or_hi 24 h0 h1 (by omega) hc hc'
theorem or_4 {x c : Int} (h0 : 0 ≤ x) (h1 : x < 4294967296) (hc : 0 ≤ c) (hc' : c ≤ 255) : bits .or .u64 x (c * 4294967296) = x + c * 4294967296 := or_hi 32 h0 h1 (by omega) hc hc'
theorem or_5 {x c : Int} (h0 : 0 ≤ x) (h1 : x < 1099511627776) (hc : 0 ≤ c) (hc' : c ≤ 255) : bits .or .u64 x (c * 1099511627776) = x + c * 1099511627776 := or_hi 40 h0 h1 (by omega) hc hc'
theorem or_6 {x c : Int} (h0 : 0 ≤ x) (h1 : x < 281474976710656) (hc : 0 ≤ c) (hc' : c ≤ 255) : bits .or .u64 x (c * 281474976710656) = x + c * 281474976710656 := or_hi 48 h0 h1 (by omega) hc hc'
theorem or_7 {x c : Int} (h0 : 0 ≤ x) (h1 : x < 72057594037927936) (hc : 0 ≤ c) (hc' : c ≤ 255) : bits .or .u64 x (c * 72057594037927936) = x + c * 72057594037927936 := or_hi 56 h0 h1 (by omega) hc hc'
theorem get1 (b off at_ n cap : Nat) (c0 : Int) (w : World) (hn : at_ + 1 ≤ n) (hcap : n ≤ cap) (hm : n ≤ 140737488351232) (hm' : cap ≤ 9223372036854775807)
    (h0 : w.cell? ⟨b, off + at_, none⟩ = some (.int .u8 c0)) (b0 : 0 ≤ c0) (b0' : c0 ≤ 255) :
    Calls Tryd.prog 35 #[.slice (some ⟨b, off, none⟩) n cap, .int .i64 at_, .int .i64 1] w fun e w' => e = .returned (.tuple #[.int .u64 (c0), .int .i64 0]) ∧ w = w' := by
  go_enter Tryd.func35, Tryd.ntmps35
  go_wp2_with (first | (go_at_call 37; refine (isSize_any _ _).mono ?_; rintro e w' ⟨rfl, rfl⟩))
  refine wp_loop_rounds 2 ?_
  iterate 2 (rw [rounds_succ]; go_wp2)
  go_ret2
  exact ⟨ret_two (by rw [or_zero b0 b0']) rfl, rfl⟩
theorem refGet1 (b off at_ n cap : Nat) (c0 : Int) (w : World) (hn : at_ + 1 ≤ n) (hcap : n ≤ cap) (hm : n ≤ 140737488351232) (hm' : cap ≤ 9223372036854775807)
    (h0 : w.cell? ⟨b, off + at_, none⟩ = some (.int .u8 c0)) (b0 : 0 ≤ c0) (b0' : c0 ≤ 255) :
    Calls Tryd.prog 20 #[.slice (some ⟨b, off, none⟩) n cap, .int .i64 at_, .int .i64 1] w fun e w' => e = .returned (.tuple #[.int .u64 (c0), .int .i64 0]) ∧ w = w' := by
  go_enter Tryd.func20, Tryd.ntmps20
  go_wp2_with (first | (go_at_call 30; refine (size_any _ _).mono ?_; rintro e w' ⟨rfl, rfl⟩))
  refine wp_loop_rounds 2 ?_
  iterate 2 (rw [rounds_succ]; go_wp2)
  go_ret2
  exact ⟨ret_two (by omega) rfl, rfl⟩
theorem get2 (b off at_ n cap : Nat) (c0 c1 : Int) (w : World) (hn : at_ + 2 ≤ n) (hcap : n ≤ cap) (hm : n ≤ 140737488351232) (hm' : cap ≤ 9223372036854775807)
    (h0 : w.cell? ⟨b, off + at_, none⟩ = some (.int .u8 c0)) (h1 : w.cell? ⟨b, off + at_ + 1, none⟩ = some (.int .u8 c1)) (b0 : 0 ≤ c0) (b0' : c0 ≤ 255) (b1 : 0 ≤ c1) (b1' : c1 ≤ 255) :
    Calls Tryd.prog 35 #[.slice (some ⟨b, off, none⟩) n cap, .int .i64 at_, .int .i64 2] w fun e w' => e = .returned (.tuple #[.int .u64 (c0 + c1 * 256), .int .i64 0]) ∧ w = w' := by
  go_enter Tryd.func35, Tryd.ntmps35
  go_wp2_with (first | (go_at_call 37; refine (isSize_any _ _).mono ?_; rintro e w' ⟨rfl, rfl⟩))
  refine wp_loop_rounds 3 ?_
  iterate 3 (rw [rounds_succ]; go_wp2)
  go_ret2
  exact ⟨ret_two (by rw [or_zero b0 b0', or_1 (by omega) (by omega) b1 b1']) rfl, rfl⟩
theorem refGet2 (b off at_ n cap : Nat) (c0 c1 : Int) (w : World) (hn : at_ + 2 ≤ n) (hcap : n ≤ cap) (hm : n ≤ 140737488351232) (hm' : cap ≤ 9223372036854775807)
    (h0 : w.cell? ⟨b, off + at_, none⟩ = some (.int .u8 c0)) (h1 : w.cell? ⟨b, off + (at_ + 1), none⟩ = some (.int .u8 c1)) (b0 : 0 ≤ c0) (b0' : c0 ≤ 255) (b1 : 0 ≤ c1) (b1' : c1 ≤ 255) :
    Calls Tryd.prog 20 #[.slice (some ⟨b, off, none⟩) n cap, .int .i64 at_, .int .i64 2] w fun e w' => e = .returned (.tuple #[.int .u64 (c0 + c1 * 256), .int .i64 0]) ∧ w = w' := by
  go_enter Tryd.func20, Tryd.ntmps20
  go_wp2_with (first | (go_at_call 30; refine (size_any _ _).mono ?_; rintro e w' ⟨rfl, rfl⟩))
  refine wp_loop_rounds 3 ?_
  iterate 3 (rw [rounds_succ]; go_wp2)
  go_ret2
  exact ⟨ret_two (by omega) rfl, rfl⟩
theorem get4 (b off at_ n cap : Nat) (c0 c1 c2 c3 : Int) (w : World) (hn : at_ + 4 ≤ n) (hcap : n ≤ cap) (hm : n ≤ 140737488351232) (hm' : cap ≤ 9223372036854775807)
    (h0 : w.cell? ⟨b, off + at_, none⟩ = some (.int .u8 c0)) (h1 : w.cell? ⟨b, off + at_ + 1, none⟩ = some (.int .u8 c1)) (h2 : w.cell? ⟨b, off + at_ + 2, none⟩ = some (.int .u8 c2)) (h3 : w.cell? ⟨b, off + at_ + 3, none⟩ = some (.int .u8 c3)) (b0 : 0 ≤ c0) (b0' : c0 ≤ 255) (b1 : 0 ≤ c1) (b1' : c1 ≤ 255) (b2 : 0 ≤ c2) (b2' : c2 ≤ 255) (b3 : 0 ≤ c3) (b3' : c3 ≤ 255) :
    Calls Tryd.prog 35 #[.slice (some ⟨b, off, none⟩) n cap, .int .i64 at_, .int .i64 4] w fun e w' => e = .returned (.tuple #[.int .u64 (c0 + c1 * 256 + c2 * 65536 + c3 * 16777216), .int .i64 0]) ∧ w = w' := by
  go_enter Tryd.func35, Tryd.ntmps35
  go_wp2_with (first | (go_at_call 37; refine (isSize_any _ _).mono ?_; rintro e w' ⟨rfl, rfl⟩))
  refine wp_loop_rounds 5 ?_
  iterate 5 (rw [rounds_succ]; go_wp2)
  go_ret2
  exact ⟨ret_two (by rw [or_zero b0 b0', or_1 (by omega) (by omega) b1 b1', or_2 (by omega) (by omega) b2 b2', or_3 (by omega) (by omega) b3 b3']) rfl, rfl⟩
theorem refGet4 (b off at_ n cap : Nat) (c0 c1 c2 c3 : Int) (w : World) (hn : at_ + 4 ≤ n) (hcap : n ≤ cap) (hm : n ≤ 140737488351232) (hm' : cap ≤ 9223372036854775807)
    (h0 : w.cell? ⟨b, off + at_, none⟩ = some (.int .u8 c0)) (h1 : w.cell? ⟨b, off + (at_ + 1), none⟩ = some (.int .u8 c1)) (h2 : w.cell? ⟨b, off + (at_ + 2), none⟩ = some (.int .u8 c2)) (h3 : w.cell? ⟨b, off + (at_ + 3), none⟩ = some (.int .u8 c3)) (b0 : 0 ≤ c0) (b0' : c0 ≤ 255) (b1 : 0 ≤ c1) (b1' : c1 ≤ 255) (b2 : 0 ≤ c2) (b2' : c2 ≤ 255) (b3 : 0 ≤ c3) (b3' : c3 ≤ 255) :
    Calls Tryd.prog 20 #[.slice (some ⟨b, off, none⟩) n cap, .int .i64 at_, .int .i64 4] w fun e w' => e = .returned (.tuple #[.int .u64 (c0 + c1 * 256 + c2 * 65536 + c3 * 16777216), .int .i64 0]) ∧ w = w' := by
  go_enter Tryd.func20, Tryd.ntmps20
  go_wp2_with (first | (go_at_call 30; refine (size_any _ _).mono ?_; rintro e w' ⟨rfl, rfl⟩))
  refine wp_loop_rounds 5 ?_
  iterate 5 (rw [rounds_succ]; go_wp2)
  go_ret2
  exact ⟨ret_two (by omega) rfl, rfl⟩
theorem get8 (b off at_ n cap : Nat) (c0 c1 c2 c3 c4 c5 c6 c7 : Int) (w : World) (hn : at_ + 8 ≤ n) (hcap : n ≤ cap) (hm : n ≤ 140737488351232) (hm' : cap ≤ 9223372036854775807)
    (h0 : w.cell? ⟨b, off + at_, none⟩ = some (.int .u8 c0)) (h1 : w.cell? ⟨b, off + at_ + 1, none⟩ = some (.int .u8 c1)) (h2 : w.cell? ⟨b, off + at_ + 2, none⟩ = some (.int .u8 c2)) (h3 : w.cell? ⟨b, off + at_ + 3, none⟩ = some (.int .u8 c3)) (h4 : w.cell? ⟨b, off + at_ + 4, none⟩ = some (.int .u8 c4)) (h5 : w.cell? ⟨b, off + at_ + 5, none⟩ = some (.int .u8 c5)) (h6 : w.cell? ⟨b, off + at_ + 6, none⟩ = some (.int .u8 c6)) (h7 : w.cell? ⟨b, off + at_ + 7, none⟩ = some (.int .u8 c7)) (b0 : 0 ≤ c0) (b0' : c0 ≤ 255) (b1 : 0 ≤ c1) (b1' : c1 ≤ 255) (b2 : 0 ≤ c2) (b2' : c2 ≤ 255) (b3 : 0 ≤ c3) (b3' : c3 ≤ 255) (b4 : 0 ≤ c4) (b4' : c4 ≤ 255) (b5 : 0 ≤ c5) (b5' : c5 ≤ 255) (b6 : 0 ≤ c6) (b6' : c6 ≤ 255) (b7 : 0 ≤ c7) (b7' : c7 ≤ 255) :
    Calls Tryd.prog 35 #[.slice (some ⟨b, off, none⟩) n cap, .int .i64 at_, .int .i64 8] w fun e w' => e = .returned (.tuple #[.int .u64 (c0 + c1 * 256 + c2 * 65536 + c3 * 16777216 + c4 * 4294967296 + c5 * 1099511627776 + c6 * 281474976710656 + c7 * 72057594037927936), .int .i64 0]) ∧ w = w' := by
  go_enter Tryd.func35, Tryd.ntmps35
  go_wp2_with (first | (go_at_call 37; refine (isSize_any _ _).mono ?_; rintro e w' ⟨rfl, rfl⟩))
  refine wp_loop_rounds 9 ?_
  iterate 9 (rw [rounds_succ]; go_wp2)
  go_ret2
  exact ⟨ret_two (by rw [or_zero b0 b0', or_1 (by omega) (by omega) b1 b1', or_2 (by omega) (by omega) b2 b2', or_3 (by omega) (by omega) b3 b3', or_4 (by omega) (by omega) b4 b4', or_5 (by omega) (by omega) b5 b5', or_6 (by omega) (by omega) b6 b6', or_7 (by omega) (by omega) b7 b7']) rfl, rfl⟩
theorem refGet8 (b off at_ n cap : Nat) (c0 c1 c2 c3 c4 c5 c6 c7 : Int) (w : World) (hn : at_ + 8 ≤ n) (hcap : n ≤ cap) (hm : n ≤ 140737488351232) (hm' : cap ≤ 9223372036854775807)
    (h0 : w.cell? ⟨b, off + at_, none⟩ = some (.int .u8 c0)) (h1 : w.cell? ⟨b, off + (at_ + 1), none⟩ = some (.int .u8 c1)) (h2 : w.cell? ⟨b, off + (at_ + 2), none⟩ = some (.int .u8 c2)) (h3 : w.cell? ⟨b, off + (at_ + 3), none⟩ = some (.int .u8 c3)) (h4 : w.cell? ⟨b, off + (at_ + 4), none⟩ = some (.int .u8 c4)) (h5 : w.cell? ⟨b, off + (at_ + 5), none⟩ = some (.int .u8 c5)) (h6 : w.cell? ⟨b, off + (at_ + 6), none⟩ = some (.int .u8 c6)) (h7 : w.cell? ⟨b, off + (at_ + 7), none⟩ = some (.int .u8 c7)) (b0 : 0 ≤ c0) (b0' : c0 ≤ 255) (b1 : 0 ≤ c1) (b1' : c1 ≤ 255) (b2 : 0 ≤ c2) (b2' : c2 ≤ 255) (b3 : 0 ≤ c3) (b3' : c3 ≤ 255) (b4 : 0 ≤ c4) (b4' : c4 ≤ 255) (b5 : 0 ≤ c5) (b5' : c5 ≤ 255) (b6 : 0 ≤ c6) (b6' : c6 ≤ 255) (b7 : 0 ≤ c7) (b7' : c7 ≤ 255) :
    Calls Tryd.prog 20 #[.slice (some ⟨b, off, none⟩) n cap, .int .i64 at_, .int .i64 8] w fun e w' => e = .returned (.tuple #[.int .u64 (c0 + c1 * 256 + c2 * 65536 + c3 * 16777216 + c4 * 4294967296 + c5 * 1099511627776 + c6 * 281474976710656 + c7 * 72057594037927936), .int .i64 0]) ∧ w = w' := by
  go_enter Tryd.func20, Tryd.ntmps20
  go_wp2_with (first | (go_at_call 30; refine (size_any _ _).mono ?_; rintro e w' ⟨rfl, rfl⟩))
  refine wp_loop_rounds 9 ?_
  iterate 9 (rw [rounds_succ]; go_wp2)
  go_ret2
  exact ⟨ret_two (by omega) rfl, rfl⟩
end Go.Proofs.YtpdaggkhnmiioaaDoor.NumA
