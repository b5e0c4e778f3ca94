
/- Layer 14: the document's IsOpen and Next. -/
import Derived.Test.YtgaeelhbdgpobaaBlackD
namespace Go.Proofs.Ytgaeelhbdgpobaa.Black
open Go.ChangeShapes Go.WideShapes Go.ChangeAt Go.RowKit
open Mem Arr Lst

theorem refOpen_any (A : Option Addr) (n c : Nat) (P S U : Nat → Int) (p now : Int) (w : World) (h : Quotes w w.heap.size A n P S U) (_hn : n ≤ 9223372036854775807) :
    Calls Try.prog 17 #[.slice A n c, .int .i64 p, .int .u64 now] w fun e w' => e = .returned (.bool (openB n P U p now)) ∧ w = w' := by
  by_cases h0 : 0 ≤ p ∧ p < n
  · obtain ⟨k, rfl⟩ := Int.eq_ofNat_of_zero_le h0.1
    have hk : k < n := by omega
    obtain ⟨b, off, rfl⟩ := quotes_at h (by omega)
    obtain ⟨hbl, c0, c1, c2⟩ := quote_cells h (Below.refl _ _) rfl hk
    have ek : ((k : Int)).toNat = k := by simp
    by_cases h1 : U k ≤ now
    · by_cases h2 : 1 ≤ P k
      · have HV : Hid (openB n P U k now = true) := Lib.hid (decide_eq_true ⟨h0, by rw [ek]; exact ⟨h1, h2⟩⟩)
        clear ek h
        go_enter Try.func17, Try.ntmps17
        go_wp2
        go_ret
        exact ⟨ret_bool HV.out.symm, rfl⟩
      · have HV : Hid (openB n P U k now = false) := Lib.hid (decide_eq_false (by rw [ek]; omega))
        clear ek h
        go_enter Try.func17, Try.ntmps17
        go_wp2
        go_ret
        exact ⟨ret_bool HV.out.symm, rfl⟩
    · have HV : Hid (openB n P U k now = false) := Lib.hid (decide_eq_false (by rw [ek]; omega))
      clear ek h
      go_enter Try.func17, Try.ntmps17
      go_wp2
      go_ret
      exact ⟨ret_bool HV.out.symm, rfl⟩
  · have HV : Hid (openB n P U p now = false) := Lib.hid (decide_eq_false (fun e => h0 e.1))
    by_cases hp : p < 0
    · clear h0 h
      go_enter Try.func17, Try.ntmps17
      go_wp2
      go_ret
      exact ⟨ret_bool HV.out.symm, rfl⟩
    · have hp2 : (n : Int) ≤ p := by omega
      clear h0 h
      go_enter Try.func17, Try.ntmps17
      go_wp2
      go_ret
      exact ⟨ret_bool HV.out.symm, rfl⟩

theorem nx_take {U : Nat → Int} {now : Int} {k : Nat} (h : now < U k) (h' : (nx U now k).2 = false ∨ U k < (nx U now k).1) : nx U now (k + 1) = (U k, true) := by
  show (if _ then _ else _) = _
  rw [if_pos ⟨h, h'⟩]
theorem nx_leave {U : Nat → Int} {now : Int} {k : Nat} (h : ¬ (now < U k ∧ ((nx U now k).2 = false ∨ U k < (nx U now k).1))) : nx U now (k + 1) = nx U now k := by
  show (if _ then _ else _) = _
  rw [if_neg h]

theorem refNext_any (A : Option Addr) (n c : Nat) (P S U : Nat → Int) (now : Int) (w : World) (h : Quotes w w.heap.size A n P S U) (hn : n ≤ 200) :
    Calls Try.prog 15 #[.slice A n c, .int .u64 now] w fun e w' => e = .returned (.tuple #[.int .u64 (nx U now n).1, .bool (nx U now n).2]) ∧ Below w.heap.size w w' := by
  have H := Lib.hid h
  clear h
  go_enter Try.func15, Try.ntmps15
  go_wp2
  go_loopw [6, 7, 8] (fun l s i wr => ∃ (k : Nat) (z : Int) (t : Bool), k ≤ n ∧ i = .int .i64 k ∧ l = .int .u64 z ∧ s = .bool t ∧ Hid (nx U now k = (z, t)) ∧ Below w.heap.size w wr) (fun _ _ i _ => n - (intOf i).toNat)
  case atStart => exact ⟨0, _, _, by omega, rfl, rfl, rfl, Lib.hid rfl, Below.refl _ _⟩
  case round =>
    obtain ⟨k, z, t, hk, rfl, rfl, rfl, hz, hb⟩ := hrel
    by_cases hlt : k < n
    · obtain ⟨b, off, rfl⟩ := quotes_at H.out (by omega)
      obtain ⟨hbl, c0, c1, c2⟩ := quote_cells H.out hb rfl hlt
      by_cases h1 : now < U k
      · cases t with
        | false =>
          have N := Lib.hid (nx_take h1 (.inl (by rw [hz.out])))
          go_wp2
          go_roundw
          case rel => exact ⟨k + 1, _, _, by omega, by go_num, rfl, rfl, N, hb⟩
          case measure => simp [intOf]; omega
        | true =>
          by_cases h2 : U k < z
          · have N := Lib.hid (nx_take h1 (.inr (by rw [hz.out]; exact h2)))
            go_wp2
            go_roundw
            case rel => exact ⟨k + 1, _, _, by omega, by go_num, rfl, rfl, N, hb⟩
            case measure => simp [intOf]; omega
          · have N : Hid (nx U now (k + 1) = (z, true)) := Lib.hid ((nx_leave (by rw [hz.out]; simp; omega)).trans hz.out)
            go_wp2
            go_roundw
            case rel => exact ⟨k + 1, _, _, by omega, by go_num, rfl, rfl, N, hb⟩
            case measure => simp [intOf]; omega
      · have N : Hid (nx U now (k + 1) = (z, t)) := Lib.hid ((nx_leave (fun e => h1 e.1)).trans hz.out)
        go_wp2
        go_roundw
        case rel => exact ⟨k + 1, _, _, by omega, by go_num, rfl, rfl, N, hb⟩
        case measure => simp [intOf]; omega
    · obtain rfl : k = n := by omega
      go_wp2
      go_ret2
      exact ⟨ret_ub (by rw [hz.out]) (by rw [hz.out]), hb⟩
end Go.Proofs.Ytgaeelhbdgpobaa.Black
