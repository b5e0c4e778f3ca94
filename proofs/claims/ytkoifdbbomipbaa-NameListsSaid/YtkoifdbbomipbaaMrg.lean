
/- Exchanges, rotations and merges of a row of places, by whatever comparison: the library's, over the row's places as a function. -/
import Derived.Test.YtkoifdbbomipbaaIns
import Derived.Test.YtkoifdbbomipbaaSrt
namespace Go.Proofs.Ytkoifdbbomipbaa.Mrg
open Go.ChangeShapes Go.WideShapes Go.ChangeAt Go.RowKit
open Mem Arr Lst Name Ins Srt

theorem Per.lt {G H : Nat → Nat} {a b len n : Nat} (h : Per G H a b) (hb : b ≤ len) (hG : ∀ i, i < len → G i < n) : ∀ i, i < len → H i < n := by
  intro i hi
  by_cases hab : a ≤ i ∧ i < b
  · obtain ⟨j, _, j2, e⟩ := h.fro i hab.1 hab.2
    rw [e]; exact hG j (by omega)
  · rw [h.out i (by omega)]; exact hG i hi
theorem pair_vals (G : Nat → Nat) (p q i : Nat) : (if i = p then intsV G q else if i = q then intsV G p else intsV G i) = intsV (fun i => if i = p then G q else if i = q then G p else G i) i := by
  show _ = Value.int .i64 ((if i = p then G q else if i = q then G p else G i : Nat) : Int)
  unfold intsV
  split
  · rfl
  · split <;> rfl
set_option maxHeartbeats 2000000 in
theorem swapRange_any (C : Value) (g cap len a c n base : Nat) (w : World) (G : Nat → Nat) (ho : Own w base 3 (.slice (some ⟨g, 0, none⟩) len cap) len (intsV G)) (h1 : a + n ≤ c) (h2 : c + n ≤ len) (hlen : len ≤ 17592186044415) (za zc zn : Int) (ea : za = a) (ec : zc = c) (en : zn = n) :
    Calls Try.prog 30 #[(.slice (some ⟨g, 0, none⟩) len cap), .int .i64 za, .int .i64 zc, .int .i64 zn, C] w fun e w' => e = .returned (.tuple #[]) ∧ Own w' base 3 (.slice (some ⟨g, 0, none⟩) len cap) len (intsV (swapR G a c n)) ∧ Chg g w w' := by
  subst ea ec en
  have HO := Lib.hid ho
  clear ho
  go_enter Try.func30, Try.ntmps30
  go_wp2
  go_loopw [10] (fun iv wr => ∃ i : Nat, i ≤ n ∧ iv = .int .i64 i ∧ Hid (Own wr base 3 (.slice (some ⟨g, 0, none⟩) len cap) len (intsV (swapR G a c i))) ∧ Hid (Chg g w wr)) (fun iv _ => n - (intOf iv).toNat)
  case atStart => exact ⟨0, by omega, rfl, Lib.hid (by rw [swapR_zero]; exact HO.out), Lib.hid (Chg.refl g w)⟩
  case round =>
    obtain ⟨i, hi, rfl, OI, CI⟩ := hrel
    by_cases hlt : i < n
    · have ca : wr.cell? ⟨g, a + i, none⟩ = some (.int .i64 (swapR G a c i (a + i) : Nat)) := OI.out.cell (by omega)
      have cc : wr.cell? ⟨g, c + i, none⟩ = some (.int .i64 (swapR G a c i (c + i) : Nat)) := OI.out.cell (by omega)
      have fa : wr.frozen? ⟨g, a + i, none⟩ = false := OI.out.free _
      have fc : wr.frozen? ⟨g, c + i, none⟩ = false := OI.out.free _
      obtain ⟨x, hx⟩ : ∃ x, a + i = x := ⟨_, rfl⟩
      obtain ⟨y, hy⟩ : ∃ y, c + i = y := ⟨_, rfl⟩
      rw [hx] at ca fa
      rw [hy] at cc fc
      have W1 : IntKind.i64.wrap ((a : Int) + (i : Int)) = (x : Int) := by rw [IntKind.wrap_i64]; omega
      have W2 : IntKind.i64.wrap ((c : Int) + (i : Int)) = (y : Int) := by rw [IntKind.wrap_i64]; omega
      have z1 : (x : Int) < (len : Int) := by omega
      have z2 : (y : Int) < (len : Int) := by omega
      have ON : Hid (Own ((wr.setCell ⟨g, x, none⟩ (.int .i64 (swapR G a c i y : Nat))).setCell ⟨g, y, none⟩ (.int .i64 (swapR G a c i x : Nat))) base 3 (.slice (some ⟨g, 0, none⟩) len cap) len (intsV (swapR G a c (i + 1)))) := Lib.hid (by
        refine Own.congr (Own.stored (Own.stored OI.out (k := x) (.int .i64 (swapR G a c i y : Nat))) (k := y) (.int .i64 (swapR G a c i x : Nat))) (fun q _ => ?_)
        have e := pair_vals (swapR G a c i) y x q
        unfold intsV at e ⊢
        rw [e, ← swapR_next (by omega)]
        subst hx hy; rfl)
      have hne : x ≠ y := by omega
      have hne' : y ≠ x := by omega
      obtain ⟨u, hu⟩ : ∃ u, swapR G a c i x = u := ⟨_, rfl⟩
      obtain ⟨v, hv⟩ : ∃ v, swapR G a c i y = v := ⟨_, rfl⟩
      rw [hu] at ca ON
      rw [hv] at cc ON
      have CN : Hid (Chg g w ((wr.setCell ⟨g, x, none⟩ (.int .i64 (v : Nat))).setCell ⟨g, y, none⟩ (.int .i64 (u : Nat)))) := Lib.hid ((CI.out.set _ _).set _ _)
      clear hx hy hu hv OI CI
      go_wp2
      go_big_region
      all_goals go_wp2
      go_roundw
      case rel => exact ⟨i + 1, by omega, by go_num, Lib.hid ON.out, Lib.hid (CN.out.drew 1)⟩
      case measure => simp [intOf]; omega
    · obtain rfl : i = n := by omega
      go_wp2
      go_end0
      exact ⟨rfl, OI.out, CI.out⟩
set_option maxHeartbeats 2000000 in
theorem rotate_any (C : Value) (g cap len a m b base : Nat) (w : World) (G : Nat → Nat) (ho : Own w base 3 (.slice (some ⟨g, 0, none⟩) len cap) len (intsV G)) (h1 : a < m) (h2 : m < b) (h3 : b ≤ len) (hlen : len ≤ 17592186044415) (za zm zb : Int) (ea : za = a) (em : zm = m) (eb : zb = b) :
    Calls Try.prog 29 #[(.slice (some ⟨g, 0, none⟩) len cap), .int .i64 za, .int .i64 zm, .int .i64 zb, C] w fun e w' => e = .returned (.tuple #[]) ∧ Own w' base 3 (.slice (some ⟨g, 0, none⟩) len cap) len (intsV (rot G a m b)) ∧ Chg g w w' := by
  subst ea em eb
  have HO := Lib.hid ho
  clear ho
  go_enter Try.func29, Try.ntmps29
  go_wp2
  go_loopw [10, 11] (fun iv jv wr => ∃ (i j : Nat) (H : Nat → Nat), 0 < i ∧ 0 < j ∧ i ≤ m - a ∧ j ≤ b - m ∧ iv = .int .i64 i ∧ jv = .int .i64 j ∧ Hid (Own wr base 3 (.slice (some ⟨g, 0, none⟩) len cap) len (intsV H)) ∧ Hid (rot H (m - i) m (m + j) = rot G a m b) ∧ Hid (Chg g w wr)) (fun iv jv _ => (intOf iv).toNat + (intOf jv).toNat)
  case atStart => exact ⟨m - a, b - m, G, by omega, by omega, Nat.le_refl _, Nat.le_refl _, by go_num, by go_num, HO, Lib.hid (by rw [show m - (m - a) = a by omega, show m + (b - m) = b by omega]), Lib.hid (Chg.refl g w)⟩
  case round =>
    obtain ⟨i, j, H, i0, j0, i1, j1, rfl, rfl, OI, RI, CI⟩ := hrel
    have W1 : IntKind.i64.wrap ((m : Int) - (i : Int)) = (m : Int) - (i : Int) := IntWalk.i64_in _ (by omega)
    by_cases hij : i = j
    · subst hij
      have RS : Hid (swapR H (m - i) m i = rot G a m b) := Lib.hid (by rw [← RI.out]; exact rot_same (by omega))
      have z : ((i : Int) != (i : Int)) = false := by simp
      have CC := Lib.hid (fun za zc zn ea ec en => swapRange_any C g cap len (m - i) m i base wr H OI.out (by omega) (by omega) hlen za zc zn ea ec en)
      clear RI OI
      go_wp2_with fail
      refine (CC.out _ _ _ (by omega) rfl rfl).mono ?_
      rintro e w1 ⟨rfl, p1, p2⟩
      rw [RS.out] at p1
      have P1 := Lib.hid p1
      clear p1 CC
      go_wp2
      go_end0
      exact ⟨rfl, P1.out, CI.out.trans p2⟩
    · have z : ((i : Int) != (j : Int)) = true := by simp; omega
      by_cases hgt : j < i
      · have CC := Lib.hid (fun za zc zn ea ec en => swapRange_any C g cap len (m - i) m j base wr H OI.out (by omega) (by omega) hlen za zc zn ea ec en)
        have RS : Hid (rot (swapR H (m - i) m j) (m - (i - j)) m (m + j) = rot G a m b) := Lib.hid (by rw [← RI.out]; exact rot_left hgt (by omega))
        clear RI OI hij
        go_wp2_with fail
        refine (CC.out _ _ _ (by omega) rfl rfl).mono ?_
        rintro e w1 ⟨rfl, p1, p2⟩
        have P1 := Lib.hid p1
        clear p1 CC
        go_wp2
        go_roundw
        case rel => exact ⟨i - j, j, _, by omega, j0, by omega, j1, by go_num, rfl, P1, RS, Lib.hid (CI.out.trans p2)⟩
        case measure => simp [intOf]; omega
      · have CC := Lib.hid (fun za zc zn ea ec en => swapRange_any C g cap len (m - i) (m + j - i) i base wr H OI.out (by omega) (by omega) hlen za zc zn ea ec en)
        have RS : Hid (rot (swapR H (m - i) (m + j - i) i) (m - i) m (m + (j - i)) = rot G a m b) := Lib.hid (by rw [← RI.out]; exact rot_right (by omega) (by omega))
        have W2 : IntKind.i64.wrap ((m : Int) + (j : Int)) = (m : Int) + (j : Int) := IntWalk.i64_in _ (by omega)
        have W3 : IntKind.i64.wrap ((m : Int) + (j : Int) - (i : Int)) = (m : Int) + (j : Int) - (i : Int) := IntWalk.i64_in _ (by omega)
        clear RI OI
        go_wp2_with fail
        refine (CC.out _ _ _ (by omega) (by omega) rfl).mono ?_
        rintro e w1 ⟨rfl, p1, p2⟩
        have P1 := Lib.hid p1
        clear p1 CC
        go_wp2
        go_roundw
        case rel => exact ⟨i, j - i, _, i0, by omega, i1, by omega, rfl, by go_num, P1, RS, Lib.hid (CI.out.trans p2)⟩
        case measure => simp [intOf]; omega
end Go.Proofs.Ytkoifdbbomipbaa.Mrg

