
/- Whether all of a list are names, no two of them the same: the program's and the document's. -/
import Derived.Test.YtkoifdbbomipbaaNameU
namespace Go.Proofs.Ytkoifdbbomipbaa.Name
open Go.ChangeShapes Go.WideShapes Go.ChangeAt Go.RowKit
open Mem Arr Lst Ins Srt Mrg

open Classical in
/-- 2, if one is no name; 8, if two are the same -/
noncomputable def allE (S : Nat → ByteArray) (n : Nat) : Int := if ∀ i, i < n → isN (S i) = true then (if ∃ i j, i < j ∧ j < n ∧ (S i).toList = (S j).toList then 8 else 0) else 2
theorem all_bad {S : Nat → ByteArray} {n i : Nat} (hi : i < n) (h : isN (S i) = false) : allE S n = 2 := by
  unfold allE; rw [if_neg]; intro e; rw [e i hi] at h; cases h
theorem all_two {S : Nat → ByteArray} {n : Nat} (h : ∀ i, i < n → isN (S i) = true) {i j : Nat} (hij : i < j) (hj : j < n) (e : (S i).toList = (S j).toList) : allE S n = 8 := by
  unfold allE; rw [if_pos h, if_pos ⟨i, j, hij, hj, e⟩]
theorem all_fine {S : Nat → ByteArray} {n : Nat} (h : ∀ i, i < n → isN (S i) = true) (hd : ∀ i j, i < j → j < n → (S i).toList ≠ (S j).toList) : allE S n = 0 := by
  unfold allE; rw [if_pos h, if_neg]; rintro ⟨i, j, h1, h2, e⟩; exact hd i j h1 h2 e
theorem placed_two {S : Nat → ByteArray} {n p : Nat} {P : Nat → Nat} (h : Placed S n P) (hp : p + 1 < n) (e : (S (P (p + 1))).toList = (S (P p)).toList) : ∃ i j, i < j ∧ j < n ∧ (S i).toList = (S j).toList := by
  have h1 := h.lt p (by omega)
  have h2 := h.lt (p + 1) hp
  have h3 : P p ≠ P (p + 1) := fun q => by have := h.inj (by omega) hp q; omega
  rcases Nat.lt_or_ge (P p) (P (p + 1)) with q | q
  · exact ⟨_, _, q, h2, e.symm⟩
  · exact ⟨P (p + 1), P p, by omega, h1, e⟩
theorem placed_none {S : Nat → ByteArray} {n : Nat} {P : Nat → Nat} (h : Placed S n P) (hd : ∀ p, p + 1 < n → (S (P (p + 1))).toList ≠ (S (P p)).toList) : ∀ i j, i < j → j < n → (S i).toList ≠ (S j).toList := by
  have key : ∀ a b, a < b → b < n → (S (P a)).toList ≠ (S (P b)).toList := fun a b hab hb e => by
    have c0 := cmpV_zero.2 e
    have s1 := h.so a (a + 1) (by omega) (by omega) (by omega)
    have n1 : cmpV (S (P a)) (S (P (a + 1))) < 0 := by
      unfold ltS at s1
      rcases s1 with s1 | s1
      · exact s1
      · exact absurd (cmpV_zero.1 s1.1).symm (hd a (by omega))
    by_cases e2 : a + 1 = b
    · rw [← e2] at c0; omega
    · have s2 := h.so (a + 1) b (by omega) (by omega) hb
      unfold ltS at s2
      have := (cmpV_trans (a := S (P a)) (b := S (P (a + 1))) (c := S (P b)) (by omega) (by omega)).2 n1
      omega
  intro i j hij hj e
  obtain ⟨a, ha, ea⟩ := h.on i (by omega)
  obtain ⟨b, hb, eb⟩ := h.on j hj
  have hab : a ≠ b := fun q => by rw [q, eb] at ea; omega
  rw [← ea, ← eb] at e
  rcases Nat.lt_or_ge a b with q | q
  · exact key a b q hb e
  · exact key b a (by omega) ha e.symm
theorem refIs_is (s : ByteArray) (t : Bool) (w : World) (ht : Hid (isN s = t)) : Calls Try.prog 8 #[.string s] w fun e w' => e = .returned (.bool t) ∧ Below w.heap.size w w' := by
  have := refIs_any s w; rw [ht.out] at this; exact this

set_option maxHeartbeats 2000000 in
theorem all_any (A : Option Addr) (n c : Nat) (S : Nat → ByteArray) (w : World) (h : Reads w w.heap.size A n (textV S)) (hn : n ≤ 8796093022208) :
    Calls Try.prog 14 #[.slice A n c] w fun e w' => e = .returned (.int .i64 (allE S n)) ∧ Below w.heap.size w w' := by
  have H := Lib.hid h
  have HM := Lib.hid (fun (w : World) (h : Reads w w.heap.size A n (textV S)) => sortN_any A n c S w h hn)
  clear h
  go_enter Try.func14, Try.ntmps14
  go_wp2
  go_loopw [10] (fun i wr => ∃ k : Nat, k ≤ n ∧ i = .int .i64 k ∧ Hid (∀ i, i < k → isN (S i) = true) ∧ Below w.heap.size w wr) (fun i _ => n - (intOf i).toNat)
  case atStart => exact ⟨0, by omega, rfl, Lib.hid (fun i hi => absurd hi (by omega)), Below.refl _ _⟩
  case round =>
    obtain ⟨k, hk, rfl, HA, hb⟩ := hrel
    by_cases hlt : k < n
    · obtain ⟨b, off, rfl, _⟩ := reads_form H.out (by omega)
      obtain ⟨_, c0⟩ := reads_at H.out hb rfl hlt
      unfold textV at c0
      rcases hi : isN (S k) with _ | _
      · have HV : Hid (allE S n = 2) := Lib.hid (all_bad hlt hi)
        have HI := Lib.hid hi
        clear hi HA
        go_wp2_with fail
        refine (is_is _ _ _ HI).mono ?_
        rintro e w1 ⟨rfl, hb1⟩
        go_wp2
        go_ret
        exact ⟨ret_int HV.out.symm, bTrans hb hb1⟩
      · have HN : Hid (∀ i, i < k + 1 → isN (S i) = true) := Lib.hid (okP_step HA.out hi)
        have HI := Lib.hid hi
        clear hi HA
        go_wp2_with fail
        refine (is_is _ _ _ HI).mono ?_
        rintro e w1 ⟨rfl, hb1⟩
        have hb2 := bTrans hb hb1
        clear hb hb1 c0
        go_wp2
        go_roundw
        case rel => exact ⟨k + 1, by omega, by go_num, HN, hb2⟩
        case measure => simp [intOf]; omega
    · obtain rfl : k = n := by omega
      go_wp2_with fail
      refine (HM.out _ (H.out.later hb)).mono ?_
      rintro e w1 ⟨vs, vp, P, rfl, o1, -, hb1, pl⟩
      have B1 := bTrans hb hb1
      have PL := Lib.hid pl
      obtain ⟨A1, c1, rfl, -, -, -, -⟩ := o1.shape
      have O1 := Lib.hid o1
      clear o1 hb hb1 HM pl
      go_wp2
      go_loopw [7] (fun i wr => ∃ q : Nat, 0 < q ∧ (q ≤ k ∨ q = 1) ∧ i = .int .i64 q ∧ Hid (∀ p, p + 1 < q → (S (P (p + 1))).toList ≠ (S (P p)).toList) ∧ ∃ m, wr = w1.drewN m) (fun i _ => k + 1 - (intOf i).toNat)
      case atStart => exact ⟨1, by omega, by omega, rfl, Lib.hid (fun p hp => absurd hp (by omega)), 0, rfl⟩
      case round =>
        obtain ⟨q, hq0, hq, rfl, NE, m, rfl⟩ := hrel
        by_cases hqn : q < k
        · obtain ⟨p, rfl⟩ : ∃ p, q = p + 1 := ⟨q - 1, by omega⟩
          obtain ⟨g, cap, eg, _, _, _, _⟩ := O1.out.form (by omega)
          injection eg with eg _ egc
          subst eg egc
          have c1 : w1.cell? ⟨g, p + 1, none⟩ = some (.string (S (P (p + 1)))) := O1.out.cell (by omega)
          have c2 : w1.cell? ⟨g, p, none⟩ = some (.string (S (P p))) := O1.out.cell (by omega)
          have hwp : IntKind.i64.wrap (p : Int) = (p : Int) := by rw [IntKind.wrap_i64]; omega
          have e0 : ((p : Int) + 1).toNat = p + 1 := by omega
          have z1 : (p : Int) + 1 < (k : Int) := by omega
          have z2 : (p : Int) < (k : Int) := by omega
          have z3 : (0 : Int) ≤ (p : Int) + 1 := by omega
          rcases E : ((S (P (p + 1))).toList == (S (P p)).toList) with _ | _
          · have HN : Hid (∀ x, x + 1 < p + 1 + 1 → (S (P (x + 1))).toList ≠ (S (P x)).toList) := Lib.hid (fun x hx => by
              by_cases ex : x = p
              · rw [ex]; exact beq_eq_false_iff_ne.1 E
              · exact NE.out x (by omega))
            obtain ⟨x, hx⟩ : ∃ x, S (P (p + 1)) = x := ⟨_, rfl⟩
            obtain ⟨y, hy⟩ : ∃ y, S (P p) = y := ⟨_, rfl⟩
            rw [hx] at c1 E
            rw [hy] at c2 E
            clear hx hy NE
            go_wp2
            go_quiet (fail)
            go_wp2
            go_roundw
            case rel => exact ⟨p + 1 + 1, by omega, by omega, by go_num, HN, m + nq, rfl⟩
            case measure => simp [intOf]; omega
          · have HV : Hid (allE S k = 8) := Lib.hid (by
              obtain ⟨i, j, h1, h2, e⟩ := placed_two PL.out (p := p) (by omega) (beq_iff_eq.1 E)
              exact all_two HA.out h1 h2 e)
            obtain ⟨x, hx⟩ : ∃ x, S (P (p + 1)) = x := ⟨_, rfl⟩
            obtain ⟨y, hy⟩ : ∃ y, S (P p) = y := ⟨_, rfl⟩
            rw [hx] at c1 E
            rw [hy] at c2 E
            clear hx hy NE
            go_wp2
            go_quiet (fail)
            go_wp2
            go_ret
            first | exact ⟨ret_int HV.out.symm, bDrewN _ B1⟩ | exact ⟨ret_int HV.out.symm, bDrewN _ (bDrewN _ B1)⟩
        · have HV : Hid (allE S k = 0) := Lib.hid (all_fine HA.out (placed_none PL.out (fun p hp => NE.out p (by omega))))
          go_wp2
          go_ret
          exact ⟨ret_int HV.out.symm, bDrewN _ B1⟩

set_option maxHeartbeats 2000000 in
theorem refAll_any (A : Option Addr) (n c : Nat) (S : Nat → ByteArray) (w : World) (h : Reads w w.heap.size A n (textV S)) (hn : n ≤ 8796093022208) :
    Calls Try.prog 17 #[.slice A n c] w fun e w' => e = .returned (.int .i64 (allE S n)) ∧ Below w.heap.size w w' := by
  have H := Lib.hid h
  clear h
  go_enter Try.func17, Try.ntmps17
  go_wp2
  go_loopw [3, 4] (fun tv i wr => ∃ (k : Nat) (t : Bool), k ≤ n ∧ i = .int .i64 k ∧ tv = .bool t ∧ Hid (∀ i, i < k → isN (S i) = true) ∧ Hid (t = true → ∃ i j, i < j ∧ j < k ∧ (S i).toList = (S j).toList) ∧ Hid (t = false → ∀ i j, i < j → j < k → (S i).toList ≠ (S j).toList) ∧ Below w.heap.size w wr) (fun _ i _ => n - (intOf i).toNat)
  case atStart => exact ⟨0, false, by omega, rfl, rfl, Lib.hid (fun i hi => absurd hi (by omega)), Lib.hid (fun e => by cases e), Lib.hid (fun _ i j _ hj => absurd hj (by omega)), Below.refl _ _⟩
  case round =>
    obtain ⟨k, t, hk, rfl, rfl, HA, HT, HF, hb⟩ := hrel
    by_cases hlt : k < n
    · obtain ⟨b, off, rfl, _⟩ := reads_form H.out (by omega)
      obtain ⟨_, c0⟩ := reads_at H.out hb rfl hlt
      unfold textV at c0
      rcases hi : isN (S k) with _ | _
      · have HV : Hid (allE S n = 2) := Lib.hid (all_bad hlt hi)
        have HI := Lib.hid hi
        clear hi HA HT HF
        go_wp2_with fail
        refine (refIs_is _ _ _ HI).mono ?_
        rintro e w1 ⟨rfl, hb1⟩
        go_wp2
        go_ret
        exact ⟨ret_int HV.out.symm, bTrans hb hb1⟩
      · have HN : Hid (∀ i, i < k + 1 → isN (S i) = true) := Lib.hid (okP_step HA.out hi)
        have HI := Lib.hid hi
        clear hi HA
        go_wp2_with fail
        refine (refIs_is _ _ _ HI).mono ?_
        rintro e w1 ⟨rfl, hb1⟩
        have hb2 := bTrans hb hb1
        clear hb hb1 c0
        go_wp2
        go_loopw [3, 5] (fun tv j wr => ∃ (q : Nat) (t : Bool), q ≤ k ∧ j = .int .i64 q ∧ tv = .bool t ∧ Hid (t = true → ∃ i j, i < j ∧ j < k + 1 ∧ (S i).toList = (S j).toList) ∧ Hid (t = false → (∀ i j, i < j → j < k → (S i).toList ≠ (S j).toList) ∧ ∀ i, i < q → (S i).toList ≠ (S k).toList) ∧ Below w.heap.size w wr) (fun _ j _ => k - (intOf j).toNat)
        case atStart => exact ⟨0, t, by omega, rfl, rfl, Lib.hid (fun e => by
          obtain ⟨i, j, h1, h2, h3⟩ := HT.out e
          exact ⟨i, j, h1, by omega, h3⟩), Lib.hid (fun e => ⟨HF.out e, fun i hi => absurd hi (by omega)⟩), hb2⟩
        case round =>
          clear HT HF hb2
          obtain ⟨q, t, hq, rfl, rfl, HT, HF, hb⟩ := hrel
          by_cases hqk : q < k
          · obtain ⟨_, c0⟩ := reads_at H.out hb rfl hlt
            obtain ⟨_, c1⟩ := reads_at H.out hb rfl (k := q) (by omega)
            unfold textV at c0 c1
            have z1 : (q : Int) < (n : Int) := by omega
            have z2 : (k : Int) < (n : Int) := by omega
            cases t with
            | true =>
              have HT2 := Lib.hid (HT.out rfl)
              clear HT HF
              go_wp2
              go_quiet (fail)
              go_wp2
              go_roundw
              case rel => exact ⟨q + 1, true, by omega, by go_num, rfl, Lib.hid (fun _ => HT2.out), Lib.hid (fun e => by cases e), bDrewN _ hb⟩
              case measure => simp [intOf]; omega
            | false =>
              rcases E : ((S q).toList == (S k).toList) with _ | _
              · have HN2 : Hid (∀ i j, i < j → j < k → (S i).toList ≠ (S j).toList) := Lib.hid (HF.out rfl).1
                have HN3 : Hid (∀ i, i < q + 1 → (S i).toList ≠ (S k).toList) := Lib.hid (fun i hi => by
                  by_cases e : i = q
                  · rw [e]; exact beq_eq_false_iff_ne.1 E
                  · exact (HF.out rfl).2 i (by omega))
                obtain ⟨x, hx⟩ : ∃ x, S q = x := ⟨_, rfl⟩
                obtain ⟨y, hy⟩ : ∃ y, S k = y := ⟨_, rfl⟩
                rw [hx] at c1 E
                rw [hy] at c0 E
                clear hx hy HT HF
                go_wp2
                go_quiet (fail)
                go_wp2
                go_roundw
                case rel => exact ⟨q + 1, false, by omega, by go_num, rfl, Lib.hid (fun e => by cases e), Lib.hid (fun _ => ⟨HN2.out, HN3.out⟩), bDrewN _ hb⟩
                case measure => simp [intOf]; omega
              · have HT2 : Hid (∃ i j, i < j ∧ j < k + 1 ∧ (S i).toList = (S j).toList) := Lib.hid ⟨q, k, hqk, by omega, beq_iff_eq.1 E⟩
                obtain ⟨x, hx⟩ : ∃ x, S q = x := ⟨_, rfl⟩
                obtain ⟨y, hy⟩ : ∃ y, S k = y := ⟨_, rfl⟩
                rw [hx] at c1 E
                rw [hy] at c0 E
                clear hx hy HT HF
                go_wp2
                go_quiet (fail)
                go_wp2
                go_roundw
                case rel => exact ⟨q + 1, true, by omega, by go_num, rfl, Lib.hid (fun e => HT2.out), Lib.hid (fun e => by cases e), bDrewN _ hb⟩
                case measure => simp [intOf]; omega
          · obtain rfl : q = k := by omega
            go_wp2
            go_roundw
            case rel => exact ⟨q + 1, t, by omega, by go_num, rfl, HN, HT, Lib.hid (fun e i j h1 h2 => by
              by_cases ej : j = q
              · rw [ej]; exact (HF.out e).2 i (by omega)
              · exact (HF.out e).1 i j h1 (by omega)), hb⟩
            case measure => simp [intOf]; omega
    · obtain rfl : k = n := by omega
      cases t with
      | true =>
        have HV : Hid (allE S k = 8) := Lib.hid (by
          obtain ⟨i, j, h1, h2, e⟩ := HT.out rfl
          exact all_two HA.out h1 h2 e)
        clear HT HF HA
        go_wp2
        go_ret
        exact ⟨ret_int HV.out.symm, hb⟩
      | false =>
        have HV : Hid (allE S k = 0) := Lib.hid (all_fine HA.out (HF.out rfl))
        clear HT HF HA
        go_wp2
        go_ret
        exact ⟨ret_int HV.out.symm, hb⟩
end Go.Proofs.Ytkoifdbbomipbaa.Name
