
/- A merge in place of two sorted parts of a row of places, by whatever comparison: the library's. -/
import Derived.Test.YtkoifdbbomipbaaMrg
namespace Go.Proofs.Ytkoifdbbomipbaa.Mrg
open Go.ChangeShapes Go.WideShapes Go.ChangeAt Go.RowKit
open Mem Arr Lst Name Ins Srt

/-- the order by which is merged: of two of which the first is the lesser number, a comparison below 0 of the second with the first says that the second is ahead -/
structure Fine (lt : Nat → Nat → Prop) (cf : Nat → Nat → Int) (n : Nat) : Prop where
  yes : ∀ x y, x < n → y < n → x < y → cf y x < 0 → lt y x
  no : ∀ x y, x < n → y < n → x < y → ¬ cf y x < 0 → lt x y
  tr : ∀ x y z, lt x y → lt y z → lt x z
theorem Tells.next {f : Nat} {cb : Array Value} {cf : Nat → Nat → Int} {n g : Nat} {w w1 : World} (h : Tells f cb cf n g w) (hc : Chg g w w1) : Tells f cb cf n g w1 := fun w2 k => h w2 (hc.trans k)
theorem bubble_up {G : Nat → Nat} {a q : Nat} (h : a ≤ q) : (fun k => if k = q + 1 then rot G a (a + 1) (q + 1) q else if k = q then rot G a (a + 1) (q + 1) (q + 1) else rot G a (a + 1) (q + 1) k) = rot G a (a + 1) (q + 2) := by
  funext k
  unfold rot
  repeat' split
  all_goals first | rfl | (exfalso; omega) | (congr 1; omega)
theorem bubble_down {G : Nat → Nat} {m p : Nat} (h : p + 1 ≤ m) : (fun k => if k = p then rot G (p + 1) m (m + 1) (p + 1) else if k = p + 1 then rot G (p + 1) m (m + 1) p else rot G (p + 1) m (m + 1) k) = rot G p m (m + 1) := by
  funext k
  unfold rot
  repeat' split
  all_goals first | rfl | (exfalso; omega) | (congr 1; omega)
/-- what is known behind a merge -/
def Merged (lt : Nat → Nat → Prop) (g len cap base a b : Nat) (w0 : World) (G : Nat → Nat) (e : Ending) (w' : World) : Prop :=
  ∃ H, e = .returned (.tuple #[]) ∧ Own w' base 3 (.slice (some ⟨g, 0, none⟩) len cap) len (intsV H) ∧ Per G H a b ∧ SortedIn lt H a b ∧ Chg g w0 w'
/-- the row, and what is asked of its places, ahead of a merge -/
structure Pre (lt : Nat → Nat → Prop) (g len cap base n a m b : Nat) (w : World) (G : Nat → Nat) : Prop where
  own : Own w base 3 (.slice (some ⟨g, 0, none⟩) len cap) len (intsV G)
  bd : ∀ i, i < len → G i < n
  sl : SortedIn lt G a m
  sr : SortedIn lt G m b
  lr : ∀ i j, a ≤ i → i < m → m ≤ j → j < b → G i < G j

set_option maxRecDepth 100000 in
set_option maxHeartbeats 4000000 in
/-- one place on the left: it goes to where it belongs -/
theorem sym_left (f : Nat) (cb : Array Value) (cf : Nat → Nat → Int) (n g cap len base : Nat) (lt : Nat → Nat → Prop) (hF : Fine lt cf n) (eg : ∀ args w, (callFunc f args).run Try.prog w = .ok (.enter f args) w) (hlen : len ≤ 17592186044415) (a b : Nat) (w : World) (G : Nat → Nat) (ht : Tells f cb cf n g w) (hp : Pre lt g len cap base n a (a + 1) b w G) (h2 : a + 1 < b) (h3 : b ≤ len) (za zm zb : Int) (ea : za = a) (em : zm = (a + 1 : Nat)) (eb : zb = b) :
    Calls Try.prog 28 #[(.slice (some ⟨g, 0, none⟩) len cap), .int .i64 za, .int .i64 zm, .int .i64 zb, .func (.func f) #[] cb] w (Merged lt g len cap base a b w G) := by
  subst ea em eb
  have HT := Lib.hid ht
  have HP := Lib.hid hp
  have HF := Lib.hid hF
  clear ht hp hF
  have z1 : (((a + 1 : Nat) : Int) - (a : Int) == 1) = true := by rw [beq_iff_eq]; omega
  have W0 : IntKind.i64.wrap (((a + 1 : Nat) : Int) - (a : Int)) = ((a + 1 : Nat) : Int) - (a : Int) := IntWalk.i64_in _ (by omega)
  obtain ⟨m, hm⟩ : ∃ m, m = a + 1 := ⟨_, rfl⟩
  rw [← hm] at z1 W0 ⊢
  have HM := Lib.hid hm
  have hma : a < m := by omega
  have hmb : m < b := by omega
  clear hm
  go_enter Try.func28, Try.ntmps28
  go_wp2
  go_loopw [10, 11, 12] (fun iv jv _ wr => ∃ i j : Nat, m ≤ i ∧ i ≤ j ∧ j ≤ b ∧ iv = .int .i64 i ∧ jv = .int .i64 j ∧ Hid (∀ x, m ≤ x → x < i → lt (G x) (G a)) ∧ Hid (∀ x, j ≤ x → x < b → lt (G a) (G x)) ∧ ∃ q, wr = w.drewN q) (fun iv jv _ _ => (intOf jv - intOf iv).toNat)
  case atStart => exact ⟨m, b, Nat.le_refl _, by omega, Nat.le_refl _, rfl, rfl, Lib.hid (fun x h1 h2 => absurd h2 (by omega)), Lib.hid (fun x h1 h2 => absurd h2 (by omega)), 0, rfl⟩
  case round =>
    obtain ⟨i, j, i1, ij, j1, rfl, rfl, LI, LJ, q, rfl⟩ := hrel
    by_cases hlt : i < j
    · obtain ⟨h, hh⟩ : ∃ h, h = (i + j) / 2 := ⟨_, rfl⟩
      have b1 : i ≤ h := by omega
      have b2 : h < j := by omega
      have E : ((i : Int) + (j : Int)) / 2 = (h : Int) := by omega
      have HE := Lib.hid E
      clear E hh
      have CQ := Lib.hid ((Chg.refl g w).drew q)
      have HWQ : Hid (∀ k, ∃ q', (w.drewN q).drewN k = w.drewN q') := Lib.hid (fun k => ⟨q + k, World.drewN_drewN _ _ _⟩)
      have ch : (w.drewN q).cell? ⟨g, h, none⟩ = some (.int .i64 (G h : Nat)) := HP.out.own.cell (by omega)
      have ca : (w.drewN q).cell? ⟨g, a, none⟩ = some (.int .i64 (G a : Nat)) := HP.out.own.cell (by omega)
      have hlr : G a < G h := HP.out.lr a h (Nat.le_refl _) (by omega) (by omega) (by omega)
      obtain ⟨wq, hwq⟩ : ∃ wq, w.drewN q = wq := ⟨_, rfl⟩
      rw [hwq] at ch ca CQ HWQ ⊢
      clear hwq
      have hc := fun k => HT.out (wq.drewN k) (CQ.out.drew k) (G h) (G a) (HP.out.bd _ (by omega)) (HP.out.bd _ (by omega))
      have FY := Lib.hid (HF.out.yes (G a) (G h) (HP.out.bd _ (by omega)) (HP.out.bd _ (by omega)) hlr)
      have FN := Lib.hid (HF.out.no (G a) (G h) (HP.out.bd _ (by omega)) (HP.out.bd _ (by omega)) hlr)
      clear hlr
      obtain ⟨xh, hxh⟩ : ∃ x, G h = x := ⟨_, rfl⟩
      obtain ⟨xa, hxa⟩ : ∃ x, G a = x := ⟨_, rfl⟩
      rw [hxh] at ch hc FY FN
      rw [hxa] at ca hc FY FN
      have z2 : (h : Int) < (len : Int) := by omega
      have z3 : (a : Int) < (len : Int) := by omega
      by_cases hv : cf xh xa < 0
      · have LN : Hid (∀ x, m ≤ x → x < h + 1 → lt (G x) (G a)) := Lib.hid (fun x h1 h2 => by
          by_cases e : x = h
          · subst e; rw [hxh, hxa]; exact FY.out hv
          · have := HP.out.sr x h (by rw [← HM.out]; omega) (by omega) (by omega)
            rw [hxh] at this; rw [hxa]
            exact HF.out.tr _ _ _ this (FY.out hv))
        clear hxh hxa FY FN LI
        go_wp2_with fail
        rw [HE.out]
        go_quiet (first | (refine Calls.quiet_of (hc _)))
        go_wp2
        go_roundw
        case rel => exact ⟨h + 1, j, by omega, by omega, j1, by go_num, rfl, LN, LJ, HWQ.out nq⟩
        case measure => simp [intOf]; omega
      · have LN : Hid (∀ x, h ≤ x → x < b → lt (G a) (G x)) := Lib.hid (fun x h1 h2 => by
          by_cases e : x = h
          · subst e; rw [hxh, hxa]; exact FN.out hv
          · have := HP.out.sr h x (by rw [← HM.out]; omega) (by omega) h2
            rw [hxh] at this; rw [hxa]
            exact HF.out.tr _ _ _ (FN.out hv) this)
        clear hxh hxa FY FN LJ
        go_wp2_with fail
        rw [HE.out]
        go_quiet (first | (refine Calls.quiet_of (hc _)))
        go_wp2
        go_roundw
        case rel => exact ⟨i, h, by omega, by omega, by omega, rfl, rfl, LI, LN, HWQ.out nq⟩
        case measure => simp [intOf]; omega
    · obtain rfl : i = j := by omega
      have OW : Hid (Own (w.drewN q) base 3 (.slice (some ⟨g, 0, none⟩) len cap) len (intsV (rot G a (a + 1) (a + 1)))) := Lib.hid (by rw [rot_none (Or.inr rfl) ⟨by omega, Nat.le_refl _⟩]; exact HP.out.own)
      have CW : Hid (Chg g w (w.drewN q)) := Lib.hid ((Chg.refl g w).drew q)
      have W4 : IntKind.i64.wrap ((i : Int) - 1) = (i : Int) - 1 := IntWalk.i64_in _ (by omega)
      obtain ⟨wq, hwq⟩ : ∃ wq, w.drewN q = wq := ⟨_, rfl⟩
      rw [hwq] at OW CW ⊢
      clear hwq
      go_wp2
      go_loopw [13] (fun kv wr => ∃ k : Nat, a ≤ k ∧ k + 1 ≤ i ∧ kv = .int .i64 k ∧ Hid (Own wr base 3 (.slice (some ⟨g, 0, none⟩) len cap) len (intsV (rot G a (a + 1) (k + 1)))) ∧ Hid (Chg g w wr)) (fun kv _ => i - (intOf kv).toNat)
      case atStart => exact ⟨a, Nat.le_refl _, by omega, rfl, OW, CW⟩
      case round =>
        obtain ⟨k, k1, k2, rfl, OK, CK⟩ := hrel
        by_cases hlt : k + 1 < i
        · have ON : Hid (Own ((wr.setCell ⟨g, k, none⟩ (intsV (rot G a (a + 1) (k + 1)) (k + 1))).setCell ⟨g, k + 1, none⟩ (intsV (rot G a (a + 1) (k + 1)) k)) base 3 (.slice (some ⟨g, 0, none⟩) len cap) len (intsV (rot G a (a + 1) (k + 1 + 1)))) := Lib.hid (by
            refine Own.congr (Own.stored (Own.stored OK.out (k := k) (intsV (rot G a (a + 1) (k + 1)) (k + 1))) (k := k + 1) (intsV (rot G a (a + 1) (k + 1)) k)) (fun q _ => ?_)
            rw [pair_vals, bubble_up k1])
          obtain ⟨K, hK⟩ : ∃ K, rot G a (a + 1) (k + 1) = K := ⟨_, rfl⟩
          rw [hK] at OK ON
          clear hK
          obtain ⟨k9, hk9⟩ : ∃ k9, k9 = k + 1 := ⟨_, rfl⟩
          have ck : wr.cell? ⟨g, k, none⟩ = some (.int .i64 (K k : Nat)) := OK.out.cell (by omega)
          have cn : wr.cell? ⟨g, k9, none⟩ = some (.int .i64 (K k9 : Nat)) := OK.out.cell (by omega)
          have fk : wr.frozen? ⟨g, k, none⟩ = false := OK.out.free _
          have fn : wr.frozen? ⟨g, k9, none⟩ = false := OK.out.free _
          have e0 : ((k : Int) + 1).toNat = k9 := by omega
          have hne : k ≠ k9 := by omega
          have hne' : k9 ≠ k := by omega
          have z1 : (k : Int) < (i : Int) - 1 := by omega
          have z2 : (k : Int) < (len : Int) := by omega
          have z3 : (k : Int) + 1 < (len : Int) := by omega
          have z4 : (0 : Int) ≤ (k : Int) + 1 := by omega
          have W5 : IntKind.i64.wrap ((k : Int) + 1) = (k : Int) + 1 := IntWalk.i64_in _ (by omega)
          have HK9 := Lib.hid hk9
          rw [← hk9] at ON
          have ON2 : Hid (Own ((wr.setCell ⟨g, k, none⟩ (.int .i64 (K k9 : Nat))).setCell ⟨g, k9, none⟩ (.int .i64 (K k : Nat))) base 3 (.slice (some ⟨g, 0, none⟩) len cap) len (intsV (rot G a (a + 1) (k9 + 1)))) := ON
          obtain ⟨u, hu⟩ : ∃ u, K k = u := ⟨_, rfl⟩
          obtain ⟨v, hv⟩ : ∃ v, K k9 = v := ⟨_, rfl⟩
          rw [hu] at ck ON2
          rw [hv] at cn ON2
          have CN : Hid (Chg g w ((wr.setCell ⟨g, k, none⟩ (.int .i64 (v : Nat))).setCell ⟨g, k9, none⟩ (.int .i64 (u : Nat)))) := Lib.hid ((CK.out.set _ _).set _ _)
          clear hu hv OK CK ON hk9
          go_wp2
          go_big_region
          all_goals go_wp2
          go_roundw
          case rel => exact ⟨k9, by rw [HK9.out]; omega, by rw [HK9.out]; omega, by rw [HK9.out]; go_num, Lib.hid ON2.out, Lib.hid (CN.out.drew 1)⟩
          case measure => simp [intOf]; omega
        · obtain rfl : i = k + 1 := by omega
          have z1 : ¬ (k : Int) < ((k + 1 : Nat) : Int) - 1 := by omega
          have HS : Hid (SortedIn lt (rot G a (a + 1) (k + 1)) a b) := Lib.hid (rot_sorted (Nat.le_refl _) (by omega) (by rw [← HM.out]; exact i1) j1 HP.out.sl HP.out.sr (fun x y h1 h2 => absurd h2 (by omega))
            (fun x y h1 h2 h3 h4 => by
              obtain rfl : x = a := by omega
              exact LI.out y (by rw [HM.out]; exact h3) h4)
            (fun x y h1 h2 h3 h4 => by
              obtain rfl : x = a := by omega
              exact LJ.out y h3 h4) (fun x y h1 h2 => absurd h2 (by omega)))
          have HQ : Hid (Per G (rot G a (a + 1) (k + 1)) a b) := Lib.hid ((per_rot (by omega) (by rw [← HM.out]; exact i1)).wide (Nat.le_refl _) j1)
          clear LI LJ
          go_wp2
          go_end0
          exact ⟨_, rfl, OK.out, HQ.out, HS.out, CK.out⟩

set_option maxRecDepth 100000 in
set_option maxHeartbeats 4000000 in
/-- one place on the right: it goes to where it belongs -/
theorem sym_right (f : Nat) (cb : Array Value) (cf : Nat → Nat → Int) (n g cap len base : Nat) (lt : Nat → Nat → Prop) (hF : Fine lt cf n) (eg : ∀ args w, (callFunc f args).run Try.prog w = .ok (.enter f args) w) (hlen : len ≤ 17592186044415) (a m : Nat) (w : World) (G : Nat → Nat) (ht : Tells f cb cf n g w) (hp : Pre lt g len cap base n a m (m + 1) w G) (h2 : a + 1 < m) (h3 : m + 1 ≤ len) (za zm zb : Int) (ea : za = a) (em : zm = m) (eb : zb = (m + 1 : Nat)) :
    Calls Try.prog 28 #[(.slice (some ⟨g, 0, none⟩) len cap), .int .i64 za, .int .i64 zm, .int .i64 zb, .func (.func f) #[] cb] w (Merged lt g len cap base a (m + 1) w G) := by
  subst ea em eb
  have HT := Lib.hid ht
  have HP := Lib.hid hp
  have HF := Lib.hid hF
  clear ht hp hF
  have z0 : ((m : Int) - (a : Int) == 1) = false := by rw [beq_eq_false_iff_ne]; omega
  have W0 : IntKind.i64.wrap ((m : Int) - (a : Int)) = (m : Int) - (a : Int) := IntWalk.i64_in _ (by omega)
  have z1 : (((m + 1 : Nat) : Int) - (m : Int) == 1) = true := by rw [beq_iff_eq]; omega
  have W1 : IntKind.i64.wrap (((m + 1 : Nat) : Int) - (m : Int)) = ((m + 1 : Nat) : Int) - (m : Int) := IntWalk.i64_in _ (by omega)
  obtain ⟨b, hb⟩ : ∃ b, b = m + 1 := ⟨_, rfl⟩
  rw [← hb] at z1 W1 ⊢
  have HB := Lib.hid hb
  have hmb : m < b := by omega
  have hbl : b ≤ len := by omega
  clear hb
  go_enter Try.func28, Try.ntmps28
  go_wp2
  go_loopw [14, 15, 16] (fun iv jv _ wr => ∃ i j : Nat, a ≤ i ∧ i ≤ j ∧ j ≤ m ∧ iv = .int .i64 i ∧ jv = .int .i64 j ∧ Hid (∀ x, a ≤ x → x < i → lt (G x) (G m)) ∧ Hid (∀ x, j ≤ x → x < m → lt (G m) (G x)) ∧ ∃ q, wr = w.drewN q) (fun iv jv _ _ => (intOf jv - intOf iv).toNat)
  case atStart => exact ⟨a, m, Nat.le_refl _, by omega, Nat.le_refl _, rfl, rfl, Lib.hid (fun x h1 h2 => absurd h2 (by omega)), Lib.hid (fun x h1 h2 => absurd h2 (by omega)), 0, rfl⟩
  case round =>
    obtain ⟨i, j, i1, ij, j1, rfl, rfl, LI, LJ, q, rfl⟩ := hrel
    by_cases hlt : i < j
    · obtain ⟨h, hh⟩ : ∃ h, h = (i + j) / 2 := ⟨_, rfl⟩
      have b1 : i ≤ h := by omega
      have b2 : h < j := by omega
      have E : ((i : Int) + (j : Int)) / 2 = (h : Int) := by omega
      have HE := Lib.hid E
      clear E hh
      have CQ := Lib.hid ((Chg.refl g w).drew q)
      have HWQ : Hid (∀ k, ∃ q', (w.drewN q).drewN k = w.drewN q') := Lib.hid (fun k => ⟨q + k, World.drewN_drewN _ _ _⟩)
      have ch : (w.drewN q).cell? ⟨g, h, none⟩ = some (.int .i64 (G h : Nat)) := HP.out.own.cell (by omega)
      have ca : (w.drewN q).cell? ⟨g, m, none⟩ = some (.int .i64 (G m : Nat)) := HP.out.own.cell (by omega)
      have hlr : G h < G m := HP.out.lr h m (by omega) (by omega) (Nat.le_refl _) (by omega)
      obtain ⟨wq, hwq⟩ : ∃ wq, w.drewN q = wq := ⟨_, rfl⟩
      rw [hwq] at ch ca CQ HWQ ⊢
      clear hwq
      have hc := fun k => HT.out (wq.drewN k) (CQ.out.drew k) (G m) (G h) (HP.out.bd _ (by omega)) (HP.out.bd _ (by omega))
      have FY := Lib.hid (HF.out.yes (G h) (G m) (HP.out.bd _ (by omega)) (HP.out.bd _ (by omega)) hlr)
      have FN := Lib.hid (HF.out.no (G h) (G m) (HP.out.bd _ (by omega)) (HP.out.bd _ (by omega)) hlr)
      clear hlr
      obtain ⟨xh, hxh⟩ : ∃ x, G h = x := ⟨_, rfl⟩
      obtain ⟨xa, hxa⟩ : ∃ x, G m = x := ⟨_, rfl⟩
      rw [hxh] at ch hc FY FN
      rw [hxa] at ca hc FY FN
      have z2 : (h : Int) < (len : Int) := by omega
      have z3 : (m : Int) < (len : Int) := by omega
      by_cases hv : cf xa xh < 0
      · have D : decide (cf xa xh < 0) = true := decide_eq_true hv
        have LN : Hid (∀ x, h ≤ x → x < m → lt (G m) (G x)) := Lib.hid (fun x h1 h2 => by
          by_cases e : x = h
          · subst e; rw [hxh, hxa]; exact FY.out hv
          · have := HP.out.sl h x (by omega) (by omega) h2
            rw [hxh] at this; rw [hxa]
            exact HF.out.tr _ _ _ (FY.out hv) this)
        clear hxh hxa FY FN LJ hv
        go_wp2_with fail
        rw [HE.out]
        go_quiet (first | (refine Calls.quiet_of (hc _)))
        go_wp2
        go_roundw
        case rel => exact ⟨i, h, by omega, by omega, by omega, rfl, rfl, LI, LN, HWQ.out nq⟩
        case measure => simp [intOf]; omega
      · have D : decide (cf xa xh < 0) = false := decide_eq_false hv
        have LN : Hid (∀ x, a ≤ x → x < h + 1 → lt (G x) (G m)) := Lib.hid (fun x h1 h2 => by
          by_cases e : x = h
          · subst e; rw [hxh, hxa]; exact FN.out hv
          · have := HP.out.sl x h (by omega) (by omega) (by omega)
            rw [hxh] at this; rw [hxa]
            exact HF.out.tr _ _ _ this (FN.out hv))
        clear hxh hxa FY FN LI hv
        go_wp2_with fail
        rw [HE.out]
        go_quiet (first | (refine Calls.quiet_of (hc _)))
        go_wp2
        go_roundw
        case rel => exact ⟨h + 1, j, by omega, by omega, j1, by go_num, rfl, LN, LJ, HWQ.out nq⟩
        case measure => simp [intOf]; omega
    · obtain rfl : i = j := by omega
      have OW : Hid (Own (w.drewN q) base 3 (.slice (some ⟨g, 0, none⟩) len cap) len (intsV (rot G m m (m + 1)))) := Lib.hid (by rw [rot_none (Or.inl rfl) ⟨Nat.le_refl _, by omega⟩]; exact HP.out.own)
      have CW : Hid (Chg g w (w.drewN q)) := Lib.hid ((Chg.refl g w).drew q)
      obtain ⟨wq, hwq⟩ : ∃ wq, w.drewN q = wq := ⟨_, rfl⟩
      rw [hwq] at OW CW ⊢
      clear hwq
      go_wp2
      go_loopw [17] (fun kv wr => ∃ k : Nat, i ≤ k ∧ k ≤ m ∧ kv = .int .i64 k ∧ Hid (Own wr base 3 (.slice (some ⟨g, 0, none⟩) len cap) len (intsV (rot G k m (m + 1)))) ∧ Hid (Chg g w wr)) (fun kv _ => (intOf kv).toNat)
      case atStart => exact ⟨m, j1, Nat.le_refl _, rfl, OW, CW⟩
      case round =>
        obtain ⟨k, k1, k2, rfl, OK, CK⟩ := hrel
        by_cases hlt : i < k
        · obtain ⟨p, rfl⟩ : ∃ p, k = p + 1 := ⟨k - 1, by omega⟩
          have ON : Hid (Own ((wr.setCell ⟨g, p + 1, none⟩ (intsV (rot G (p + 1) m (m + 1)) p)).setCell ⟨g, p, none⟩ (intsV (rot G (p + 1) m (m + 1)) (p + 1))) base 3 (.slice (some ⟨g, 0, none⟩) len cap) len (intsV (rot G p m (m + 1)))) := Lib.hid (by
            refine Own.congr (Own.stored (Own.stored OK.out (k := p + 1) (intsV (rot G (p + 1) m (m + 1)) p)) (k := p) (intsV (rot G (p + 1) m (m + 1)) (p + 1))) (fun q _ => ?_)
            rw [pair_vals, bubble_down k2])
          obtain ⟨K, hK⟩ : ∃ K, rot G (p + 1) m (m + 1) = K := ⟨_, rfl⟩
          rw [hK] at OK ON
          clear hK
          obtain ⟨k9, hk9⟩ : ∃ k9, k9 = p + 1 := ⟨_, rfl⟩
          have cp : wr.cell? ⟨g, p, none⟩ = some (.int .i64 (K p : Nat)) := OK.out.cell (by omega)
          have cn : wr.cell? ⟨g, k9, none⟩ = some (.int .i64 (K k9 : Nat)) := OK.out.cell (by omega)
          have fp : wr.frozen? ⟨g, p, none⟩ = false := OK.out.free _
          have fn : wr.frozen? ⟨g, k9, none⟩ = false := OK.out.free _
          have e0 : ((p : Int) + 1).toNat = k9 := by omega
          have hne : p ≠ k9 := by omega
          have hne' : k9 ≠ p := by omega
          have hwp : IntKind.i64.wrap (p : Int) = (p : Int) := by rw [IntKind.wrap_i64]; omega
          have z4 : (i : Int) < (p : Int) + 1 := by omega
          have z2 : (p : Int) < (len : Int) := by omega
          have z3 : (p : Int) + 1 < (len : Int) := by omega
          have z5 : (0 : Int) ≤ (p : Int) + 1 := by omega
          have HK9 := Lib.hid hk9
          rw [← hk9] at ON
          have ON2 : Hid (Own ((wr.setCell ⟨g, k9, none⟩ (.int .i64 (K p : Nat))).setCell ⟨g, p, none⟩ (.int .i64 (K k9 : Nat))) base 3 (.slice (some ⟨g, 0, none⟩) len cap) len (intsV (rot G p m (m + 1)))) := ON
          obtain ⟨u, hu⟩ : ∃ u, K p = u := ⟨_, rfl⟩
          obtain ⟨v, hv⟩ : ∃ v, K k9 = v := ⟨_, rfl⟩
          rw [hu] at cp ON2
          rw [hv] at cn ON2
          have CN : Hid (Chg g w ((wr.setCell ⟨g, k9, none⟩ (.int .i64 (u : Nat))).setCell ⟨g, p, none⟩ (.int .i64 (v : Nat)))) := Lib.hid ((CK.out.set _ _).set _ _)
          have hip : i ≤ p := by omega
          have hpm : p ≤ m := by omega
          clear hu hv OK CK ON hk9 hlt
          go_wp2
          go_big_region
          all_goals go_wp2
          go_roundw
          case rel => exact ⟨p, hip, hpm, rfl, Lib.hid ON2.out, Lib.hid (CN.out.drew 1)⟩
          case measure => first | (simp [intOf]; done) | (simp [intOf]; omega)
        · obtain rfl : i = k := by omega
          have HS : Hid (SortedIn lt (rot G i m (m + 1)) a b) := Lib.hid (by
            rw [HB.out]
            exact rot_sorted i1 (by omega) (by omega) (Nat.le_refl _) HP.out.sl HP.out.sr
              (fun x y p1 p2 p3 p4 => by
                have e : y = m := by omega
                rw [e]; exact LI.out x p1 p2)
              (fun x y p1 p2 p3 p4 => by
                have e : y = m := by omega
                rw [e]; exact LJ.out x p1 p2)
              (fun x y h1 h2 h3 h4 => absurd h4 (by omega)) (fun x y h1 h2 h3 h4 => absurd h4 (by omega)))
          have HQ : Hid (Per G (rot G i m (m + 1)) a b) := Lib.hid (by rw [HB.out]; exact (per_rot (by omega) (by omega)).wide i1 (Nat.le_refl _))
          clear LI LJ
          go_wp2
          go_end0
          exact ⟨_, rfl, OK.out, HQ.out, HS.out, CK.out⟩
end Go.Proofs.Ytkoifdbbomipbaa.Mrg
