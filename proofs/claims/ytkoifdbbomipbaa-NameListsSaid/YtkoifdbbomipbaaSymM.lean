
/- A merge in place of two sorted parts of a row of places, whole. -/
import Derived.Test.YtkoifdbbomipbaaSym
namespace Go.Proofs.Ytkoifdbbomipbaa.Mrg
open Go.ChangeShapes Go.WideShapes Go.ChangeAt Go.RowKit
open Mem Arr Lst Name Ins Srt

/-- what is known of the row H behind the rotation from s by m to e -/
structure Cut (lt : Nat → Nat → Prop) (G H : Nat → Nat) (a s mid e b n len : Nat) : Prop where
  hv : Halves lt H a s mid e b
  per : Per G H a b
  ll : ∀ i j, a ≤ i → i < s → s ≤ j → j < mid → H i < H j
  rr : ∀ i j, mid ≤ i → i < e → e ≤ j → j < b → H i < H j
  bd : ∀ i, i < len → H i < n
theorem cut_of {lt : Nat → Nat → Prop} {g len cap base n a m b s e mid lo hi : Nat} {w : World} {G : Nat → Nat} {cf : Nat → Nat → Int} (hF : Fine lt cf n) (hp : Pre lt g len cap base n a m b w G) (hb : b ≤ len)
    (h1 : a ≤ lo) (h2 : lo ≤ s) (h3 : s ≤ hi) (h4 : hi ≤ m) (h5 : hi ≤ mid) (h6 : mid + m ≤ lo + b) (h7 : lo ≠ a → lo + b = mid + m) (h8 : hi ≠ m → hi = mid) (hm : m < b) (he : e + s = mid + m)
    (LS : lo < s → lt (G (s - 1)) (G (mid + m - s))) (LR : s < hi → lt (G (mid + m - 1 - s)) (G s)) : Cut lt G (rot G s m e) a s mid e b n len := by
  have hsm : s ≤ m := by omega
  have hme : m ≤ e := by omega
  have heb : e ≤ b := by omega
  have hmid : mid = s + (e - m) := by omega
  have AD : ∀ i j, a ≤ i → i < s → e ≤ j → j < b → lt (G i) (G j) := fun i j p1 p2 p3 p4 => by
    have q : lt (G (s - 1)) (G e) := by have := LS (by omega); rw [show mid + m - s = e by omega] at this; exact this
    have q1 : lt (G i) (G e) := by
      by_cases e1 : i = s - 1
      · rw [e1]; exact q
      · exact hF.tr _ _ _ (hp.sl i (s - 1) p1 (by omega) (by omega)) q
    by_cases e1 : j = e
    · rw [e1]; exact q1
    · exact hF.tr _ _ _ q1 (hp.sr e j hme (by omega) p4)
  have CB : ∀ i j, s ≤ i → i < m → m ≤ j → j < e → lt (G j) (G i) := fun i j p1 p2 p3 p4 => by
    have q : lt (G (e - 1)) (G s) := by have := LR (by omega); rw [show mid + m - 1 - s = e - 1 by omega] at this; exact this
    have q1 : lt (G j) (G s) := by
      by_cases e1 : j = e - 1
      · rw [e1]; exact q
      · exact hF.tr _ _ _ (hp.sr j (e - 1) p3 (by omega) (by omega)) q
    by_cases e1 : i = s
    · rw [e1]; exact q1
    · exact hF.tr _ _ _ q1 (hp.sl s i (by omega) (by omega) p2)
  have per : Per G (rot G s m e) a b := (per_rot hsm hme).wide (by omega) heb
  refine ⟨by rw [hmid]; exact halves_of (by omega) hsm hme heb hp.sl hp.sr AD CB, per, fun i j p1 p2 p3 p4 => ?_, fun i j p1 p2 p3 p4 => ?_, Per.lt per hb hp.bd⟩
  · rw [rot_out (Or.inl p2), rot_first p3 (by omega) hsm hme]; exact hp.lr _ _ p1 (by omega) (by omega) (by omega)
  · rw [rot_last (by omega) p2 hsm hme, rot_out (Or.inr p3)]; exact hp.lr _ _ (by omega) (by omega) (by omega) p4
theorem Cut.left {lt : Nat → Nat → Prop} {G H : Nat → Nat} {a s mid e b n len g cap base : Nat} {w : World} (h : Cut lt G H a s mid e b n len) (ho : Own w base 3 (.slice (some ⟨g, 0, none⟩) len cap) len (intsV H)) : Pre lt g len cap base n a s mid w H :=
  ⟨ho, h.bd, h.hv.p1, h.hv.p2, h.ll⟩
theorem Cut.right {lt : Nat → Nat → Prop} {G H K : Nat → Nat} {a s mid e b n len g cap base : Nat} {w : World} (h : Cut lt G H a s mid e b n len) (hm : mid ≤ len) (hme : mid ≤ e) (hk : Per H K a mid) (ho : Own w base 3 (.slice (some ⟨g, 0, none⟩) len cap) len (intsV K)) : Pre lt g len cap base n mid e b w K :=
  ⟨ho, Per.lt hk hm h.bd, fun i j p1 p2 p3 => by rw [hk.out i (by omega), hk.out j (by omega)]; exact h.hv.p3 i j p1 p2 p3, fun i j p1 p2 p3 => by rw [hk.out i (by omega), hk.out j (by omega)]; exact h.hv.p4 i j p1 p2 p3,
    fun i j p1 p2 p3 p4 => by rw [hk.out i (by omega), hk.out j (by omega)]; exact h.rr i j p1 p2 p3 p4⟩
set_option maxRecDepth 100000 in
set_option maxHeartbeats 8000000 in
theorem symMerge_any (f : Nat) (cb : Array Value) (cf : Nat → Nat → Int) (n g cap len base : Nat) (lt : Nat → Nat → Prop) (hF : Fine lt cf n) (eg : ∀ args w, (callFunc f args).run Try.prog w = .ok (.enter f args) w) (hlen : len ≤ 17592186044415) (w0 : World) (ht : Tells f cb cf n g w0) : ∀ (k a m b : Nat) (G : Nat → Nat) (w : World), b - a ≤ k → a < m → m < b → b ≤ len → Chg g w0 w → Pre lt g len cap base n a m b w G → ∀ za zm zb : Int, za = a → zm = m → zb = b →
    Calls Try.prog 28 #[(.slice (some ⟨g, 0, none⟩) len cap), .int .i64 za, .int .i64 zm, .int .i64 zb, .func (.func f) #[] cb] w (Merged lt g len cap base a b w G) := by
  intro k
  induction k with
  | zero => intro a m b G w hk h1 h2; omega
  | succ k ih =>
    intro a m b G w hk h1 h2 h3 hc hp za zm zb ea em eb
    by_cases c1 : m = a + 1
    · subst c1; exact sym_left f cb cf n g cap len base lt hF eg hlen a b w G (Mrg.Tells.next ht hc) hp h2 h3 za zm zb ea em eb
    by_cases c2 : b = m + 1
    · subst c2; exact sym_right f cb cf n g cap len base lt hF eg hlen a m w G (Mrg.Tells.next ht hc) hp (by omega) h3 za zm zb ea em eb
    subst ea em eb
    have HT := Lib.hid (Mrg.Tells.next ht hc)
    have HP := Lib.hid hp
    have HF := Lib.hid hF
    have HC := Lib.hid hc
    have IH : Aside _ := ih
    clear ht hp hF hc ih
    have z0 : ((m : Int) - (a : Int) == 1) = false := by rw [beq_eq_false_iff_ne]; omega
    have W0 : IntKind.i64.wrap ((m : Int) - (a : Int)) = (m : Int) - (a : Int) := IntWalk.i64_in _ (by omega)
    have z1 : ((b : Int) - (m : Int) == 1) = false := by rw [beq_eq_false_iff_ne]; omega
    have W1 : IntKind.i64.wrap ((b : Int) - (m : Int)) = (b : Int) - (m : Int) := IntWalk.i64_in _ (by omega)
    obtain ⟨mid, hmid⟩ : ∃ mid, mid = (a + b) / 2 := ⟨_, rfl⟩
    have E : ((a : Int) + (b : Int)) / 2 = (mid : Int) := by omega
    have HE := Lib.hid E
    have m1 : a < mid := by omega
    have m2 : mid < b := by omega
    obtain ⟨p, hp1⟩ : ∃ p, p + 1 = mid + m := ⟨mid + m - 1, by omega⟩
    have Wn : IntKind.i64.wrap ((mid : Int) + (m : Int)) = (mid : Int) + (m : Int) := IntWalk.i64_in _ (by omega)
    have Wp : IntKind.i64.wrap ((mid : Int) + (m : Int) - 1) = (p : Int) := by rw [IntKind.wrap_i64]; omega
    have Wl : IntKind.i64.wrap ((mid : Int) + (m : Int) - (b : Int)) = (mid : Int) + (m : Int) - (b : Int) := IntWalk.i64_in _ (by omega)
    have F : ∃ lo hi : Nat, a ≤ lo ∧ lo ≤ hi ∧ hi ≤ m ∧ hi ≤ mid ∧ mid + m ≤ lo + b ∧ (lo ≠ a → lo + b = mid + m) ∧ (hi ≠ m → hi = mid) ∧ ((mid < m ∧ lo + b = mid + m ∧ hi = mid) ∨ (m ≤ mid ∧ lo = a ∧ hi = m)) := by
      by_cases g1 : mid < m
      · exact ⟨mid + m - b, mid, by omega, by omega, by omega, by omega, by omega, by omega, by omega, Or.inl ⟨g1, by omega, rfl⟩⟩
      · exact ⟨a, m, by omega, by omega, by omega, by omega, by omega, by omega, by omega, Or.inr ⟨by omega, rfl, rfl⟩⟩
    obtain ⟨lo, hi, f1, f2, f3, f4, f5, f6, f7, F⟩ := F
    have F6 := Lib.hid f6
    have F7 := Lib.hid f7
    clear E hmid f6 f7
    rcases F with ⟨g1, g2, g3⟩ | ⟨g1, g2, g3⟩

    · skip
      go_enter Try.func28, Try.ntmps28
      go_wp2_with fail
      rw [HE.out]
      go_wp2
      go_loopw [20, 21, 23] (fun sv rv _ wr => ∃ s r : Nat, lo ≤ s ∧ s ≤ r ∧ r ≤ hi ∧ sv = .int .i64 s ∧ rv = .int .i64 r ∧ Hid (lo < s → lt (G (s - 1)) (G (mid + m - s))) ∧ Hid (r < hi → lt (G (mid + m - 1 - r)) (G r)) ∧ ∃ q, wr = w.drewN q) (fun sv rv _ _ => (intOf rv - intOf sv).toNat)
      case atStart => exact ⟨lo, hi, Nat.le_refl _, f2, Nat.le_refl _, by congr 1; omega, by rw [g3], Lib.hid (fun h => absurd h (by omega)), Lib.hid (fun h => absurd h (by omega)), 0, rfl⟩
      case round =>
        obtain ⟨s, r, s1, sr, r1, rfl, rfl, LS, LR, q, rfl⟩ := hrel
        by_cases hlt : s < r
        · obtain ⟨c, hh⟩ : ∃ c, c = (s + r) / 2 := ⟨_, rfl⟩
          have b1 : s ≤ c := by omega
          have b2 : c < r := by omega
          have E2 : ((s : Int) + (r : Int)) / 2 = (c : Int) := by omega
          have HE2 := Lib.hid E2
          obtain ⟨d, hd⟩ : ∃ d, d + c = p := ⟨p - c, by omega⟩
          have d1 : m ≤ d := by omega
          have d2 : d < b := by omega
          have Wd : IntKind.i64.wrap ((mid : Int) + (m : Int) - 1 - (c : Int)) = (d : Int) := by rw [IntKind.wrap_i64]; omega
          have Ed : (mid : Int) + (m : Int) - 1 - (c : Int) = (d : Int) := by omega
          have HD : Hid (d = mid + m - 1 - c ∧ d = mid + m - (c + 1)) := Lib.hid ⟨by omega, by omega⟩
          have CQ := Lib.hid ((Chg.refl g w).drew q)
          have HWQ : Hid (∀ k, ∃ q', (w.drewN q).drewN k = w.drewN q') := Lib.hid (fun k => ⟨q + k, World.drewN_drewN _ _ _⟩)
          have cd : (w.drewN q).cell? ⟨g, d, none⟩ = some (.int .i64 (G d : Nat)) := HP.out.own.cell (by omega)
          have cc : (w.drewN q).cell? ⟨g, c, none⟩ = some (.int .i64 (G c : Nat)) := HP.out.own.cell (by omega)
          have hlr : G c < G d := HP.out.lr c d (by omega) (by omega) d1 d2
          obtain ⟨wq, hwq⟩ : ∃ wq, w.drewN q = wq := ⟨_, rfl⟩
          rw [hwq] at cd cc CQ HWQ ⊢
          have hcc := fun k => HT.out (wq.drewN k) (CQ.out.drew k) (G d) (G c) (HP.out.bd _ (by omega)) (HP.out.bd _ (by omega))
          have FY := Lib.hid (HF.out.yes (G c) (G d) (HP.out.bd _ (by omega)) (HP.out.bd _ (by omega)) hlr)
          have FN := Lib.hid (HF.out.no (G c) (G d) (HP.out.bd _ (by omega)) (HP.out.bd _ (by omega)) hlr)
          obtain ⟨xd, hxd⟩ : ∃ x, G d = x := ⟨_, rfl⟩
          obtain ⟨xc, hxc⟩ : ∃ x, G c = x := ⟨_, rfl⟩
          rw [hxd] at cd hcc FY FN
          rw [hxc] at cc hcc FY FN
          have z2 : (d : Int) < (len : Int) := by omega
          have z3 : (c : Int) < (len : Int) := by omega
          by_cases hv : cf xd xc < 0
          · have D : decide (cf xd xc < 0) = true := decide_eq_true hv
            have LN : Hid (c < hi → lt (G (mid + m - 1 - c)) (G c)) := Lib.hid (fun _ => by rw [← HD.out.1, hxd, hxc]; exact FY.out hv)
            clear hxd hxc FY FN hv LR hlr hwq E2 hh hd hp1 Wp Wn Wl z0 z1 W0 W1
            go_wp2_with fail
            rw [HE2.out]
            go_quiet (first | (refine Calls.quiet_of (hcc _)))
            go_wp2
            go_roundw
            case rel => exact ⟨s, c, s1, b1, by omega, rfl, rfl, LS, LN, HWQ.out nq⟩
            case measure => simp [intOf]; omega
          · have D : decide (cf xd xc < 0) = false := decide_eq_false hv
            have LN : Hid (lo < c + 1 → lt (G (c + 1 - 1)) (G (mid + m - (c + 1)))) := Lib.hid (fun _ => by rw [← HD.out.2, Nat.add_sub_cancel, hxd, hxc]; exact FN.out hv)
            clear hxd hxc FY FN hv LS hlr hwq E2 hh hd hp1 Wp Wn Wl z0 z1 W0 W1
            go_wp2_with fail
            rw [HE2.out]
            go_quiet (first | (refine Calls.quiet_of (hcc _)))
            go_wp2
            go_roundw
            case rel => exact ⟨c + 1, r, by omega, by omega, r1, by go_num, rfl, LN, LR, HWQ.out nq⟩
            case measure => simp [intOf]; omega
        · obtain rfl : s = r := by omega
          obtain ⟨e, he⟩ : ∃ e, e + s = mid + m := ⟨mid + m - s, by omega⟩
          have We : IntKind.i64.wrap ((mid : Int) + (m : Int) - (s : Int)) = (e : Int) := by rw [IntKind.wrap_i64]; omega
          have CU := cut_of HF.out HP.out h3 f1 s1 r1 f3 f4 f5 F6.out F7.out h2 he LS.out LR.out
          have e1 : s ≤ m := by omega
          have e2 : m ≤ e := by omega
          have e3 : e ≤ b := by omega
          have e4 : mid ≤ e := by omega
          have e5 : s ≤ mid := by omega
          have O0 : Hid (Own (w.drewN q) base 3 (.slice (some ⟨g, 0, none⟩) len cap) len (intsV G)) := Lib.hid HP.out.own
          have C0 : Hid (Chg g w (w.drewN q)) := Lib.hid ((Chg.refl g w).drew q)
          obtain ⟨wq, hwq⟩ : ∃ wq, w.drewN q = wq := ⟨_, rfl⟩
          rw [hwq] at O0 C0 ⊢
          have RN : Hid ((s = m ∨ m = e) → rot G s m e = G) := Lib.hid (fun h => rot_none h ⟨e1, e2⟩)
          have RO := Lib.hid (fun (h1 : s < m) (h2 : m < e) za zm zb ea em eb => rotate_any (.func (.func f) #[] cb) g cap len s m e base wq G O0.out h1 h2 (by omega) hlen za zm zb ea em eb)
          obtain ⟨H, hH⟩ : ∃ H, rot G s m e = H := ⟨_, rfl⟩
          rw [hH] at CU RN RO
          have CT := Lib.hid CU
          clear CU hH hwq he LS LR hp1 Wp Wn Wl z0 z1 W0 W1
          by_cases q1 : s < m
          · by_cases q2 : m < e
            · go_wp2_with fail
              refine (RO.out q1 q2 _ _ _ rfl rfl rfl).mono ?_
              rintro en w1 ⟨rfl, o1, k1⟩
              have O1 := Lib.hid o1
              have C1 : Hid (Chg g w w1) := Lib.hid (C0.out.trans k1)
              clear o1 k1 O0 C0 RO RN q1 q2 hlt
              have ST := Lib.hid (fun (l1 : a < s) (l2 : s < mid) za zm zb ea em eb => IH.out a s mid H w1 (by omega) l1 l2 (by omega) (HC.out.trans C1.out) (CT.out.left O1.out) za zm zb ea em eb)
              by_cases l1 : a < s
              · by_cases l2 : s < mid
                · go_wp2_with fail
                  refine (ST.out l1 l2 _ _ _ rfl rfl rfl).mono ?_
                  rintro en w2 ⟨K, rfl, o2, p2, s2, k2⟩
                  have O2 := Lib.hid o2
                  have P2 := Lib.hid p2
                  have S2 := Lib.hid s2
                  have C2 : Hid (Chg g w w2) := Lib.hid (C1.out.trans k2)
                  clear o2 p2 s2 k2 O1 ST l1 l2
                  have ST := Lib.hid (fun (l1 : mid < e) (l2 : e < b) za zm zb ea em eb => IH.out mid e b _ w2 (by omega) l1 l2 h3 (HC.out.trans C2.out) (CT.out.right (by omega) e4 P2.out O2.out) za zm zb ea em eb)
                  have PR := CT.out.right (by omega) e4 P2.out O2.out
                  have PS := Lib.hid (And.intro PR.sl PR.sr)
                  clear PR
                  by_cases l3 : mid < e
                  · by_cases l4 : e < b
                    · go_wp2_with fail
                      refine (ST.out l3 l4 _ _ _ rfl rfl rfl).mono ?_
                      rintro en w3 ⟨J, rfl, o3, p3, s3, k3⟩
                      have FS := Lib.hid (halves_sorted (by omega) (by omega) CT.out.hv.lr P2.out S2.out p3 s3)
                      have O3 := Lib.hid o3
                      clear o3 p3 s3
                      go_wp2
                      go_end0
                      exact ⟨J, rfl, O3.out, CT.out.per.trans FS.out.2, FS.out.1, C2.out.trans k3⟩
                    · have FS := Lib.hid (halves_sorted (by omega) (by omega) CT.out.hv.lr P2.out S2.out (Per.refl _ mid b) (by have := PS.out.1; rw [show e = b by omega] at this; exact this))
                      clear ST
                      go_wp2
                      go_end0
                      exact ⟨_, rfl, O2.out, CT.out.per.trans FS.out.2, FS.out.1, C2.out⟩
                  · have FS := Lib.hid (halves_sorted (by omega) (by omega) CT.out.hv.lr P2.out S2.out (Per.refl _ mid b) (by have := PS.out.2; rw [show e = mid by omega] at this; exact this))
                    clear ST
                    go_wp2
                    go_end0
                    exact ⟨_, rfl, O2.out, CT.out.per.trans FS.out.2, FS.out.1, C2.out⟩
                · have P2 := Lib.hid (Per.refl H a mid)
                  have S2 : Hid (SortedIn lt H a mid) := Lib.hid (by have := CT.out.hv.p1; rw [show s = mid by omega] at this; exact this)
                  clear ST
                  have ST := Lib.hid (fun (l1 : mid < e) (l2 : e < b) za zm zb ea em eb => IH.out mid e b _ w1 (by omega) l1 l2 h3 (HC.out.trans C1.out) (CT.out.right (by omega) e4 P2.out O1.out) za zm zb ea em eb)
                  have PR := CT.out.right (by omega) e4 P2.out O1.out
                  have PS := Lib.hid (And.intro PR.sl PR.sr)
                  clear PR
                  by_cases l3 : mid < e
                  · by_cases l4 : e < b
                    · go_wp2_with fail
                      refine (ST.out l3 l4 _ _ _ rfl rfl rfl).mono ?_
                      rintro en w3 ⟨J, rfl, o3, p3, s3, k3⟩
                      have FS := Lib.hid (halves_sorted (by omega) (by omega) CT.out.hv.lr P2.out S2.out p3 s3)
                      have O3 := Lib.hid o3
                      clear o3 p3 s3
                      go_wp2
                      go_end0
                      exact ⟨J, rfl, O3.out, CT.out.per.trans FS.out.2, FS.out.1, C1.out.trans k3⟩
                    · have FS := Lib.hid (halves_sorted (by omega) (by omega) CT.out.hv.lr P2.out S2.out (Per.refl _ mid b) (by have := PS.out.1; rw [show e = b by omega] at this; exact this))
                      clear ST
                      go_wp2
                      go_end0
                      exact ⟨_, rfl, O1.out, CT.out.per.trans FS.out.2, FS.out.1, C1.out⟩
                  · have FS := Lib.hid (halves_sorted (by omega) (by omega) CT.out.hv.lr P2.out S2.out (Per.refl _ mid b) (by have := PS.out.2; rw [show e = mid by omega] at this; exact this))
                    clear ST
                    go_wp2
                    go_end0
                    exact ⟨_, rfl, O1.out, CT.out.per.trans FS.out.2, FS.out.1, C1.out⟩
              · have P2 := Lib.hid (Per.refl H a mid)
                have S2 : Hid (SortedIn lt H a mid) := Lib.hid (by have := CT.out.hv.p2; rw [show s = a by omega] at this; exact this)
                clear ST
                have ST := Lib.hid (fun (l1 : mid < e) (l2 : e < b) za zm zb ea em eb => IH.out mid e b _ w1 (by omega) l1 l2 h3 (HC.out.trans C1.out) (CT.out.right (by omega) e4 P2.out O1.out) za zm zb ea em eb)
                have PR := CT.out.right (by omega) e4 P2.out O1.out
                have PS := Lib.hid (And.intro PR.sl PR.sr)
                clear PR
                by_cases l3 : mid < e
                · by_cases l4 : e < b
                  · go_wp2_with fail
                    refine (ST.out l3 l4 _ _ _ rfl rfl rfl).mono ?_
                    rintro en w3 ⟨J, rfl, o3, p3, s3, k3⟩
                    have FS := Lib.hid (halves_sorted (by omega) (by omega) CT.out.hv.lr P2.out S2.out p3 s3)
                    have O3 := Lib.hid o3
                    clear o3 p3 s3
                    go_wp2
                    go_end0
                    exact ⟨J, rfl, O3.out, CT.out.per.trans FS.out.2, FS.out.1, C1.out.trans k3⟩
                  · have FS := Lib.hid (halves_sorted (by omega) (by omega) CT.out.hv.lr P2.out S2.out (Per.refl _ mid b) (by have := PS.out.1; rw [show e = b by omega] at this; exact this))
                    clear ST
                    go_wp2
                    go_end0
                    exact ⟨_, rfl, O1.out, CT.out.per.trans FS.out.2, FS.out.1, C1.out⟩
                · have FS := Lib.hid (halves_sorted (by omega) (by omega) CT.out.hv.lr P2.out S2.out (Per.refl _ mid b) (by have := PS.out.2; rw [show e = mid by omega] at this; exact this))
                  clear ST
                  go_wp2
                  go_end0
                  exact ⟨_, rfl, O1.out, CT.out.per.trans FS.out.2, FS.out.1, C1.out⟩
            · have O1 : Hid (Own wq base 3 (.slice (some ⟨g, 0, none⟩) len cap) len (intsV H)) := Lib.hid (by rw [RN.out (by omega)]; exact O0.out)
              clear O0 RO RN
              have ST := Lib.hid (fun (l1 : a < s) (l2 : s < mid) za zm zb ea em eb => IH.out a s mid H wq (by omega) l1 l2 (by omega) (HC.out.trans C0.out) (CT.out.left O1.out) za zm zb ea em eb)
              by_cases l1 : a < s
              · by_cases l2 : s < mid
                · go_wp2_with fail
                  refine (ST.out l1 l2 _ _ _ rfl rfl rfl).mono ?_
                  rintro en w2 ⟨K, rfl, o2, p2, s2, k2⟩
                  have O2 := Lib.hid o2
                  have P2 := Lib.hid p2
                  have S2 := Lib.hid s2
                  have C2 : Hid (Chg g w w2) := Lib.hid (C0.out.trans k2)
                  clear o2 p2 s2 k2 O1 ST l1 l2
                  have ST := Lib.hid (fun (l1 : mid < e) (l2 : e < b) za zm zb ea em eb => IH.out mid e b _ w2 (by omega) l1 l2 h3 (HC.out.trans C2.out) (CT.out.right (by omega) e4 P2.out O2.out) za zm zb ea em eb)
                  have PR := CT.out.right (by omega) e4 P2.out O2.out
                  have PS := Lib.hid (And.intro PR.sl PR.sr)
                  clear PR
                  by_cases l3 : mid < e
                  · by_cases l4 : e < b
                    · go_wp2_with fail
                      refine (ST.out l3 l4 _ _ _ rfl rfl rfl).mono ?_
                      rintro en w3 ⟨J, rfl, o3, p3, s3, k3⟩
                      have FS := Lib.hid (halves_sorted (by omega) (by omega) CT.out.hv.lr P2.out S2.out p3 s3)
                      have O3 := Lib.hid o3
                      clear o3 p3 s3
                      go_wp2
                      go_end0
                      exact ⟨J, rfl, O3.out, CT.out.per.trans FS.out.2, FS.out.1, C2.out.trans k3⟩
                    · have FS := Lib.hid (halves_sorted (by omega) (by omega) CT.out.hv.lr P2.out S2.out (Per.refl _ mid b) (by have := PS.out.1; rw [show e = b by omega] at this; exact this))
                      clear ST
                      go_wp2
                      go_end0
                      exact ⟨_, rfl, O2.out, CT.out.per.trans FS.out.2, FS.out.1, C2.out⟩
                  · have FS := Lib.hid (halves_sorted (by omega) (by omega) CT.out.hv.lr P2.out S2.out (Per.refl _ mid b) (by have := PS.out.2; rw [show e = mid by omega] at this; exact this))
                    clear ST
                    go_wp2
                    go_end0
                    exact ⟨_, rfl, O2.out, CT.out.per.trans FS.out.2, FS.out.1, C2.out⟩
                · have P2 := Lib.hid (Per.refl H a mid)
                  have S2 : Hid (SortedIn lt H a mid) := Lib.hid (by have := CT.out.hv.p1; rw [show s = mid by omega] at this; exact this)
                  clear ST
                  have ST := Lib.hid (fun (l1 : mid < e) (l2 : e < b) za zm zb ea em eb => IH.out mid e b _ wq (by omega) l1 l2 h3 (HC.out.trans C0.out) (CT.out.right (by omega) e4 P2.out O1.out) za zm zb ea em eb)
                  have PR := CT.out.right (by omega) e4 P2.out O1.out
                  have PS := Lib.hid (And.intro PR.sl PR.sr)
                  clear PR
                  by_cases l3 : mid < e
                  · by_cases l4 : e < b
                    · go_wp2_with fail
                      refine (ST.out l3 l4 _ _ _ rfl rfl rfl).mono ?_
                      rintro en w3 ⟨J, rfl, o3, p3, s3, k3⟩
                      have FS := Lib.hid (halves_sorted (by omega) (by omega) CT.out.hv.lr P2.out S2.out p3 s3)
                      have O3 := Lib.hid o3
                      clear o3 p3 s3
                      go_wp2
                      go_end0
                      exact ⟨J, rfl, O3.out, CT.out.per.trans FS.out.2, FS.out.1, C0.out.trans k3⟩
                    · have FS := Lib.hid (halves_sorted (by omega) (by omega) CT.out.hv.lr P2.out S2.out (Per.refl _ mid b) (by have := PS.out.1; rw [show e = b by omega] at this; exact this))
                      clear ST
                      go_wp2
                      go_end0
                      exact ⟨_, rfl, O1.out, CT.out.per.trans FS.out.2, FS.out.1, C0.out⟩
                  · have FS := Lib.hid (halves_sorted (by omega) (by omega) CT.out.hv.lr P2.out S2.out (Per.refl _ mid b) (by have := PS.out.2; rw [show e = mid by omega] at this; exact this))
                    clear ST
                    go_wp2
                    go_end0
                    exact ⟨_, rfl, O1.out, CT.out.per.trans FS.out.2, FS.out.1, C0.out⟩
              · have P2 := Lib.hid (Per.refl H a mid)
                have S2 : Hid (SortedIn lt H a mid) := Lib.hid (by have := CT.out.hv.p2; rw [show s = a by omega] at this; exact this)
                clear ST
                have ST := Lib.hid (fun (l1 : mid < e) (l2 : e < b) za zm zb ea em eb => IH.out mid e b _ wq (by omega) l1 l2 h3 (HC.out.trans C0.out) (CT.out.right (by omega) e4 P2.out O1.out) za zm zb ea em eb)
                have PR := CT.out.right (by omega) e4 P2.out O1.out
                have PS := Lib.hid (And.intro PR.sl PR.sr)
                clear PR
                by_cases l3 : mid < e
                · by_cases l4 : e < b
                  · go_wp2_with fail
                    refine (ST.out l3 l4 _ _ _ rfl rfl rfl).mono ?_
                    rintro en w3 ⟨J, rfl, o3, p3, s3, k3⟩
                    have FS := Lib.hid (halves_sorted (by omega) (by omega) CT.out.hv.lr P2.out S2.out p3 s3)
                    have O3 := Lib.hid o3
                    clear o3 p3 s3
                    go_wp2
                    go_end0
                    exact ⟨J, rfl, O3.out, CT.out.per.trans FS.out.2, FS.out.1, C0.out.trans k3⟩
                  · have FS := Lib.hid (halves_sorted (by omega) (by omega) CT.out.hv.lr P2.out S2.out (Per.refl _ mid b) (by have := PS.out.1; rw [show e = b by omega] at this; exact this))
                    clear ST
                    go_wp2
                    go_end0
                    exact ⟨_, rfl, O1.out, CT.out.per.trans FS.out.2, FS.out.1, C0.out⟩
                · have FS := Lib.hid (halves_sorted (by omega) (by omega) CT.out.hv.lr P2.out S2.out (Per.refl _ mid b) (by have := PS.out.2; rw [show e = mid by omega] at this; exact this))
                  clear ST
                  go_wp2
                  go_end0
                  exact ⟨_, rfl, O1.out, CT.out.per.trans FS.out.2, FS.out.1, C0.out⟩
          · have O1 : Hid (Own wq base 3 (.slice (some ⟨g, 0, none⟩) len cap) len (intsV H)) := Lib.hid (by rw [RN.out (by omega)]; exact O0.out)
            clear O0 RO RN
            have ST := Lib.hid (fun (l1 : a < s) (l2 : s < mid) za zm zb ea em eb => IH.out a s mid H wq (by omega) l1 l2 (by omega) (HC.out.trans C0.out) (CT.out.left O1.out) za zm zb ea em eb)
            by_cases l1 : a < s
            · by_cases l2 : s < mid
              · go_wp2_with fail
                refine (ST.out l1 l2 _ _ _ rfl rfl rfl).mono ?_
                rintro en w2 ⟨K, rfl, o2, p2, s2, k2⟩
                have O2 := Lib.hid o2
                have P2 := Lib.hid p2
                have S2 := Lib.hid s2
                have C2 : Hid (Chg g w w2) := Lib.hid (C0.out.trans k2)
                clear o2 p2 s2 k2 O1 ST l1 l2
                have ST := Lib.hid (fun (l1 : mid < e) (l2 : e < b) za zm zb ea em eb => IH.out mid e b _ w2 (by omega) l1 l2 h3 (HC.out.trans C2.out) (CT.out.right (by omega) e4 P2.out O2.out) za zm zb ea em eb)
                have PR := CT.out.right (by omega) e4 P2.out O2.out
                have PS := Lib.hid (And.intro PR.sl PR.sr)
                clear PR
                by_cases l3 : mid < e
                · by_cases l4 : e < b
                  · go_wp2_with fail
                    refine (ST.out l3 l4 _ _ _ rfl rfl rfl).mono ?_
                    rintro en w3 ⟨J, rfl, o3, p3, s3, k3⟩
                    have FS := Lib.hid (halves_sorted (by omega) (by omega) CT.out.hv.lr P2.out S2.out p3 s3)
                    have O3 := Lib.hid o3
                    clear o3 p3 s3
                    go_wp2
                    go_end0
                    exact ⟨J, rfl, O3.out, CT.out.per.trans FS.out.2, FS.out.1, C2.out.trans k3⟩
                  · have FS := Lib.hid (halves_sorted (by omega) (by omega) CT.out.hv.lr P2.out S2.out (Per.refl _ mid b) (by have := PS.out.1; rw [show e = b by omega] at this; exact this))
                    clear ST
                    go_wp2
                    go_end0
                    exact ⟨_, rfl, O2.out, CT.out.per.trans FS.out.2, FS.out.1, C2.out⟩
                · have FS := Lib.hid (halves_sorted (by omega) (by omega) CT.out.hv.lr P2.out S2.out (Per.refl _ mid b) (by have := PS.out.2; rw [show e = mid by omega] at this; exact this))
                  clear ST
                  go_wp2
                  go_end0
                  exact ⟨_, rfl, O2.out, CT.out.per.trans FS.out.2, FS.out.1, C2.out⟩
              · have P2 := Lib.hid (Per.refl H a mid)
                have S2 : Hid (SortedIn lt H a mid) := Lib.hid (by have := CT.out.hv.p1; rw [show s = mid by omega] at this; exact this)
                clear ST
                have ST := Lib.hid (fun (l1 : mid < e) (l2 : e < b) za zm zb ea em eb => IH.out mid e b _ wq (by omega) l1 l2 h3 (HC.out.trans C0.out) (CT.out.right (by omega) e4 P2.out O1.out) za zm zb ea em eb)
                have PR := CT.out.right (by omega) e4 P2.out O1.out
                have PS := Lib.hid (And.intro PR.sl PR.sr)
                clear PR
                by_cases l3 : mid < e
                · by_cases l4 : e < b
                  · go_wp2_with fail
                    refine (ST.out l3 l4 _ _ _ rfl rfl rfl).mono ?_
                    rintro en w3 ⟨J, rfl, o3, p3, s3, k3⟩
                    have FS := Lib.hid (halves_sorted (by omega) (by omega) CT.out.hv.lr P2.out S2.out p3 s3)
                    have O3 := Lib.hid o3
                    clear o3 p3 s3
                    go_wp2
                    go_end0
                    exact ⟨J, rfl, O3.out, CT.out.per.trans FS.out.2, FS.out.1, C0.out.trans k3⟩
                  · have FS := Lib.hid (halves_sorted (by omega) (by omega) CT.out.hv.lr P2.out S2.out (Per.refl _ mid b) (by have := PS.out.1; rw [show e = b by omega] at this; exact this))
                    clear ST
                    go_wp2
                    go_end0
                    exact ⟨_, rfl, O1.out, CT.out.per.trans FS.out.2, FS.out.1, C0.out⟩
                · have FS := Lib.hid (halves_sorted (by omega) (by omega) CT.out.hv.lr P2.out S2.out (Per.refl _ mid b) (by have := PS.out.2; rw [show e = mid by omega] at this; exact this))
                  clear ST
                  go_wp2
                  go_end0
                  exact ⟨_, rfl, O1.out, CT.out.per.trans FS.out.2, FS.out.1, C0.out⟩
            · have P2 := Lib.hid (Per.refl H a mid)
              have S2 : Hid (SortedIn lt H a mid) := Lib.hid (by have := CT.out.hv.p2; rw [show s = a by omega] at this; exact this)
              clear ST
              have ST := Lib.hid (fun (l1 : mid < e) (l2 : e < b) za zm zb ea em eb => IH.out mid e b _ wq (by omega) l1 l2 h3 (HC.out.trans C0.out) (CT.out.right (by omega) e4 P2.out O1.out) za zm zb ea em eb)
              have PR := CT.out.right (by omega) e4 P2.out O1.out
              have PS := Lib.hid (And.intro PR.sl PR.sr)
              clear PR
              by_cases l3 : mid < e
              · by_cases l4 : e < b
                · go_wp2_with fail
                  refine (ST.out l3 l4 _ _ _ rfl rfl rfl).mono ?_
                  rintro en w3 ⟨J, rfl, o3, p3, s3, k3⟩
                  have FS := Lib.hid (halves_sorted (by omega) (by omega) CT.out.hv.lr P2.out S2.out p3 s3)
                  have O3 := Lib.hid o3
                  clear o3 p3 s3
                  go_wp2
                  go_end0
                  exact ⟨J, rfl, O3.out, CT.out.per.trans FS.out.2, FS.out.1, C0.out.trans k3⟩
                · have FS := Lib.hid (halves_sorted (by omega) (by omega) CT.out.hv.lr P2.out S2.out (Per.refl _ mid b) (by have := PS.out.1; rw [show e = b by omega] at this; exact this))
                  clear ST
                  go_wp2
                  go_end0
                  exact ⟨_, rfl, O1.out, CT.out.per.trans FS.out.2, FS.out.1, C0.out⟩
              · have FS := Lib.hid (halves_sorted (by omega) (by omega) CT.out.hv.lr P2.out S2.out (Per.refl _ mid b) (by have := PS.out.2; rw [show e = mid by omega] at this; exact this))
                clear ST
                go_wp2
                go_end0
                exact ⟨_, rfl, O1.out, CT.out.per.trans FS.out.2, FS.out.1, C0.out⟩
    · skip
      go_enter Try.func28, Try.ntmps28
      go_wp2_with fail
      rw [HE.out]
      go_wp2
      go_loopw [20, 21, 23] (fun sv rv _ wr => ∃ s r : Nat, lo ≤ s ∧ s ≤ r ∧ r ≤ hi ∧ sv = .int .i64 s ∧ rv = .int .i64 r ∧ Hid (lo < s → lt (G (s - 1)) (G (mid + m - s))) ∧ Hid (r < hi → lt (G (mid + m - 1 - r)) (G r)) ∧ ∃ q, wr = w.drewN q) (fun sv rv _ _ => (intOf rv - intOf sv).toNat)
      case atStart => exact ⟨lo, hi, Nat.le_refl _, f2, Nat.le_refl _, by rw [g2], by rw [g3], Lib.hid (fun h => absurd h (by omega)), Lib.hid (fun h => absurd h (by omega)), 0, rfl⟩
      case round =>
        obtain ⟨s, r, s1, sr, r1, rfl, rfl, LS, LR, q, rfl⟩ := hrel
        by_cases hlt : s < r
        · obtain ⟨c, hh⟩ : ∃ c, c = (s + r) / 2 := ⟨_, rfl⟩
          have b1 : s ≤ c := by omega
          have b2 : c < r := by omega
          have E2 : ((s : Int) + (r : Int)) / 2 = (c : Int) := by omega
          have HE2 := Lib.hid E2
          obtain ⟨d, hd⟩ : ∃ d, d + c = p := ⟨p - c, by omega⟩
          have d1 : m ≤ d := by omega
          have d2 : d < b := by omega
          have Wd : IntKind.i64.wrap ((mid : Int) + (m : Int) - 1 - (c : Int)) = (d : Int) := by rw [IntKind.wrap_i64]; omega
          have Ed : (mid : Int) + (m : Int) - 1 - (c : Int) = (d : Int) := by omega
          have HD : Hid (d = mid + m - 1 - c ∧ d = mid + m - (c + 1)) := Lib.hid ⟨by omega, by omega⟩
          have CQ := Lib.hid ((Chg.refl g w).drew q)
          have HWQ : Hid (∀ k, ∃ q', (w.drewN q).drewN k = w.drewN q') := Lib.hid (fun k => ⟨q + k, World.drewN_drewN _ _ _⟩)
          have cd : (w.drewN q).cell? ⟨g, d, none⟩ = some (.int .i64 (G d : Nat)) := HP.out.own.cell (by omega)
          have cc : (w.drewN q).cell? ⟨g, c, none⟩ = some (.int .i64 (G c : Nat)) := HP.out.own.cell (by omega)
          have hlr : G c < G d := HP.out.lr c d (by omega) (by omega) d1 d2
          obtain ⟨wq, hwq⟩ : ∃ wq, w.drewN q = wq := ⟨_, rfl⟩
          rw [hwq] at cd cc CQ HWQ ⊢
          have hcc := fun k => HT.out (wq.drewN k) (CQ.out.drew k) (G d) (G c) (HP.out.bd _ (by omega)) (HP.out.bd _ (by omega))
          have FY := Lib.hid (HF.out.yes (G c) (G d) (HP.out.bd _ (by omega)) (HP.out.bd _ (by omega)) hlr)
          have FN := Lib.hid (HF.out.no (G c) (G d) (HP.out.bd _ (by omega)) (HP.out.bd _ (by omega)) hlr)
          obtain ⟨xd, hxd⟩ : ∃ x, G d = x := ⟨_, rfl⟩
          obtain ⟨xc, hxc⟩ : ∃ x, G c = x := ⟨_, rfl⟩
          rw [hxd] at cd hcc FY FN
          rw [hxc] at cc hcc FY FN
          have z2 : (d : Int) < (len : Int) := by omega
          have z3 : (c : Int) < (len : Int) := by omega
          by_cases hv : cf xd xc < 0
          · have D : decide (cf xd xc < 0) = true := decide_eq_true hv
            have LN : Hid (c < hi → lt (G (mid + m - 1 - c)) (G c)) := Lib.hid (fun _ => by rw [← HD.out.1, hxd, hxc]; exact FY.out hv)
            clear hxd hxc FY FN hv LR hlr hwq E2 hh hd hp1 Wp Wn Wl z0 z1 W0 W1
            go_wp2_with fail
            rw [HE2.out]
            go_quiet (first | (refine Calls.quiet_of (hcc _)))
            go_wp2
            go_roundw
            case rel => exact ⟨s, c, s1, b1, by omega, rfl, rfl, LS, LN, HWQ.out nq⟩
            case measure => simp [intOf]; omega
          · have D : decide (cf xd xc < 0) = false := decide_eq_false hv
            have LN : Hid (lo < c + 1 → lt (G (c + 1 - 1)) (G (mid + m - (c + 1)))) := Lib.hid (fun _ => by rw [← HD.out.2, Nat.add_sub_cancel, hxd, hxc]; exact FN.out hv)
            clear hxd hxc FY FN hv LS hlr hwq E2 hh hd hp1 Wp Wn Wl z0 z1 W0 W1
            go_wp2_with fail
            rw [HE2.out]
            go_quiet (first | (refine Calls.quiet_of (hcc _)))
            go_wp2
            go_roundw
            case rel => exact ⟨c + 1, r, by omega, by omega, r1, by go_num, rfl, LN, LR, HWQ.out nq⟩
            case measure => simp [intOf]; omega
        · obtain rfl : s = r := by omega
          obtain ⟨e, he⟩ : ∃ e, e + s = mid + m := ⟨mid + m - s, by omega⟩
          have We : IntKind.i64.wrap ((mid : Int) + (m : Int) - (s : Int)) = (e : Int) := by rw [IntKind.wrap_i64]; omega
          have CU := cut_of HF.out HP.out h3 f1 s1 r1 f3 f4 f5 F6.out F7.out h2 he LS.out LR.out
          have e1 : s ≤ m := by omega
          have e2 : m ≤ e := by omega
          have e3 : e ≤ b := by omega
          have e4 : mid ≤ e := by omega
          have e5 : s ≤ mid := by omega
          have O0 : Hid (Own (w.drewN q) base 3 (.slice (some ⟨g, 0, none⟩) len cap) len (intsV G)) := Lib.hid HP.out.own
          have C0 : Hid (Chg g w (w.drewN q)) := Lib.hid ((Chg.refl g w).drew q)
          obtain ⟨wq, hwq⟩ : ∃ wq, w.drewN q = wq := ⟨_, rfl⟩
          rw [hwq] at O0 C0 ⊢
          have RN : Hid ((s = m ∨ m = e) → rot G s m e = G) := Lib.hid (fun h => rot_none h ⟨e1, e2⟩)
          have RO := Lib.hid (fun (h1 : s < m) (h2 : m < e) za zm zb ea em eb => rotate_any (.func (.func f) #[] cb) g cap len s m e base wq G O0.out h1 h2 (by omega) hlen za zm zb ea em eb)
          obtain ⟨H, hH⟩ : ∃ H, rot G s m e = H := ⟨_, rfl⟩
          rw [hH] at CU RN RO
          have CT := Lib.hid CU
          clear CU hH hwq he LS LR hp1 Wp Wn Wl z0 z1 W0 W1
          by_cases q1 : s < m
          · by_cases q2 : m < e
            · go_wp2_with fail
              refine (RO.out q1 q2 _ _ _ rfl rfl rfl).mono ?_
              rintro en w1 ⟨rfl, o1, k1⟩
              have O1 := Lib.hid o1
              have C1 : Hid (Chg g w w1) := Lib.hid (C0.out.trans k1)
              clear o1 k1 O0 C0 RO RN q1 q2 hlt
              have ST := Lib.hid (fun (l1 : a < s) (l2 : s < mid) za zm zb ea em eb => IH.out a s mid H w1 (by omega) l1 l2 (by omega) (HC.out.trans C1.out) (CT.out.left O1.out) za zm zb ea em eb)
              by_cases l1 : a < s
              · by_cases l2 : s < mid
                · go_wp2_with fail
                  refine (ST.out l1 l2 _ _ _ rfl rfl rfl).mono ?_
                  rintro en w2 ⟨K, rfl, o2, p2, s2, k2⟩
                  have O2 := Lib.hid o2
                  have P2 := Lib.hid p2
                  have S2 := Lib.hid s2
                  have C2 : Hid (Chg g w w2) := Lib.hid (C1.out.trans k2)
                  clear o2 p2 s2 k2 O1 ST l1 l2
                  have ST := Lib.hid (fun (l1 : mid < e) (l2 : e < b) za zm zb ea em eb => IH.out mid e b _ w2 (by omega) l1 l2 h3 (HC.out.trans C2.out) (CT.out.right (by omega) e4 P2.out O2.out) za zm zb ea em eb)
                  have PR := CT.out.right (by omega) e4 P2.out O2.out
                  have PS := Lib.hid (And.intro PR.sl PR.sr)
                  clear PR
                  by_cases l3 : mid < e
                  · by_cases l4 : e < b
                    · go_wp2_with fail
                      refine (ST.out l3 l4 _ _ _ rfl rfl rfl).mono ?_
                      rintro en w3 ⟨J, rfl, o3, p3, s3, k3⟩
                      have FS := Lib.hid (halves_sorted (by omega) (by omega) CT.out.hv.lr P2.out S2.out p3 s3)
                      have O3 := Lib.hid o3
                      clear o3 p3 s3
                      go_wp2
                      go_end0
                      exact ⟨J, rfl, O3.out, CT.out.per.trans FS.out.2, FS.out.1, C2.out.trans k3⟩
                    · have FS := Lib.hid (halves_sorted (by omega) (by omega) CT.out.hv.lr P2.out S2.out (Per.refl _ mid b) (by have := PS.out.1; rw [show e = b by omega] at this; exact this))
                      clear ST
                      go_wp2
                      go_end0
                      exact ⟨_, rfl, O2.out, CT.out.per.trans FS.out.2, FS.out.1, C2.out⟩
                  · have FS := Lib.hid (halves_sorted (by omega) (by omega) CT.out.hv.lr P2.out S2.out (Per.refl _ mid b) (by have := PS.out.2; rw [show e = mid by omega] at this; exact this))
                    clear ST
                    go_wp2
                    go_end0
                    exact ⟨_, rfl, O2.out, CT.out.per.trans FS.out.2, FS.out.1, C2.out⟩
                · have P2 := Lib.hid (Per.refl H a mid)
                  have S2 : Hid (SortedIn lt H a mid) := Lib.hid (by have := CT.out.hv.p1; rw [show s = mid by omega] at this; exact this)
                  clear ST
                  have ST := Lib.hid (fun (l1 : mid < e) (l2 : e < b) za zm zb ea em eb => IH.out mid e b _ w1 (by omega) l1 l2 h3 (HC.out.trans C1.out) (CT.out.right (by omega) e4 P2.out O1.out) za zm zb ea em eb)
                  have PR := CT.out.right (by omega) e4 P2.out O1.out
                  have PS := Lib.hid (And.intro PR.sl PR.sr)
                  clear PR
                  by_cases l3 : mid < e
                  · by_cases l4 : e < b
                    · go_wp2_with fail
                      refine (ST.out l3 l4 _ _ _ rfl rfl rfl).mono ?_
                      rintro en w3 ⟨J, rfl, o3, p3, s3, k3⟩
                      have FS := Lib.hid (halves_sorted (by omega) (by omega) CT.out.hv.lr P2.out S2.out p3 s3)
                      have O3 := Lib.hid o3
                      clear o3 p3 s3
                      go_wp2
                      go_end0
                      exact ⟨J, rfl, O3.out, CT.out.per.trans FS.out.2, FS.out.1, C1.out.trans k3⟩
                    · have FS := Lib.hid (halves_sorted (by omega) (by omega) CT.out.hv.lr P2.out S2.out (Per.refl _ mid b) (by have := PS.out.1; rw [show e = b by omega] at this; exact this))
                      clear ST
                      go_wp2
                      go_end0
                      exact ⟨_, rfl, O1.out, CT.out.per.trans FS.out.2, FS.out.1, C1.out⟩
                  · have FS := Lib.hid (halves_sorted (by omega) (by omega) CT.out.hv.lr P2.out S2.out (Per.refl _ mid b) (by have := PS.out.2; rw [show e = mid by omega] at this; exact this))
                    clear ST
                    go_wp2
                    go_end0
                    exact ⟨_, rfl, O1.out, CT.out.per.trans FS.out.2, FS.out.1, C1.out⟩
              · have P2 := Lib.hid (Per.refl H a mid)
                have S2 : Hid (SortedIn lt H a mid) := Lib.hid (by have := CT.out.hv.p2; rw [show s = a by omega] at this; exact this)
                clear ST
                have ST := Lib.hid (fun (l1 : mid < e) (l2 : e < b) za zm zb ea em eb => IH.out mid e b _ w1 (by omega) l1 l2 h3 (HC.out.trans C1.out) (CT.out.right (by omega) e4 P2.out O1.out) za zm zb ea em eb)
                have PR := CT.out.right (by omega) e4 P2.out O1.out
                have PS := Lib.hid (And.intro PR.sl PR.sr)
                clear PR
                by_cases l3 : mid < e
                · by_cases l4 : e < b
                  · go_wp2_with fail
                    refine (ST.out l3 l4 _ _ _ rfl rfl rfl).mono ?_
                    rintro en w3 ⟨J, rfl, o3, p3, s3, k3⟩
                    have FS := Lib.hid (halves_sorted (by omega) (by omega) CT.out.hv.lr P2.out S2.out p3 s3)
                    have O3 := Lib.hid o3
                    clear o3 p3 s3
                    go_wp2
                    go_end0
                    exact ⟨J, rfl, O3.out, CT.out.per.trans FS.out.2, FS.out.1, C1.out.trans k3⟩
                  · have FS := Lib.hid (halves_sorted (by omega) (by omega) CT.out.hv.lr P2.out S2.out (Per.refl _ mid b) (by have := PS.out.1; rw [show e = b by omega] at this; exact this))
                    clear ST
                    go_wp2
                    go_end0
                    exact ⟨_, rfl, O1.out, CT.out.per.trans FS.out.2, FS.out.1, C1.out⟩
                · have FS := Lib.hid (halves_sorted (by omega) (by omega) CT.out.hv.lr P2.out S2.out (Per.refl _ mid b) (by have := PS.out.2; rw [show e = mid by omega] at this; exact this))
                  clear ST
                  go_wp2
                  go_end0
                  exact ⟨_, rfl, O1.out, CT.out.per.trans FS.out.2, FS.out.1, C1.out⟩
            · have O1 : Hid (Own wq base 3 (.slice (some ⟨g, 0, none⟩) len cap) len (intsV H)) := Lib.hid (by rw [RN.out (by omega)]; exact O0.out)
              clear O0 RO RN
              have ST := Lib.hid (fun (l1 : a < s) (l2 : s < mid) za zm zb ea em eb => IH.out a s mid H wq (by omega) l1 l2 (by omega) (HC.out.trans C0.out) (CT.out.left O1.out) za zm zb ea em eb)
              by_cases l1 : a < s
              · by_cases l2 : s < mid
                · go_wp2_with fail
                  refine (ST.out l1 l2 _ _ _ rfl rfl rfl).mono ?_
                  rintro en w2 ⟨K, rfl, o2, p2, s2, k2⟩
                  have O2 := Lib.hid o2
                  have P2 := Lib.hid p2
                  have S2 := Lib.hid s2
                  have C2 : Hid (Chg g w w2) := Lib.hid (C0.out.trans k2)
                  clear o2 p2 s2 k2 O1 ST l1 l2
                  have ST := Lib.hid (fun (l1 : mid < e) (l2 : e < b) za zm zb ea em eb => IH.out mid e b _ w2 (by omega) l1 l2 h3 (HC.out.trans C2.out) (CT.out.right (by omega) e4 P2.out O2.out) za zm zb ea em eb)
                  have PR := CT.out.right (by omega) e4 P2.out O2.out
                  have PS := Lib.hid (And.intro PR.sl PR.sr)
                  clear PR
                  by_cases l3 : mid < e
                  · by_cases l4 : e < b
                    · go_wp2_with fail
                      refine (ST.out l3 l4 _ _ _ rfl rfl rfl).mono ?_
                      rintro en w3 ⟨J, rfl, o3, p3, s3, k3⟩
                      have FS := Lib.hid (halves_sorted (by omega) (by omega) CT.out.hv.lr P2.out S2.out p3 s3)
                      have O3 := Lib.hid o3
                      clear o3 p3 s3
                      go_wp2
                      go_end0
                      exact ⟨J, rfl, O3.out, CT.out.per.trans FS.out.2, FS.out.1, C2.out.trans k3⟩
                    · have FS := Lib.hid (halves_sorted (by omega) (by omega) CT.out.hv.lr P2.out S2.out (Per.refl _ mid b) (by have := PS.out.1; rw [show e = b by omega] at this; exact this))
                      clear ST
                      go_wp2
                      go_end0
                      exact ⟨_, rfl, O2.out, CT.out.per.trans FS.out.2, FS.out.1, C2.out⟩
                  · have FS := Lib.hid (halves_sorted (by omega) (by omega) CT.out.hv.lr P2.out S2.out (Per.refl _ mid b) (by have := PS.out.2; rw [show e = mid by omega] at this; exact this))
                    clear ST
                    go_wp2
                    go_end0
                    exact ⟨_, rfl, O2.out, CT.out.per.trans FS.out.2, FS.out.1, C2.out⟩
                · have P2 := Lib.hid (Per.refl H a mid)
                  have S2 : Hid (SortedIn lt H a mid) := Lib.hid (by have := CT.out.hv.p1; rw [show s = mid by omega] at this; exact this)
                  clear ST
                  have ST := Lib.hid (fun (l1 : mid < e) (l2 : e < b) za zm zb ea em eb => IH.out mid e b _ wq (by omega) l1 l2 h3 (HC.out.trans C0.out) (CT.out.right (by omega) e4 P2.out O1.out) za zm zb ea em eb)
                  have PR := CT.out.right (by omega) e4 P2.out O1.out
                  have PS := Lib.hid (And.intro PR.sl PR.sr)
                  clear PR
                  by_cases l3 : mid < e
                  · by_cases l4 : e < b
                    · go_wp2_with fail
                      refine (ST.out l3 l4 _ _ _ rfl rfl rfl).mono ?_
                      rintro en w3 ⟨J, rfl, o3, p3, s3, k3⟩
                      have FS := Lib.hid (halves_sorted (by omega) (by omega) CT.out.hv.lr P2.out S2.out p3 s3)
                      have O3 := Lib.hid o3
                      clear o3 p3 s3
                      go_wp2
                      go_end0
                      exact ⟨J, rfl, O3.out, CT.out.per.trans FS.out.2, FS.out.1, C0.out.trans k3⟩
                    · have FS := Lib.hid (halves_sorted (by omega) (by omega) CT.out.hv.lr P2.out S2.out (Per.refl _ mid b) (by have := PS.out.1; rw [show e = b by omega] at this; exact this))
                      clear ST
                      go_wp2
                      go_end0
                      exact ⟨_, rfl, O1.out, CT.out.per.trans FS.out.2, FS.out.1, C0.out⟩
                  · have FS := Lib.hid (halves_sorted (by omega) (by omega) CT.out.hv.lr P2.out S2.out (Per.refl _ mid b) (by have := PS.out.2; rw [show e = mid by omega] at this; exact this))
                    clear ST
                    go_wp2
                    go_end0
                    exact ⟨_, rfl, O1.out, CT.out.per.trans FS.out.2, FS.out.1, C0.out⟩
              · have P2 := Lib.hid (Per.refl H a mid)
                have S2 : Hid (SortedIn lt H a mid) := Lib.hid (by have := CT.out.hv.p2; rw [show s = a by omega] at this; exact this)
                clear ST
                have ST := Lib.hid (fun (l1 : mid < e) (l2 : e < b) za zm zb ea em eb => IH.out mid e b _ wq (by omega) l1 l2 h3 (HC.out.trans C0.out) (CT.out.right (by omega) e4 P2.out O1.out) za zm zb ea em eb)
                have PR := CT.out.right (by omega) e4 P2.out O1.out
                have PS := Lib.hid (And.intro PR.sl PR.sr)
                clear PR
                by_cases l3 : mid < e
                · by_cases l4 : e < b
                  · go_wp2_with fail
                    refine (ST.out l3 l4 _ _ _ rfl rfl rfl).mono ?_
                    rintro en w3 ⟨J, rfl, o3, p3, s3, k3⟩
                    have FS := Lib.hid (halves_sorted (by omega) (by omega) CT.out.hv.lr P2.out S2.out p3 s3)
                    have O3 := Lib.hid o3
                    clear o3 p3 s3
                    go_wp2
                    go_end0
                    exact ⟨J, rfl, O3.out, CT.out.per.trans FS.out.2, FS.out.1, C0.out.trans k3⟩
                  · have FS := Lib.hid (halves_sorted (by omega) (by omega) CT.out.hv.lr P2.out S2.out (Per.refl _ mid b) (by have := PS.out.1; rw [show e = b by omega] at this; exact this))
                    clear ST
                    go_wp2
                    go_end0
                    exact ⟨_, rfl, O1.out, CT.out.per.trans FS.out.2, FS.out.1, C0.out⟩
                · have FS := Lib.hid (halves_sorted (by omega) (by omega) CT.out.hv.lr P2.out S2.out (Per.refl _ mid b) (by have := PS.out.2; rw [show e = mid by omega] at this; exact this))
                  clear ST
                  go_wp2
                  go_end0
                  exact ⟨_, rfl, O1.out, CT.out.per.trans FS.out.2, FS.out.1, C0.out⟩
          · have O1 : Hid (Own wq base 3 (.slice (some ⟨g, 0, none⟩) len cap) len (intsV H)) := Lib.hid (by rw [RN.out (by omega)]; exact O0.out)
            clear O0 RO RN
            have ST := Lib.hid (fun (l1 : a < s) (l2 : s < mid) za zm zb ea em eb => IH.out a s mid H wq (by omega) l1 l2 (by omega) (HC.out.trans C0.out) (CT.out.left O1.out) za zm zb ea em eb)
            by_cases l1 : a < s
            · by_cases l2 : s < mid
              · go_wp2_with fail
                refine (ST.out l1 l2 _ _ _ rfl rfl rfl).mono ?_
                rintro en w2 ⟨K, rfl, o2, p2, s2, k2⟩
                have O2 := Lib.hid o2
                have P2 := Lib.hid p2
                have S2 := Lib.hid s2
                have C2 : Hid (Chg g w w2) := Lib.hid (C0.out.trans k2)
                clear o2 p2 s2 k2 O1 ST l1 l2
                have ST := Lib.hid (fun (l1 : mid < e) (l2 : e < b) za zm zb ea em eb => IH.out mid e b _ w2 (by omega) l1 l2 h3 (HC.out.trans C2.out) (CT.out.right (by omega) e4 P2.out O2.out) za zm zb ea em eb)
                have PR := CT.out.right (by omega) e4 P2.out O2.out
                have PS := Lib.hid (And.intro PR.sl PR.sr)
                clear PR
                by_cases l3 : mid < e
                · by_cases l4 : e < b
                  · go_wp2_with fail
                    refine (ST.out l3 l4 _ _ _ rfl rfl rfl).mono ?_
                    rintro en w3 ⟨J, rfl, o3, p3, s3, k3⟩
                    have FS := Lib.hid (halves_sorted (by omega) (by omega) CT.out.hv.lr P2.out S2.out p3 s3)
                    have O3 := Lib.hid o3
                    clear o3 p3 s3
                    go_wp2
                    go_end0
                    exact ⟨J, rfl, O3.out, CT.out.per.trans FS.out.2, FS.out.1, C2.out.trans k3⟩
                  · have FS := Lib.hid (halves_sorted (by omega) (by omega) CT.out.hv.lr P2.out S2.out (Per.refl _ mid b) (by have := PS.out.1; rw [show e = b by omega] at this; exact this))
                    clear ST
                    go_wp2
                    go_end0
                    exact ⟨_, rfl, O2.out, CT.out.per.trans FS.out.2, FS.out.1, C2.out⟩
                · have FS := Lib.hid (halves_sorted (by omega) (by omega) CT.out.hv.lr P2.out S2.out (Per.refl _ mid b) (by have := PS.out.2; rw [show e = mid by omega] at this; exact this))
                  clear ST
                  go_wp2
                  go_end0
                  exact ⟨_, rfl, O2.out, CT.out.per.trans FS.out.2, FS.out.1, C2.out⟩
              · have P2 := Lib.hid (Per.refl H a mid)
                have S2 : Hid (SortedIn lt H a mid) := Lib.hid (by have := CT.out.hv.p1; rw [show s = mid by omega] at this; exact this)
                clear ST
                have ST := Lib.hid (fun (l1 : mid < e) (l2 : e < b) za zm zb ea em eb => IH.out mid e b _ wq (by omega) l1 l2 h3 (HC.out.trans C0.out) (CT.out.right (by omega) e4 P2.out O1.out) za zm zb ea em eb)
                have PR := CT.out.right (by omega) e4 P2.out O1.out
                have PS := Lib.hid (And.intro PR.sl PR.sr)
                clear PR
                by_cases l3 : mid < e
                · by_cases l4 : e < b
                  · go_wp2_with fail
                    refine (ST.out l3 l4 _ _ _ rfl rfl rfl).mono ?_
                    rintro en w3 ⟨J, rfl, o3, p3, s3, k3⟩
                    have FS := Lib.hid (halves_sorted (by omega) (by omega) CT.out.hv.lr P2.out S2.out p3 s3)
                    have O3 := Lib.hid o3
                    clear o3 p3 s3
                    go_wp2
                    go_end0
                    exact ⟨J, rfl, O3.out, CT.out.per.trans FS.out.2, FS.out.1, C0.out.trans k3⟩
                  · have FS := Lib.hid (halves_sorted (by omega) (by omega) CT.out.hv.lr P2.out S2.out (Per.refl _ mid b) (by have := PS.out.1; rw [show e = b by omega] at this; exact this))
                    clear ST
                    go_wp2
                    go_end0
                    exact ⟨_, rfl, O1.out, CT.out.per.trans FS.out.2, FS.out.1, C0.out⟩
                · have FS := Lib.hid (halves_sorted (by omega) (by omega) CT.out.hv.lr P2.out S2.out (Per.refl _ mid b) (by have := PS.out.2; rw [show e = mid by omega] at this; exact this))
                  clear ST
                  go_wp2
                  go_end0
                  exact ⟨_, rfl, O1.out, CT.out.per.trans FS.out.2, FS.out.1, C0.out⟩
            · have P2 := Lib.hid (Per.refl H a mid)
              have S2 : Hid (SortedIn lt H a mid) := Lib.hid (by have := CT.out.hv.p2; rw [show s = a by omega] at this; exact this)
              clear ST
              have ST := Lib.hid (fun (l1 : mid < e) (l2 : e < b) za zm zb ea em eb => IH.out mid e b _ wq (by omega) l1 l2 h3 (HC.out.trans C0.out) (CT.out.right (by omega) e4 P2.out O1.out) za zm zb ea em eb)
              have PR := CT.out.right (by omega) e4 P2.out O1.out
              have PS := Lib.hid (And.intro PR.sl PR.sr)
              clear PR
              by_cases l3 : mid < e
              · by_cases l4 : e < b
                · go_wp2_with fail
                  refine (ST.out l3 l4 _ _ _ rfl rfl rfl).mono ?_
                  rintro en w3 ⟨J, rfl, o3, p3, s3, k3⟩
                  have FS := Lib.hid (halves_sorted (by omega) (by omega) CT.out.hv.lr P2.out S2.out p3 s3)
                  have O3 := Lib.hid o3
                  clear o3 p3 s3
                  go_wp2
                  go_end0
                  exact ⟨J, rfl, O3.out, CT.out.per.trans FS.out.2, FS.out.1, C0.out.trans k3⟩
                · have FS := Lib.hid (halves_sorted (by omega) (by omega) CT.out.hv.lr P2.out S2.out (Per.refl _ mid b) (by have := PS.out.1; rw [show e = b by omega] at this; exact this))
                  clear ST
                  go_wp2
                  go_end0
                  exact ⟨_, rfl, O1.out, CT.out.per.trans FS.out.2, FS.out.1, C0.out⟩
              · have FS := Lib.hid (halves_sorted (by omega) (by omega) CT.out.hv.lr P2.out S2.out (Per.refl _ mid b) (by have := PS.out.2; rw [show e = mid by omega] at this; exact this))
                clear ST
                go_wp2
                go_end0
                exact ⟨_, rfl, O1.out, CT.out.per.trans FS.out.2, FS.out.1, C0.out⟩
end Go.Proofs.Ytkoifdbbomipbaa.Mrg
