
/- What is there of all versions is the sum of what is there of each: for every list of instances and of open requests the law returns true. No condition. -/
import Derived.Test.YtcgeoaegalloaaaSumP
import Derived.Test.YtcgeoaegalloaaaArgI
import Derived.Lib.AppendZeros
namespace Go.Proofs.Ytcgeoaegalloaaa.sumsParts
open Go.ChangeShapes Go.WideShapes Go.ChangeAt Go.RowKit
open Mem Arr Lst Rec Inst Grown Sums Opens ArgI Thg St0
set_option linter.unusedVariables false
theorem insV_neg {L F : Nat → Ins} {k i j : Nat} (h : ¬ i < k) : insV (fun i => if i < k then F i else L i) i j = ((L i).cells[j]?).getD undef := by unfold insV; simp [h]
theorem insV_pos {L F : Nat → Ins} {k i j : Nat} (h : i < k) : insV (fun i => if i < k then F i else L i) i j = ((F i).cells[j]?).getD undef := by unfold insV; simp [h]
theorem opnV_neg {L F : Nat → Opn} {k i j : Nat} (h : ¬ i < k) : opnV (fun i => if i < k then F i else L i) i j = ((L i).cells[j]?).getD undef := by unfold opnV; simp [h]
theorem opnV_pos {L F : Nat → Opn} {k i j : Nat} (h : i < k) : opnV (fun i => if i < k then F i else L i) i j = ((F i).cells[j]?).getD undef := by unfold opnV; simp [h]
theorem parts_eq {a b c d e : Sm} (h : a = ((b.plus c).plus d).plus e) : a.live = b.live + c.live + d.live + e.live ∧ a.liveD = b.liveD + c.liveD + d.liveD + e.liveD ∧ a.com = b.com + c.com + d.com + e.com ∧ a.comD = b.comD + c.comD + d.comD + e.comD ∧ a.warm = b.warm + c.warm + d.warm + e.warm ∧ a.many = b.many + c.many + d.many + e.many := by
  rw [h]; exact ⟨rfl, rfl, rfl, rfl, rfl, rfl⟩
theorem insts_arg {H : Type} {enc : TypeId × Value → H} {w : World} {A : Option Addr} {n c : Nat} {d : DataW H} {p : List MemPlace} (h : DataW.Trod enc Try.prog w 0 (fun _ => true) true 22 (.slice A n c) d p) :
    ∃ L : Nat → Ins, Insts w w.heap.size A n L ∧ (∀ i, i < n → InsOk (L i)) ∧ (A = none → c = 0) ∧ n ≤ c ∧ c ≤ maxLen := insts_in ⟨d, p, h⟩
theorem opns_arg {H : Type} {enc : TypeId × Value → H} {w : World} {A : Option Addr} {n c : Nat} {d : DataW H} {p : List MemPlace} (h : DataW.Trod enc Try.prog w 0 (fun _ => true) true 23 (.slice A n c) d p) :
    ∃ O : Nat → Opn, Opns w w.heap.size A n O ∧ (∀ i, i < n → OpnOk (O i)) ∧ (A = none → c = 0) ∧ n ≤ c ∧ c ≤ maxLen := opns_in ⟨d, p, h⟩
section
attribute [local go_sem ↓] exec_sum Go.wp_at_zero Go.wp_at_succ
set_option maxHeartbeats 8000000 in
set_option maxRecDepth 100000 in
theorem walk (A0 : Option Addr) (n0 c0 : Nat) (L : Nat → Ins) (A1 : Option Addr) (n1 c1 : Nat) (O : Nat → Opn) (w : World) (b0 : Insts w w.heap.size A0 n0 L ∧ (∀ i, i < n0 → InsOk (L i)) ∧ (A0 = none → c0 = 0) ∧ n0 ≤ c0 ∧ c0 ≤ maxLen) (b1 : Opns w w.heap.size A1 n1 O ∧ (∀ i, i < n1 → OpnOk (O i)) ∧ (A1 = none → c1 = 0) ∧ n1 ≤ c1 ∧ c1 ≤ maxLen) :
    Calls Try.prog 5 #[.slice A0 n0 c0, .slice A1 n1 c1] w fun e w' => e = .returned (.bool true) ∧ Below w.heap.size w w' := by
  obtain ⟨iL, iK, i0, i1, i2⟩ := b0
  obtain ⟨oL, oK, o0, o1, o2⟩ := b1
  have hn : n0 ≤ 9223372036854775807 := by unfold maxLen at i2; omega
  have hn2 : n1 ≤ 9223372036854775807 := by unfold maxLen at o2; omega
  by_cases h1 : 100 < n0
  · clear iL iK oL oK
    go_enter Try.func5, Try.ntmps5
    go_wp2_with fail
    refine (call_grown (p := (⟨w, Below.refl _ _⟩ : Grown w)) (lives_any _)).mono ?_
    rintro _ _ ⟨rfl, p, rfl⟩
    go_wp2
    go_ret
    exact ⟨rfl, p.below⟩
  · by_cases h2 : 100 < n1
    · clear iL iK oL oK
      go_enter Try.func5, Try.ntmps5
      go_wp2_with fail
      refine (call_grown (p := (⟨w, Below.refl _ _⟩ : Grown w)) (lives_any _)).mono ?_
      rintro _ _ ⟨rfl, p, rfl⟩
      go_wp2
      go_ret
      exact ⟨rfl, p.below⟩
    · rcases hm : mayB L n0 with _ | _
      · have M := Lib.hid (fun p : Grown w => Fnd.mayL_is A0 n0 c0 L false hm p.w1 (iL.later p.below) hn)
        clear iL iK oL oK hm
        go_enter Try.func5, Try.ntmps5
        go_wp2_with fail
        refine (call_grown (p := (⟨w, Below.refl _ _⟩ : Grown w)) (M.out _)).mono ?_
        rintro _ _ ⟨rfl, p, rfl⟩
        go_wp2_with fail
        refine (call_grown (p := p) (lives_any _)).mono ?_
        rintro _ _ ⟨rfl, p, rfl⟩
        go_wp2
        go_ret
        exact ⟨rfl, p.below⟩
      · have M := Lib.hid (fun p : Grown w => Fnd.mayL_is A0 n0 c0 L true hm p.w1 (iL.later p.below) hn)
        have HI := Lib.hid iL
        have HO := Lib.hid oL
        have HIK := Lib.hid (fun i (hi : i < n0) => bounds_u32 (iK i hi).ver)
        have HOK := Lib.hid (fun i (hi : i < n1) => bounds_u32 (oK i hi).ver)
        have HM := Lib.hid hm
        have HZ := Lib.hid i0
        have HY := Lib.hid o0
        obtain ⟨io, ho, hz0, hz1, hz2⟩ := info_parts infoInst
        obtain ⟨jo, jh, jz0, jz1, jz2⟩ := info_parts infoOpn
        clear iL iK oL oK hm i0 o0 i1 i2 o1 o2
        go_enter Try.func5, Try.ntmps5
        go_wp2_with fail
        refine (call_grown (p := (⟨w, Below.refl _ _⟩ : Grown w)) (M.out _)).mono ?_
        rintro _ _ ⟨rfl, p, rfl⟩
        have IA := Lib.hid (HI.out.later p.below)
        go_upto_region 6 with (at_builtin; refine Row.append_rows rfl _ _ 22 rfl p.w1.heap.size 36 io Inst.none_.val 12 72 (by omega) Try.underlying22 ho hz0 hz1 hz2 rfl _ 0 (insV L) (by rfl) (Row.own_nil _ _ _ _ _) p.w1.heap.size A0 n0 c0 (insV L) rfl IA.out (fun i j _ hj => insV_one L i j hj) HZ.out (by unfold maxLen; omega) (by omega) (Nat.le_refl _) ?_; intro v1 w1 own1 grow1)
        have b1 := Row.below_grown (Below.refl _ _) (Row.own_nil _ _ 36 12 (insV L)) grow1
        have own1 := own1.congr (U := insV L) (by omega) (fun i j _ _ => by rw [if_neg (by omega)]; rfl)
        rw [Nat.zero_add] at own1
        obtain ⟨P1, k1, rfl, l1, m1, z1, g1⟩ := own1.shape
        have B1 := bTrans p.below b1
        have IB := Lib.hid (HO.out.later B1)
        replace own1 := Lib.hid own1
        replace g1 := Lib.hid g1
        have hb0 : w.heap.size ≤ p.w1.heap.size := p.below.size
        replace B1 := Lib.hid B1
        clear grow1 b1 ho hz0 hz1 hz2 z1 IA M
        go_wp2_with (at_builtin; refine Row.append_rows rfl _ _ 23 rfl w1.heap.size 49 jo Opens.none_.val 9 64 (by omega) Try.underlying23 jh jz0 jz1 jz2 rfl _ 0 (opnV O) (by rfl) (Row.own_nil _ _ _ _ _) w1.heap.size A1 n1 c1 (opnV O) rfl IB.out (fun i j _ hj => opnV_one O i j hj) HY.out (by unfold maxLen; omega) (by omega) (Nat.le_refl _) ?_; intro v2 w2 own2 grow2)
        have b2 := Row.below_grown (Below.refl _ _) (Row.own_nil _ _ 49 9 (opnV O)) grow2
        have own2 := own2.congr (U := opnV O) (by omega) (fun i j _ _ => by rw [if_neg (by omega)]; rfl)
        rw [Nat.zero_add] at own2
        obtain ⟨P2, k2, rfl, l2, m2, z2, g2⟩ := own2.shape
        have OA := Lib.hid (own1.out.later b2 (Nat.le_refl _))
        have B2 := Lib.hid (bTrans B1.out b2)
        have hs1 : w.heap.size ≤ w1.heap.size := B1.out.size
        obtain ⟨Bb, hBb⟩ : ∃ Bb, w1.heap.size = Bb := ⟨_, rfl⟩
        obtain ⟨Ba, hBa⟩ : ∃ Ba, p.w1.heap.size = Ba := ⟨_, rfl⟩
        have hs2 := b2.size
        rw [hBb] at own2 hs1 g1 hs2
        rw [hBa] at OA g1 hb0
        replace own2 := Lib.hid own2
        clear grow2 b2 jh jz0 jz1 jz2 z2 g2 IB own1 B1 hBb hBa
        go_loopw [7] (fun i wr => ∃ k : Nat, k ≤ n0 ∧ i = .int .i64 k ∧ Hid (Row.Own wr Ba 36 12 (.slice P1 n0 k1) n0 (insV (fun i => if i < k then verI (L i) else L i))) ∧ Hid (Row.Own wr Bb 49 9 (.slice P2 n1 k2) n1 (opnV O)) ∧ Hid (Below w.heap.size w wr) ∧ Bb ≤ wr.heap.size) (fun i _ => n0 - (intOf i).toNat)
        case atStart => exact ⟨0, by omega, rfl, Lib.hid (OA.out.congr (by omega) (fun i j _ _ => (insV_neg (by omega)).symm)), own2, B2, hs2⟩
        clear OA own2 B2 hs2
        case round =>
          obtain ⟨k, hk, rfl, H1, H2, hb, hs2⟩ := hrel
          by_cases hlt : k < n0
          · obtain ⟨g, cap, e, hbg, hlg, _, _⟩ := H1.out.form (by omega)
            injection e with e1 e2 e3
            subst e1
            subst e3
            have hgB : g < Bb := by obtain ⟨g', e, _, h⟩ := g1.out _ rfl; injection e with e; subst e; exact h
            have y := HIK.out k hlt
            have c11 : wr.cell? ⟨g, k * 12 + 11, none⟩ = some (.int .u32 (L k).ver) := (H1.out.cell (i := k) (j := 11) hlt (by omega)).trans (congrArg some (insV_neg (by omega)))
            have fr := fun k => H1.out.free k
            have t1 : (L k).ver.tmod 4 = (L k).ver % 4 := Int.tmod_eq_emod_of_nonneg y.1
            have t2 : IntKind.u32.wrap (1 + (L k).ver % 4) = 1 + (L k).ver % 4 := IntWalk.u32_in _ (by omega)
            have t3 : IntKind.u32.wrap ((L k).ver % 4) = (L k).ver % 4 := IntWalk.u32_in _ (by omega)
            have HN : Hid (Row.Own (wr.setCell ⟨g, k * 12 + 11, none⟩ (.int .u32 (1 + (L k).ver % 4))) Ba 36 12 (.slice (some ⟨g, 0, none⟩) n0 k1) n0 (insV (fun i => if i < k + 1 then verI (L i) else L i))) := Lib.hid ((H1.out.stored (i := k) (j := 11) (.int .u32 (1 + (L k).ver % 4)) (by omega)).congr (by omega) (fun i j hi hj => by
              by_cases hik : i = k
              · subst hik
                refine Eq.trans ?_ (insV_pos (Nat.lt_succ_self i)).symm
                by_cases h11 : j = 11
                · subst h11; exact if_pos ⟨rfl, rfl⟩
                · refine (if_neg (fun e => h11 e.2)).trans ((insV_neg (Nat.lt_irrefl i)).trans ?_)
                  rcases (by omega : j = 0 ∨ j = 1 ∨ j = 2 ∨ j = 3 ∨ j = 4 ∨ j = 5 ∨ j = 6 ∨ j = 7 ∨ j = 8 ∨ j = 9 ∨ j = 10) with rfl | rfl | rfl | rfl | rfl | rfl | rfl | rfl | rfl | rfl | rfl <;> rfl
              · refine (if_neg (fun e => hik e.1)).trans ?_
                by_cases hlt2 : i < k
                · exact (insV_pos hlt2).trans (insV_pos (L := L) (F := fun i => verI (L i)) (k := k + 1) (Nat.lt_succ_of_lt hlt2)).symm
                · exact (insV_neg hlt2).trans (insV_neg (k := k + 1) (by omega)).symm))
            have HN2 := Lib.hid (own_cell H2.out hgB (k * 12 + 11) (.int .u32 (1 + (L k).ver % 4)))
            have HB := Lib.hid (bSet hb.out (p := ⟨g, k * 12 + 11, none⟩) (Nat.le_trans hb0 hbg) (.int .u32 (1 + (L k).ver % 4)))
            clear y
            go_wp2
            go_roundw
            case rel => exact ⟨k + 1, by omega, by go_num, HN, HN2, HB, by rw [World.size_setCell]; exact hs2⟩
            case measure => simp [intOf]; omega
          · have e : n0 = k := by omega
            subst e
            have RA : Recs wr Bb P1 n0 12 (insV (fun i => verI (L i))) := by
              refine recs_like (V := insV (fun i => if i < n0 then verI (L i) else L i)) ⟨H1.out.recs.1, fun h0 => ?_⟩ (fun i j hi _ => insV_pos hi)
              obtain ⟨b, off, e, _, hc⟩ := H1.out.recs.2 h0
              obtain ⟨g', e', _, h'⟩ := g1.out _ e
              injection e' with e1 e2
              exact ⟨b, off, e, by omega, hc⟩
            replace RA := Lib.hid RA
            go_wp2_with fail
            go_loopw [8] (fun i wr => ∃ k : Nat, k ≤ n1 ∧ i = .int .i64 k ∧ Hid (Recs wr Bb P1 n0 12 (insV (fun i => verI (L i)))) ∧ Hid (Row.Own wr Bb 49 9 (.slice P2 n1 k2) n1 (opnV (fun i => if i < k then verO (O i) else O i))) ∧ Hid (Below w.heap.size w wr) ∧ Bb ≤ wr.heap.size) (fun i _ => n1 - (intOf i).toNat)
            case atStart => exact ⟨0, by omega, rfl, RA, Lib.hid (H2.out.congr (by omega) (fun i j _ _ => (opnV_neg (by omega)).symm)), hb, hs2⟩
            clear RA H1 H2 hb hlt hk hs2
            case round =>
              obtain ⟨k, hk, rfl, H1, H2, hb, hs2⟩ := hrel
              by_cases hlt : k < n1
              · obtain ⟨g, cap, e, hbg, hlg, _, _⟩ := H2.out.form (by omega)
                injection e with e1 e2 e3
                subst e1
                subst e3
                have y := HOK.out k hlt
                have c8 : wr.cell? ⟨g, k * 9 + 8, none⟩ = some (.int .u32 (O k).ver) := (H2.out.cell (i := k) (j := 8) hlt (by omega)).trans (congrArg some (opnV_neg (by omega)))
                have fr := fun k => H2.out.free k
                have t1 : (O k).ver.tmod 4 = (O k).ver % 4 := Int.tmod_eq_emod_of_nonneg y.1
                have t2 : IntKind.u32.wrap (1 + (O k).ver % 4) = 1 + (O k).ver % 4 := IntWalk.u32_in _ (by omega)
                have t3 : IntKind.u32.wrap ((O k).ver % 4) = (O k).ver % 4 := IntWalk.u32_in _ (by omega)
                have HN2 : Hid (Row.Own (wr.setCell ⟨g, k * 9 + 8, none⟩ (.int .u32 (1 + (O k).ver % 4))) Bb 49 9 (.slice (some ⟨g, 0, none⟩) n1 k2) n1 (opnV (fun i => if i < k + 1 then verO (O i) else O i))) := Lib.hid ((H2.out.stored (i := k) (j := 8) (.int .u32 (1 + (O k).ver % 4)) (by omega)).congr (by omega) (fun i j hi hj => by
                  by_cases hik : i = k
                  · subst hik
                    refine Eq.trans ?_ (opnV_pos (Nat.lt_succ_self i)).symm
                    by_cases h11 : j = 8
                    · subst h11; exact if_pos ⟨rfl, rfl⟩
                    · refine (if_neg (fun e => h11 e.2)).trans ((opnV_neg (Nat.lt_irrefl i)).trans ?_)
                      rcases (by omega : j = 0 ∨ j = 1 ∨ j = 2 ∨ j = 3 ∨ j = 4 ∨ j = 5 ∨ j = 6 ∨ j = 7) with rfl | rfl | rfl | rfl | rfl | rfl | rfl | rfl <;> rfl
                  · refine (if_neg (fun e => hik e.1)).trans ?_
                    by_cases hlt2 : i < k
                    · exact (opnV_pos hlt2).trans (opnV_pos (L := O) (F := fun i => verO (O i)) (k := k + 1) (Nat.lt_succ_of_lt hlt2)).symm
                    · exact (opnV_neg hlt2).trans (opnV_neg (k := k + 1) (by omega)).symm))
                have HN1 := Lib.hid (H1.out.below ((Below.refl Bb wr).setCell (p := ⟨g, k * 9 + 8, none⟩) hbg (.int .u32 (1 + (O k).ver % 4))))
                have HB := Lib.hid (bSet hb.out (p := ⟨g, k * 9 + 8, none⟩) (Nat.le_trans hs1 hbg) (.int .u32 (1 + (O k).ver % 4)))
                clear y
                go_wp2
                go_roundw
                case rel => exact ⟨k + 1, by omega, by go_num, HN1, HN2, HB, by rw [World.size_setCell]; exact hs2⟩
                case measure => simp [intOf]; omega
              · have e : n1 = k := by omega
                subst e
                have IW := Lib.hid (show Insts wr wr.heap.size P1 n0 (fun i => verI (L i)) from H1.out.more hs2)
                have OW := Lib.hid (show Opns wr wr.heap.size P2 n1 (fun i => verO (O i)) from recs_like H2.out.recs (fun i j hi _ => opnV_pos hi))
                have PT := parts_of L n0 O n1
                have I0 := of_in (O := O) (m := n1) HM.out (by omega) (by omega) 0
                have I1 := of_in (O := O) (m := n1) HM.out (by omega) (by omega) 1
                have I2 := of_in (O := O) (m := n1) HM.out (by omega) (by omega) 2
                have I3 := of_in (O := O) (m := n1) HM.out (by omega) (by omega) 3
                have I4 := of_in (O := O) (m := n1) HM.out (by omega) (by omega) 4
                have E0 := ofS_ver (O := O) (m := n1) HM.out 0
                have E1 := ofS_ver (O := O) (m := n1) HM.out 1
                have E2 := ofS_ver (O := O) (m := n1) HM.out 2
                have E3 := ofS_ver (O := O) (m := n1) HM.out 3
                have E4 := ofS_ver (O := O) (m := n1) HM.out 4
                obtain ⟨s0, hs0⟩ : ∃ s, ofV L n0 O n1 0 = s := ⟨_, rfl⟩
                obtain ⟨s1, hs1'⟩ : ∃ s, ofV L n0 O n1 1 = s := ⟨_, rfl⟩
                obtain ⟨s2, hs2'⟩ : ∃ s, ofV L n0 O n1 2 = s := ⟨_, rfl⟩
                obtain ⟨s3, hs3⟩ : ∃ s, ofV L n0 O n1 3 = s := ⟨_, rfl⟩
                obtain ⟨s4, hs4⟩ : ∃ s, ofV L n0 O n1 4 = s := ⟨_, rfl⟩
                rw [hs0] at PT I0 E0
                rw [hs1'] at PT I1 E1
                rw [hs2'] at PT I2 E2
                rw [hs3] at PT I3 E3
                rw [hs4] at PT I4 E4
                replace E0 := Lib.hid E0
                replace E1 := Lib.hid E1
                replace E2 := Lib.hid E2
                replace E3 := Lib.hid E3
                replace E4 := Lib.hid E4
                clear hs0 hs1' hs2' hs3 hs4 H1 H2 hlt hk
                obtain ⟨p0, p1, p2, p3, p4, p5⟩ := parts_eq PT
                obtain ⟨x0a, x0b, x0c, x0d, x0e, x0f⟩ := I0
                obtain ⟨x1a, x1b, x1c, x1d, x1e, x1f⟩ := I1
                obtain ⟨x2a, x2b, x2c, x2d, x2e, x2f⟩ := I2
                obtain ⟨x3a, x3b, x3c, x3d, x3e, x3f⟩ := I3
                obtain ⟨x4a, x4b, x4c, x4d, x4e, x4f⟩ := I4
                have dle1 : decide (s0.liveD ≤ s0.live) = true := decide_eq_true x0b.2
                have dle2 : decide (s0.comD ≤ s0.com) = true := decide_eq_true x0d.2
                clear PT
                have ws0 : IntKind.i64.wrap s1.live = s1.live := IntWalk.i64_in _ (by omega)
                have ws1 : IntKind.i64.wrap s1.liveD = s1.liveD := IntWalk.i64_in _ (by omega)
                have ws2 : IntKind.i64.wrap s1.com = s1.com := IntWalk.i64_in _ (by omega)
                have ws3 : IntKind.i64.wrap s1.comD = s1.comD := IntWalk.i64_in _ (by omega)
                have ws4 : IntKind.i64.wrap s1.warm = s1.warm := IntWalk.i64_in _ (by omega)
                have ws5 : IntKind.i64.wrap s1.many = s1.many := IntWalk.i64_in _ (by omega)
                obtain ⟨b2_0, hb2_0⟩ : ∃ b, b = s1.live + s2.live := ⟨_, rfl⟩
                have wb2_0 : IntKind.i64.wrap (s1.live + s2.live) = b2_0 := by rw [hb2_0]; exact IntWalk.i64_in _ (by omega)
                obtain ⟨b2_1, hb2_1⟩ : ∃ b, b = s1.liveD + s2.liveD := ⟨_, rfl⟩
                have wb2_1 : IntKind.i64.wrap (s1.liveD + s2.liveD) = b2_1 := by rw [hb2_1]; exact IntWalk.i64_in _ (by omega)
                obtain ⟨b2_2, hb2_2⟩ : ∃ b, b = s1.com + s2.com := ⟨_, rfl⟩
                have wb2_2 : IntKind.i64.wrap (s1.com + s2.com) = b2_2 := by rw [hb2_2]; exact IntWalk.i64_in _ (by omega)
                obtain ⟨b2_3, hb2_3⟩ : ∃ b, b = s1.comD + s2.comD := ⟨_, rfl⟩
                have wb2_3 : IntKind.i64.wrap (s1.comD + s2.comD) = b2_3 := by rw [hb2_3]; exact IntWalk.i64_in _ (by omega)
                obtain ⟨b2_4, hb2_4⟩ : ∃ b, b = s1.warm + s2.warm := ⟨_, rfl⟩
                have wb2_4 : IntKind.i64.wrap (s1.warm + s2.warm) = b2_4 := by rw [hb2_4]; exact IntWalk.i64_in _ (by omega)
                obtain ⟨b2_5, hb2_5⟩ : ∃ b, b = s1.many + s2.many := ⟨_, rfl⟩
                have wb2_5 : IntKind.i64.wrap (s1.many + s2.many) = b2_5 := by rw [hb2_5]; exact IntWalk.i64_in _ (by omega)
                obtain ⟨b3_0, hb3_0⟩ : ∃ b, b = b2_0 + s3.live := ⟨_, rfl⟩
                have wb3_0 : IntKind.i64.wrap (b2_0 + s3.live) = b3_0 := by rw [hb3_0]; exact IntWalk.i64_in _ (by omega)
                obtain ⟨b3_1, hb3_1⟩ : ∃ b, b = b2_1 + s3.liveD := ⟨_, rfl⟩
                have wb3_1 : IntKind.i64.wrap (b2_1 + s3.liveD) = b3_1 := by rw [hb3_1]; exact IntWalk.i64_in _ (by omega)
                obtain ⟨b3_2, hb3_2⟩ : ∃ b, b = b2_2 + s3.com := ⟨_, rfl⟩
                have wb3_2 : IntKind.i64.wrap (b2_2 + s3.com) = b3_2 := by rw [hb3_2]; exact IntWalk.i64_in _ (by omega)
                obtain ⟨b3_3, hb3_3⟩ : ∃ b, b = b2_3 + s3.comD := ⟨_, rfl⟩
                have wb3_3 : IntKind.i64.wrap (b2_3 + s3.comD) = b3_3 := by rw [hb3_3]; exact IntWalk.i64_in _ (by omega)
                obtain ⟨b3_4, hb3_4⟩ : ∃ b, b = b2_4 + s3.warm := ⟨_, rfl⟩
                have wb3_4 : IntKind.i64.wrap (b2_4 + s3.warm) = b3_4 := by rw [hb3_4]; exact IntWalk.i64_in _ (by omega)
                obtain ⟨b3_5, hb3_5⟩ : ∃ b, b = b2_5 + s3.many := ⟨_, rfl⟩
                have wb3_5 : IntKind.i64.wrap (b2_5 + s3.many) = b3_5 := by rw [hb3_5]; exact IntWalk.i64_in _ (by omega)
                obtain ⟨b4_0, hb4_0⟩ : ∃ b, b = b3_0 + s4.live := ⟨_, rfl⟩
                have wb4_0 : IntKind.i64.wrap (b3_0 + s4.live) = b4_0 := by rw [hb4_0]; exact IntWalk.i64_in _ (by omega)
                obtain ⟨b4_1, hb4_1⟩ : ∃ b, b = b3_1 + s4.liveD := ⟨_, rfl⟩
                have wb4_1 : IntKind.i64.wrap (b3_1 + s4.liveD) = b4_1 := by rw [hb4_1]; exact IntWalk.i64_in _ (by omega)
                obtain ⟨b4_2, hb4_2⟩ : ∃ b, b = b3_2 + s4.com := ⟨_, rfl⟩
                have wb4_2 : IntKind.i64.wrap (b3_2 + s4.com) = b4_2 := by rw [hb4_2]; exact IntWalk.i64_in _ (by omega)
                obtain ⟨b4_3, hb4_3⟩ : ∃ b, b = b3_3 + s4.comD := ⟨_, rfl⟩
                have wb4_3 : IntKind.i64.wrap (b3_3 + s4.comD) = b4_3 := by rw [hb4_3]; exact IntWalk.i64_in _ (by omega)
                obtain ⟨b4_4, hb4_4⟩ : ∃ b, b = b3_4 + s4.warm := ⟨_, rfl⟩
                have wb4_4 : IntKind.i64.wrap (b3_4 + s4.warm) = b4_4 := by rw [hb4_4]; exact IntWalk.i64_in _ (by omega)
                obtain ⟨b4_5, hb4_5⟩ : ∃ b, b = b3_5 + s4.many := ⟨_, rfl⟩
                have wb4_5 : IntKind.i64.wrap (b3_5 + s4.many) = b4_5 := by rw [hb4_5]; exact IntWalk.i64_in _ (by omega)
                have EQ : (⟨b4_0, b4_1, b4_2, b4_3, b4_4, b4_5⟩ : Sm) = s0 := Sm.eta (by show b4_0 = s0.live; omega) (by show b4_1 = s0.liveD; omega) (by show b4_2 = s0.com; omega) (by show b4_3 = s0.comD; omega) (by show b4_4 = s0.warm; omega) (by show b4_5 = s0.many; omega)
                replace EQ := Lib.hid EQ
                clear p0 p1 p2 p3 p4 p5 x0a x0b x0c x0d x0e x0f x1a x1b x1c x1d x1e x1f x2a x2b x2c x2d x2e x2f x3a x3b x3c x3d x3e x3f x4a x4b x4c x4d x4e x4f hb2_0 hb2_1 hb2_2 hb2_3 hb2_4 hb2_5 hb3_0 hb3_1 hb3_2 hb3_3 hb3_4 hb3_5 hb4_0 hb4_1 hb4_2 hb4_3 hb4_4 hb4_5
                obtain ⟨W3, hW3⟩ : ∃ W3, W3 = wr := ⟨_, rfl⟩
                rw [← hW3] at IW OW hb ⊢
                clear hW3
                go_wp2_with fail
                have r9 : (W3.alloc (.cells sm0.cells 31)).heap[W3.heap.size]? = some (.cells sm0.cells 31 (0, 0)) := heap_alloc_new _ _
                have b9 : Below W3.heap.size W3 (W3.alloc (.cells sm0.cells 31)) := bAlloc (Below.refl _ _) _
                obtain ⟨V, hV⟩ : ∃ V, V = W3.alloc (.cells sm0.cells 31) := ⟨_, rfl⟩
                rw [← hV] at r9 b9
                have hV2 : W3.alloc (.cells #[.int .i64 0, .int .i64 0, .int .i64 0, .int .i64 0, .int .i64 0, .int .i64 0] 31) = V := hV.symm
                rw [hV2]
                clear hV hV2
                refine wp_loop_rounds 5 ?_
                rw [rounds_succ]
                have C := Lib.hid (of_is P1 n0 k1 (fun i => verI (L i)) P2 n1 k2 (fun i => verO (O i)) 1 s1 E1.out V (IW.out.later b9) (OW.out.later b9) hn hn2)
                go_wp2_with fail
                refine C.out.mono ?_
                rintro _ u ⟨rfl, bu⟩
                have Z0 : St5 W3 u.heap.size sm0 s1 (u.alloc (.cells s1.cells 31)) := ⟨heap_under ((bu.block _ (Array.getElem?_eq_some_iff.1 r9).1).trans r9), heap_alloc_new _ _, bAlloc (bTrans b9 bu) _, by have h1 := (Array.getElem?_eq_some_iff.1 r9).1; have h2 := bu.size; omega⟩
                clear C bu r9 b9
                have ca0 := Z0.ca (k := 0) (v := .int .i64 0) (by rfl)
                have cb0 := Z0.cs (k := 0) (v := .int .i64 s1.live) (by rfl)
                have fr0 := Z0.free
                have Z1 := Z0.set (acc' := ⟨s1.live, 0, 0, 0, 0, 0⟩) 0 (.int .i64 s1.live) (by rfl)
                have ca1 := Z1.ca (k := 1) (v := .int .i64 0) (by rfl)
                have cb1 := Z1.cs (k := 1) (v := .int .i64 s1.liveD) (by rfl)
                have fr1 := Z1.free
                have Z2 := Z1.set (acc' := ⟨s1.live, s1.liveD, 0, 0, 0, 0⟩) 1 (.int .i64 s1.liveD) (by rfl)
                have ca2 := Z2.ca (k := 2) (v := .int .i64 0) (by rfl)
                have cb2 := Z2.cs (k := 2) (v := .int .i64 s1.com) (by rfl)
                have fr2 := Z2.free
                have Z3 := Z2.set (acc' := ⟨s1.live, s1.liveD, s1.com, 0, 0, 0⟩) 2 (.int .i64 s1.com) (by rfl)
                have ca3 := Z3.ca (k := 3) (v := .int .i64 0) (by rfl)
                have cb3 := Z3.cs (k := 3) (v := .int .i64 s1.comD) (by rfl)
                have fr3 := Z3.free
                have Z4 := Z3.set (acc' := ⟨s1.live, s1.liveD, s1.com, s1.comD, 0, 0⟩) 3 (.int .i64 s1.comD) (by rfl)
                have ca4 := Z4.ca (k := 4) (v := .int .i64 0) (by rfl)
                have cb4 := Z4.cs (k := 4) (v := .int .i64 s1.warm) (by rfl)
                have fr4 := Z4.free
                have Z5 := Z4.set (acc' := ⟨s1.live, s1.liveD, s1.com, s1.comD, s1.warm, 0⟩) 4 (.int .i64 s1.warm) (by rfl)
                have ca5 := Z5.ca (k := 5) (v := .int .i64 0) (by rfl)
                have cb5 := Z5.cs (k := 5) (v := .int .i64 s1.many) (by rfl)
                have fr5 := Z5.free
                have Z6 := Z5.set (acc' := ⟨s1.live, s1.liveD, s1.com, s1.comD, s1.warm, s1.many⟩) 5 (.int .i64 s1.many) (by rfl)
                have r9 := Lib.hid Z6.r9
                have b9 := Lib.hid Z6.b
                clear Z0 Z1 Z2 Z3 Z4 Z5 Z6
                go_wp2_with (((with_reducible refine at_store 31 ?_); (refine store_plain rfl 31 _ _ rfl s1.cells _ _ rfl rfl (sizeSum.trans rfl) rfl s1.one ?_)))
                generalize (((((((u.alloc (.cells s1.cells 31)).setCell ⟨W3.heap.size, 0, none⟩ (.int .i64 (s1.live))).setCell ⟨W3.heap.size, 1, none⟩ (.int .i64 (s1.liveD))).setCell ⟨W3.heap.size, 2, none⟩ (.int .i64 (s1.com))).setCell ⟨W3.heap.size, 3, none⟩ (.int .i64 (s1.comD))).setCell ⟨W3.heap.size, 4, none⟩ (.int .i64 (s1.warm))).setCell ⟨W3.heap.size, 5, none⟩ (.int .i64 (s1.many))) = V at r9 b9 ⊢
                clear ca0 cb0 fr0 ca1 cb1 fr1 ca2 cb2 fr2 ca3 cb3 fr3 ca4 cb4 fr4 ca5 cb5 fr5
                replace r9 := r9.out
                replace b9 := b9.out
                rw [rounds_succ]
                have C := Lib.hid (of_is P1 n0 k1 (fun i => verI (L i)) P2 n1 k2 (fun i => verO (O i)) 2 s2 E2.out V (IW.out.later b9) (OW.out.later b9) hn hn2)
                go_wp2_with fail
                refine C.out.mono ?_
                rintro _ u ⟨rfl, bu⟩
                have Z0 : St5 W3 u.heap.size ⟨s1.live, s1.liveD, s1.com, s1.comD, s1.warm, s1.many⟩ s2 (u.alloc (.cells s2.cells 31)) := ⟨heap_under ((bu.block _ (Array.getElem?_eq_some_iff.1 r9).1).trans r9), heap_alloc_new _ _, bAlloc (bTrans b9 bu) _, by have h1 := (Array.getElem?_eq_some_iff.1 r9).1; have h2 := bu.size; omega⟩
                clear C bu r9 b9
                have ca0 := Z0.ca (k := 0) (v := .int .i64 (s1.live)) (by rfl)
                have cb0 := Z0.cs (k := 0) (v := .int .i64 s2.live) (by rfl)
                have fr0 := Z0.free
                have Z1 := Z0.set (acc' := ⟨b2_0, s1.liveD, s1.com, s1.comD, s1.warm, s1.many⟩) 0 (.int .i64 b2_0) (by rfl)
                have ca1 := Z1.ca (k := 1) (v := .int .i64 (s1.liveD)) (by rfl)
                have cb1 := Z1.cs (k := 1) (v := .int .i64 s2.liveD) (by rfl)
                have fr1 := Z1.free
                have Z2 := Z1.set (acc' := ⟨b2_0, b2_1, s1.com, s1.comD, s1.warm, s1.many⟩) 1 (.int .i64 b2_1) (by rfl)
                have ca2 := Z2.ca (k := 2) (v := .int .i64 (s1.com)) (by rfl)
                have cb2 := Z2.cs (k := 2) (v := .int .i64 s2.com) (by rfl)
                have fr2 := Z2.free
                have Z3 := Z2.set (acc' := ⟨b2_0, b2_1, b2_2, s1.comD, s1.warm, s1.many⟩) 2 (.int .i64 b2_2) (by rfl)
                have ca3 := Z3.ca (k := 3) (v := .int .i64 (s1.comD)) (by rfl)
                have cb3 := Z3.cs (k := 3) (v := .int .i64 s2.comD) (by rfl)
                have fr3 := Z3.free
                have Z4 := Z3.set (acc' := ⟨b2_0, b2_1, b2_2, b2_3, s1.warm, s1.many⟩) 3 (.int .i64 b2_3) (by rfl)
                have ca4 := Z4.ca (k := 4) (v := .int .i64 (s1.warm)) (by rfl)
                have cb4 := Z4.cs (k := 4) (v := .int .i64 s2.warm) (by rfl)
                have fr4 := Z4.free
                have Z5 := Z4.set (acc' := ⟨b2_0, b2_1, b2_2, b2_3, b2_4, s1.many⟩) 4 (.int .i64 b2_4) (by rfl)
                have ca5 := Z5.ca (k := 5) (v := .int .i64 (s1.many)) (by rfl)
                have cb5 := Z5.cs (k := 5) (v := .int .i64 s2.many) (by rfl)
                have fr5 := Z5.free
                have Z6 := Z5.set (acc' := ⟨b2_0, b2_1, b2_2, b2_3, b2_4, b2_5⟩) 5 (.int .i64 b2_5) (by rfl)
                have r9 := Lib.hid Z6.r9
                have b9 := Lib.hid Z6.b
                clear Z0 Z1 Z2 Z3 Z4 Z5 Z6
                go_wp2_with (((with_reducible refine at_store 31 ?_); (refine store_plain rfl 31 _ _ rfl s2.cells _ _ rfl rfl (sizeSum.trans rfl) rfl s2.one ?_)))
                generalize (((((((u.alloc (.cells s2.cells 31)).setCell ⟨W3.heap.size, 0, none⟩ (.int .i64 b2_0)).setCell ⟨W3.heap.size, 1, none⟩ (.int .i64 b2_1)).setCell ⟨W3.heap.size, 2, none⟩ (.int .i64 b2_2)).setCell ⟨W3.heap.size, 3, none⟩ (.int .i64 b2_3)).setCell ⟨W3.heap.size, 4, none⟩ (.int .i64 b2_4)).setCell ⟨W3.heap.size, 5, none⟩ (.int .i64 b2_5)) = V at r9 b9 ⊢
                clear ca0 cb0 fr0 ca1 cb1 fr1 ca2 cb2 fr2 ca3 cb3 fr3 ca4 cb4 fr4 ca5 cb5 fr5
                replace r9 := r9.out
                replace b9 := b9.out
                rw [rounds_succ]
                have C := Lib.hid (of_is P1 n0 k1 (fun i => verI (L i)) P2 n1 k2 (fun i => verO (O i)) 3 s3 E3.out V (IW.out.later b9) (OW.out.later b9) hn hn2)
                go_wp2_with fail
                refine C.out.mono ?_
                rintro _ u ⟨rfl, bu⟩
                have Z0 : St5 W3 u.heap.size ⟨b2_0, b2_1, b2_2, b2_3, b2_4, b2_5⟩ s3 (u.alloc (.cells s3.cells 31)) := ⟨heap_under ((bu.block _ (Array.getElem?_eq_some_iff.1 r9).1).trans r9), heap_alloc_new _ _, bAlloc (bTrans b9 bu) _, by have h1 := (Array.getElem?_eq_some_iff.1 r9).1; have h2 := bu.size; omega⟩
                clear C bu r9 b9
                have ca0 := Z0.ca (k := 0) (v := .int .i64 (b2_0)) (by rfl)
                have cb0 := Z0.cs (k := 0) (v := .int .i64 s3.live) (by rfl)
                have fr0 := Z0.free
                have Z1 := Z0.set (acc' := ⟨b3_0, b2_1, b2_2, b2_3, b2_4, b2_5⟩) 0 (.int .i64 b3_0) (by rfl)
                have ca1 := Z1.ca (k := 1) (v := .int .i64 (b2_1)) (by rfl)
                have cb1 := Z1.cs (k := 1) (v := .int .i64 s3.liveD) (by rfl)
                have fr1 := Z1.free
                have Z2 := Z1.set (acc' := ⟨b3_0, b3_1, b2_2, b2_3, b2_4, b2_5⟩) 1 (.int .i64 b3_1) (by rfl)
                have ca2 := Z2.ca (k := 2) (v := .int .i64 (b2_2)) (by rfl)
                have cb2 := Z2.cs (k := 2) (v := .int .i64 s3.com) (by rfl)
                have fr2 := Z2.free
                have Z3 := Z2.set (acc' := ⟨b3_0, b3_1, b3_2, b2_3, b2_4, b2_5⟩) 2 (.int .i64 b3_2) (by rfl)
                have ca3 := Z3.ca (k := 3) (v := .int .i64 (b2_3)) (by rfl)
                have cb3 := Z3.cs (k := 3) (v := .int .i64 s3.comD) (by rfl)
                have fr3 := Z3.free
                have Z4 := Z3.set (acc' := ⟨b3_0, b3_1, b3_2, b3_3, b2_4, b2_5⟩) 3 (.int .i64 b3_3) (by rfl)
                have ca4 := Z4.ca (k := 4) (v := .int .i64 (b2_4)) (by rfl)
                have cb4 := Z4.cs (k := 4) (v := .int .i64 s3.warm) (by rfl)
                have fr4 := Z4.free
                have Z5 := Z4.set (acc' := ⟨b3_0, b3_1, b3_2, b3_3, b3_4, b2_5⟩) 4 (.int .i64 b3_4) (by rfl)
                have ca5 := Z5.ca (k := 5) (v := .int .i64 (b2_5)) (by rfl)
                have cb5 := Z5.cs (k := 5) (v := .int .i64 s3.many) (by rfl)
                have fr5 := Z5.free
                have Z6 := Z5.set (acc' := ⟨b3_0, b3_1, b3_2, b3_3, b3_4, b3_5⟩) 5 (.int .i64 b3_5) (by rfl)
                have r9 := Lib.hid Z6.r9
                have b9 := Lib.hid Z6.b
                clear Z0 Z1 Z2 Z3 Z4 Z5 Z6
                go_wp2_with (((with_reducible refine at_store 31 ?_); (refine store_plain rfl 31 _ _ rfl s3.cells _ _ rfl rfl (sizeSum.trans rfl) rfl s3.one ?_)))
                generalize (((((((u.alloc (.cells s3.cells 31)).setCell ⟨W3.heap.size, 0, none⟩ (.int .i64 b3_0)).setCell ⟨W3.heap.size, 1, none⟩ (.int .i64 b3_1)).setCell ⟨W3.heap.size, 2, none⟩ (.int .i64 b3_2)).setCell ⟨W3.heap.size, 3, none⟩ (.int .i64 b3_3)).setCell ⟨W3.heap.size, 4, none⟩ (.int .i64 b3_4)).setCell ⟨W3.heap.size, 5, none⟩ (.int .i64 b3_5)) = V at r9 b9 ⊢
                clear ca0 cb0 fr0 ca1 cb1 fr1 ca2 cb2 fr2 ca3 cb3 fr3 ca4 cb4 fr4 ca5 cb5 fr5
                replace r9 := r9.out
                replace b9 := b9.out
                rw [rounds_succ]
                have C := Lib.hid (of_is P1 n0 k1 (fun i => verI (L i)) P2 n1 k2 (fun i => verO (O i)) 4 s4 E4.out V (IW.out.later b9) (OW.out.later b9) hn hn2)
                go_wp2_with fail
                refine C.out.mono ?_
                rintro _ u ⟨rfl, bu⟩
                have Z0 : St5 W3 u.heap.size ⟨b3_0, b3_1, b3_2, b3_3, b3_4, b3_5⟩ s4 (u.alloc (.cells s4.cells 31)) := ⟨heap_under ((bu.block _ (Array.getElem?_eq_some_iff.1 r9).1).trans r9), heap_alloc_new _ _, bAlloc (bTrans b9 bu) _, by have h1 := (Array.getElem?_eq_some_iff.1 r9).1; have h2 := bu.size; omega⟩
                clear C bu r9 b9
                have ca0 := Z0.ca (k := 0) (v := .int .i64 (b3_0)) (by rfl)
                have cb0 := Z0.cs (k := 0) (v := .int .i64 s4.live) (by rfl)
                have fr0 := Z0.free
                have Z1 := Z0.set (acc' := ⟨b4_0, b3_1, b3_2, b3_3, b3_4, b3_5⟩) 0 (.int .i64 b4_0) (by rfl)
                have ca1 := Z1.ca (k := 1) (v := .int .i64 (b3_1)) (by rfl)
                have cb1 := Z1.cs (k := 1) (v := .int .i64 s4.liveD) (by rfl)
                have fr1 := Z1.free
                have Z2 := Z1.set (acc' := ⟨b4_0, b4_1, b3_2, b3_3, b3_4, b3_5⟩) 1 (.int .i64 b4_1) (by rfl)
                have ca2 := Z2.ca (k := 2) (v := .int .i64 (b3_2)) (by rfl)
                have cb2 := Z2.cs (k := 2) (v := .int .i64 s4.com) (by rfl)
                have fr2 := Z2.free
                have Z3 := Z2.set (acc' := ⟨b4_0, b4_1, b4_2, b3_3, b3_4, b3_5⟩) 2 (.int .i64 b4_2) (by rfl)
                have ca3 := Z3.ca (k := 3) (v := .int .i64 (b3_3)) (by rfl)
                have cb3 := Z3.cs (k := 3) (v := .int .i64 s4.comD) (by rfl)
                have fr3 := Z3.free
                have Z4 := Z3.set (acc' := ⟨b4_0, b4_1, b4_2, b4_3, b3_4, b3_5⟩) 3 (.int .i64 b4_3) (by rfl)
                have ca4 := Z4.ca (k := 4) (v := .int .i64 (b3_4)) (by rfl)
                have cb4 := Z4.cs (k := 4) (v := .int .i64 s4.warm) (by rfl)
                have fr4 := Z4.free
                have Z5 := Z4.set (acc' := ⟨b4_0, b4_1, b4_2, b4_3, b4_4, b3_5⟩) 4 (.int .i64 b4_4) (by rfl)
                have ca5 := Z5.ca (k := 5) (v := .int .i64 (b3_5)) (by rfl)
                have cb5 := Z5.cs (k := 5) (v := .int .i64 s4.many) (by rfl)
                have fr5 := Z5.free
                have Z6 := Z5.set (acc' := ⟨b4_0, b4_1, b4_2, b4_3, b4_4, b4_5⟩) 5 (.int .i64 b4_5) (by rfl)
                have r9 := Lib.hid Z6.r9
                have b9 := Lib.hid Z6.b
                clear Z0 Z1 Z2 Z3 Z4 Z5 Z6
                go_wp2_with (((with_reducible refine at_store 31 ?_); (refine store_plain rfl 31 _ _ rfl s4.cells _ _ rfl rfl (sizeSum.trans rfl) rfl s4.one ?_)))
                generalize (((((((u.alloc (.cells s4.cells 31)).setCell ⟨W3.heap.size, 0, none⟩ (.int .i64 b4_0)).setCell ⟨W3.heap.size, 1, none⟩ (.int .i64 b4_1)).setCell ⟨W3.heap.size, 2, none⟩ (.int .i64 b4_2)).setCell ⟨W3.heap.size, 3, none⟩ (.int .i64 b4_3)).setCell ⟨W3.heap.size, 4, none⟩ (.int .i64 b4_4)).setCell ⟨W3.heap.size, 5, none⟩ (.int .i64 b4_5)) = V at r9 b9 ⊢
                clear ca0 cb0 fr0 ca1 cb1 fr1 ca2 cb2 fr2 ca3 cb3 fr3 ca4 cb4 fr4 ca5 cb5 fr5
                replace r9 := r9.out
                replace b9 := b9.out
                rw [EQ.out] at r9
                have IS := fun q : Grown V => run_sum ((q.below.block _ (Array.getElem?_eq_some_iff.1 r9).1).trans r9)
                have d0 := fun q : Grown V => cell_row (k := 0) (v := .int .i64 s0.live) ((q.below.block _ (Array.getElem?_eq_some_iff.1 r9).1).trans r9) rfl
                have d1 := fun q : Grown V => cell_row (k := 1) (v := .int .i64 s0.liveD) ((q.below.block _ (Array.getElem?_eq_some_iff.1 r9).1).trans r9) rfl
                have d2 := fun q : Grown V => cell_row (k := 2) (v := .int .i64 s0.com) ((q.below.block _ (Array.getElem?_eq_some_iff.1 r9).1).trans r9) rfl
                have d3 := fun q : Grown V => cell_row (k := 3) (v := .int .i64 s0.comD) ((q.below.block _ (Array.getElem?_eq_some_iff.1 r9).1).trans r9) rfl
                have C := Lib.hid (fun q : Grown V => of_is P1 n0 k1 (fun i => verI (L i)) P2 n1 k2 (fun i => verO (O i)) 0 s0 E0.out q.w1 (IW.out.later (bTrans b9 q.below)) (OW.out.later (bTrans b9 q.below)) hn hn2)
                have CL := Lib.hid (fun q : Grown V => lives_any q.w1)
                have HB := Lib.hid (fun q : Grown V => bTrans hb.out (bTrans b9 q.below))
                clear r9 b9
                rw [rounds_succ]
                go_wp2_with fail
                refine region_grown (by kernel_rfl) (by kernel_rfl) ?_
                repeat ((with_reducible refine wpQuiet_step (fun K hK => ?_)); go_simp; (first | (refine hK _ ?_; clear hK K) | (apply Exists.intro; refine ⟨fun _ => ?_, hK _ ?_⟩; (first | (go_at_call 12; exact call_grown (C.out _)) | (go_at_call 7; exact call_grown (CL.out _))); clear hK K)))
                (with_reducible refine wpQuiet_nil ?_)
                rintro _ ⟨p, rfl⟩
                go_wp2
                go_ret
                exact ⟨rfl, HB.out p⟩
end

/-! The row's step, by the frame. -/
theorem own : ownKnob Try.prog.godebug = none := by kernel_rfl
theorem laidOut : laidOutB Try.prog = true := by kernel_rfl
set_option maxRecDepth 100000 in
theorem lifted (os : Os) (started : os.Started) (H : Type) (enc : TypeId × Value → H) :
    ReturnsInHanded {} Try.checked os 5 .any (Rows.sumsPartsSpec.pre6 enc Try.prog Try.f5 Rows.sumsPartsRow.domain false) (Rows.sumsPartsSpec.post enc Try.prog Try.f5 false true false false) := by
  refine returnsInHanded_of_change_sized (C := Try.checked) own started (by kernel_rfl) Try.func5
    (ChangeSpec.witness6 (enc := enc) (C := Try.checked) false ⟨#[], #[.slice none 0 0, .slice none 0 0], []⟩ 8 (by kernel_rfl) (by kernel_rfl) (by kernel_rfl) (by kernel_rfl)) ?_
  intro W base args ds gs before hval0 hW _ hsz0 _
  have hsz : (DataW.weightsEach Try.prog (Try.f5.params.toList ++ Rows.sumsPartsSpec.plain.varTypes Try.prog) (ds ++ gs)).all (· ≤ reachBytes) = true := hsz0
  have hval : ∀ (j : Nat) t v, Try.f5.params[j]? = some t → args[j]? = some v → Value.okWide Try.prog W .any base t v := hval0
  have hW' := hW
  obtain ⟨p, q, hA0, hV, rfl, hfz, hnd⟩ := hW
  have hA : DataW.TrodAll enc Try.prog W 0 (fun _ => true) true Try.f5.params.toList args.toList ds p := hA0
  rw [Try.params5] at hA hval hsz
  obtain ⟨v0, vs0, d0, ds0, p0, q0, hargs, rfl, rfl, h0, r0⟩ := trodAll_cons hA
  obtain ⟨v1, vs1, d1, ds1, p1, q1, rfl, rfl, rfl, h1, r1⟩ := trodAll_cons r0
  obtain ⟨rfl, rfl, rfl⟩ := trodAll_nil r1
  obtain rfl : args = #[v0, v1] := by cases args; simp_all
  obtain ⟨rfl, rfl⟩ := trodVars_none hV
  obtain ⟨A0, n0, c0, rfl⟩ := okWide_slice Try.underlying22 (hval 0 22 v0 rfl rfl)
  have k0 := h0
  have lt0 : ∀ x ∈ p0, x.block < W.heap.size := by obtain ⟨m, hm⟩ := k0; exact DataW.trod_lt m _ _ _ hm
  obtain ⟨L0, b0⟩ := insts_arg h0
  obtain ⟨A1, n1, c1, rfl⟩ := okWide_slice Try.underlying23 (hval 1 23 v1 rfl rfl)
  have k1 := h1
  have lt1 : ∀ x ∈ p1, x.block < W.heap.size := by obtain ⟨m, hm⟩ := k1; exact DataW.trod_lt m _ _ _ hm
  obtain ⟨O1, b1⟩ := opns_arg h1
  clear hA0 hval0 hsz0
  refine (walk A0 n0 c0 L0 A1 n1 c1 O1 W b0 b1).mono fun e W' ⟨he, bel⟩ => ?_
  subst he
  exact ⟨_, rfl, _, _, _, [], _, [], hW', trodAll_mk1 (shut_bool Try.underlying4 _), (trodAll_cons_mk (Below.trod laidOut (by kernel_rfl) (of_decide_eq_true (by kernel_rfl)) k0 bel lt0) (trodAll_cons_mk (Below.trod laidOut (by kernel_rfl) (of_decide_eq_true (by kernel_rfl)) k1 bel lt1) trodAll_mk0)), rfl, bel.frame _, fun h => by cases h⟩

/-- The statement. -/
theorem proved : Rows.SumsPartsSaid :=
  OpenClaim.holds_of_wide 5 Try.f5 rfl rfl rfl rfl rfl rfl rfl ⟨rfl, rfl, rfl, rfl, rfl⟩ rfl rfl rfl rfl rfl (by kernel_rfl) Try.func5 (by kernel_rfl)
    (of_decide_eq_true (by kernel_rfl)) (by unfold Func.isWrapper; first | (rw [if_pos (by decide +kernel)]; kernel_rfl) | (rw [if_neg (by decide +kernel)]; exact ⟨rfl, rfl⟩))
    (fun os started H enc _ => lifted os started H enc)
end Go.Proofs.Ytcgeoaegalloaaa.sumsParts
