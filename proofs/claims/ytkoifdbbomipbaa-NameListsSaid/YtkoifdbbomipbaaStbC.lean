
/- The library's stable sort of a row of places, of whatever length, by whatever comparison. -/
import Derived.Test.YtkoifdbbomipbaaSymM
import Derived.Test.YtkoifdbbomipbaaStb
namespace Go.Proofs.Ytkoifdbbomipbaa.Mrg
open Go.ChangeShapes Go.WideShapes Go.ChangeAt Go.RowKit
open Mem Arr Lst Name Ins Srt

/-- what is known behind the sort -/
def Sorted_ (lt : Nat → Nat → Prop) (g n cap base : Nat) (w0 : World) (F : Nat → Nat) (e : Ending) (w' : World) : Prop :=
  ∃ H, e = .returned (.tuple #[]) ∧ Own w' base 3 (.slice (some ⟨g, 0, none⟩) n cap) n (intsV H) ∧ SortedIn lt H 0 n ∧ (∀ i, i < n → ∃ j, j < n ∧ H i = F j) ∧ (∀ j, j < n → ∃ i, i < n ∧ H i = F j) ∧ Chg g w0 w'
theorem insert_piece {lt : Nat → Nat → Prop} {cf : Nat → Nat → Int} {N a b : Nat} {F G : Nat → Nat} (hF : Fine lt cf N) (hab : a < b) (hb : ∀ i, i < b → G i < N) (hf : ∀ i, a ≤ i → i < b → G i = F i) (hi : ∀ i j, i < j → j < b → F i < F j) :
    Piece lt F (outer (fun x y => decide (cf x y < 0)) a (b - (a + 1)) (a + 1) G) a b ∧ Per G (outer (fun x y => decide (cf x y < 0)) a (b - (a + 1)) (a + 1) G) a b := by
  have h := outer_sorted hF (b - (a + 1)) (a + 1) G a b (by omega) (by omega) (fun x _ p2 => hb x p2) (fun x y p1 p2 p3 => by omega) (fun x y p1 p2 p3 p4 => by
    rw [hf x p1 (by omega), hf y (by omega) p4]; exact hi x y p2 p4)
  refine ⟨⟨h.1, fun i p1 p2 => ?_, fun j p1 p2 => ?_⟩, h.2⟩
  · obtain ⟨q, q1, q2, e⟩ := h.2.fro i p1 p2
    exact ⟨q, q1, q2, by rw [e]; exact hf q q1 q2⟩
  · obtain ⟨q, q1, q2, e⟩ := h.2.to j p1 p2
    exact ⟨q, q1, q2, by rw [e]; exact hf j p1 p2⟩
set_option maxHeartbeats 8000000 in
theorem stableN_any (f : Nat) (cb : Array Value) (cf : Nat → Nat → Int) (N g cap n base : Nat) (lt : Nat → Nat → Prop) (hF : Fine lt cf N) (eg : ∀ args w, (callFunc f args).run Try.prog w = .ok (.enter f args) w) (hn : n ≤ 17592186044415) (w : World) (F : Nat → Nat)
    (ht : Tells f cb cf N g w) (ho : Own w base 3 (.slice (some ⟨g, 0, none⟩) n cap) n (intsV F)) (hb : ∀ i, i < n → F i < N) (hi : ∀ i j, i < j → j < n → F i < F j) :
    Calls Try.prog 26 #[(.slice (some ⟨g, 0, none⟩) n cap), .int .i64 n, .func (.func f) #[] cb] w (Sorted_ lt g n cap base w F) := by
  have HO := Lib.hid ho
  have HB := Lib.hid hb
  have HI := Lib.hid hi
  have HT := Lib.hid ht
  have HF := Lib.hid hF
  have INS := Lib.hid (fun (a b : Nat) (G : Nat → Nat) (w1 : World) (hc : Chg g w w1) (o : Own w1 base 3 (.slice (some ⟨g, 0, none⟩) n cap) n (intsV G)) (hG : ∀ i, i < n → G i < N) (hab : a ≤ b) (hb : b ≤ n) => insertion_any f cb cf N g cap n a b base w1 G eg (Mrg.Tells.next ht hc) o hG hab hb hn)
  have SYM := Lib.hid (fun (a m b : Nat) (G : Nat → Nat) (w1 : World) (h1 : a < m) (h2 : m < b) (h3 : b ≤ n) (hc : Chg g w w1) (hp : Pre lt g n cap base N a m b w1 G) => symMerge_any f cb cf N g cap n base lt hF eg hn w ht (b - a) a m b G w1 (Nat.le_refl _) h1 h2 h3 hc hp)
  clear ho hb hi ht hF
  go_enter Try.func26, Try.ntmps26
  go_wp2
  go_loopw [7, 8] (fun av bv wr => ∃ (Q a : Nat) (G : Nat → Nat), Hid (a = Q * 20) ∧ a ≤ n ∧ av = .int .i64 a ∧ bv = .int .i64 (a + 20 : Nat) ∧ Hid (Done lt F G 20 Q) ∧ Hid (∀ i, a ≤ i → i < n → G i = F i) ∧ Hid (∀ i, i < n → G i < N) ∧ Hid (Own wr base 3 (.slice (some ⟨g, 0, none⟩) n cap) n (intsV G)) ∧ Hid (Chg g w wr)) (fun av _ _ => n - (intOf av).toNat)
  case atStart => exact ⟨0, 0, F, Lib.hid (by omega), by omega, rfl, rfl, Lib.hid (fun q hq => absurd hq (by omega)), Lib.hid (fun _ _ _ => rfl), HB, HO, Lib.hid (Chg.refl g w)⟩
  case round =>
    obtain ⟨Q, a, G, QA, han, rfl, rfl, DO, RE, BD, OG, CG⟩ := hrel
    by_cases hlt : a + 20 ≤ n
    · have z : ((a + 20 : Nat) : Int) ≤ (n : Int) := by omega
      have IP := Lib.hid (insert_piece (a := a) (b := a + 20) HF.out (by omega) (fun i hi => BD.out i (by omega)) (fun i p1 p2 => RE.out i p1 (by omega)) (fun i j p1 p2 => HI.out i j p1 (by omega)))
      have CC := Lib.hid (INS.out a (a + 20) G wr CG.out OG.out BD.out (by omega) hlt)
      go_wp2_with fail
      refine CC.out.mono ?_
      rintro e w1 ⟨rfl, o1, b1, k1⟩
      obtain ⟨H, hH⟩ : ∃ H, outer (fun x y => decide (cf x y < 0)) a (a + 20 - (a + 1)) (a + 1) G = H := ⟨_, rfl⟩
      rw [hH] at o1 b1 IP
      have D1 : Hid (Done lt F H 20 (Q + 1)) := Lib.hid ((DO.out.kept IP.out.2 (by rw [QA.out]; exact Nat.le_refl _)).more (by rw [← QA.out]; exact IP.out.1))
      have R1 : Hid (∀ i, a + 20 ≤ i → i < n → H i = F i) := Lib.hid (fun i p1 p2 => by rw [IP.out.2.out i (Or.inr p1)]; exact RE.out i (by omega) p2)
      have A1 : Hid (a + 20 = (Q + 1) * 20) := Lib.hid (by rw [QA.out]; omega)
      have O1 := Lib.hid o1
      have B1 := Lib.hid b1
      have C1 : Hid (Chg g w w1) := Lib.hid (CG.out.trans k1)
      clear hH o1 b1 k1 IP DO RE QA OG CG BD CC
      go_wp2
      go_roundw
      case rel => exact ⟨Q + 1, a + 20, H, A1, hlt, rfl, by go_num, D1, R1, B1, O1, C1⟩
      case measure => simp [intOf]; omega
    · have z : ¬ ((a + 20 : Nat) : Int) ≤ (n : Int) := by omega
      have CC := Lib.hid (INS.out a n G wr CG.out OG.out BD.out han (Nat.le_refl _))
      have IP : Hid (a < n → _) := Lib.hid (fun (h : a < n) => insert_piece (a := a) (b := n) HF.out h BD.out (fun i p1 p2 => RE.out i p1 p2) (fun i j p1 p2 => HI.out i j p1 p2))
      have NP : Hid (¬ a < n → outer (fun x y => decide (cf x y < 0)) a (n - (a + 1)) (a + 1) G = G) := Lib.hid (fun h => by rw [show n - (a + 1) = 0 by omega]; rfl)
      go_wp2_with fail
      refine CC.out.mono ?_
      rintro e w1 ⟨rfl, o1, b1, k1⟩
      obtain ⟨H, hH⟩ : ∃ H, outer (fun x y => decide (cf x y < 0)) a (n - (a + 1)) (a + 1) G = H := ⟨_, rfl⟩
      rw [hH] at o1 b1 IP NP
      have R1 : Hid (Rest lt F H 20 0 n) := Lib.hid (by
        have hp : Per G H a n := by
          by_cases h : a < n
          · exact (IP.out h).2
          · rw [NP.out h]; exact Per.refl _ _ _
        exact (DO.out.kept hp (by rw [QA.out]; exact Nat.le_refl _)).all (by rw [← QA.out]; omega) (by rw [← QA.out]; exact han) (by rw [← QA.out]; exact fun h => (IP.out h).1))
      have O1 := Lib.hid o1
      have B1 := Lib.hid b1
      have C1 : Hid (Chg g w w1) := Lib.hid (CG.out.trans k1)
      clear hH o1 b1 k1 IP NP DO RE QA OG CG BD CC z hlt
      go_wp2
      go_loopw [6] (fun sv wr => ∃ (B : Nat) (G : Nat → Nat), 0 < B ∧ B ≤ 70368744177664 ∧ sv = .int .i64 B ∧ Hid (Rest lt F G B 0 n) ∧ Hid (∀ i, i < n → G i < N) ∧ Hid (Own wr base 3 (.slice (some ⟨g, 0, none⟩) n cap) n (intsV G)) ∧ Hid (Chg g w wr)) (fun sv _ => 35184372088832 - (intOf sv).toNat)
      case atStart => exact ⟨20, H, by omega, by omega, rfl, R1, B1, O1, C1⟩
      case round =>
        obtain ⟨B, G, B0, B9, rfl, RR, BD, OG, CG⟩ := hrel
        by_cases hbn : B < n
        · have BS : Hid (Done lt F G (2 * B) 0) := Lib.hid (fun q hq => absurd hq (by omega))
          go_wp2
          go_loopw [7, 8] (fun av bv wr => ∃ (Q a : Nat) (G : Nat → Nat), Hid (a = Q * (2 * B)) ∧ a ≤ n ∧ av = .int .i64 a ∧ bv = .int .i64 (a + 2 * B : Nat) ∧ Hid (Done lt F G (2 * B) Q) ∧ Hid (Rest lt F G B a n) ∧ Hid (∀ i, i < n → G i < N) ∧ Hid (Own wr base 3 (.slice (some ⟨g, 0, none⟩) n cap) n (intsV G)) ∧ Hid (Chg g w wr)) (fun av _ _ => n - (intOf av).toNat)
          case atStart => exact ⟨0, 0, G, Lib.hid (by omega), by omega, rfl, by go_num, BS, RR, BD, OG, CG⟩
          case round =>
            clear BS RR BD OG CG
            obtain ⟨Q, a, G, QA, han, rfl, rfl, DO, RE, BD, OG, CG⟩ := hrel
            by_cases hlt : a + 2 * B ≤ n
            · have z : ((a + 2 * B : Nat) : Int) ≤ (n : Int) := by omega
              have p1 := RE.out.first (by omega)
              have p2 := RE.out.next.first (by omega)
              rw [Nat.min_eq_left (by omega)] at p1
              rw [Nat.min_eq_left (by omega), show a + B + B = a + 2 * B by omega] at p2
              have PP := Lib.hid (And.intro p1 p2)
              have CC := Lib.hid (SYM.out a (a + B) (a + 2 * B) G wr (by omega) (by omega) hlt CG.out ⟨OG.out, BD.out, p1.so, p2.so, p1.lr p2 (fun i j q1 q2 => HI.out i j q1 (by omega))⟩)
              clear p1 p2
              go_wp2_with fail
              refine (CC.out _ _ _ rfl (by omega) (by omega)).mono ?_
              rintro e w1 ⟨H, rfl, o1, p1, s1, k1⟩
              have NP := PP.out.1.merged PP.out.2 (by omega) (by omega) p1 s1
              have D1 : Hid (Done lt F H (2 * B) (Q + 1)) := Lib.hid ((DO.out.kept p1 (by rw [QA.out]; exact Nat.le_refl _)).more (by rw [← QA.out]; exact NP))
              have R1 : Hid (Rest lt F H B (a + 2 * B) n) := Lib.hid (by
                have := RE.out.next.next.kept p1 (c := 0) (by omega)
                rw [show a + B + B = a + 2 * B by omega] at this; exact this)
              have A1 : Hid (a + 2 * B = (Q + 1) * (2 * B)) := Lib.hid (by rw [QA.out, Nat.add_mul, Nat.one_mul])
              have O1 := Lib.hid o1
              have B1 : Hid (∀ i, i < n → H i < N) := Lib.hid (Per.lt p1 hlt BD.out)
              have C1 : Hid (Chg g w w1) := Lib.hid (CG.out.trans k1)
              have W5 : IntKind.i64.wrap (2 * (B : Int)) = 2 * (B : Int) := IntWalk.i64_in _ (by omega)
              clear o1 p1 s1 k1 NP DO RE QA OG CG BD CC PP
              go_wp2
              go_roundw
              case rel => exact ⟨Q + 1, a + 2 * B, H, A1, hlt, rfl, by first | go_num | (congr 1; omega), D1, R1, B1, O1, C1⟩
              case measure => simp [intOf]; omega
            · have z : ¬ ((a + 2 * B : Nat) : Int) ≤ (n : Int) := by omega
              by_cases hm : a + B < n
              · have p1 := RE.out.first (by omega)
                have p2 := RE.out.next.first (by omega)
                rw [Nat.min_eq_left (by omega)] at p1
                rw [Nat.min_eq_right (by omega)] at p2
                have PP := Lib.hid (And.intro p1 p2)
                have CC := Lib.hid (SYM.out a (a + B) n G wr (by omega) hm (Nat.le_refl _) CG.out ⟨OG.out, BD.out, p1.so, p2.so, p1.lr p2 (fun i j q1 q2 => HI.out i j q1 q2)⟩)
                clear p1 p2
                go_wp2_with fail
                refine (CC.out _ _ _ rfl (by omega) rfl).mono ?_
                rintro e w1 ⟨H, rfl, o1, p1, s1, k1⟩
                have NP := PP.out.1.merged PP.out.2 (by omega) (by omega) p1 s1
                have R1 : Hid (Rest lt F H (2 * B) 0 n) := Lib.hid ((DO.out.kept p1 (by rw [QA.out]; exact Nat.le_refl _)).all (by rw [← QA.out]; omega) (by rw [← QA.out]; exact han) (by rw [← QA.out]; exact fun _ => NP))
                have O1 := Lib.hid o1
                have B1 : Hid (∀ i, i < n → H i < N) := Lib.hid (Per.lt p1 (Nat.le_refl _) BD.out)
                have C1 : Hid (Chg g w w1) := Lib.hid (CG.out.trans k1)
                clear o1 p1 s1 k1 NP DO RE QA OG CG BD CC PP
                go_wp2
                go_roundw
                case rel => exact ⟨2 * B, H, by omega, by omega, by first | go_num | (congr 1; omega), R1, B1, O1, C1⟩
                case measure => simp [intOf]; omega
              · have R1 : Hid (Rest lt F G (2 * B) 0 n) := Lib.hid (DO.out.all (by rw [← QA.out]; omega) (by rw [← QA.out]; exact han) (by
                  rw [← QA.out]
                  intro h
                  have := RE.out.first h
                  rw [Nat.min_eq_right (by omega)] at this; exact this))
                clear DO RE QA
                go_wp2
                go_roundw
                case rel => exact ⟨2 * B, G, by omega, by omega, by first | go_num | (congr 1; omega), R1, BD, OG, CG⟩
                case measure => simp [intOf]; omega
        · have FI : Hid (SortedIn lt G 0 n ∧ (∀ i, i < n → ∃ j, j < n ∧ G i = F j) ∧ (∀ j, j < n → ∃ i, i < n ∧ G i = F j)) := Lib.hid (by
            by_cases h0 : 0 < n
            · have := RR.out.first h0
              rw [Nat.min_eq_right (by omega)] at this
              exact ⟨this.so, fun i hi => by
                obtain ⟨j, _, j2, e⟩ := this.fro i (by omega) hi
                exact ⟨j, j2, e⟩, fun j hj => by
                obtain ⟨i, _, j2, e⟩ := this.to j (by omega) hj
                exact ⟨i, j2, e⟩⟩
            · exact ⟨fun i j p1 p2 p3 => by omega, fun i hi => by omega, fun j hj => by omega⟩)
          clear RR
          go_wp2
          go_end0
          exact ⟨G, rfl, OG.out, FI.out.1, FI.out.2.1, FI.out.2.2, CG.out⟩
theorem sortStable_any (f : Nat) (cb : Array Value) (cf : Nat → Nat → Int) (N g cap n base : Nat) (lt : Nat → Nat → Prop) (hF : Fine lt cf N) (eg : ∀ args w, (callFunc f args).run Try.prog w = .ok (.enter f args) w) (hn : n ≤ 17592186044415) (w : World) (F : Nat → Nat)
    (ht : Tells f cb cf N g w) (ho : Own w base 3 (.slice (some ⟨g, 0, none⟩) n cap) n (intsV F)) (hb : ∀ i, i < n → F i < N) (hi : ∀ i j, i < j → j < n → F i < F j) :
    Calls Try.prog 22 #[(.slice (some ⟨g, 0, none⟩) n cap), .func (.func f) #[] cb] w (Sorted_ lt g n cap base w F) := by
  have C := Lib.hid (stableN_any f cb cf N g cap n base lt hF eg hn w F ht ho hb hi)
  clear hF ht ho hb hi
  go_enter Try.func22, Try.ntmps22
  go_wp2_with fail
  refine C.out.mono ?_
  rintro e w1 ⟨H, rfl, h⟩
  have HH := Lib.hid h
  clear h
  go_wp2
  go_end0
  exact ⟨H, rfl, HH.out⟩
end Go.Proofs.Ytkoifdbbomipbaa.Mrg
