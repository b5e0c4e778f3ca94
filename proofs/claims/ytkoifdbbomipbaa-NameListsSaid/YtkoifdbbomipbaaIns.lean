
/- An insertion sort of a row of places, by whatever comparison; a row whose one block alone turns. -/
import Derived.Test.YtkoifdbbomipbaaName
import Derived.Test.YtkoifdbbomipbaaList
import Derived.BigRegion
import Derived.BigQuiet
import Derived.Deep.LoopGhost
namespace Go.Proofs.Ytkoifdbbomipbaa.Ins
open Go.ChangeShapes Go.WideShapes Go.ChangeAt Go.RowKit
open Mem Arr Lst Name

/-- but for block g all is as it was -/
structure Chg (g : Nat) (w w' : World) : Prop where
  os : w'.os = w.os
  tape : w'.tape = w.tape
  output : w'.output = w.output
  size : w'.heap.size = w.heap.size
  same : ∀ k, k ≠ g → w'.heap[k]? = w.heap[k]?
section
variable {g : Nat} {w w1 w2 : World}
theorem Chg.refl (g : Nat) (w : World) : Chg g w w := ⟨rfl, rfl, rfl, rfl, fun _ _ => rfl⟩
theorem Chg.drew (h : Chg g w w1) (n : Nat) : Chg g w (w1.drewN n) := ⟨h.os, h.tape, h.output, h.size, h.same⟩
theorem Chg.set (h : Chg g w w1) (k : Nat) (u : Value) : Chg g w (w1.setCell ⟨g, k, none⟩ u) :=
  ⟨h.os, h.tape, h.output, by rw [← h.size]; simp [World.setCell], fun j hj => by rw [← h.same j hj]; exact Below.heap_setCell _ _ _ _ (by show j ≠ g; exact hj)⟩
theorem Chg.trans (h : Chg g w w1) (h' : Chg g w1 w2) : Chg g w w2 := ⟨h'.os.trans h.os, h'.tape.trans h.tape, h'.output.trans h.output, h'.size.trans h.size, fun k hk => (h'.same k hk).trans (h.same k hk)⟩
theorem Chg.cell (h : Chg g w w1) {b o : Nat} (hb : b ≠ g) : w1.cell? ⟨b, o, none⟩ = w.cell? ⟨b, o, none⟩ := World.cell?_of_block (a := ⟨b, o, none⟩) (h.same b hb)
theorem Chg.below {B : Nat} {w0 : World} (h : Chg g w w1) (hb : Below B w0 w) (hg : B ≤ g) : Below B w0 w1 :=
  hb.trans ⟨h.os, h.tape, h.output, by rw [h.size]; exact Nat.le_refl _, fun k hk => h.same k (by omega)⟩
theorem Chg.reads (h : Chg g w w1) {A : Option Addr} {n : Nat} {f : Nat → Value} (hr : Reads w g A n f) : Reads w1 g A n f :=
  ⟨hr.1, fun hn => by
    obtain ⟨b, off, e, hlt, hc⟩ := hr.2 hn
    exact ⟨b, off, e, hlt, fun i j hi hj => (h.cell (by omega)).trans (hc i j hi hj)⟩⟩
end
theorem reads_cell {w : World} {B b off n k : Nat} {f : Nat → Value} (h : Reads w B (some ⟨b, off, none⟩) n f) (hk : k < n) : w.cell? ⟨b, off + k, none⟩ = some (f k) := by
  obtain ⟨b', off', e, hlt, hc⟩ := h.2 (by omega)
  injection e with e
  injection e with e1 e2
  subst e1; subst e2
  have := hc k 0 hk (by omega)
  rw [Nat.mul_one, Nat.add_zero] at this; exact this

def swp (G : Nat → Nat) (j : Nat) (i : Nat) : Nat := if i = j then G (j + 1) else if i = j + 1 then G j else G i
def inner (lt : Nat → Nat → Bool) (a : Nat) : Nat → (Nat → Nat) → (Nat → Nat)
  | 0, G => G
  | j + 1, G => if a < j + 1 ∧ lt (G (j + 1)) (G j) = true then inner lt a j (swp G j) else G
def outer (lt : Nat → Nat → Bool) (a : Nat) : Nat → Nat → (Nat → Nat) → (Nat → Nat)
  | 0, _, G => G
  | m + 1, i, G => outer lt a m (i + 1) (inner lt a i G)
def intsV (G : Nat → Nat) (i : Nat) : Value := .int .i64 (G i : Nat)
theorem inner_stop {lt : Nat → Nat → Bool} {a j : Nat} {G : Nat → Nat} (h : j ≤ a) : inner lt a j G = G := by
  cases j with
  | zero => rfl
  | succ j => unfold inner; rw [if_neg (by omega)]
theorem inner_no {lt : Nat → Nat → Bool} {a j : Nat} {G : Nat → Nat} (h : lt (G (j + 1)) (G j) = false) : inner lt a (j + 1) G = G := by
  rw [inner, if_neg (by rw [h]; simp)]
theorem inner_go {lt : Nat → Nat → Bool} {a j : Nat} {G : Nat → Nat} (ha : a < j + 1) (h : lt (G (j + 1)) (G j) = true) : inner lt a (j + 1) G = inner lt a j (swp G j) := by
  rw [inner, if_pos ⟨ha, h⟩]
theorem swp_lt {G : Nat → Nat} {j m n : Nat} (h : ∀ i, i < m → G i < n) (hj : j + 1 < m) : ∀ i, i < m → swp G j i < n := by
  intro i hi
  unfold swp
  split
  · exact h _ hj
  · split
    · exact h _ (by omega)
    · exact h i hi
theorem swp_vals (G : Nat → Nat) (j i : Nat) : (if i = j then intsV G (j + 1) else if i = j + 1 then intsV G j else intsV G i) = intsV (swp G j) i := by
  unfold intsV swp
  split
  · rfl
  · split <;> rfl

/-- a comparison that is called: of two places it tells cf, whatever is drawn, in every world that differs in block g alone -/
def Tells (f : Nat) (cb : Array Value) (cf : Nat → Nat → Int) (n g : Nat) (w : World) : Prop :=
  ∀ w1, Chg g w w1 → ∀ i j : Nat, i < n → j < n → Calls Try.prog f (#[.int .i64 i, .int .i64 j] ++ cb) w1 fun e w2 => e = .returned (.int .i64 (cf i j)) ∧ ∃ m, w2 = w1.drewN m

set_option maxHeartbeats 4000000 in
theorem insertion_any (f : Nat) (cb : Array Value) (cf : Nat → Nat → Int) (n g cap m a b base : Nat) (w : World) (G : Nat → Nat) (eg : ∀ args w, (callFunc f args).run Try.prog w = .ok (.enter f args) w)
    (ht : Tells f cb cf n g w) (ho : Own w base 3 (.slice (some ⟨g, 0, none⟩) m cap) m (intsV G)) (hG : ∀ i, i < m → G i < n) (hab : a ≤ b) (hb : b ≤ m) (hm : m ≤ 17592186044415) :
    Calls Try.prog 27 #[.slice (some ⟨g, 0, none⟩) m cap, .int .i64 a, .int .i64 b, .func (.func f) #[] cb] w fun e w' => e = .returned (.tuple #[]) ∧ Own w' base 3 (.slice (some ⟨g, 0, none⟩) m cap) m (intsV (outer (fun x y => decide (cf x y < 0)) a (b - (a + 1)) (a + 1) G)) ∧ (∀ i, i < m → outer (fun x y => decide (cf x y < 0)) a (b - (a + 1)) (a + 1) G i < n) ∧ Chg g w w' := by
  have HT := Lib.hid ht
  obtain ⟨lt, hlt⟩ : ∃ lt : Nat → Nat → Bool, (fun x y => decide (cf x y < 0)) = lt := ⟨_, rfl⟩
  have HL : Hid (∀ x y, lt x y = decide (cf x y < 0)) := Lib.hid (fun x y => by rw [← hlt])
  rw [hlt]
  obtain ⟨R, hR⟩ : ∃ R, outer lt a (b - (a + 1)) (a + 1) G = R := ⟨_, rfl⟩
  have HR := Lib.hid hR
  rw [hR]
  have HO := Lib.hid ho
  have HG := Lib.hid hG
  clear ht hlt hR ho hG
  go_enter Try.func27, Try.ntmps27
  go_wp2
  go_loopg [8] (b - a) (fun g1 vi wr => ∃ (i : Nat) (Gi : Nat → Nat), vi = .int .i64 i ∧ a < i ∧ i ≤ b + 1 ∧ b + 1 - i ≤ g1 + 1 ∧ Hid (Own wr base 3 (.slice (some ⟨g, 0, none⟩) m cap) m (intsV Gi)) ∧ Hid (∀ i, i < m → Gi i < n) ∧ Hid (Chg g w wr) ∧ Hid (outer lt a (b - i) i Gi = R))
  case atStart => exact ⟨a + 1, G, by go_num, by omega, by omega, by omega, HO, HG, Lib.hid (Chg.refl g w), HR⟩
  case round =>
    obtain ⟨i, Gi, rfl, hai, hib, hg1, OI, LI, CI, RI⟩ := hrel
    by_cases hlt : i < b
    · have hltz : (i : Int) < (b : Int) := by omega
      have hstep : outer lt a (b - i) i Gi = outer lt a (b - (i + 1)) (i + 1) (inner lt a i Gi) := by
        rw [show b - i = (b - (i + 1)) + 1 by omega]; rfl
      have RI2 : Hid (outer lt a (b - (i + 1)) (i + 1) (inner lt a i Gi) = R) := Lib.hid (by rw [← hstep]; exact RI.out)
      clear hstep RI
      go_wp2
      go_loopg [9] i (fun g2 vj wr2 => ∃ (j : Nat) (Gj : Nat → Nat), vj = .int .i64 j ∧ a ≤ j ∧ j ≤ i ∧ j ≤ g2 ∧ Hid (Own wr2 base 3 (.slice (some ⟨g, 0, none⟩) m cap) m (intsV Gj)) ∧ Hid (∀ i, i < m → Gj i < n) ∧ Hid (Chg g w wr2) ∧ Hid (outer lt a (b - (i + 1)) (i + 1) (inner lt a j Gj) = R))
      case atStart => exact ⟨i, Gi, rfl, by omega, Nat.le_refl _, Nat.le_refl _, OI, LI, CI, RI2⟩
      case round =>
        obtain ⟨j, Gj, rfl, haj, hji, hg2, OJ, LJ, CJ, RJ⟩ := hrel
        by_cases hja : a < j
        · have hjaz : (a : Int) < (j : Int) := by omega
          obtain ⟨jp, rfl⟩ : ∃ jp, j = jp + 1 := ⟨j - 1, by omega⟩
          have hwp : IntKind.i64.wrap (jp : Int) = (jp : Int) := by rw [IntKind.wrap_i64]; omega
          have jz : (jp : Int) + 1 < (m : Int) := by omega
          have jz1 : (jp : Int) < (m : Int) := by omega
          have hjaz' : (a : Int) < (jp : Int) + 1 := by omega
          have p0 : (0 : Int) ≤ (jp : Int) + 1 := by omega
          have e0 : ((jp : Int) + 1).toNat = jp + 1 := by omega
          have cj : wr.cell? ⟨g, jp + 1, none⟩ = some (.int .i64 (Gj (jp + 1) : Nat)) := OJ.out.cell (by omega)
          have cp : wr.cell? ⟨g, jp, none⟩ = some (.int .i64 (Gj jp : Nat)) := OJ.out.cell (by omega)
          have hc := fun k => HT.out (wr.drewN k) (CJ.out.drew k) (Gj (jp + 1)) (Gj jp) (LJ.out _ (by omega)) (LJ.out _ (by omega))
          obtain ⟨x1, hx1⟩ : ∃ x, Gj (jp + 1) = x := ⟨_, rfl⟩
          obtain ⟨x0, hx0⟩ : ∃ x, Gj jp = x := ⟨_, rfl⟩
          rw [hx1] at cj hc
          rw [hx0] at cp hc
          by_cases hlv : cf x1 x0 < 0
          · have RG : Hid (outer lt a (b - (i + 1)) (i + 1) (inner lt a jp (swp Gj jp)) = R) := Lib.hid (by rw [← RJ.out, inner_go hja (by rw [HL.out, hx1, hx0]; exact decide_eq_true hlv)])
            have LS : Hid (∀ i, i < m → swp Gj jp i < n) := Lib.hid (swp_lt LJ.out (by omega))
            have fj : wr.frozen? ⟨g, jp + 1, none⟩ = false := OJ.out.free _
            have fp : wr.frozen? ⟨g, jp, none⟩ = false := OJ.out.free _
            have HX : Hid (Gj (jp + 1) = x1 ∧ Gj jp = x0) := Lib.hid ⟨hx1, hx0⟩
            clear hx1 hx0 RJ
            go_wp2_with fail
            go_quiet (first | (refine Calls.quiet_of (hc _)))
            go_wp2_with fail
            have cj2 : (wr.drewN nq).cell? ⟨g, jp + 1, none⟩ = some (.int .i64 (x1 : Nat)) := cj
            have cp2 : (wr.drewN nq).cell? ⟨g, jp, none⟩ = some (.int .i64 (x0 : Nat)) := cp
            have fj2 : (wr.drewN nq).frozen? ⟨g, jp + 1, none⟩ = false := fj
            have fp2 : (wr.drewN nq).frozen? ⟨g, jp, none⟩ = false := fp
            have OQ : Hid (Own (wr.drewN nq) base 3 (.slice (some ⟨g, 0, none⟩) m cap) m (intsV Gj)) := Lib.hid OJ.out
            have CQ : Hid (Chg g w (wr.drewN nq)) := Lib.hid (CJ.out.drew nq)
            clear cj cp fj fp hc OJ CJ
            generalize wr.drewN nq = wq2 at cj2 cp2 fj2 fp2 OQ CQ ⊢
            obtain ⟨j1, hj1⟩ : ∃ j1, j1 = jp + 1 := ⟨_, rfl⟩
            rw [← hj1] at cj2 fj2 e0
            have J1 : Hid (j1 = jp + 1) := hj1
            clear hj1
            go_big_region
            all_goals go_wp2
            go_roundg jp
            case measure => omega
            case rel =>
              refine ⟨jp, swp Gj jp, by first | rfl | go_num | (congr 1; omega), by omega, by omega, Nat.le_refl _, (show Hid _ from ?_), LS, (show Hid _ from ?_), RG⟩
              · rw [J1.out]
                refine Lib.hid (Own.congr (Own.stored (Own.stored OQ.out (k := jp + 1) (.int .i64 (x0 : Nat))) (k := jp) (.int .i64 (x1 : Nat))) (fun i _ => ?_))
                rw [← swp_vals]
                unfold intsV
                rw [HX.out.1, HX.out.2]
              · exact Lib.hid (((CQ.out.drew 1).set _ _).set _ _)
          · have RS : Hid (outer lt a (b - (i + 1)) (i + 1) Gj = R) := Lib.hid (by rw [← RJ.out, inner_no (by rw [HL.out, hx1, hx0]; exact decide_eq_false hlv)])
            clear hx1 hx0 RJ
            go_wp2_with fail
            go_quiet (first | (refine Calls.quiet_of (hc _)))
            go_wp2
            go_roundg (b - (i + 1))
            case measure => omega
            case rel => exact ⟨i + 1, Gj, by go_num, by omega, by omega, by omega, Lib.hid OJ.out, LJ, Lib.hid (CJ.out.drew nq), RS⟩
        · have RS : Hid (outer lt a (b - (i + 1)) (i + 1) Gj = R) := Lib.hid (by rw [← RJ.out, inner_stop (by omega)])
          have hjaz : ¬ (a : Int) < (j : Int) := by omega
          clear RJ
          go_wp2_with fail
          go_quiet (fail)
          go_wp2
          go_roundg (b - (i + 1))
          case measure => omega
          case rel => exact ⟨i + 1, Gj, by go_num, by omega, by omega, by omega, Lib.hid OJ.out, LJ, Lib.hid (CJ.out.drew nq), RS⟩
    · have e : b - i = 0 := by omega
      have RS : Hid (Gi = R) := Lib.hid (by have := RI.out; rw [e] at this; exact this)
      clear e RI
      go_wp2
      go_end0
      rw [← RS.out]
      exact ⟨rfl, OI.out, LI.out, CI.out⟩
end Go.Proofs.Ytkoifdbbomipbaa.Ins
