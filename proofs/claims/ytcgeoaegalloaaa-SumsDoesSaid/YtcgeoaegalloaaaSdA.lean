
/- The instances without the one of an Id, as the program tells them. -/
import Derived.Test.YtcgeoaegalloaaaCat
import Derived.Test.YtcgeoaegalloaaaDrp
import Derived.Test.YtcgeoaegalloaaaFlow0
namespace Go.Proofs.Ytcgeoaegalloaaa.Cat
open Go.ChangeShapes Go.WideShapes Go.ChangeAt Go.RowKit
open Mem Arr Lst Rec Inst Grown Sums St0 Fnd Flow
attribute [local go_sem] Oper.semAt_some
set_option linter.unusedSimpArgs false
set_option linter.unusedVariables false
theorem own_lower {w : World} {b b' : Nat} {E : TypeId} {sz : Nat} {v : Value} {n : Nat} {V : Nat → Nat → Value} (h : Row.Own w b E sz v n V) (hb : b' ≤ b) : Row.Own w b' E sz v n V :=
  ⟨h.1, h.2.imp id fun ⟨g, cap, cur, e, hg, r⟩ => ⟨g, cap, cur, e, Nat.le_trans hb hg, r⟩⟩
theorem own_kept {w w' : World} {b : Nat} {v : Value} {n : Nat} {V : Nat → Nat → Value} (h : Row.Own w b 36 12 v n V) (hb : Below w.heap.size w w') : Row.Own w' b 36 12 v n V := h.later hb (Nat.le_refl _)
theorem mayL_is (A : Option Addr) (n c : Nat) (L : Nat → Ins) (v : Bool) (hv : mayB L n = v) (w : World) (h : Insts w w.heap.size A n L) (hn : n ≤ 9223372036854775807) : Calls Try.prog 10 #[.slice A n c] w fun e w' => e = .returned (.bool v) ∧ Below w.heap.size w w' := by
  have := mayL_any A n c L w h hn; rw [hv] at this; exact this
theorem kept_box' {w w1 : World} {g : Nat} {o : Obj} (hb : Below w.heap.size w w1) (h : w.heap[g]? = some o) : w1.heap[g]? = some o := by
  have hl : g < w.heap.size := by
    rcases Nat.lt_or_ge g w.heap.size with hlt | hge
    · exact hlt
    · rw [Array.getElem?_eq_none hge] at h; cases h
  rw [hb.block g hl]; exact h
/-- two lists that lie in a block of their headers, one behind the other -/
theorem concat_two {g : Nat} {A0 A1 : Option Addr} {n0 n1 c0 c1 cap : Nat} {L0 L1 L : Nat → Ins} {t : TypeId} (N : Nat) (w : World) (hg : w.heap[g]? = some (.cells #[.slice A0 n0 c0, .slice A1 n1 c1] t (0, 0))) (h0 : Insts w w.heap.size A0 n0 L0) (h1 : Insts w w.heap.size A1 n1 L1)
    (z0 : A0 = none → c0 = 0) (z1 : A1 = none → c1 = 0) (hN : n0 + n1 = N) (hl : N ≤ 100000) (hL : ∀ i, i < N → L i = if i < n0 then L0 i else L1 (i - n0)) :
    Calls Try.prog 34 #[.slice (some ⟨g, 0, none⟩) 2 cap] w fun e w' => ∃ v, e = .returned v ∧ Row.Own w' w.heap.size 36 12 v N (insV L) ∧ Below w.heap.size w w' := by
  have hlt : g < w.heap.size := (Array.getElem?_eq_some_iff.1 hg).1
  have key := concat_any g 0 2 cap (fun i => if i = 0 then A0 else A1) (fun i => if i = 0 then n0 else n1) (fun i => if i = 0 then c0 else c1) (fun i => if i = 0 then L0 else L1) w (by omega) hlt
    (fun i hi => by
      rcases (by omega : i = 0 ∨ i = 1) with rfl | rfl
      · exact cell_row hg rfl
      · exact cell_row hg rfl)
    (fun i hi => by
      rcases (by omega : i = 0 ∨ i = 1) with rfl | rfl
      · exact h0
      · exact h1)
    (fun i hi => by
      rcases (by omega : i = 0 ∨ i = 1) with rfl | rfl
      · exact z0
      · exact z1)
    (by show 0 + n0 + n1 ≤ _; omega)
  refine key.mono ?_
  rintro _ w' ⟨v, rfl, own, hb⟩
  refine ⟨v, rfl, ?_, hb⟩
  have e : catN (fun i => if i = 0 then n0 else n1) 2 = N := by show 0 + n0 + n1 = N; omega
  have := own.out
  rw [e] at this
  refine this.congr (by omega) fun i j hi _ => ?_
  unfold insV
  rw [hL i hi]
  show ((if i < 0 + n0 then (if i < 0 then Inst.none_ else L0 (i - 0)) else L1 (i - (0 + n0))).cells[j]?).getD undef = _
  rw [Nat.zero_add, if_neg (Nat.not_lt_zero i), Nat.sub_zero]
set_option maxHeartbeats 4000000 in
theorem drop_yes (A : Option Addr) (n c : Nat) (L : Nat → Ins) (id : Int) (k : Nat) (w : World) (h : Insts w w.heap.size A n L) (hm : mayB L n = true) (hk : k < n) (he : (L k).id = id) (hnc : n ≤ c) (hc : c ≤ 9223372036854775807) :
    Calls Try.prog 18 #[.slice A n c, .int .u64 id] w fun e w' => ∃ v, e = .returned (.tuple #[v, .int .i64 0]) ∧ Row.Own w' w.heap.size 36 12 v (n - 1) (insV (cutL L k)) ∧ Below w.heap.size w w' := by
  have hn4 := may_len hm
  obtain ⟨b, off, rfl⟩ := insts_at h (by omega)
  have P := Lib.hid (fun p : Grown w => place_any (some ⟨b, off, none⟩) n c L id p.w1 (h.later p.below) hm)
  have M := Lib.hid (fun p : Grown w => mayL_is (some ⟨b, off, none⟩) n c L true hm p.w1 (h.later p.below) (by omega))
  have HL := Lib.hid (fun p : Grown w => (show Insts p.w1 p.w1.heap.size (some ⟨b, off, none⟩) n L from h.later p.below))
  have HM := Lib.hid hm
  clear h hm
  go_enter Try.func18, Try.ntmps18
  go_wp2_with fail
  refine (call_grown (p := (⟨w, Below.refl _ _⟩ : Grown w)) (M.out _)).mono ?_
  rintro _ _ ⟨rfl, p, rfl⟩
  go_wp2_with fail
  refine (P.out p).mono ?_
  rintro _ w1 ⟨⟨k', t, rfl, hk', hlo, hyes, hno⟩, hb1⟩
  obtain ⟨rfl, hkk⟩ : t = true ∧ k' = k := by
    cases t with
    | true =>
      obtain ⟨h1, h2, _⟩ := hyes rfl
      exact ⟨rfl, may_one HM.out h1 hk (h2.trans he.symm)⟩
    | false =>
      exfalso
      have h1 := hno rfl
      by_cases hq : k < k'
      · have := hlo k hq; omega
      · have := h1 k (by omega) hk; omega
  subst k'
  clear hyes hno hlo
  obtain ⟨q, rfl⟩ : ∃ q : Grown w, w1 = q.w1 := ⟨⟨w1, bTrans p.below hb1⟩, rfl⟩
  clear hb1
  have d1 : decide ((k : Int) < 0) = false := decide_eq_false (by omega)
  have w1' : IntKind.i64.wrap ((k : Int) + 1) = (k : Int) + 1 := IntWalk.i64_in _ (by omega)
  have z1 : (0 : Int) ≤ (k : Int) + 1 := by omega
  have z2 : (k : Int) + 1 ≤ (n : Int) := by omega
  have z3 : ¬ ((k : Int) + 1 < 0) := by omega
  have z4 : ((k : Int) + 1).toNat = k + 1 := by omega
  have HA : ∀ r : Grown w, Insts r.w1 r.w1.heap.size (some ⟨b, off, none⟩) k L := fun r => (HL.out r).fewer (by omega)
  have HB : ∀ r : Grown w, Insts r.w1 r.w1.heap.size (if c = k + 1 then some ⟨b, off, none⟩ else some ⟨b, off + (k + 1) * 12, none⟩) (n - (k + 1)) (fun i => L (k + 1 + i)) := fun r => by
    have hR := HL.out r
    refine ⟨fun e => (by split at e <;> cases e), fun h0 => ?_⟩
    obtain ⟨b', off', e, hlt, hc'⟩ := hR.2 (by omega)
    injection e with e
    injection e with e1 e2
    subst e1; subst e2
    rw [if_neg (by omega)]
    refine ⟨b, off + (k + 1) * 12, rfl, hlt, fun i j hi hj => ?_⟩
    have := hc' (k + 1 + i) j (by omega) hj
    rw [show off + (k + 1) * 12 + (i * 12 + j) = off + ((k + 1 + i) * 12 + j) by omega]
    exact this
  go_wp2_with fail
  have ST : ∀ {W W' : World}, Below W.heap.size W W' → ∀ ix, stab W W' ix 0 [fun v _ => v = .slice (some ⟨b, off, none⟩) n c, fun v _ => v = .int .i64 k, fun v _ => v = .slice (some ⟨b, off, none⟩) k c, fun v _ => v = .slice (some ⟨b, off, none⟩) n c, fun v _ => v = .int .i64 k, fun v _ => v = .int .i64 ((k : Int) + 1), fun v _ => v = .slice (if c = k + 1 then some ⟨b, off, none⟩ else some ⟨b, off + (k + 1) * 12, none⟩) (n - (k + 1)) (c - (k + 1)), fun v W => ∃ g, v = .slice (some ⟨g, 0, none⟩) 2 2 ∧ W.heap[g]? = some (.cells #[.slice (some ⟨b, off, none⟩) k c, .slice (if c = k + 1 then some ⟨b, off, none⟩ else some ⟨b, off + (k + 1) * 12, none⟩) (n - (k + 1)) (c - (k + 1))] 22 (0, 0)), fun v W => Row.Own W w.heap.size 36 12 v (n - 1) (insV (cutL L k)), fun v W => Row.Own W w.heap.size 36 12 v (n - 1) (insV (cutL L k)), fun v _ => v = .int .i64 0] := by
    intro W W' hb ix
    refine ⟨.inr fun _ h => h, .inr fun _ h => h, .inr fun _ h => h, .inr fun _ h => h, .inr fun _ h => h, .inr fun _ h => h, .inr fun _ h => h, .inr ?_, .inr ?_, .inr ?_, .inr fun _ h => h, trivial⟩
    · rintro _ ⟨g, rfl, hg⟩
      exact ⟨g, rfl, kept_box' hb hg⟩
    · exact fun v hv => own_kept hv hb
    · exact fun v hv => own_kept hv hb
  refine flow (fun _ W => Below q.w1.heap.size q.w1 W) [fun v _ => v = .slice (some ⟨b, off, none⟩) n c, fun v _ => v = .int .i64 k, fun v _ => v = .slice (some ⟨b, off, none⟩) k c, fun v _ => v = .slice (some ⟨b, off, none⟩) n c, fun v _ => v = .int .i64 k, fun v _ => v = .int .i64 ((k : Int) + 1), fun v _ => v = .slice (if c = k + 1 then some ⟨b, off, none⟩ else some ⟨b, off + (k + 1) * 12, none⟩) (n - (k + 1)) (c - (k + 1)), fun v W => ∃ g, v = .slice (some ⟨g, 0, none⟩) 2 2 ∧ W.heap[g]? = some (.cells #[.slice (some ⟨b, off, none⟩) k c, .slice (if c = k + 1 then some ⟨b, off, none⟩ else some ⟨b, off + (k + 1) * 12, none⟩) (n - (k + 1)) (c - (k + 1))] 22 (0, 0)), fun v W => Row.Own W w.heap.size 36 12 v (n - 1) (insV (cutL L k)), fun v W => Row.Own W w.heap.size 36 12 v (n - 1) (insV (cutL L k)), fun v _ => v = .int .i64 0] [19, 20, 21, 22, 23, 24, 25, 26, 27, 4, 5] [19, 20, 21, 22, 23, 24, 25, 26, 27, 4, 5] 28 (by kernel_rfl) rfl (by kernel_rfl) rfl (bDrew (Below.refl _ _)) ⟨?_, ?_, ?_, ?_, ?_, ?_, ?_, ?_, ?_, ?_, ?_, trivial⟩ ?_
  · intro fL fa W hz hd fk hI hL hcl hdep
    have hN : fa.tmps.size = 28 := hz
    have k0 : fa.eval (.tmp 0) = .slice (some ⟨b, off, none⟩) n c := eval_of ((fk 0 (by decide)).trans rfl)
    apply step_val (s := 19) (v := .slice (some ⟨b, off, none⟩) n c) (w' := W)
    · simp [execOp, k0]
    · rfl
    · rfl
    · omega
    · exact hI
    · exact stab_refl _ _ _ _
    · exact rfl
  · intro fL fa W hz hd fk hI hL hcl hdep
    have hN : fa.tmps.size = 28 := hz
    have k6 : fa.eval (.tmp 6) = .int .i64 k := eval_of ((fk 6 (by decide)).trans rfl)
    apply step_val (s := 20) (v := .int .i64 k) (w' := W)
    · simp [execOp, k6]
    · rfl
    · rfl
    · omega
    · exact hI
    · exact stab_refl _ _ _ _
    · exact rfl
  · intro fL fa W hz hd fk hI hL hcl hdep
    have hN : fa.tmps.size = 28 := hz
    obtain ⟨⟨v0, e0, g0⟩, ⟨v1, e1, g1⟩, -⟩ := hdep
    replace g0 : v0 = .slice (some ⟨b, off, none⟩) n c := g0
    subst g0
    have k19 : fa.eval (.tmp 19) = .slice (some ⟨b, off, none⟩) n c := eval_of e0
    replace g1 : v1 = .int .i64 k := g1
    subst g1
    have k20 : fa.eval (.tmp 20) = .int .i64 k := eval_of e1
    apply step_val (s := 21) (v := .slice (some ⟨b, off, none⟩) k c) (w' := W)
    · simp [execOp, k19, k20]; go_simp; try (intro hh; exfalso; omega)
    · rfl
    · rfl
    · omega
    · exact hI
    · exact stab_refl _ _ _ _
    · exact rfl
  · intro fL fa W hz hd fk hI hL hcl hdep
    have hN : fa.tmps.size = 28 := hz
    have k0 : fa.eval (.tmp 0) = .slice (some ⟨b, off, none⟩) n c := eval_of ((fk 0 (by decide)).trans rfl)
    apply step_val (s := 22) (v := .slice (some ⟨b, off, none⟩) n c) (w' := W)
    · simp [execOp, k0]
    · rfl
    · rfl
    · omega
    · exact hI
    · exact stab_refl _ _ _ _
    · exact rfl
  · intro fL fa W hz hd fk hI hL hcl hdep
    have hN : fa.tmps.size = 28 := hz
    have k6 : fa.eval (.tmp 6) = .int .i64 k := eval_of ((fk 6 (by decide)).trans rfl)
    apply step_val (s := 23) (v := .int .i64 k) (w' := W)
    · simp [execOp, k6]
    · rfl
    · rfl
    · omega
    · exact hI
    · exact stab_refl _ _ _ _
    · exact rfl
  · intro fL fa W hz hd fk hI hL hcl hdep
    have hN : fa.tmps.size = 28 := hz
    obtain ⟨⟨v4, e4, g4⟩, -⟩ := hdep
    replace g4 : v4 = .int .i64 k := g4
    subst g4
    have k23 : fa.eval (.tmp 23) = .int .i64 k := eval_of e4
    apply step_val (s := 24) (v := .int .i64 ((k : Int) + 1)) (w' := W)
    · simp [execOp, k23]; go_simp
    · rfl
    · rfl
    · omega
    · exact hI
    · exact stab_refl _ _ _ _
    · exact rfl
  · intro fL fa W hz hd fk hI hL hcl hdep
    have hN : fa.tmps.size = 28 := hz
    obtain ⟨⟨v3, e3, g3⟩, ⟨v5, e5, g5⟩, -⟩ := hdep
    replace g3 : v3 = .slice (some ⟨b, off, none⟩) n c := g3
    subst g3
    have k22 : fa.eval (.tmp 22) = .slice (some ⟨b, off, none⟩) n c := eval_of e3
    replace g5 : v5 = .int .i64 ((k : Int) + 1) := g5
    subst g5
    have k24 : fa.eval (.tmp 24) = .int .i64 ((k : Int) + 1) := eval_of e5
    apply step_val (s := 25) (v := .slice (if c = k + 1 then some ⟨b, off, none⟩ else some ⟨b, off + (k + 1) * 12, none⟩) (n - (k + 1)) (c - (k + 1))) (w' := W)
    · simp [execOp, k22, k24]; go_simp; try (intro hh; exfalso; omega)
    · rfl
    · rfl
    · omega
    · exact hI
    · exact stab_refl _ _ _ _
    · exact rfl
  · intro fL fa W hz hd fk hI hL hcl hdep
    have hN : fa.tmps.size = 28 := hz
    obtain ⟨⟨v2, e2, g2⟩, ⟨v6, e6, g6⟩, -⟩ := hdep
    replace g2 : v2 = .slice (some ⟨b, off, none⟩) k c := g2
    subst g2
    have k21 : fa.eval (.tmp 21) = .slice (some ⟨b, off, none⟩) k c := eval_of e2
    replace g6 : v6 = .slice (if c = k + 1 then some ⟨b, off, none⟩ else some ⟨b, off + (k + 1) * 12, none⟩) (n - (k + 1)) (c - (k + 1)) := g6
    subst g6
    have k25 : fa.eval (.tmp 25) = .slice (if c = k + 1 then some ⟨b, off, none⟩ else some ⟨b, off + (k + 1) * 12, none⟩) (n - (k + 1)) (c - (k + 1)) := eval_of e6
    apply step_val (s := 26) (v := .slice (some ⟨W.heap.size, 0, none⟩) 2 2) (w' := W.alloc (.cells #[.slice (some ⟨b, off, none⟩) k c, .slice (if c = k + 1 then some ⟨b, off, none⟩ else some ⟨b, off + (k + 1) * 12, none⟩) (n - (k + 1)) (c - (k + 1))] 22 (0, 0)))
    · simp [execOp, k21, k25]; go_simp
    · rfl
    · rfl
    · omega
    · exact bAlloc hI _
    · exact ST (bAlloc (Below.refl _ _) _) _
    · exact ⟨W.heap.size, rfl, heap_alloc_new _ _⟩
  · intro fL fa W hz hd fk hI hL hcl hdep
    have hN : fa.tmps.size = 28 := hz
    obtain ⟨⟨v7, e7, g7⟩, -⟩ := hdep
    obtain ⟨g, rfl, hg⟩ := (show ∃ g, v7 = .slice (some ⟨g, 0, none⟩) 2 2 ∧ W.heap[g]? = some (.cells #[.slice (some ⟨b, off, none⟩) k c, .slice (if c = k + 1 then some ⟨b, off, none⟩ else some ⟨b, off + (k + 1) * 12, none⟩) (n - (k + 1)) (c - (k + 1))] 22 (0, 0)) from g7)
    apply step_call (s := 27) (f := 34) (args := #[.slice (some ⟨g, 0, none⟩) 2 2])
    · go_simp; exact idx e7
    · rfl
    · rfl
    · omega
    refine (concat_two (n - 1) W hg (HA ⟨W, bTrans q.below hI⟩) (HB ⟨W, bTrans q.below hI⟩) (fun e => by cases e) (fun e => by split at e <;> cases e) (by omega) (by omega) (L := cutL L k) (fun i hi => ?_)).mono ?_
    · unfold cutL
      by_cases hq : i < k
      · rw [if_pos hq, if_pos hq]
      · rw [if_neg hq, if_neg hq, show k + 1 + (i - k) = i + 1 by omega]
    rintro _ W' ⟨v, rfl, own, bw⟩
    exact ⟨_, rfl, bTrans hI bw, ST bw _, own_lower own (bTrans q.below hI).size⟩
  · intro fL fa W hz hd fk hI hL hcl hdep
    have hN : fa.tmps.size = 28 := hz
    obtain ⟨⟨v8, e8, g8⟩, -, ⟨v0, e0, g0⟩, ⟨v1, e1, g1⟩, ⟨v2, e2, g2⟩, ⟨v3, e3, g3⟩, ⟨v4, e4, g4⟩, ⟨v5, e5, g5⟩, ⟨v6, e6, g6⟩, ⟨v7, e7, g7⟩, -, -⟩ := hdep
    replace g0 : v0 = .slice (some ⟨b, off, none⟩) n c := g0
    subst g0
    have k19 : fa.eval (.tmp 19) = .slice (some ⟨b, off, none⟩) n c := eval_of e0
    replace g1 : v1 = .int .i64 k := g1
    subst g1
    have k20 : fa.eval (.tmp 20) = .int .i64 k := eval_of e1
    replace g2 : v2 = .slice (some ⟨b, off, none⟩) k c := g2
    subst g2
    have k21 : fa.eval (.tmp 21) = .slice (some ⟨b, off, none⟩) k c := eval_of e2
    replace g3 : v3 = .slice (some ⟨b, off, none⟩) n c := g3
    subst g3
    have k22 : fa.eval (.tmp 22) = .slice (some ⟨b, off, none⟩) n c := eval_of e3
    replace g4 : v4 = .int .i64 k := g4
    subst g4
    have k23 : fa.eval (.tmp 23) = .int .i64 k := eval_of e4
    replace g5 : v5 = .int .i64 ((k : Int) + 1) := g5
    subst g5
    have k24 : fa.eval (.tmp 24) = .int .i64 ((k : Int) + 1) := eval_of e5
    replace g6 : v6 = .slice (if c = k + 1 then some ⟨b, off, none⟩ else some ⟨b, off + (k + 1) * 12, none⟩) (n - (k + 1)) (c - (k + 1)) := g6
    subst g6
    have k25 : fa.eval (.tmp 25) = .slice (if c = k + 1 then some ⟨b, off, none⟩ else some ⟨b, off + (k + 1) * 12, none⟩) (n - (k + 1)) (c - (k + 1)) := eval_of e6
    have k27 : fa.eval (.tmp 27) = v8 := eval_of e8
    apply step_val (s := 4) (v := v8) (w' := W)
    · simp [execOp, k27]
    · rfl
    · rfl
    · omega
    · exact hI
    · exact stab_refl _ _ _ _
    · exact g8
  · intro fL fa W hz hd fk hI hL hcl hdep
    have hN : fa.tmps.size = 28 := hz
    obtain ⟨⟨v9, e9, g9⟩, ⟨v0, e0, g0⟩, ⟨v1, e1, g1⟩, ⟨v2, e2, g2⟩, ⟨v3, e3, g3⟩, ⟨v4, e4, g4⟩, ⟨v5, e5, g5⟩, ⟨v6, e6, g6⟩, ⟨v7, e7, g7⟩, ⟨v8, e8, g8⟩, -, -⟩ := hdep
    replace g0 : v0 = .slice (some ⟨b, off, none⟩) n c := g0
    subst g0
    have k19 : fa.eval (.tmp 19) = .slice (some ⟨b, off, none⟩) n c := eval_of e0
    replace g1 : v1 = .int .i64 k := g1
    subst g1
    have k20 : fa.eval (.tmp 20) = .int .i64 k := eval_of e1
    replace g2 : v2 = .slice (some ⟨b, off, none⟩) k c := g2
    subst g2
    have k21 : fa.eval (.tmp 21) = .slice (some ⟨b, off, none⟩) k c := eval_of e2
    replace g3 : v3 = .slice (some ⟨b, off, none⟩) n c := g3
    subst g3
    have k22 : fa.eval (.tmp 22) = .slice (some ⟨b, off, none⟩) n c := eval_of e3
    replace g4 : v4 = .int .i64 k := g4
    subst g4
    have k23 : fa.eval (.tmp 23) = .int .i64 k := eval_of e4
    replace g5 : v5 = .int .i64 ((k : Int) + 1) := g5
    subst g5
    have k24 : fa.eval (.tmp 24) = .int .i64 ((k : Int) + 1) := eval_of e5
    replace g6 : v6 = .slice (if c = k + 1 then some ⟨b, off, none⟩ else some ⟨b, off + (k + 1) * 12, none⟩) (n - (k + 1)) (c - (k + 1)) := g6
    subst g6
    have k25 : fa.eval (.tmp 25) = .slice (if c = k + 1 then some ⟨b, off, none⟩ else some ⟨b, off + (k + 1) * 12, none⟩) (n - (k + 1)) (c - (k + 1)) := eval_of e6
    apply step_val (s := 5) (v := .int .i64 0) (w' := W)
    · simp [execOp]; rfl
    · rfl
    · rfl
    · omega
    · exact hI
    · exact stab_refl _ _ _ _
    · exact rfl
  intro W Y bI
  replace bI : Below q.w1.heap.size q.w1 W := bI
  refine fun g0 g1 g2 g3 g4 g5 g6 g7 g8 g9 g10 => ?_
  replace g0 : Y 19 = .slice (some ⟨b, off, none⟩) n c := g0
  replace g1 : Y 20 = .int .i64 k := g1
  replace g2 : Y 21 = .slice (some ⟨b, off, none⟩) k c := g2
  replace g3 : Y 22 = .slice (some ⟨b, off, none⟩) n c := g3
  replace g4 : Y 23 = .int .i64 k := g4
  replace g5 : Y 24 = .int .i64 ((k : Int) + 1) := g5
  replace g6 : Y 25 = .slice (if c = k + 1 then some ⟨b, off, none⟩ else some ⟨b, off + (k + 1) * 12, none⟩) (n - (k + 1)) (c - (k + 1)) := g6
  replace g10 : Y 5 = .int .i64 0 := g10
  obtain ⟨g, e26, hg⟩ := (show ∃ g, Y 26 = .slice (some ⟨g, 0, none⟩) 2 2 ∧ W.heap[g]? = some (.cells #[.slice (some ⟨b, off, none⟩) k c, .slice (if c = k + 1 then some ⟨b, off, none⟩ else some ⟨b, off + (k + 1) * 12, none⟩) (n - (k + 1)) (c - (k + 1))] 22 (0, 0)) from g7)
  have own : Row.Own W w.heap.size 36 12 (Y 4) (n - 1) (insV (cutL L k)) := g9
  clear g7 g8 g9 ST HA HB
  obtain ⟨y4, e4⟩ : ∃ y, Y 4 = y := ⟨_, rfl⟩
  rw [e4] at own
  rename_i K hK
  show K _ W
  refine hK _ _ ?_
  rw [g0, g1, g2, g3, g4, g5, g6, g10, e26, e4]
  clear hK g0 g1 g2 g3 g4 g5 g6 g10 e26 e4
  try simp only [Act.put, List.setIfInBounds_toArray, List.set_cons_succ, List.set_cons_zero]
  replace own := Lib.hid own
  go_wp2_with fail
  all_goals
    go_ret2
    exact ⟨_, rfl, own.out, bTrans q.below bI⟩
end Go.Proofs.Ytcgeoaegalloaaa.Cat
