
/- What Add of the program answers, whatever is handed in. -/
import Derived.Test.YtcgeoaegalloaaaSdB
namespace Go.Proofs.Ytcgeoaegalloaaa.Cat
open Go.ChangeShapes Go.WideShapes Go.ChangeAt Go.RowKit
open Mem Arr Lst Rec Inst Grown Sums St0 Fnd Flow
attribute [local go_sem] Oper.semAt_some
set_option linter.unusedSimpArgs false
set_option linter.unusedVariables false
def addL (L : Nat → Ins) (at_ : Nat) (x : Ins) (i : Nat) : Ins := if i < at_ then L i else if i = at_ then x else L (i - 1)
def AddR (L : Nat → Ins) (n : Nat) (x : Ins) (m : Nat) (V : Nat → Ins) (er : Int) : Prop :=
  ((mayB L n = false ∨ okB x = false) ∧ m = 0 ∧ er = 2) ∨ (mayB L n = true ∧ okB x = true ∧ (∃ k, k < n ∧ (L k).id = x.id) ∧ m = 0 ∧ er = 8) ∨
    (mayB L n = true ∧ okB x = true ∧ (∀ i, i < n → (L i).id ≠ x.id) ∧ 4096 ≤ n ∧ m = 0 ∧ er = 10) ∨
    (mayB L n = true ∧ okB x = true ∧ n < 4096 ∧ ∃ k, k ≤ n ∧ (∀ i, i < k → (L i).id < x.id) ∧ (∀ i, k ≤ i → i < n → x.id < (L i).id) ∧ m = n + 1 ∧ er = 0 ∧ ∀ i, i < n + 1 → V i = addL L k x i)
theorem run_one (x : Ins) (W : World) : (Instr.buildSlice 22 1 #[(0, x.val)]).run Try.prog W = .ok (.slice (some ⟨W.heap.size, 0, none⟩) 1 1) (W.alloc (.cells x.cells 36 (0, 0))) := by
  kernel_rfl
theorem concat_three {g g1 : Nat} {A0 A2 : Option Addr} {n0 n2 c0 c2 cap : Nat} {L0 L2 L : Nat → Ins} {x : Ins} {t : TypeId} (N : Nat) (w : World) (hg : w.heap[g]? = some (.cells #[.slice A0 n0 c0, .slice (some ⟨g1, 0, none⟩) 1 1, .slice A2 n2 c2] t (0, 0))) (hx : w.heap[g1]? = some (.cells x.cells 36 (0, 0)))
    (h0 : Insts w w.heap.size A0 n0 L0) (h2 : Insts w w.heap.size A2 n2 L2) (z0 : A0 = none → c0 = 0) (z2 : A2 = none → c2 = 0) (hN : n0 + 1 + n2 = N) (hl : N ≤ 100000) (hL : ∀ i, i < N → L i = if i < n0 then L0 i else if i < n0 + 1 then x else L2 (i - (n0 + 1))) :
    Calls Try.prog 34 #[.slice (some ⟨g, 0, none⟩) 3 cap] w fun e w' => ∃ v, e = .returned v ∧ Row.Own w' w.heap.size 36 12 v N (insV L) ∧ Below w.heap.size w w' := by
  have hlt : g < w.heap.size := (Array.getElem?_eq_some_iff.1 hg).1
  have h1 : Insts w w.heap.size (some ⟨g1, 0, none⟩) 1 (fun _ => x) := ⟨fun e => (by cases e), fun _ => ⟨g1, 0, rfl, (Array.getElem?_eq_some_iff.1 hx).1, fun i j hi hj => by
    obtain rfl : i = 0 := by omega
    rw [Nat.zero_mul, Nat.zero_add, Nat.zero_add]
    have hj' : j < x.cells.size := hj
    refine cell_row hx ?_
    unfold insV
    rw [Array.getElem?_eq_getElem hj']; rfl⟩⟩
  have key := concat_any g 0 3 cap (fun i => if i = 0 then A0 else if i = 1 then some ⟨g1, 0, none⟩ else A2) (fun i => if i = 0 then n0 else if i = 1 then 1 else n2) (fun i => if i = 0 then c0 else if i = 1 then 1 else c2) (fun i => if i = 0 then L0 else if i = 1 then (fun _ => x) else L2) w (by omega) hlt
    (fun i hi => by
      rcases (by omega : i = 0 ∨ i = 1 ∨ i = 2) with rfl | rfl | rfl
      · exact cell_row hg rfl
      · exact cell_row hg rfl
      · exact cell_row hg rfl)
    (fun i hi => by
      rcases (by omega : i = 0 ∨ i = 1 ∨ i = 2) with rfl | rfl | rfl
      · exact h0
      · exact h1
      · exact h2)
    (fun i hi => by
      rcases (by omega : i = 0 ∨ i = 1 ∨ i = 2) with rfl | rfl | rfl
      · exact z0
      · exact fun e => by cases e
      · exact z2)
    (by show 0 + n0 + 1 + n2 ≤ _; omega)
  refine key.mono ?_
  rintro _ w' ⟨v, rfl, own, hb⟩
  refine ⟨v, rfl, ?_, hb⟩
  have e : catN (fun i => if i = 0 then n0 else if i = 1 then 1 else n2) 3 = N := by show 0 + n0 + 1 + n2 = N; omega
  have := own.out
  rw [e] at this
  refine this.congr (by omega) fun i j hi _ => ?_
  unfold insV
  rw [hL i hi]
  show ((if i < 0 + n0 + 1 then (if i < 0 + n0 then (if i < 0 then Inst.none_ else L0 (i - 0)) else x) else L2 (i - (0 + n0 + 1))).cells[j]?).getD undef = _
  rw [Nat.zero_add, if_neg (Nat.not_lt_zero i), Nat.sub_zero]
  by_cases h : i < n0
  · rw [if_pos (by omega), if_pos h, if_pos h]
  · rw [if_neg h, if_neg h]
set_option maxHeartbeats 8000000 in
theorem add_all (A : Option Addr) (n c : Nat) (L : Nat → Ins) (x : Ins) (w : World) (h : Insts w w.heap.size A n L) (hn : n ≤ 9223372036854775807) (hnil : A = none → c = 0) (hnc : n ≤ c) (hc : c ≤ 9223372036854775807) (hform : A = none ∨ ∃ b off, A = some ⟨b, off, none⟩) : Calls Try.prog 14 #[.slice A n c, x.val] w fun e w' => ∃ v m V er, e = .returned (.tuple #[v, .int .i64 er]) ∧ Hid (Row.Own w' w.heap.size 36 12 v m (insV V)) ∧ Hid (AddR L n x m V er) ∧ Below w.heap.size w w' := by
  have H0 := heap_alloc_new w (.cells x.cells 36)
  have B0 := bAlloc (Below.refl _ w) (.cells x.cells 36)
  have MM : ∀ v, mayB L n = v → Hid (∀ p : Grown w, Calls Try.prog 10 #[.slice A n c] p.w1 fun e w' => e = .returned (.bool v) ∧ Below p.w1.heap.size p.w1 w') := fun v hv => Lib.hid (fun p => mayL_is A n c L v hv p.w1 (h.later p.below) hn)
  have HL := Lib.hid (fun p : Grown w => (show Insts p.w1 p.w1.heap.size A n L from h.later p.below))
  rcases hm : mayB L n with _ | _
  · have M := MM false hm
    have HR : Hid (AddR L n x 0 (fun _ => Inst.none_) 2) := Lib.hid (.inl ⟨.inl hm, rfl, rfl⟩)
    clear hm h MM
    go_enter Try.func14, Try.ntmps14
    go_wp2_with fail
    refine (M.out ⟨_, B0⟩).mono ?_
    rintro _ u ⟨rfl, bu⟩
    go_wp2
    go_ret2
    exact ⟨_, 0, _, 2, rfl, Lib.hid (Row.own_nil _ _ _ _ _), HR, bTrans B0 bu⟩
  have M := MM true hm
  clear MM
  rcases hx : okB x with _ | _
  · have HR : Hid (AddR L n x 0 (fun _ => Inst.none_) 2) := Lib.hid (.inl ⟨.inr hx, rfl, rfl⟩)
    have X := Lib.hid (fun W => may_is x false hx W)
    clear hm h hx
    go_enter Try.func14, Try.ntmps14
    go_wp2_with fail
    refine (M.out ⟨_, B0⟩).mono ?_
    rintro _ u ⟨rfl, bu⟩
    have HX := kept_lt bu H0
    go_wp2_with (refine load_whole rfl 36 _ rfl w.heap.size rfl _ x.cells _ _ HX Try.underlying36 rfl (sizeInst.trans rfl) ?_)
    refine (X.out _).mono ?_
    rintro _ u2 ⟨rfl, bu2⟩
    go_wp2
    go_ret2
    exact ⟨_, 0, _, 2, rfl, Lib.hid (Row.own_nil _ _ _ _ _), HR, bTrans (bTrans B0 bu) bu2⟩
  have X := Lib.hid (fun W => may_is x true hx W)
  have P := Lib.hid (fun p : Grown w => place_any A n c L x.id p.w1 (h.later p.below) hm)
  have hn4 := may_len hm
  have HM := Lib.hid hm
  have HK := Lib.hid hx
  have hA0 : A = none → n = 0 := h.1
  clear hm h hx
  go_enter Try.func14, Try.ntmps14
  go_wp2_with fail
  refine (M.out ⟨_, B0⟩).mono ?_
  rintro _ u ⟨rfl, bu⟩
  have HX := kept_lt bu H0
  go_wp2_with (refine load_whole rfl 36 _ rfl w.heap.size rfl _ x.cells _ _ HX Try.underlying36 rfl (sizeInst.trans rfl) ?_)
  refine (X.out _).mono ?_
  rintro _ u2 ⟨rfl, bu2⟩
  have HX2 := kept_lt bu2 HX
  have cx := cell_row HX2 x.f0
  go_wp2_with fail
  refine (P.out ⟨u2, bTrans (bTrans B0 bu) bu2⟩).mono ?_
  rintro _ w1 ⟨⟨k, t, rfl, hk', hlo, hyes, hno⟩, hb1⟩
  have B1 := bTrans (bTrans (bTrans B0 bu) bu2) hb1
  have HX3 := kept_lt hb1 HX2
  clear cx HX HX2 bu bu2 H0 B0 M X P hb1
  cases t with
  | true =>
    obtain ⟨hk, he, _⟩ := hyes rfl
    have HR : Hid (AddR L n x 0 (fun _ => Inst.none_) 8) := Lib.hid (.inr (.inl ⟨HM.out, HK.out, ⟨k, hk, he⟩, rfl, rfl⟩))
    clear hyes hno hlo he
    go_wp2
    go_ret2
    exact ⟨_, 0, _, 8, rfl, Lib.hid (Row.own_nil _ _ _ _ _), HR, B1⟩
  | false =>
    have HNO := Lib.hid (place_cut hlo hno rfl)
    have hno' := hno rfl
    by_cases hf : 4096 ≤ n
    · have d4 : decide ((4096 : Int) ≤ n) = true := decide_eq_true (by omega)
      have HR : Hid (AddR L n x 0 (fun _ => Inst.none_) 10) := Lib.hid (.inr (.inr (.inl ⟨HM.out, HK.out, HNO.out, hf, rfl, rfl⟩)))
      clear hyes hno hlo hno'
      go_wp2
      go_ret2
      exact ⟨_, 0, _, 10, rfl, Lib.hid (Row.own_nil _ _ _ _ _), HR, B1⟩
    · have d4 : decide ((4096 : Int) ≤ n) = false := decide_eq_false (by omega)
      have HR : Hid (AddR L n x (n + 1) (addL L k x) 0) := Lib.hid (.inr (.inr (.inr ⟨HM.out, HK.out, by omega, k, hk', hlo, hno', rfl, rfl, fun i _ => rfl⟩)))
      clear hyes hno hlo hno'
      have d1 : decide ((k : Int) < 0) = false := decide_eq_false (by omega)
      have d2 : decide ((n : Int) < k) = false := decide_eq_false (by omega)
      have d3 : decide ((c : Int) < k) = false := decide_eq_false (by omega)
      have sz : x.cells.size = 12 := rfl
      by_cases hne : A = none
      · subst hne
        obtain rfl := hA0 rfl
        obtain rfl := hnil rfl
        obtain rfl : k = 0 := by omega
        have HA : ∀ r : Grown w, Insts r.w1 r.w1.heap.size none 0 L := fun r => ⟨fun _ => by omega, fun h0 => by omega⟩
        have HB : ∀ r : Grown w, Insts r.w1 r.w1.heap.size none (0 - 0) (fun i => L (0 + i)) := fun r => ⟨fun _ => by omega, fun h0 => by omega⟩
        go_wp2_with fail
        have ST : ∀ {W W' : World}, Below W.heap.size W W' → ∀ ix, stab W W' ix 0 [fun v _ => v = .slice none 0 0, fun v _ => v = .int .i64 0, fun v _ => v = .slice none 0 0, fun v _ => v = x.val, fun v W => ∃ g, v = .slice (some ⟨g, 0, none⟩) 1 1 ∧ W.heap[g]? = some (.cells x.cells 36 (0, 0)), fun v _ => v = .slice none 0 0, fun v _ => v = .int .i64 0, fun v _ => v = .slice none 0 0, fun v W => ∃ g g1, v = .slice (some ⟨g, 0, none⟩) 3 3 ∧ W.heap[g]? = some (.cells #[.slice none 0 0, .slice (some ⟨g1, 0, none⟩) 1 1, .slice none 0 0] 22 (0, 0)) ∧ W.heap[g1]? = some (.cells x.cells 36 (0, 0)), fun v W => Row.Own W w.heap.size 36 12 v (0 + 1) (insV (addL L 0 x)), fun v W => Row.Own W w.heap.size 36 12 v (0 + 1) (insV (addL L 0 x)), fun v _ => v = .int .i64 0] := by
          intro W W' hb ix
          refine ⟨.inr fun _ h => h, .inr fun _ h => h, .inr fun _ h => h, .inr fun _ h => h, .inr ?_, .inr fun _ h => h, .inr fun _ h => h, .inr fun _ h => h, .inr ?_, .inr ?_, .inr ?_, .inr fun _ h => h, trivial⟩
          · rintro _ ⟨g, rfl, hg⟩
            exact ⟨g, rfl, kept_lt hb hg⟩
          · rintro _ ⟨g, g1, rfl, hg, h1⟩
            exact ⟨g, g1, rfl, kept_lt hb hg, kept_lt hb h1⟩
          · exact fun v hv => own_kept hv hb
          · exact fun v hv => own_kept hv hb
        refine flow (fun _ W => Below w1.heap.size w1 W) [fun v _ => v = .slice none 0 0, fun v _ => v = .int .i64 0, fun v _ => v = .slice none 0 0, fun v _ => v = x.val, fun v W => ∃ g, v = .slice (some ⟨g, 0, none⟩) 1 1 ∧ W.heap[g]? = some (.cells x.cells 36 (0, 0)), fun v _ => v = .slice none 0 0, fun v _ => v = .int .i64 0, fun v _ => v = .slice none 0 0, fun v W => ∃ g g1, v = .slice (some ⟨g, 0, none⟩) 3 3 ∧ W.heap[g]? = some (.cells #[.slice none 0 0, .slice (some ⟨g1, 0, none⟩) 1 1, .slice none 0 0] 22 (0, 0)) ∧ W.heap[g1]? = some (.cells x.cells 36 (0, 0)), fun v W => Row.Own W w.heap.size 36 12 v (0 + 1) (insV (addL L 0 x)), fun v W => Row.Own W w.heap.size 36 12 v (0 + 1) (insV (addL L 0 x)), fun v _ => v = .int .i64 0] [29, 30, 31, 32, 33, 34, 35, 36, 37, 38, 4, 5] [29, 30, 31, 32, 33, 34, 35, 36, 37, 38, 4, 5] 39 (by kernel_rfl) rfl (by kernel_rfl) rfl (bDrew (Below.refl _ _)) ⟨?_, ?_, ?_, ?_, ?_, ?_, ?_, ?_, ?_, ?_, ?_, ?_, trivial⟩ ?_
        · intro fL fa W hz hd fk hI hL hcl hdep
          have hN : fa.tmps.size = 39 := hz
          have k0 : fa.eval (.tmp 0) = .slice none 0 0 := eval_of ((fk 0 (by decide)).trans rfl)
          apply step_val (s := 29) (v := .slice none 0 0) (w' := W)
          · simp [execOp, k0]
          · rfl
          · rfl
          · omega
          · exact hI
          · exact stab_refl _ _ _ _
          · exact rfl
        · intro fL fa W hz hd fk hI hL hcl hdep
          have hN : fa.tmps.size = 39 := hz
          have k6 : fa.eval (.tmp 6) = .int .i64 0 := eval_of ((fk 6 (by decide)).trans rfl)
          apply step_val (s := 30) (v := .int .i64 0) (w' := W)
          · simp [execOp, k6]
          · rfl
          · rfl
          · omega
          · exact hI
          · exact stab_refl _ _ _ _
          · exact rfl
        · intro fL fa W hz hd fk hI hL hcl hdep
          have hN : fa.tmps.size = 39 := hz
          obtain ⟨⟨v0, e0, g0⟩, ⟨v1, e1, g1⟩, -⟩ := hdep
          replace g0 : v0 = .slice none 0 0 := g0
          subst g0
          have k29 : fa.eval (.tmp 29) = .slice none 0 0 := eval_of e0
          replace g1 : v1 = .int .i64 0 := g1
          subst g1
          have k30 : fa.eval (.tmp 30) = .int .i64 0 := eval_of e1
          apply step_val (s := 31) (v := .slice none 0 0) (w' := W)
          · simp [execOp, k29, k30]; go_simp; try (intro hh; exfalso; omega)
          · rfl
          · rfl
          · omega
          · exact hI
          · exact stab_refl _ _ _ _
          · exact rfl
        · intro fL fa W hz hd fk hI hL hcl hdep
          have hN : fa.tmps.size = 39 := hz
          have k3 : fa.eval (.tmp 3) = .pointer (some ⟨w.heap.size, 0, none⟩) := eval_of ((fk 3 (by decide)).trans rfl)
          apply step_val (s := 32) (v := x.val) (w' := W)
          · exact exec_load_row 36 _ rfl k3 (kept_lt hI HX3) Try.underlying36 rfl (sizeInst.trans rfl)
          · rfl
          · rfl
          · omega
          · exact hI
          · exact stab_refl _ _ _ _
          · exact rfl
        · intro fL fa W hz hd fk hI hL hcl hdep
          have hN : fa.tmps.size = 39 := hz
          obtain ⟨⟨v3, e3, g3⟩, -⟩ := hdep
          replace g3 : v3 = x.val := g3
          subst g3
          have k32 : fa.eval (.tmp 32) = x.val := eval_of e3
          apply step_val (s := 33) (v := .slice (some ⟨W.heap.size, 0, none⟩) 1 1) (w' := W.alloc (.cells x.cells 36 (0, 0)))
          · simp [execOp, k32, run_one]
          · rfl
          · rfl
          · omega
          · exact bAlloc hI _
          · exact ST (bAlloc (Below.refl _ _) _) _
          · exact ⟨W.heap.size, rfl, heap_alloc_new _ _⟩
        · intro fL fa W hz hd fk hI hL hcl hdep
          have hN : fa.tmps.size = 39 := hz
          have k0 : fa.eval (.tmp 0) = .slice none 0 0 := eval_of ((fk 0 (by decide)).trans rfl)
          apply step_val (s := 34) (v := .slice none 0 0) (w' := W)
          · simp [execOp, k0]
          · rfl
          · rfl
          · omega
          · exact hI
          · exact stab_refl _ _ _ _
          · exact rfl
        · intro fL fa W hz hd fk hI hL hcl hdep
          have hN : fa.tmps.size = 39 := hz
          have k6 : fa.eval (.tmp 6) = .int .i64 0 := eval_of ((fk 6 (by decide)).trans rfl)
          apply step_val (s := 35) (v := .int .i64 0) (w' := W)
          · simp [execOp, k6]
          · rfl
          · rfl
          · omega
          · exact hI
          · exact stab_refl _ _ _ _
          · exact rfl
        · intro fL fa W hz hd fk hI hL hcl hdep
          have hN : fa.tmps.size = 39 := hz
          obtain ⟨⟨v5, e5, g5⟩, ⟨v6, e6, g6⟩, -⟩ := hdep
          replace g5 : v5 = .slice none 0 0 := g5
          subst g5
          have k34 : fa.eval (.tmp 34) = .slice none 0 0 := eval_of e5
          replace g6 : v6 = .int .i64 0 := g6
          subst g6
          have k35 : fa.eval (.tmp 35) = .int .i64 0 := eval_of e6
          apply step_val (s := 36) (v := .slice none 0 0) (w' := W)
          · simp [execOp, k34, k35]; go_simp; try (intro hh; exfalso; omega)
          · rfl
          · rfl
          · omega
          · exact hI
          · exact stab_refl _ _ _ _
          · exact rfl
        · intro fL fa W hz hd fk hI hL hcl hdep
          have hN : fa.tmps.size = 39 := hz
          obtain ⟨⟨v2, e2, g2⟩, ⟨v4, e4, g4⟩, ⟨v7, e7, g7⟩, -⟩ := hdep
          replace g2 : v2 = .slice none 0 0 := g2
          subst g2
          have k31 : fa.eval (.tmp 31) = .slice none 0 0 := eval_of e2
          replace g7 : v7 = .slice none 0 0 := g7
          subst g7
          have k36 : fa.eval (.tmp 36) = .slice none 0 0 := eval_of e7
          obtain ⟨g1, rfl, h1⟩ := (show ∃ g, v4 = .slice (some ⟨g, 0, none⟩) 1 1 ∧ W.heap[g]? = some (.cells x.cells 36 (0, 0)) from g4)
          have k33 : fa.eval (.tmp 33) = .slice (some ⟨g1, 0, none⟩) 1 1 := eval_of e4
          apply step_val (s := 37) (v := .slice (some ⟨W.heap.size, 0, none⟩) 3 3) (w' := W.alloc (.cells #[.slice none 0 0, .slice (some ⟨g1, 0, none⟩) 1 1, .slice none 0 0] 22 (0, 0)))
          · simp [execOp, k31, k33, k36]; go_simp
          · rfl
          · rfl
          · omega
          · exact bAlloc hI _
          · exact ST (bAlloc (Below.refl _ _) _) _
          · exact ⟨W.heap.size, g1, rfl, heap_alloc_new _ _, kept_lt (bAlloc (Below.refl _ _) _) h1⟩
        · intro fL fa W hz hd fk hI hL hcl hdep
          have hN : fa.tmps.size = 39 := hz
          obtain ⟨⟨v8, e8, g8⟩, -⟩ := hdep
          obtain ⟨g, g1, rfl, hg, h1⟩ := (show ∃ g g1, v8 = .slice (some ⟨g, 0, none⟩) 3 3 ∧ W.heap[g]? = some (.cells #[.slice none 0 0, .slice (some ⟨g1, 0, none⟩) 1 1, .slice none 0 0] 22 (0, 0)) ∧ W.heap[g1]? = some (.cells x.cells 36 (0, 0)) from g8)
          apply step_call (s := 38) (f := 34) (args := #[.slice (some ⟨g, 0, none⟩) 3 3])
          · go_simp; exact idx e8
          · rfl
          · rfl
          · omega
          refine (concat_three (0 + 1) W hg h1 (HA ⟨W, bTrans B1 hI⟩) (HB ⟨W, bTrans B1 hI⟩) (fun _ => by omega) (fun _ => by omega) (by omega) (by omega) (L := addL L 0 x) (fun i hi => ?_)).mono ?_
          · unfold addL
            by_cases hq : i < 0
            · rw [if_pos hq, if_pos hq]
            · by_cases hq2 : i = 0
              · rw [if_neg hq, if_neg hq, if_pos hq2, if_pos (by omega)]
              · rw [if_neg hq, if_neg hq, if_neg hq2, if_neg (by omega), show 0 + (i - (0 + 1)) = i - 1 by omega]
          rintro _ W' ⟨v, rfl, own, bw⟩
          exact ⟨_, rfl, bTrans hI bw, ST bw _, own_lower own (bTrans B1 hI).size⟩
        · intro fL fa W hz hd fk hI hL hcl hdep
          have hN : fa.tmps.size = 39 := hz
          obtain ⟨⟨v9, e9, g9⟩, -, ⟨v0, e0, g0⟩, ⟨v1, e1, g1⟩, ⟨v2, e2, g2⟩, ⟨v3, e3, g3⟩, ⟨v4, e4, g4⟩, ⟨v5, e5, g5⟩, ⟨v6, e6, g6⟩, ⟨v7, e7, g7⟩, ⟨v8, e8, g8⟩, -, -⟩ := hdep
          replace g0 : v0 = .slice none 0 0 := g0
          subst g0
          have k29 : fa.eval (.tmp 29) = .slice none 0 0 := eval_of e0
          replace g1 : v1 = .int .i64 0 := g1
          subst g1
          have k30 : fa.eval (.tmp 30) = .int .i64 0 := eval_of e1
          replace g2 : v2 = .slice none 0 0 := g2
          subst g2
          have k31 : fa.eval (.tmp 31) = .slice none 0 0 := eval_of e2
          replace g3 : v3 = x.val := g3
          subst g3
          have k32 : fa.eval (.tmp 32) = x.val := eval_of e3
          replace g5 : v5 = .slice none 0 0 := g5
          subst g5
          have k34 : fa.eval (.tmp 34) = .slice none 0 0 := eval_of e5
          replace g6 : v6 = .int .i64 0 := g6
          subst g6
          have k35 : fa.eval (.tmp 35) = .int .i64 0 := eval_of e6
          replace g7 : v7 = .slice none 0 0 := g7
          subst g7
          have k36 : fa.eval (.tmp 36) = .slice none 0 0 := eval_of e7
          have k38 : fa.eval (.tmp 38) = v9 := eval_of e9
          apply step_val (s := 4) (v := v9) (w' := W)
          · simp [execOp, k38]
          · rfl
          · rfl
          · omega
          · exact hI
          · exact stab_refl _ _ _ _
          · exact g9
        · intro fL fa W hz hd fk hI hL hcl hdep
          have hN : fa.tmps.size = 39 := hz
          obtain ⟨⟨v10, e10, g10⟩, ⟨v0, e0, g0⟩, ⟨v1, e1, g1⟩, ⟨v2, e2, g2⟩, ⟨v3, e3, g3⟩, ⟨v4, e4, g4⟩, ⟨v5, e5, g5⟩, ⟨v6, e6, g6⟩, ⟨v7, e7, g7⟩, ⟨v8, e8, g8⟩, ⟨v9, e9, g9⟩, -, -⟩ := hdep
          replace g0 : v0 = .slice none 0 0 := g0
          subst g0
          have k29 : fa.eval (.tmp 29) = .slice none 0 0 := eval_of e0
          replace g1 : v1 = .int .i64 0 := g1
          subst g1
          have k30 : fa.eval (.tmp 30) = .int .i64 0 := eval_of e1
          replace g2 : v2 = .slice none 0 0 := g2
          subst g2
          have k31 : fa.eval (.tmp 31) = .slice none 0 0 := eval_of e2
          replace g3 : v3 = x.val := g3
          subst g3
          have k32 : fa.eval (.tmp 32) = x.val := eval_of e3
          replace g5 : v5 = .slice none 0 0 := g5
          subst g5
          have k34 : fa.eval (.tmp 34) = .slice none 0 0 := eval_of e5
          replace g6 : v6 = .int .i64 0 := g6
          subst g6
          have k35 : fa.eval (.tmp 35) = .int .i64 0 := eval_of e6
          replace g7 : v7 = .slice none 0 0 := g7
          subst g7
          have k36 : fa.eval (.tmp 36) = .slice none 0 0 := eval_of e7
          apply step_val (s := 5) (v := .int .i64 0) (w' := W)
          · simp [execOp]; rfl
          · rfl
          · rfl
          · omega
          · exact hI
          · exact stab_refl _ _ _ _
          · exact rfl
        intro W Y bI
        replace bI : Below w1.heap.size w1 W := bI
        refine fun g0 g1 g2 g3 g4 g5 g6 g7 g8 g9 g10 g11 => ?_
        replace g0 : Y 29 = .slice none 0 0 := g0
        replace g1 : Y 30 = .int .i64 0 := g1
        replace g2 : Y 31 = .slice none 0 0 := g2
        replace g3 : Y 32 = x.val := g3
        replace g5 : Y 34 = .slice none 0 0 := g5
        replace g6 : Y 35 = .int .i64 0 := g6
        replace g7 : Y 36 = .slice none 0 0 := g7
        replace g11 : Y 5 = .int .i64 0 := g11
        have own : Row.Own W w.heap.size 36 12 (Y 4) (0 + 1) (insV (addL L 0 x)) := g10
        clear g4 g8 g9 g10 ST HA HB
        obtain ⟨y4, e4⟩ : ∃ y, Y 4 = y := ⟨_, rfl⟩
        rw [e4] at own
        rename_i K hK
        show K _ W
        refine hK _ _ ?_
        rw [g0, g1, g2, g3, g5, g6, g7, g11, e4]
        clear hK g0 g1 g2 g3 g5 g6 g7 g11 e4
        try simp only [Act.put, List.setIfInBounds_toArray, List.set_cons_succ, List.set_cons_zero]
        replace own := Lib.hid own
        go_wp2_with fail
        all_goals
          go_ret2
          exact ⟨_, _, _, 0, rfl, own, HR, bTrans B1 bI⟩
      · obtain ⟨b, off, rfl⟩ : ∃ b off, A = some ⟨b, off, none⟩ := by
          rcases hform with e | e
          · exact absurd e hne
          · exact e
        have HA : ∀ r : Grown w, Insts r.w1 r.w1.heap.size (some ⟨b, off, none⟩) k L := fun r => (HL.out r).fewer (by omega)
        have HB : ∀ r : Grown w, Insts r.w1 r.w1.heap.size (if c = k then some ⟨b, off, none⟩ else some ⟨b, off + k * 12, none⟩) (n - k) (fun i => L (k + i)) := fun r => by
          have hR := HL.out r
          refine ⟨fun e => (by split at e <;> cases e), fun h0 => ?_⟩
          obtain ⟨b', off', e, hlt, hc'⟩ := hR.2 (by omega)
          injection e with e
          injection e with e1 e2
          subst e1; subst e2
          rw [if_neg (by omega)]
          refine ⟨b, off + k * 12, rfl, hlt, fun i j hi hj => ?_⟩
          have := hc' (k + i) j (by omega) hj
          rw [show off + k * 12 + (i * 12 + j) = off + ((k + i) * 12 + j) by omega]
          exact this
        go_wp2_with fail
        have ST : ∀ {W W' : World}, Below W.heap.size W W' → ∀ ix, stab W W' ix 0 [fun v _ => v = .slice (some ⟨b, off, none⟩) n c, fun v _ => v = .int .i64 k, fun v _ => v = .slice (some ⟨b, off, none⟩) k c, fun v _ => v = x.val, fun v W => ∃ g, v = .slice (some ⟨g, 0, none⟩) 1 1 ∧ W.heap[g]? = some (.cells x.cells 36 (0, 0)), fun v _ => v = .slice (some ⟨b, off, none⟩) n c, fun v _ => v = .int .i64 k, fun v _ => v = .slice (if c = k then some ⟨b, off, none⟩ else some ⟨b, off + k * 12, none⟩) (n - k) (c - k), fun v W => ∃ g g1, v = .slice (some ⟨g, 0, none⟩) 3 3 ∧ W.heap[g]? = some (.cells #[.slice (some ⟨b, off, none⟩) k c, .slice (some ⟨g1, 0, none⟩) 1 1, .slice (if c = k then some ⟨b, off, none⟩ else some ⟨b, off + k * 12, none⟩) (n - k) (c - k)] 22 (0, 0)) ∧ W.heap[g1]? = some (.cells x.cells 36 (0, 0)), fun v W => Row.Own W w.heap.size 36 12 v (n + 1) (insV (addL L k x)), fun v W => Row.Own W w.heap.size 36 12 v (n + 1) (insV (addL L k x)), fun v _ => v = .int .i64 0] := by
          intro W W' hb ix
          refine ⟨.inr fun _ h => h, .inr fun _ h => h, .inr fun _ h => h, .inr fun _ h => h, .inr ?_, .inr fun _ h => h, .inr fun _ h => h, .inr fun _ h => h, .inr ?_, .inr ?_, .inr ?_, .inr fun _ h => h, trivial⟩
          · rintro _ ⟨g, rfl, hg⟩
            exact ⟨g, rfl, kept_lt hb hg⟩
          · rintro _ ⟨g, g1, rfl, hg, h1⟩
            exact ⟨g, g1, rfl, kept_lt hb hg, kept_lt hb h1⟩
          · exact fun v hv => own_kept hv hb
          · exact fun v hv => own_kept hv hb
        refine flow (fun _ W => Below w1.heap.size w1 W) [fun v _ => v = .slice (some ⟨b, off, none⟩) n c, fun v _ => v = .int .i64 k, fun v _ => v = .slice (some ⟨b, off, none⟩) k c, fun v _ => v = x.val, fun v W => ∃ g, v = .slice (some ⟨g, 0, none⟩) 1 1 ∧ W.heap[g]? = some (.cells x.cells 36 (0, 0)), fun v _ => v = .slice (some ⟨b, off, none⟩) n c, fun v _ => v = .int .i64 k, fun v _ => v = .slice (if c = k then some ⟨b, off, none⟩ else some ⟨b, off + k * 12, none⟩) (n - k) (c - k), fun v W => ∃ g g1, v = .slice (some ⟨g, 0, none⟩) 3 3 ∧ W.heap[g]? = some (.cells #[.slice (some ⟨b, off, none⟩) k c, .slice (some ⟨g1, 0, none⟩) 1 1, .slice (if c = k then some ⟨b, off, none⟩ else some ⟨b, off + k * 12, none⟩) (n - k) (c - k)] 22 (0, 0)) ∧ W.heap[g1]? = some (.cells x.cells 36 (0, 0)), fun v W => Row.Own W w.heap.size 36 12 v (n + 1) (insV (addL L k x)), fun v W => Row.Own W w.heap.size 36 12 v (n + 1) (insV (addL L k x)), fun v _ => v = .int .i64 0] [29, 30, 31, 32, 33, 34, 35, 36, 37, 38, 4, 5] [29, 30, 31, 32, 33, 34, 35, 36, 37, 38, 4, 5] 39 (by kernel_rfl) rfl (by kernel_rfl) rfl (bDrew (Below.refl _ _)) ⟨?_, ?_, ?_, ?_, ?_, ?_, ?_, ?_, ?_, ?_, ?_, ?_, trivial⟩ ?_
        · intro fL fa W hz hd fk hI hL hcl hdep
          have hN : fa.tmps.size = 39 := hz
          have k0 : fa.eval (.tmp 0) = .slice (some ⟨b, off, none⟩) n c := eval_of ((fk 0 (by decide)).trans rfl)
          apply step_val (s := 29) (v := .slice (some ⟨b, off, none⟩) n c) (w' := W)
          · simp [execOp, k0]
          · rfl
          · rfl
          · omega
          · exact hI
          · exact stab_refl _ _ _ _
          · exact rfl
        · intro fL fa W hz hd fk hI hL hcl hdep
          have hN : fa.tmps.size = 39 := hz
          have k6 : fa.eval (.tmp 6) = .int .i64 k := eval_of ((fk 6 (by decide)).trans rfl)
          apply step_val (s := 30) (v := .int .i64 k) (w' := W)
          · simp [execOp, k6]
          · rfl
          · rfl
          · omega
          · exact hI
          · exact stab_refl _ _ _ _
          · exact rfl
        · intro fL fa W hz hd fk hI hL hcl hdep
          have hN : fa.tmps.size = 39 := hz
          obtain ⟨⟨v0, e0, g0⟩, ⟨v1, e1, g1⟩, -⟩ := hdep
          replace g0 : v0 = .slice (some ⟨b, off, none⟩) n c := g0
          subst g0
          have k29 : fa.eval (.tmp 29) = .slice (some ⟨b, off, none⟩) n c := eval_of e0
          replace g1 : v1 = .int .i64 k := g1
          subst g1
          have k30 : fa.eval (.tmp 30) = .int .i64 k := eval_of e1
          apply step_val (s := 31) (v := .slice (some ⟨b, off, none⟩) k c) (w' := W)
          · simp [execOp, k29, k30]; go_simp; try (intro hh; exfalso; omega)
          · rfl
          · rfl
          · omega
          · exact hI
          · exact stab_refl _ _ _ _
          · exact rfl
        · intro fL fa W hz hd fk hI hL hcl hdep
          have hN : fa.tmps.size = 39 := hz
          have k3 : fa.eval (.tmp 3) = .pointer (some ⟨w.heap.size, 0, none⟩) := eval_of ((fk 3 (by decide)).trans rfl)
          apply step_val (s := 32) (v := x.val) (w' := W)
          · exact exec_load_row 36 _ rfl k3 (kept_lt hI HX3) Try.underlying36 rfl (sizeInst.trans rfl)
          · rfl
          · rfl
          · omega
          · exact hI
          · exact stab_refl _ _ _ _
          · exact rfl
        · intro fL fa W hz hd fk hI hL hcl hdep
          have hN : fa.tmps.size = 39 := hz
          obtain ⟨⟨v3, e3, g3⟩, -⟩ := hdep
          replace g3 : v3 = x.val := g3
          subst g3
          have k32 : fa.eval (.tmp 32) = x.val := eval_of e3
          apply step_val (s := 33) (v := .slice (some ⟨W.heap.size, 0, none⟩) 1 1) (w' := W.alloc (.cells x.cells 36 (0, 0)))
          · simp [execOp, k32, run_one]
          · rfl
          · rfl
          · omega
          · exact bAlloc hI _
          · exact ST (bAlloc (Below.refl _ _) _) _
          · exact ⟨W.heap.size, rfl, heap_alloc_new _ _⟩
        · intro fL fa W hz hd fk hI hL hcl hdep
          have hN : fa.tmps.size = 39 := hz
          have k0 : fa.eval (.tmp 0) = .slice (some ⟨b, off, none⟩) n c := eval_of ((fk 0 (by decide)).trans rfl)
          apply step_val (s := 34) (v := .slice (some ⟨b, off, none⟩) n c) (w' := W)
          · simp [execOp, k0]
          · rfl
          · rfl
          · omega
          · exact hI
          · exact stab_refl _ _ _ _
          · exact rfl
        · intro fL fa W hz hd fk hI hL hcl hdep
          have hN : fa.tmps.size = 39 := hz
          have k6 : fa.eval (.tmp 6) = .int .i64 k := eval_of ((fk 6 (by decide)).trans rfl)
          apply step_val (s := 35) (v := .int .i64 k) (w' := W)
          · simp [execOp, k6]
          · rfl
          · rfl
          · omega
          · exact hI
          · exact stab_refl _ _ _ _
          · exact rfl
        · intro fL fa W hz hd fk hI hL hcl hdep
          have hN : fa.tmps.size = 39 := hz
          obtain ⟨⟨v5, e5, g5⟩, ⟨v6, e6, g6⟩, -⟩ := hdep
          replace g5 : v5 = .slice (some ⟨b, off, none⟩) n c := g5
          subst g5
          have k34 : fa.eval (.tmp 34) = .slice (some ⟨b, off, none⟩) n c := eval_of e5
          replace g6 : v6 = .int .i64 k := g6
          subst g6
          have k35 : fa.eval (.tmp 35) = .int .i64 k := eval_of e6
          apply step_val (s := 36) (v := .slice (if c = k then some ⟨b, off, none⟩ else some ⟨b, off + k * 12, none⟩) (n - k) (c - k)) (w' := W)
          · simp [execOp, k34, k35]; go_simp; try (intro hh; exfalso; omega)
          · rfl
          · rfl
          · omega
          · exact hI
          · exact stab_refl _ _ _ _
          · exact rfl
        · intro fL fa W hz hd fk hI hL hcl hdep
          have hN : fa.tmps.size = 39 := hz
          obtain ⟨⟨v2, e2, g2⟩, ⟨v4, e4, g4⟩, ⟨v7, e7, g7⟩, -⟩ := hdep
          replace g2 : v2 = .slice (some ⟨b, off, none⟩) k c := g2
          subst g2
          have k31 : fa.eval (.tmp 31) = .slice (some ⟨b, off, none⟩) k c := eval_of e2
          replace g7 : v7 = .slice (if c = k then some ⟨b, off, none⟩ else some ⟨b, off + k * 12, none⟩) (n - k) (c - k) := g7
          subst g7
          have k36 : fa.eval (.tmp 36) = .slice (if c = k then some ⟨b, off, none⟩ else some ⟨b, off + k * 12, none⟩) (n - k) (c - k) := eval_of e7
          obtain ⟨g1, rfl, h1⟩ := (show ∃ g, v4 = .slice (some ⟨g, 0, none⟩) 1 1 ∧ W.heap[g]? = some (.cells x.cells 36 (0, 0)) from g4)
          have k33 : fa.eval (.tmp 33) = .slice (some ⟨g1, 0, none⟩) 1 1 := eval_of e4
          apply step_val (s := 37) (v := .slice (some ⟨W.heap.size, 0, none⟩) 3 3) (w' := W.alloc (.cells #[.slice (some ⟨b, off, none⟩) k c, .slice (some ⟨g1, 0, none⟩) 1 1, .slice (if c = k then some ⟨b, off, none⟩ else some ⟨b, off + k * 12, none⟩) (n - k) (c - k)] 22 (0, 0)))
          · simp [execOp, k31, k33, k36]; go_simp
          · rfl
          · rfl
          · omega
          · exact bAlloc hI _
          · exact ST (bAlloc (Below.refl _ _) _) _
          · exact ⟨W.heap.size, g1, rfl, heap_alloc_new _ _, kept_lt (bAlloc (Below.refl _ _) _) h1⟩
        · intro fL fa W hz hd fk hI hL hcl hdep
          have hN : fa.tmps.size = 39 := hz
          obtain ⟨⟨v8, e8, g8⟩, -⟩ := hdep
          obtain ⟨g, g1, rfl, hg, h1⟩ := (show ∃ g g1, v8 = .slice (some ⟨g, 0, none⟩) 3 3 ∧ W.heap[g]? = some (.cells #[.slice (some ⟨b, off, none⟩) k c, .slice (some ⟨g1, 0, none⟩) 1 1, .slice (if c = k then some ⟨b, off, none⟩ else some ⟨b, off + k * 12, none⟩) (n - k) (c - k)] 22 (0, 0)) ∧ W.heap[g1]? = some (.cells x.cells 36 (0, 0)) from g8)
          apply step_call (s := 38) (f := 34) (args := #[.slice (some ⟨g, 0, none⟩) 3 3])
          · go_simp; exact idx e8
          · rfl
          · rfl
          · omega
          refine (concat_three (n + 1) W hg h1 (HA ⟨W, bTrans B1 hI⟩) (HB ⟨W, bTrans B1 hI⟩) (fun e => by cases e) (fun e => by split at e <;> cases e) (by omega) (by omega) (L := addL L k x) (fun i hi => ?_)).mono ?_
          · unfold addL
            by_cases hq : i < k
            · rw [if_pos hq, if_pos hq]
            · by_cases hq2 : i = k
              · rw [if_neg hq, if_neg hq, if_pos hq2, if_pos (by omega)]
              · rw [if_neg hq, if_neg hq, if_neg hq2, if_neg (by omega), show k + (i - (k + 1)) = i - 1 by omega]
          rintro _ W' ⟨v, rfl, own, bw⟩
          exact ⟨_, rfl, bTrans hI bw, ST bw _, own_lower own (bTrans B1 hI).size⟩
        · intro fL fa W hz hd fk hI hL hcl hdep
          have hN : fa.tmps.size = 39 := hz
          obtain ⟨⟨v9, e9, g9⟩, -, ⟨v0, e0, g0⟩, ⟨v1, e1, g1⟩, ⟨v2, e2, g2⟩, ⟨v3, e3, g3⟩, ⟨v4, e4, g4⟩, ⟨v5, e5, g5⟩, ⟨v6, e6, g6⟩, ⟨v7, e7, g7⟩, ⟨v8, e8, g8⟩, -, -⟩ := hdep
          replace g0 : v0 = .slice (some ⟨b, off, none⟩) n c := g0
          subst g0
          have k29 : fa.eval (.tmp 29) = .slice (some ⟨b, off, none⟩) n c := eval_of e0
          replace g1 : v1 = .int .i64 k := g1
          subst g1
          have k30 : fa.eval (.tmp 30) = .int .i64 k := eval_of e1
          replace g2 : v2 = .slice (some ⟨b, off, none⟩) k c := g2
          subst g2
          have k31 : fa.eval (.tmp 31) = .slice (some ⟨b, off, none⟩) k c := eval_of e2
          replace g3 : v3 = x.val := g3
          subst g3
          have k32 : fa.eval (.tmp 32) = x.val := eval_of e3
          replace g5 : v5 = .slice (some ⟨b, off, none⟩) n c := g5
          subst g5
          have k34 : fa.eval (.tmp 34) = .slice (some ⟨b, off, none⟩) n c := eval_of e5
          replace g6 : v6 = .int .i64 k := g6
          subst g6
          have k35 : fa.eval (.tmp 35) = .int .i64 k := eval_of e6
          replace g7 : v7 = .slice (if c = k then some ⟨b, off, none⟩ else some ⟨b, off + k * 12, none⟩) (n - k) (c - k) := g7
          subst g7
          have k36 : fa.eval (.tmp 36) = .slice (if c = k then some ⟨b, off, none⟩ else some ⟨b, off + k * 12, none⟩) (n - k) (c - k) := eval_of e7
          have k38 : fa.eval (.tmp 38) = v9 := eval_of e9
          apply step_val (s := 4) (v := v9) (w' := W)
          · simp [execOp, k38]
          · rfl
          · rfl
          · omega
          · exact hI
          · exact stab_refl _ _ _ _
          · exact g9
        · intro fL fa W hz hd fk hI hL hcl hdep
          have hN : fa.tmps.size = 39 := hz
          obtain ⟨⟨v10, e10, g10⟩, ⟨v0, e0, g0⟩, ⟨v1, e1, g1⟩, ⟨v2, e2, g2⟩, ⟨v3, e3, g3⟩, ⟨v4, e4, g4⟩, ⟨v5, e5, g5⟩, ⟨v6, e6, g6⟩, ⟨v7, e7, g7⟩, ⟨v8, e8, g8⟩, ⟨v9, e9, g9⟩, -, -⟩ := hdep
          replace g0 : v0 = .slice (some ⟨b, off, none⟩) n c := g0
          subst g0
          have k29 : fa.eval (.tmp 29) = .slice (some ⟨b, off, none⟩) n c := eval_of e0
          replace g1 : v1 = .int .i64 k := g1
          subst g1
          have k30 : fa.eval (.tmp 30) = .int .i64 k := eval_of e1
          replace g2 : v2 = .slice (some ⟨b, off, none⟩) k c := g2
          subst g2
          have k31 : fa.eval (.tmp 31) = .slice (some ⟨b, off, none⟩) k c := eval_of e2
          replace g3 : v3 = x.val := g3
          subst g3
          have k32 : fa.eval (.tmp 32) = x.val := eval_of e3
          replace g5 : v5 = .slice (some ⟨b, off, none⟩) n c := g5
          subst g5
          have k34 : fa.eval (.tmp 34) = .slice (some ⟨b, off, none⟩) n c := eval_of e5
          replace g6 : v6 = .int .i64 k := g6
          subst g6
          have k35 : fa.eval (.tmp 35) = .int .i64 k := eval_of e6
          replace g7 : v7 = .slice (if c = k then some ⟨b, off, none⟩ else some ⟨b, off + k * 12, none⟩) (n - k) (c - k) := g7
          subst g7
          have k36 : fa.eval (.tmp 36) = .slice (if c = k then some ⟨b, off, none⟩ else some ⟨b, off + k * 12, none⟩) (n - k) (c - k) := eval_of e7
          apply step_val (s := 5) (v := .int .i64 0) (w' := W)
          · simp [execOp]; rfl
          · rfl
          · rfl
          · omega
          · exact hI
          · exact stab_refl _ _ _ _
          · exact rfl
        intro W Y bI
        replace bI : Below w1.heap.size w1 W := bI
        refine fun g0 g1 g2 g3 g4 g5 g6 g7 g8 g9 g10 g11 => ?_
        replace g0 : Y 29 = .slice (some ⟨b, off, none⟩) n c := g0
        replace g1 : Y 30 = .int .i64 k := g1
        replace g2 : Y 31 = .slice (some ⟨b, off, none⟩) k c := g2
        replace g3 : Y 32 = x.val := g3
        replace g5 : Y 34 = .slice (some ⟨b, off, none⟩) n c := g5
        replace g6 : Y 35 = .int .i64 k := g6
        replace g7 : Y 36 = .slice (if c = k then some ⟨b, off, none⟩ else some ⟨b, off + k * 12, none⟩) (n - k) (c - k) := g7
        replace g11 : Y 5 = .int .i64 0 := g11
        have own : Row.Own W w.heap.size 36 12 (Y 4) (n + 1) (insV (addL L k x)) := g10
        clear g4 g8 g9 g10 ST HA HB
        obtain ⟨y4, e4⟩ : ∃ y, Y 4 = y := ⟨_, rfl⟩
        rw [e4] at own
        rename_i K hK
        show K _ W
        refine hK _ _ ?_
        rw [g0, g1, g2, g3, g5, g6, g7, g11, e4]
        clear hK g0 g1 g2 g3 g5 g6 g7 g11 e4
        try simp only [Act.put, List.setIfInBounds_toArray, List.set_cons_succ, List.set_cons_zero]
        replace own := Lib.hid own
        go_wp2_with fail
        all_goals
          go_ret2
          exact ⟨_, _, _, 0, rfl, own, HR, bTrans B1 bI⟩
end Go.Proofs.Ytcgeoaegalloaaa.Cat
