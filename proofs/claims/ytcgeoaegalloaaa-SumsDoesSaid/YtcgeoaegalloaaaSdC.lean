
/- What Set and Drop of the document answer, whatever is handed in. -/
import Derived.Test.YtcgeoaegalloaaaSdB
namespace Go.Proofs.Ytcgeoaegalloaaa.Cat
open Go.ChangeShapes Go.WideShapes Go.ChangeAt Go.RowKit
open Mem Arr Lst Rec Inst Grown Sums St0 Fnd Flow
attribute [local go_sem] Oper.semAt_some
set_option linter.unusedSimpArgs false
set_option linter.unusedVariables false
theorem refMayL_is' (A : Option Addr) (n c : Nat) (L : Nat → Ins) (v : Bool) (hv : mayB L n = v) (w : World) (h : Insts w w.heap.size A n L) (hn : n ≤ 9223372036854775807) : Calls Try.prog 11 #[.slice A n c] w fun e w' => e = .returned (.bool v) ∧ Below w.heap.size w w' := by
  have := refMayL_any A n c L w h hn; rw [hv] at this; exact this
theorem refMay_is (x : Ins) (v : Bool) (hv : okB x = v) (w : World) : Calls Try.prog 31 #[x.val] w fun e w' => e = .returned (.bool v) ∧ Below w.heap.size w w' := by
  have := refMay_any x w; rw [hv] at this; exact this
set_option maxHeartbeats 2000000 in
theorem refDrop_all (A : Option Addr) (n c : Nat) (L : Nat → Ins) (id : Int) (w : World) (h : Insts w w.heap.size A n L) (hn : n ≤ 9223372036854775807) (hnc : n ≤ c) (hc : c ≤ 9223372036854775807) : Calls Try.prog 19 #[.slice A n c, .int .u64 id] w fun e w' => ∃ v m V er, e = .returned (.tuple #[v, .int .i64 er]) ∧ Hid (Row.Own w' w.heap.size 36 12 v m (insV V)) ∧ Hid (DropR L n id m V er) ∧ Below w.heap.size w w' := by
  rcases hm : mayB L n with _ | _
  · have M := Lib.hid (refMayL_is' A n c L false hm w h hn)
    have HR : Hid (DropR L n id 0 (fun _ => Inst.none_) 2) := Lib.hid (.inl ⟨hm, rfl, rfl⟩)
    clear hm h
    go_enter Try.func19, Try.ntmps19
    go_wp2_with fail
    refine (M.out).mono ?_
    rintro _ u ⟨rfl, bu⟩
    go_wp2
    go_ret2
    exact ⟨_, 0, _, 2, rfl, Lib.hid (Row.own_nil _ _ _ _ _), HR, bu⟩
  by_cases hk : ∃ k, k < n ∧ (L k).id = id
  · obtain ⟨k, hk, he⟩ := hk
    refine (refDrop_yes A n c L id k w h hm hk he hnc hc).mono ?_
    rintro _ w' ⟨⟨A', c', rfl, ⟨B, hB, own⟩, _⟩, hb⟩
    exact ⟨_, _, _, 0, rfl, Lib.hid (own_lower own.out hB), Lib.hid (.inr (.inr ⟨hm, k, hk, he, rfl, rfl, fun i _ => rfl⟩)), hb⟩
  · have hno : ∀ i, i < n → (L i).id ≠ id := fun i hi e => hk ⟨i, hi, e⟩
    have M := Lib.hid (refMayL_is' A n c L true hm w h hn)
    have P := Lib.hid (fun p : Grown w => refPlace_any A n c L id p.w1 (h.later p.below) hn)
    have HR : Hid (DropR L n id 0 (fun _ => Inst.none_) 7) := Lib.hid (.inr (.inl ⟨hm, hno, rfl, rfl⟩))
    have HO := Lib.hid hno
    clear hm h hk hno
    go_enter Try.func19, Try.ntmps19
    go_wp2_with fail
    refine (M.out).mono ?_
    rintro _ u ⟨rfl, bu⟩
    go_wp2_with fail
    refine (P.out ⟨u, bu⟩).mono ?_
    rintro _ w1 ⟨⟨z, rfl, hz⟩, rfl⟩
    obtain rfl : z = -1 := by
      rcases hz with ⟨j, rfl, hj, hj2, _⟩ | ⟨hz, _⟩
      · exact absurd hj2 (HO.out _ hj)
      · exact hz
    clear hz
    go_wp2
    go_ret2
    exact ⟨_, 0, _, 7, rfl, Lib.hid (Row.own_nil _ _ _ _ _), HR, bu⟩
set_option maxHeartbeats 4000000 in
theorem refSet_all (A : Option Addr) (n c : Nat) (L : Nat → Ins) (x : Ins) (w : World) (h : Insts w w.heap.size A n L) (hn : n ≤ 9223372036854775807) (hnil : A = none → c = 0) : Calls Try.prog 17 #[.slice A n c, x.val] w fun e w' => ∃ v m V er, e = .returned (.tuple #[v, .int .i64 er]) ∧ Hid (Row.Own w' w.heap.size 36 12 v m (insV V)) ∧ Hid (SetR L n x m V er) ∧ Below w.heap.size w w' := by
  have H0 := heap_alloc_new w (.cells x.cells 36)
  have B0 := bAlloc (Below.refl _ w) (.cells x.cells 36)
  have MM : ∀ v, mayB L n = v → Hid (∀ p : Grown w, Calls Try.prog 11 #[.slice A n c] p.w1 fun e w' => e = .returned (.bool v) ∧ Below p.w1.heap.size p.w1 w') := fun v hv => Lib.hid (fun p => refMayL_is' A n c L v hv p.w1 (h.later p.below) hn)
  have HL := Lib.hid (fun p : Grown w => (show Insts p.w1 p.w1.heap.size A n L from h.later p.below))
  rcases hm : mayB L n with _ | _
  · have M := MM false hm
    have HR : Hid (SetR L n x 0 (fun _ => Inst.none_) 2) := Lib.hid (.inl ⟨.inl hm, rfl, rfl⟩)
    clear hm h MM
    go_enter Try.func17, Try.ntmps17
    go_wp2_with fail
    refine (M.out ⟨_, B0⟩).mono ?_
    rintro _ u ⟨rfl, bu⟩
    go_wp2
    go_ret2
    exact ⟨_, 0, _, 2, rfl, Lib.hid (Row.own_nil _ _ _ _ _), HR, bTrans B0 bu⟩
  have M := MM true hm
  clear MM
  rcases hx : okB x with _ | _
  · have HR : Hid (SetR L n x 0 (fun _ => Inst.none_) 2) := Lib.hid (.inl ⟨.inr hx, rfl, rfl⟩)
    have X := Lib.hid (fun W => refMay_is x false hx W)
    clear hm h hx
    go_enter Try.func17, Try.ntmps17
    go_wp2_with fail
    refine (M.out ⟨_, B0⟩).mono ?_
    rintro _ u ⟨rfl, bu⟩
    have HX := kept_lt bu H0
    go_wp2_with (refine load_whole rfl 36 _ rfl w.heap.size rfl _ x.cells _ _ HX Try.underlying36 rfl (sizeInst.trans rfl) ?_)
    refine (X.out _).mono ?_
    rintro _ u2 ⟨rfl, bu2⟩
    go_wp2
    go_ret2
    exact ⟨_, 0, _, 2, rfl, Lib.hid (Row.own_nil _ _ _ _ _), HR, bTrans (bTrans B0 bu) bu2⟩
  have X := Lib.hid (fun W => refMay_is x true hx W)
  have P := Lib.hid (fun p : Grown w => refPlace_any A n c L x.id p.w1 (h.later p.below) hn)
  have hn4 := may_len hm
  have HM := Lib.hid hm
  have HK := Lib.hid hx
  obtain ⟨io, ho, hz0, hz1, hz2⟩ := info_parts infoInst
  have HN := Lib.hid hnil
  clear hm h hx hnil
  go_enter Try.func17, Try.ntmps17
  go_wp2_with fail
  refine (M.out ⟨_, B0⟩).mono ?_
  rintro _ u ⟨rfl, bu⟩
  have HX := kept_lt bu H0
  go_wp2_with (refine load_whole rfl 36 _ rfl w.heap.size rfl _ x.cells _ _ HX Try.underlying36 rfl (sizeInst.trans rfl) ?_)
  refine (X.out _).mono ?_
  rintro _ u2 ⟨rfl, bu2⟩
  have HX2 := kept_lt bu2 HX
  have cx := cell_row HX2 x.f0
  go_wp2_with fail
  refine (P.out ⟨u2, bTrans (bTrans B0 bu) bu2⟩).mono ?_
  rintro _ w3 ⟨⟨z, rfl, hz⟩, ew⟩
  obtain rfl : u2 = w3 := ew
  have B1 := bTrans (bTrans B0 bu) bu2
  clear cx HX bu bu2 H0 B0 M X P
  rcases hz with ⟨k, rfl, hk, he, _⟩ | ⟨rfl, hno⟩
  · have HR : Hid (SetR L n x n (setL L k x) 0) := Lib.hid (.inr (.inr ⟨HM.out, HK.out, k, hk, he, rfl, rfl, fun i _ => rfl⟩))
    clear he
    have d0 : decide ((k : Int) < 0) = false := decide_eq_false (by omega)
    have d1 : decide ((k : Int) < n) = true := decide_eq_true (by omega)
    have IA := Lib.hid (HL.out ⟨u2, B1⟩)
    go_upto_region 8 with (at_builtin; refine Row.append_rows rfl _ _ 22 rfl u2.heap.size 36 io Inst.none_.val 12 72 (by omega) Try.underlying22 ho hz0 hz1 hz2 rfl _ 0 (insV L) (by rfl) (Row.own_nil _ _ _ _ _) u2.heap.size A n c (insV L) rfl IA.out (fun i j _ hj => insV_one L i j hj) HN.out (by unfold maxLen; omega) (by omega) (Nat.le_refl _) ?_; intro v2 w2 own2 grow2)
    have b2 := Row.below_grown (Below.refl _ _) (Row.own_nil _ _ 36 12 (insV L)) grow2
    have own := own2.congr (U := insV L) (by omega) (fun i j _ _ => by simp)
    rw [Nat.zero_add] at own
    clear own2 grow2
    obtain ⟨g, cap, rfl, hg, hgl, hcap, hcm⟩ := Row.Own.form own (by omega)
    have HX4 := kept_lt b2 HX2
    have B2 := bTrans B1 b2
    have st := own_store own (k := k) (x := x)
    go_wp2_with (first | (refine load_whole rfl 36 _ rfl w.heap.size rfl _ x.cells _ _ HX4 Try.underlying36 rfl (sizeInst.trans rfl) ?_) | (refine wpList_store_mid rfl 36 _ _ rfl g (k * 12) x.cells rfl rfl st.1 (sizeInst.trans rfl) x.one ?_))
    go_ret2
    exact ⟨_, n, _, 0, rfl, Lib.hid (own_lower st.2.1 B1.size), HR, st.2.2 w B2 (by have := B1.size; omega)⟩
  · have HR : Hid (SetR L n x 0 (fun _ => Inst.none_) 7) := Lib.hid (.inr (.inl ⟨HM.out, HK.out, hno, rfl, rfl⟩))
    clear hno
    go_wp2
    go_ret2
    exact ⟨_, 0, _, 7, rfl, Lib.hid (Row.own_nil _ _ _ _ _), HR, B1⟩
end Go.Proofs.Ytcgeoaegalloaaa.Cat
