
/- What is drawn, what is too much, whether there is too little, are the document's: for every state and market the law returns true. No condition. -/
import Derived.Test.YtflnamahaclidaaWrmE
import Derived.Test.YtflnamahaclidaaStA
import Derived.Lib.AppendZeros
namespace Go.Proofs.Ytflnamahaclidaa.warmTells
open Go.ChangeShapes Go.WideShapes Go.ChangeAt Go.RowKit
open Mem Arr Lst Rec Inst Grown Sums St Opens StA Extra Wrm
open Thg (ofS)
set_option linter.unusedVariables false
section
attribute [local go_sem ↓] exec_st exec_ins Go.wp_at_zero Go.wp_at_succ

set_option maxHeartbeats 4000000 in
theorem walk {H : Type} {enc : TypeId × Value → H} (s : State) (a1 : Bool) (w : World) (b0 : StOk s ∧ CfgIn enc w s.c ∧ CfgIn enc w s.b ∧ (∃ d p, DataW.Trod enc Try.prog w 0 (fun _ => true) true 29 (.slice s.qA s.qN s.qC) d p) ∧ (∃ d p, DataW.Trod enc Try.prog w 0 (fun _ => true) true 30 (.slice s.iA s.iN s.iC) d p) ∧ (∃ d p, DataW.Trod enc Try.prog w 0 (fun _ => true) true 31 (.slice s.oA s.oN s.oC) d p) ∧ (∃ d p, DataW.Trod enc Try.prog w 0 (fun _ => true) true 34 (.slice s.nA s.nN s.nC) d p)) :
    Calls Try.prog 3 #[s.val, .bool a1] w fun e w' => e = .returned (.bool true) ∧ Below w.heap.size w w' := by
  obtain ⟨sk, _, _, _, hI, hO, _⟩ := b0
  obtain ⟨L, iL, iK, i0, i1, i2⟩ := insts_in hI
  obtain ⟨O, oL, oK, o0, o1, o2⟩ := opns_in hO
  have hn : s.iN ≤ 9223372036854775807 := by unfold maxLen at i2; omega
  have hn2 : s.oN ≤ 9223372036854775807 := by unfold maxLen at o2; omega
  have HH : Sta s L O w := ⟨iL, oL, hn, hn2, (bounds_u32 sk.ver).1⟩
  clear hI hO
  have B1 := box_new w s.cells 36
  have R1 : (w.alloc (.cells s.cells 36)).rangeAt w.heap.size 0 s.cells.toList := B1 ⟨_, Below.refl _ _⟩
  rcases hg : Wrm.greatB s with _ | _
  · have G := Lib.hid (Wrm.great_is s false (Lib.hid hg))
    have HS := fun p : Grown (w.alloc (.cells s.cells 36)) => HH.box p
    have C0 := fun p : Grown (w.alloc (.cells s.cells 36)) => draw_any s L O a1 p.w1 (HS p)
    have C1 := fun p : Grown (w.alloc (.cells s.cells 36)) => refDraw_any s L O a1 p.w1 (HS p)
    have C2 := fun p : Grown (w.alloc (.cells s.cells 36)) => much_any s L O p.w1 (HS p)
    have C3 := fun p : Grown (w.alloc (.cells s.cells 36)) => refMuch_any s L O p.w1 (HS p)
    have C4 := fun p : Grown (w.alloc (.cells s.cells 36)) => little_any s L O p.w1 (HS p)
    have C5 := fun p : Grown (w.alloc (.cells s.cells 36)) => refLittle_any s L O p.w1 (HS p)
    have C6 := fun p : Grown (w.alloc (.cells s.cells 36)) => lives_any p.w1
    unfold ans at C0 C1 C2 C3
    obtain ⟨v0, e0⟩ : ∃ v, idO L (drawO s L a1) = v := ⟨_, rfl⟩
    obtain ⟨v1, e1⟩ : ∃ v, (drawO s L a1).isSome = v := ⟨_, rfl⟩
    obtain ⟨v2, e2⟩ : ∃ v, idO L (muchO s L O) = v := ⟨_, rfl⟩
    obtain ⟨v3, e3⟩ : ∃ v, (muchO s L O).isSome = v := ⟨_, rfl⟩
    obtain ⟨v4, e4⟩ : ∃ v, littleB s L O = v := ⟨_, rfl⟩
    rw [e0, e1] at C0 C1
    rw [e2, e3] at C2 C3
    rw [e4] at C4 C5
    clear e0 e1 e2 e3 e4
    replace C0 := Lib.hid C0
    replace C1 := Lib.hid C1
    replace C2 := Lib.hid C2
    replace C3 := Lib.hid C3
    replace C4 := Lib.hid C4
    replace C5 := Lib.hid C5
    replace C6 := Lib.hid C6
    clear HS HH iL oL iK oK sk hg
    go_enter Try.func3, Try.ntmps3
    go_wp2_with (first | ((with_reducible refine St.at_loadg 36 ?_); (first | (refine load_st rfl _ rfl _ _ rfl s R1 ?_) | (refine load_st rfl _ rfl _ _ rfl s (B1 _) ?_))))
    refine (call_grown (p := (⟨(w.alloc (.cells s.cells 36)), Below.refl _ _⟩ : Grown (w.alloc (.cells s.cells 36)))) (G.out _)).mono ?_
    rintro _ _ ⟨rfl, p, rfl⟩
    go_wp2_with (first | ((with_reducible refine St.at_loadg 36 ?_); (first | (refine load_st rfl _ rfl _ _ rfl s R1 ?_) | (refine load_st rfl _ rfl _ _ rfl s (B1 _) ?_))))
    refine (call_grown (p := p) (C0.out p)).mono ?_
    rintro _ _ ⟨rfl, p, rfl⟩
    go_wp2_with (first | ((with_reducible refine St.at_loadg 36 ?_); (first | (refine load_st rfl _ rfl _ _ rfl s R1 ?_) | (refine load_st rfl _ rfl _ _ rfl s (B1 _) ?_))))
    refine (call_grown (p := p) (C1.out p)).mono ?_
    rintro _ _ ⟨rfl, p, rfl⟩
    go_wp2_with (first | ((with_reducible refine St.at_loadg 36 ?_); (first | (refine load_st rfl _ rfl _ _ rfl s R1 ?_) | (refine load_st rfl _ rfl _ _ rfl s (B1 _) ?_))))
    refine (call_grown (p := p) (C2.out p)).mono ?_
    rintro _ _ ⟨rfl, p, rfl⟩
    go_wp2_with (first | ((with_reducible refine St.at_loadg 36 ?_); (first | (refine load_st rfl _ rfl _ _ rfl s R1 ?_) | (refine load_st rfl _ rfl _ _ rfl s (B1 _) ?_))))
    refine (call_grown (p := p) (C3.out p)).mono ?_
    rintro _ _ ⟨rfl, p, rfl⟩
    go_wp2_with fail
    have I0 := fun p : Grown (w.alloc (.cells s.cells 36)) => run_st (B1 p)
    refine region_more (by kernel_rfl) (by kernel_rfl) ?_
    repeat ((with_reducible refine wpQuiet_step (fun K hK => ?_)); go_simp; (first | (refine hK _ ?_; clear hK K) | (apply Exists.intro; refine ⟨fun _ => ?_, hK _ ?_⟩; (first | (go_at_call 11; exact call_grown (C4.out _)) | (go_at_call 12; exact call_grown (C5.out _)) | (go_at_call 6; exact call_grown (C6.out _))); clear hK K)))
    (with_reducible refine wpQuiet_nil ?_)
    rintro _ ⟨p, rfl⟩
    go_wp2
    go_ret
    exact ⟨rfl, bTrans (bAlloc (Below.refl _ _) _) p.below⟩
  · have G := Lib.hid (Wrm.great_is s true (Lib.hid hg))
    clear hg HH iL oL iK oK sk
    go_enter Try.func3, Try.ntmps3
    go_wp2_with (first | ((with_reducible refine St.at_loadg 36 ?_); (first | (refine load_st rfl _ rfl _ _ rfl s R1 ?_) | (refine load_st rfl _ rfl _ _ rfl s (B1 _) ?_))))
    refine (call_grown (p := (⟨(w.alloc (.cells s.cells 36)), Below.refl _ _⟩ : Grown (w.alloc (.cells s.cells 36)))) (G.out _)).mono ?_
    rintro _ _ ⟨rfl, p, rfl⟩
    go_wp2_with fail
    refine (call_grown (p := p) (lives_any _)).mono ?_
    rintro _ _ ⟨rfl, p, rfl⟩
    go_wp2
    go_ret
    exact ⟨rfl, bTrans (bAlloc (Below.refl _ _) _) p.below⟩
end

/-! The row's step, by the frame. -/
theorem own : ownKnob Try.prog.godebug = none := by kernel_rfl
theorem laidOut : laidOutB Try.prog = true := by kernel_rfl
set_option maxRecDepth 100000 in
theorem lifted (os : Os) (started : os.Started) (H : Type) (enc : TypeId × Value → H) :
    ReturnsInHanded {} Try.checked os 3 .any (Rows.warmTellsSpec.pre6 enc Try.prog Try.f3 Rows.warmTellsRow.domain false) (Rows.warmTellsSpec.post enc Try.prog Try.f3 false true false false) := by
  refine returnsInHanded_of_change_sized (C := Try.checked) own started (by kernel_rfl) Try.func3
    (ChangeSpec.witness6 (enc := enc) (C := Try.checked) false ⟨#[], #[St.state0.val, .bool false], []⟩ 8 (by kernel_rfl) (by kernel_rfl) (by kernel_rfl) (by kernel_rfl)) ?_
  intro W base args ds gs before hval0 hW _ hsz0 _
  have hsz : (DataW.weightsEach Try.prog (Try.f3.params.toList ++ Rows.warmTellsSpec.plain.varTypes Try.prog) (ds ++ gs)).all (· ≤ reachBytes) = true := hsz0
  have hval : ∀ (j : Nat) t v, Try.f3.params[j]? = some t → args[j]? = some v → Value.okWide Try.prog W .any base t v := hval0
  have hW' := hW
  obtain ⟨p, q, hA0, hV, rfl, hfz, hnd⟩ := hW
  have hA : DataW.TrodAll enc Try.prog W 0 (fun _ => true) true Try.f3.params.toList args.toList ds p := hA0
  rw [Try.params3] at hA hval hsz
  obtain ⟨v0, vs0, d0, ds0, p0, q0, hargs, rfl, rfl, h0, r0⟩ := trodAll_cons hA
  obtain ⟨v1, vs1, d1, ds1, p1, q1, rfl, rfl, rfl, h1, r1⟩ := trodAll_cons r0
  obtain ⟨rfl, rfl, rfl⟩ := trodAll_nil r1
  obtain rfl : args = #[v0, v1] := by cases args; simp_all
  obtain ⟨rfl, rfl⟩ := trodVars_none hV
  have k0 := h0
  have lt0 : ∀ x ∈ p0, x.block < W.heap.size := by obtain ⟨m, hm⟩ := k0; exact DataW.trod_lt m _ _ _ hm
  obtain ⟨s0, rfl, b0⟩ := state_arg (hval 0 36 v0 rfl rfl) h0
  obtain ⟨a1, rfl, rfl, rfl⟩ := open_bool Try.underlying4 (hval 1 4 v1 rfl rfl) h1
  clear hA0 hval0 hsz0
  refine (walk s0 a1 W b0).mono fun e W' ⟨he, bel⟩ => ?_
  subst he
  exact ⟨_, rfl, _, _, _, [], _, [], hW', trodAll_mk1 (shut_bool Try.underlying4 _), (trodAll_cons_mk (Below.trod laidOut (by kernel_rfl) (of_decide_eq_true (by kernel_rfl)) k0 bel lt0) (trodAll_cons_mk (shut_bool Try.underlying4 a1) trodAll_mk0)), rfl, bel.frame _, fun h => by cases h⟩

/-- The statement. -/
theorem proved : Rows.WarmTellsSaid :=
  OpenClaim.holds_of_wide 3 Try.f3 rfl rfl rfl rfl rfl rfl rfl ⟨rfl, rfl, rfl, rfl, rfl⟩ rfl rfl rfl rfl rfl (by kernel_rfl) Try.func3 (by kernel_rfl)
    (of_decide_eq_true (by kernel_rfl)) (by unfold Func.isWrapper; first | (rw [if_pos (by decide +kernel)]; kernel_rfl) | (rw [if_neg (by decide +kernel)]; exact ⟨rfl, rfl⟩))
    (fun os started H enc _ => lifted os started H enc)
end Go.Proofs.Ytflnamahaclidaa.warmTells
