
/- What gives way, how much more there may be of it, and when a refresh has ended, are the document's: for every state and every instance the law returns true. No condition. -/
import Derived.Test.YtpjglhllbgmbhaaExtG
import Derived.Test.YtpjglhllbgmbhaaExtH
import Derived.Test.YtpjglhllbgmbhaaExtF
import Derived.Test.YtpjglhllbgmbhaaStA
import Derived.Lib.AppendZeros
namespace Go.Proofs.Ytpjglhllbgmbhaa.extraTells
open Go.ChangeShapes Go.WideShapes Go.ChangeAt Go.RowKit
open NumM
open NumA hiding ret_bool
open Mem Arr Lst Rec Inst Grown Sums St Opens StA Extra
set_option linter.unusedVariables false
section
attribute [local go_sem ↓] exec_st exec_ins Go.wp_at_zero Go.wp_at_succ

set_option maxHeartbeats 4000000 in
theorem walk {H : Type} {enc : TypeId × Value → H} (s : State) (x : Ins) (w : World) (b0 : StOk s ∧ CfgIn enc w s.c ∧ CfgIn enc w s.b ∧ (∃ d p, DataW.Trod enc Try.prog w 0 (fun _ => true) true 29 (.slice s.qA s.qN s.qC) d p) ∧ (∃ d p, DataW.Trod enc Try.prog w 0 (fun _ => true) true 30 (.slice s.iA s.iN s.iC) d p) ∧ (∃ d p, DataW.Trod enc Try.prog w 0 (fun _ => true) true 31 (.slice s.oA s.oN s.oC) d p) ∧ (∃ d p, DataW.Trod enc Try.prog w 0 (fun _ => true) true 34 (.slice s.nA s.nN s.nC) d p)) (b1 : InsOk x) :
    Calls Try.prog 3 #[s.val, x.val] w fun e w' => e = .returned (.bool true) ∧ Below w.heap.size w w' := by
  obtain ⟨sk, _, _, _, hI, hO, _⟩ := b0
  obtain ⟨L, iL, iK, i0, i1, i2⟩ := insts_in hI
  obtain ⟨O, oL, oK, o0, o1, o2⟩ := opns_in hO
  have hn : s.iN ≤ 9223372036854775807 := by unfold maxLen at i2; omega
  have hn2 : s.oN ≤ 9223372036854775807 := by unfold maxLen at o2; omega
  clear hI hO
  have B1 : ∀ p : Grown (w.alloc (.cells s.cells 36) |>.alloc (.cells x.cells 38)), p.w1.rangeAt w.heap.size 0 s.cells.toList := fun p => range_in (by simp; omega) (World.rangeAt_alloc (range_new w s.cells 36) _) p
  have B2 : ∀ p : Grown (w.alloc (.cells s.cells 36) |>.alloc (.cells x.cells 38)), p.w1.rangeAt (w.heap.size + 1) 0 x.cells.toList := fun p => by have := box_new (w.alloc (.cells s.cells 36)) x.cells 38 p; simpa using this
  have R1 : (w.alloc (.cells s.cells 36) |>.alloc (.cells x.cells 38)).rangeAt w.heap.size 0 s.cells.toList := B1 ⟨_, Below.refl _ _⟩
  rcases hg : greatB s with _ | _
  · have G := Lib.hid (great_is s false (Lib.hid hg))
    have hi : ∀ p : Grown (w.alloc (.cells s.cells 36) |>.alloc (.cells x.cells 38)), Insts p.w1 p.w1.heap.size s.iA s.iN L := fun p => iL.later (bTrans (bAlloc (bAlloc (Below.refl _ _) _) _) p.below)
    have ho : ∀ p : Grown (w.alloc (.cells s.cells 36) |>.alloc (.cells x.cells 38)), Opns p.w1 p.w1.heap.size s.oA s.oN O := fun p => oL.later (bTrans (bAlloc (bAlloc (Below.refl _ _) _) _) p.below)
    have C0 := Lib.hid (fun p : Grown (w.alloc (.cells s.cells 36) |>.alloc (.cells x.cells 38)) => goes_any s p.w1)
    have C1 := Lib.hid (fun p : Grown (w.alloc (.cells s.cells 36) |>.alloc (.cells x.cells 38)) => refGoes_any s p.w1)
    have C2 := Lib.hid (fun p : Grown (w.alloc (.cells s.cells 36) |>.alloc (.cells x.cells 38)) => old_any s x p.w1)
    have C3 := Lib.hid (fun p : Grown (w.alloc (.cells s.cells 36) |>.alloc (.cells x.cells 38)) => refOld_any s x p.w1)
    have C4 := Lib.hid (fun p : Grown (w.alloc (.cells s.cells 36) |>.alloc (.cells x.cells 38)) => gives_any s x p.w1)
    have C5 := Lib.hid (fun p : Grown (w.alloc (.cells s.cells 36) |>.alloc (.cells x.cells 38)) => refGives_any s x p.w1)
    have C6 := Lib.hid (fun p : Grown (w.alloc (.cells s.cells 36) |>.alloc (.cells x.cells 38)) => of_any s L p.w1 (hi p) hn)
    have C7 := Lib.hid (fun p : Grown (w.alloc (.cells s.cells 36) |>.alloc (.cells x.cells 38)) => refOf_any s L p.w1 (hi p) hn)
    have C8 := Lib.hid (fun p : Grown (w.alloc (.cells s.cells 36) |>.alloc (.cells x.cells 38)) => ceil_any s L p.w1 (hi p) hn)
    have C9 := Lib.hid (fun p : Grown (w.alloc (.cells s.cells 36) |>.alloc (.cells x.cells 38)) => refCeil_any s L p.w1 (hi p) hn)
    have C10 := Lib.hid (fun p : Grown (w.alloc (.cells s.cells 36) |>.alloc (.cells x.cells 38)) => stops_any s L p.w1 (hi p) hn)
    have C11 := Lib.hid (fun p : Grown (w.alloc (.cells s.cells 36) |>.alloc (.cells x.cells 38)) => refStops_any s L p.w1 (hi p) hn)
    have C12 := Lib.hid (fun p : Grown (w.alloc (.cells s.cells 36) |>.alloc (.cells x.cells 38)) => ends_any s L O p.w1 (hi p) (ho p) hn hn2)
    have C13 := Lib.hid (fun p : Grown (w.alloc (.cells s.cells 36) |>.alloc (.cells x.cells 38)) => refEnds_any s L O p.w1 (hi p) (ho p) hn hn2)
    have C14 := Lib.hid (fun p : Grown (w.alloc (.cells s.cells 36) |>.alloc (.cells x.cells 38)) => lives_any p.w1)
    obtain ⟨v0, e0⟩ : ∃ v, goesB s = v := ⟨_, rfl⟩
    rw [e0] at C0 C1
    obtain ⟨v1, e1⟩ : ∃ v, oldB s x = v := ⟨_, rfl⟩
    rw [e1] at C2 C3
    obtain ⟨v2, e2⟩ : ∃ v, givesB s x = v := ⟨_, rfl⟩
    rw [e2] at C4 C5
    obtain ⟨v3, e3⟩ : ∃ v, ofV s L = v := ⟨_, rfl⟩
    rw [e3] at C6 C7
    obtain ⟨v4, e4⟩ : ∃ v, ceilV s L = v := ⟨_, rfl⟩
    rw [e4] at C8 C9
    obtain ⟨v5, e5⟩ : ∃ v, stopsB s L = v := ⟨_, rfl⟩
    rw [e5] at C10 C11
    obtain ⟨v6, e6⟩ : ∃ v, endsB s L O = v := ⟨_, rfl⟩
    rw [e6] at C12 C13
    clear e0 e1 e2 e3 e4 e5 e6
    clear hi ho iL oL iK oK hg
    go_enter Try.func3, Try.ntmps3
    go_wp2_with (first | ((with_reducible refine at_loadg 36 ?_); (first | (refine load_st rfl _ rfl _ _ rfl s R1 ?_) | (refine load_st rfl _ rfl _ _ rfl s (B1 _) ?_))))
    refine (call_grown (p := (⟨(w.alloc (.cells s.cells 36) |>.alloc (.cells x.cells 38)), Below.refl _ _⟩ : Grown (w.alloc (.cells s.cells 36) |>.alloc (.cells x.cells 38)))) (G.out _)).mono ?_
    rintro _ _ ⟨rfl, p, rfl⟩
    go_wp2_with (first | ((with_reducible refine at_loadg 36 ?_); (first | (refine load_st rfl _ rfl _ _ rfl s R1 ?_) | (refine load_st rfl _ rfl _ _ rfl s (B1 _) ?_))))
    have I0 := fun p : Grown (w.alloc (.cells s.cells 36) |>.alloc (.cells x.cells 38)) => run_st (B1 p)
    have I1 := fun p : Grown (w.alloc (.cells s.cells 36) |>.alloc (.cells x.cells 38)) => run_ins (B2 p)
    refine region_more (by kernel_rfl) (by kernel_rfl) ?_
    repeat ((with_reducible refine wpQuiet_step (fun K hK => ?_)); go_simp; (first | (refine hK _ ?_; clear hK K) | (apply Exists.intro; refine ⟨fun _ => ?_, hK _ ?_⟩; (first | (go_at_call 8; exact call_grown (C0.out _)) | (go_at_call 9; exact call_grown (C1.out _)) | (go_at_call 10; exact call_grown (C2.out _)) | (go_at_call 11; exact call_grown (C3.out _)) | (go_at_call 12; exact call_grown (C4.out _)) | (go_at_call 13; exact call_grown (C5.out _)) | (go_at_call 14; exact call_grown (C6.out _)) | (go_at_call 15; exact call_grown (C7.out _)) | (go_at_call 16; exact call_grown (C8.out _)) | (go_at_call 17; exact call_grown (C9.out _)) | (go_at_call 18; exact call_grown (C10.out _)) | (go_at_call 19; exact call_grown (C11.out _)) | (go_at_call 20; exact call_grown (C12.out _)) | (go_at_call 21; exact call_grown (C13.out _)) | (go_at_call 7; exact call_grown (C14.out _))); clear hK K)))
    (with_reducible refine wpQuiet_nil ?_)
    rintro _ ⟨p, rfl⟩
    go_wp2
    go_ret
    exact ⟨rfl, bTrans (bAlloc (bAlloc (Below.refl _ _) _) _) p.below⟩
  · have G := Lib.hid (great_is s true (Lib.hid hg))
    clear hg
    go_enter Try.func3, Try.ntmps3
    go_wp2_with (first | ((with_reducible refine at_loadg 36 ?_); (first | (refine load_st rfl _ rfl _ _ rfl s R1 ?_) | (refine load_st rfl _ rfl _ _ rfl s (B1 _) ?_))))
    refine (call_grown (p := (⟨(w.alloc (.cells s.cells 36) |>.alloc (.cells x.cells 38)), Below.refl _ _⟩ : Grown (w.alloc (.cells s.cells 36) |>.alloc (.cells x.cells 38)))) (G.out _)).mono ?_
    rintro _ _ ⟨rfl, p, rfl⟩
    go_wp2_with fail
    refine (call_grown (p := p) (lives_any _)).mono ?_
    rintro _ _ ⟨rfl, p, rfl⟩
    go_wp2
    go_ret
    exact ⟨rfl, bTrans (bAlloc (bAlloc (Below.refl _ _) _) _) p.below⟩
end

/-! The row's step, by the frame. -/
theorem own : ownKnob Try.prog.godebug = none := by kernel_rfl
theorem laidOut : laidOutB Try.prog = true := by kernel_rfl
set_option maxRecDepth 100000 in
theorem lifted (os : Os) (started : os.Started) (H : Type) (enc : TypeId × Value → H) :
    ReturnsInHanded {} Try.checked os 3 .any (Rows.extraTellsSpec.pre6 enc Try.prog Try.f3 Rows.extraTellsRow.domain false) (Rows.extraTellsSpec.post enc Try.prog Try.f3 false true false false) := by
  refine returnsInHanded_of_change_sized (C := Try.checked) own started (by kernel_rfl) Try.func3
    (ChangeSpec.witness6 (enc := enc) (C := Try.checked) false ⟨#[], #[St.state0.val, Inst.none_.val], []⟩ 8 (by kernel_rfl) (by kernel_rfl) (by kernel_rfl) (by kernel_rfl)) ?_
  intro W base args ds gs before hval0 hW _ hsz0 _
  have hsz : (DataW.weightsEach Try.prog (Try.f3.params.toList ++ Rows.extraTellsSpec.plain.varTypes Try.prog) (ds ++ gs)).all (· ≤ reachBytes) = true := hsz0
  have hval : ∀ (j : Nat) t v, Try.f3.params[j]? = some t → args[j]? = some v → Value.okWide Try.prog W .any base t v := hval0
  have hW' := hW
  obtain ⟨p, q, hA0, hV, rfl, hfz, hnd⟩ := hW
  have hA : DataW.TrodAll enc Try.prog W 0 (fun _ => true) true Try.f3.params.toList args.toList ds p := hA0
  rw [Try.params3] at hA hval hsz
  obtain ⟨v0, vs0, d0, ds0, p0, q0, hargs, rfl, rfl, h0, r0⟩ := trodAll_cons hA
  obtain ⟨v1, vs1, d1, ds1, p1, q1, rfl, rfl, rfl, h1, r1⟩ := trodAll_cons r0
  obtain ⟨rfl, rfl, rfl⟩ := trodAll_nil r1
  obtain rfl : args = #[v0, v1] := by cases args; simp_all
  obtain ⟨rfl, rfl⟩ := trodVars_none hV
  have k0 := h0
  have lt0 : ∀ x ∈ p0, x.block < W.heap.size := by obtain ⟨m, hm⟩ := k0; exact DataW.trod_lt m _ _ _ hm
  obtain ⟨s0, rfl, b0⟩ := state_arg (hval 0 36 v0 rfl rfl) h0
  have k1 := h1
  have lt1 : ∀ x ∈ p1, x.block < W.heap.size := by obtain ⟨m, hm⟩ := k1; exact DataW.trod_lt m _ _ _ hm
  obtain ⟨x1, rfl, b1⟩ := ins_arg (hval 1 38 v1 rfl rfl) h1
  clear hA0 hval0 hsz0
  refine (walk s0 x1 W b0 b1).mono fun e W' ⟨he, bel⟩ => ?_
  subst he
  exact ⟨_, rfl, _, _, _, [], _, [], hW', trodAll_mk1 (shut_bool Try.underlying4 _), (trodAll_cons_mk (Below.trod laidOut (by kernel_rfl) (of_decide_eq_true (by kernel_rfl)) k0 bel lt0) (trodAll_cons_mk (Below.trod laidOut (by kernel_rfl) (of_decide_eq_true (by kernel_rfl)) k1 bel lt1) trodAll_mk0)), rfl, bel.frame _, fun h => by cases h⟩

/-- The statement. -/
theorem proved : Rows.ExtraTellsSaid :=
  OpenClaim.holds_of_wide 3 Try.f3 rfl rfl rfl rfl rfl rfl rfl ⟨rfl, rfl, rfl, rfl, rfl⟩ rfl rfl rfl rfl rfl (by kernel_rfl) Try.func3 (by kernel_rfl)
    (of_decide_eq_true (by kernel_rfl)) (by unfold Func.isWrapper; first | (rw [if_pos (by decide +kernel)]; kernel_rfl) | (rw [if_neg (by decide +kernel)]; exact ⟨rfl, rfl⟩))
    (fun os started H enc _ => lifted os started H enc)
end Go.Proofs.Ytpjglhllbgmbhaa.extraTells
