
/- Extra is nothing where nothing gives way, at most what gives way; Desired and it are at most the ceiling: for every state the law returns true. No condition. -/
import Derived.Test.YtpjglhllbgmbhaaExtG
import Derived.Test.YtpjglhllbgmbhaaExtH
import Derived.Test.YtpjglhllbgmbhaaExtF
import Derived.Test.YtpjglhllbgmbhaaStA
import Derived.Lib.AppendZeros
namespace Go.Proofs.Ytpjglhllbgmbhaa.extraNothing
open Go.ChangeShapes Go.WideShapes Go.ChangeAt Go.RowKit
open NumM
open NumA hiding ret_bool
open Mem Arr Lst Rec Inst Grown Sums St Opens StA Extra
set_option linter.unusedVariables false
section
attribute [local go_sem ↓] exec_st exec_ins Go.wp_at_zero Go.wp_at_succ

set_option maxHeartbeats 4000000 in
theorem walk {H : Type} {enc : TypeId × Value → H} (s : State) (w : World) (b0 : StOk s ∧ CfgIn enc w s.c ∧ CfgIn enc w s.b ∧ (∃ d p, DataW.Trod enc Try.prog w 0 (fun _ => true) true 29 (.slice s.qA s.qN s.qC) d p) ∧ (∃ d p, DataW.Trod enc Try.prog w 0 (fun _ => true) true 30 (.slice s.iA s.iN s.iC) d p) ∧ (∃ d p, DataW.Trod enc Try.prog w 0 (fun _ => true) true 31 (.slice s.oA s.oN s.oC) d p) ∧ (∃ d p, DataW.Trod enc Try.prog w 0 (fun _ => true) true 34 (.slice s.nA s.nN s.nC) d p)) :
    Calls Try.prog 4 #[s.val] w fun e w' => e = .returned (.bool true) ∧ Below w.heap.size w w' := by
  obtain ⟨sk, _, _, _, hI, hO, _⟩ := b0
  obtain ⟨L, iL, iK, i0, i1, i2⟩ := insts_in hI
  obtain ⟨O, oL, oK, o0, o1, o2⟩ := opns_in hO
  have hn : s.iN ≤ 9223372036854775807 := by unfold maxLen at i2; omega
  have hn2 : s.oN ≤ 9223372036854775807 := by unfold maxLen at o2; omega
  clear hI hO
  have B1 := box_new w s.cells 36
  have R1 : (w.alloc (.cells s.cells 36)).rangeAt w.heap.size 0 s.cells.toList := B1 ⟨_, Below.refl _ _⟩
  have f46 := s.f46
  have g46 := box_cell B1 s.f46
  have g42 := box_cell B1 s.f42
  rcases hg : greatB s with _ | _
  · have G := Lib.hid (great_is s false (Lib.hid hg))
    have ex := of_decide_eq_false hg
    have C1 := Lib.hid (fun p : Grown (w.alloc (.cells s.cells 36)) => of_any s L p.w1 (insts_box iL p) hn)
    have C2 := Lib.hid (fun p : Grown (w.alloc (.cells s.cells 36)) => ceil_any s L p.w1 (insts_box iL p) hn)
    have C3 := Lib.hid (fun p : Grown (w.alloc (.cells s.cells 36)) => refMayL_any s.iA s.iN s.iC L p.w1 (insts_box iL p) hn)
    have CL := Lib.hid (fun p : Grown (w.alloc (.cells s.cells 36)) => lives_any p.w1)
    rcases hm : mayB L s.iN with _ | _
    · have hms : mayS s L = false := by unfold mayS; rw [hm]; simp
      obtain ⟨z1, z2⟩ := of_no hms
      rw [z1] at C1
      rw [z2] at C2
      rw [hm] at C3
      obtain ⟨A, hA⟩ : ∃ A, s.iA = A := ⟨_, rfl⟩
      rw [hA] at f46 g46 C3
      clear hA iL z1 z2 hms hm hg sk iK oL oK
      go_enter Try.func4, Try.ntmps4
      go_wp2_with (first | ((with_reducible refine at_loadg 36 ?_); (first | (refine load_st rfl _ rfl _ _ rfl s R1 ?_) | (refine load_st rfl _ rfl _ _ rfl s (B1 _) ?_))))
      refine (call_grown (p := (⟨(w.alloc (.cells s.cells 36)), Below.refl _ _⟩ : Grown (w.alloc (.cells s.cells 36)))) (G.out _)).mono ?_
      rintro _ _ ⟨rfl, p, rfl⟩
      go_wp2_with (first | ((with_reducible refine at_loadg 36 ?_); (first | (refine load_st rfl _ rfl _ _ rfl s R1 ?_) | (refine load_st rfl _ rfl _ _ rfl s (B1 _) ?_))))
      refine (call_grown (p := p) (C1.out p)).mono ?_
      rintro _ _ ⟨rfl, p, rfl⟩
      go_wp2_with fail
      go_loopw [4, 5] (fun g i wr => i = .int .i64 0 ∧ g = .int .i64 0 ∧ Below (w.alloc (.cells s.cells 36)).heap.size (w.alloc (.cells s.cells 36)) wr) (fun _ _ _ => 0)
      case atStart => exact ⟨rfl, rfl, p.below⟩
      case round =>
        obtain ⟨rfl, rfl, hb⟩ := hrel
        have g46' : wr.cell? ⟨w.heap.size, 46, none⟩ = some (.slice A s.iN s.iC) := g46 ⟨wr, hb⟩
        have T : ∀ p : Grown (w.alloc (.cells s.cells 36)), Calls Try.prog 7 #[] p.w1 fun e w' => e = .returned (.bool true) ∧ Below p.w1.heap.size p.w1 w' := CL.out
        by_cases h0 : 0 < s.iN
        · skip
          go_wp2_with (fail)
          refine (call_grown (p := (⟨wr, hb⟩ : Grown (w.alloc (.cells s.cells 36)))) (C3.out ⟨wr, hb⟩)).mono ?_
          rintro _ _ ⟨rfl, p, rfl⟩
          go_wp2_with (first | ((with_reducible refine at_loadg 36 ?_); (first | (refine load_st rfl _ rfl _ _ rfl s R1 ?_) | (refine load_st rfl _ rfl _ _ rfl s (B1 _) ?_))))
          refine (call_grown (p := p) (C2.out p)).mono ?_
          rintro _ _ ⟨rfl, p, rfl⟩
          go_wp2_with fail
          refine (call_grown (p := p) (CL.out p)).mono ?_
          rintro _ _ ⟨rfl, p, rfl⟩
          go_wp2
          go_ret
          exact ⟨rfl, bTrans (bAlloc (Below.refl _ _) _) p.below⟩
        · obtain e0 : s.iN = 0 := by omega
          rw [e0] at g46'
          go_wp2_with (first | ((with_reducible refine at_loadg 36 ?_); (first | (refine load_st rfl _ rfl _ _ rfl s (B1 ⟨wr, hb⟩) ?_) | (refine load_st rfl _ rfl _ _ rfl s (B1 _) ?_))))
          refine (call_grown (p := (⟨wr, hb⟩ : Grown (w.alloc (.cells s.cells 36)))) (C2.out ⟨wr, hb⟩)).mono ?_
          rintro _ _ ⟨rfl, p, rfl⟩
          go_wp2_with fail
          refine (call_grown (p := p) (CL.out p)).mono ?_
          rintro _ _ ⟨rfl, p, rfl⟩
          go_wp2
          go_ret
          exact ⟨rfl, bTrans (bAlloc (Below.refl _ _) _) p.below⟩
    · have F : ∃ v cv, ofV s L = v ∧ ceilV s L = cv ∧ 0 ≤ v ∧ v ≤ sumI (givesB s) L s.iN ∧ ((cv = 0 ∧ v = 0) ∨ (¬ cv = 0 ∧ IntKind.i64.wrap (s.desired + v) = s.desired + v ∧ s.desired + v ≤ cv)) := by
        refine ⟨_, _, rfl, rfl, ?_⟩
        have z := sum_bd (p := givesB s) hm s.iN (Nat.le_refl _)
        have z4 := may_len hm
        rcases hms : mayS s L with _ | _
        · rw [(of_no hms).1, (of_no hms).2]
          exact ⟨Int.le_refl _, z.1, .inl ⟨rfl, rfl⟩⟩
        · obtain ⟨t1, t2, t3⟩ := of_bd hms
          have y := num_yes (mayS_yes hms).1
          refine ⟨t1, t2, ?_⟩
          by_cases hc : ceilV s L = 0
          · exact .inl ⟨hc, by omega⟩
          · exact .inr ⟨hc, IntWalk.i64_in _ (by omega), t3⟩
      obtain ⟨v, cv, hv, hcv, hv0, hv1, F⟩ := F
      rw [hv] at C1
      rw [hcv] at C2
      rw [hm] at C3
      have CG := Lib.hid (fun (q : Bool) (x : Ins) (e : givesB s x = q) => gives_is s x q (Lib.hid e))
      obtain ⟨A, hA⟩ : ∃ A, s.iA = A := ⟨_, rfl⟩
      rw [hA] at f46 g46 C3 iL
      have H := Lib.hid iL
      have HM := Lib.hid hm
      have HF := Lib.hid (And.intro hv0 (And.intro hv1 F))
      clear hA iL hm hg hv hcv hv0 hv1 F sk iK oL oK
      go_enter Try.func4, Try.ntmps4
      go_wp2_with (first | ((with_reducible refine at_loadg 36 ?_); (first | (refine load_st rfl _ rfl _ _ rfl s R1 ?_) | (refine load_st rfl _ rfl _ _ rfl s (B1 _) ?_))))
      refine (call_grown (p := (⟨(w.alloc (.cells s.cells 36)), Below.refl _ _⟩ : Grown (w.alloc (.cells s.cells 36)))) (G.out _)).mono ?_
      rintro _ _ ⟨rfl, p, rfl⟩
      go_wp2_with (first | ((with_reducible refine at_loadg 36 ?_); (first | (refine load_st rfl _ rfl _ _ rfl s R1 ?_) | (refine load_st rfl _ rfl _ _ rfl s (B1 _) ?_))))
      refine (call_grown (p := p) (C1.out p)).mono ?_
      rintro _ _ ⟨rfl, p, rfl⟩
      go_wp2_with fail
      go_loopw [4, 5] (fun g i wr => ∃ k : Nat, k ≤ s.iN ∧ i = .int .i64 k ∧ g = .int .i64 (sumI (givesB s) L k) ∧ Below (w.alloc (.cells s.cells 36)).heap.size (w.alloc (.cells s.cells 36)) wr) (fun _ i _ => s.iN - (intOf i).toNat)
      case atStart => exact ⟨0, by omega, rfl, rfl, p.below⟩
      case round =>
        obtain ⟨k, hk, rfl, rfl, hb⟩ := hrel
        have g46' : wr.cell? ⟨w.heap.size, 46, none⟩ = some (.slice A s.iN s.iC) := g46 ⟨wr, hb⟩
        by_cases hlt : k < s.iN
        · obtain ⟨b, off, rfl⟩ := insts_at H.out (by omega)
          have y := ok_yes (may_ok HM.out hlt)
          have z := sum_bd (p := givesB s) HM.out k hk
          have W1 : IntKind.i64.wrap (sumI (givesB s) L k + (L k).wt) = sumI (givesB s) L k + (L k).wt := IntWalk.i64_in _ (by omega)
          clear y z
          have EL := fun p : Grown (w.alloc (.cells s.cells 36)) => ins_cells H.out (bTrans (bAlloc (Below.refl _ _) _) p.below) rfl hlt
          have c3 := fun p : Grown (w.alloc (.cells s.cells 36)) => (EL p).2.1 3 _ (by simpa using (L k).f3)
          have c5 := fun p : Grown (w.alloc (.cells s.cells 36)) => (EL p).2.1 5 _ (by simpa using (L k).f5)
          have IX := fun p : Grown (w.alloc (.cells s.cells 36)) => run_ins (EL p).2.1
          have I0 := fun p : Grown (w.alloc (.cells s.cells 36)) => run_st (B1 p)
          clear EL
          by_cases hst : (L k).st = 3
          · have d5 : ((L k).st == 3) = true := by simp [hst]
            rcases hgv : givesB s (L k) with _ | _
            · have E := Lib.hid (sum_off (p := givesB s) (L := L) (k := k) (.inr hgv))
              have CS := Lib.hid (CG.out _ (L k) hgv)
              clear hgv
              go_wp2_with (fail)
              refine (call_grown (p := (⟨wr, hb⟩ : Grown (w.alloc (.cells s.cells 36)))) (C3.out ⟨wr, hb⟩)).mono ?_
              rintro _ _ ⟨rfl, p, rfl⟩
              go_wp2_with fail
              refine region_more (by kernel_rfl) (by kernel_rfl) ?_
              repeat ((with_reducible refine wpQuiet_step (fun K hK => ?_)); go_simp; (first | (refine hK _ ?_; clear hK K) | (apply Exists.intro; refine ⟨fun _ => ?_, hK _ ?_⟩; (first | (go_at_call 12; exact call_grown (CS.out _))); clear hK K)))
              (with_reducible refine wpQuiet_nil ?_)
              rintro _ ⟨p, rfl⟩
              go_wp2
              go_roundw
              case rel => exact ⟨k + 1, by omega, by go_num, by rw [E.out.1], p.below⟩
              case measure => simp [intOf]; omega
            · have E := Lib.hid (sum_on (p := givesB s) (L := L) (k := k) (decide_eq_true hst) hgv)
              have CS := Lib.hid (CG.out _ (L k) hgv)
              clear hgv
              go_wp2_with (fail)
              refine (call_grown (p := (⟨wr, hb⟩ : Grown (w.alloc (.cells s.cells 36)))) (C3.out ⟨wr, hb⟩)).mono ?_
              rintro _ _ ⟨rfl, p, rfl⟩
              go_wp2_with fail
              refine region_more (by kernel_rfl) (by kernel_rfl) ?_
              repeat ((with_reducible refine wpQuiet_step (fun K hK => ?_)); go_simp; (first | (refine hK _ ?_; clear hK K) | (apply Exists.intro; refine ⟨fun _ => ?_, hK _ ?_⟩; (first | (go_at_call 12; exact call_grown (CS.out _))); clear hK K)))
              (with_reducible refine wpQuiet_nil ?_)
              rintro _ ⟨p, rfl⟩
              go_wp2
              go_roundw
              case rel => exact ⟨k + 1, by omega, by go_num, by rw [E.out.1], p.below⟩
              case measure => simp [intOf]; omega
          · have d5 : ((L k).st == 3) = false := by simp [hst]
            have E := Lib.hid (sum_off (p := givesB s) (L := L) (k := k) (.inl (decide_eq_false hst)))
            go_wp2_with (fail)
            refine (call_grown (p := (⟨wr, hb⟩ : Grown (w.alloc (.cells s.cells 36)))) (C3.out ⟨wr, hb⟩)).mono ?_
            rintro _ _ ⟨rfl, p, rfl⟩
            go_wp2_with fail
            refine region_more (by kernel_rfl) (by kernel_rfl) ?_
            repeat ((with_reducible refine wpQuiet_step (fun K hK => ?_)); go_simp; (first | (refine hK _ ?_; clear hK K) | (apply Exists.intro; refine ⟨fun _ => ?_, hK _ ?_⟩; (first | (fail)); clear hK K)))
            (with_reducible refine wpQuiet_nil ?_)
            rintro _ ⟨p, rfl⟩
            go_wp2
            go_roundw
            case rel => exact ⟨k + 1, by omega, by go_num, by rw [E.out.1], p.below⟩
            case measure => simp [intOf]; omega
        · obtain rfl : k = s.iN := by omega
          obtain ⟨v0, v1, hF⟩ := HF.out
          have d1 : decide (v < 0) = false := decide_eq_false (by omega)
          have d2 : decide (sumI (givesB s) L s.iN < v) = false := decide_eq_false (by omega)
          have n1 : ¬ v < 0 := by omega
          have n2 : ¬ sumI (givesB s) L s.iN < v := by omega
          clear v0 v1
          have g42' := fun p : Grown (w.alloc (.cells s.cells 36)) => g42 p
          rcases hF with ⟨rfl, rfl⟩ | ⟨h1, h2, h3⟩
          · skip
            go_wp2_with (first | ((with_reducible refine at_loadg 36 ?_); (first | (refine load_st rfl _ rfl _ _ rfl s (B1 ⟨wr, hb⟩) ?_) | (refine load_st rfl _ rfl _ _ rfl s (B1 _) ?_))))
            refine (call_grown (p := (⟨wr, hb⟩ : Grown (w.alloc (.cells s.cells 36)))) (C2.out ⟨wr, hb⟩)).mono ?_
            rintro _ _ ⟨rfl, p, rfl⟩
            go_wp2_with fail
            refine (call_grown (p := p) (CL.out p)).mono ?_
            rintro _ _ ⟨rfl, p, rfl⟩
            go_wp2
            go_ret
            exact ⟨rfl, bTrans (bAlloc (Below.refl _ _) _) p.below⟩
          · have d3 : (cv == 0) = false := by simp [h1]
            have d4 : decide (s.desired + v ≤ cv) = true := decide_eq_true h3
            go_wp2_with (first | ((with_reducible refine at_loadg 36 ?_); (first | (refine load_st rfl _ rfl _ _ rfl s (B1 ⟨wr, hb⟩) ?_) | (refine load_st rfl _ rfl _ _ rfl s (B1 _) ?_))))
            refine (call_grown (p := (⟨wr, hb⟩ : Grown (w.alloc (.cells s.cells 36)))) (C2.out ⟨wr, hb⟩)).mono ?_
            rintro _ _ ⟨rfl, p, rfl⟩
            go_wp2_with fail
            refine (call_grown (p := p) (CL.out p)).mono ?_
            rintro _ _ ⟨rfl, p, rfl⟩
            go_wp2
            go_ret
            exact ⟨rfl, bTrans (bAlloc (Below.refl _ _) _) p.below⟩
  · have G := Lib.hid (great_is s true (Lib.hid hg))
    clear hg
    go_enter Try.func4, Try.ntmps4
    go_wp2_with (first | ((with_reducible refine at_loadg 36 ?_); (first | (refine load_st rfl _ rfl _ _ rfl s R1 ?_) | (refine load_st rfl _ rfl _ _ rfl s (B1 _) ?_))))
    refine (call_grown (p := (⟨(w.alloc (.cells s.cells 36)), Below.refl _ _⟩ : Grown (w.alloc (.cells s.cells 36)))) (G.out _)).mono ?_
    rintro _ _ ⟨rfl, p, rfl⟩
    go_wp2_with (fail)
    refine (call_grown (p := p) (lives_any _)).mono ?_
    rintro _ _ ⟨rfl, p, rfl⟩
    go_wp2
    go_ret
    exact ⟨rfl, bTrans (bAlloc (Below.refl _ _) _) p.below⟩
end

/-! The row's step, by the frame. -/
theorem own : ownKnob Try.prog.godebug = none := by kernel_rfl
theorem laidOut : laidOutB Try.prog = true := by kernel_rfl
set_option maxRecDepth 100000 in
theorem lifted (os : Os) (started : os.Started) (H : Type) (enc : TypeId × Value → H) :
    ReturnsInHanded {} Try.checked os 4 .any (Rows.extraNothingSpec.pre6 enc Try.prog Try.f4 Rows.extraNothingRow.domain false) (Rows.extraNothingSpec.post enc Try.prog Try.f4 false true false false) := by
  refine returnsInHanded_of_change_sized (C := Try.checked) own started (by kernel_rfl) Try.func4
    (ChangeSpec.witness6 (enc := enc) (C := Try.checked) false ⟨#[], #[St.state0.val], []⟩ 8 (by kernel_rfl) (by kernel_rfl) (by kernel_rfl) (by kernel_rfl)) ?_
  intro W base args ds gs before hval0 hW _ hsz0 _
  have hsz : (DataW.weightsEach Try.prog (Try.f4.params.toList ++ Rows.extraNothingSpec.plain.varTypes Try.prog) (ds ++ gs)).all (· ≤ reachBytes) = true := hsz0
  have hval : ∀ (j : Nat) t v, Try.f4.params[j]? = some t → args[j]? = some v → Value.okWide Try.prog W .any base t v := hval0
  have hW' := hW
  obtain ⟨p, q, hA0, hV, rfl, hfz, hnd⟩ := hW
  have hA : DataW.TrodAll enc Try.prog W 0 (fun _ => true) true Try.f4.params.toList args.toList ds p := hA0
  rw [Try.params4] at hA hval hsz
  obtain ⟨v0, vs0, d0, ds0, p0, q0, hargs, rfl, rfl, h0, r0⟩ := trodAll_cons hA
  obtain ⟨rfl, rfl, rfl⟩ := trodAll_nil r0
  obtain rfl : args = #[v0] := by cases args; simp_all
  obtain ⟨rfl, rfl⟩ := trodVars_none hV
  have k0 := h0
  have lt0 : ∀ x ∈ p0, x.block < W.heap.size := by obtain ⟨m, hm⟩ := k0; exact DataW.trod_lt m _ _ _ hm
  obtain ⟨s0, rfl, b0⟩ := state_arg (hval 0 36 v0 rfl rfl) h0
  clear hA0 hval0 hsz0
  refine (walk s0 W b0).mono fun e W' ⟨he, bel⟩ => ?_
  subst he
  exact ⟨_, rfl, _, _, _, [], _, [], hW', trodAll_mk1 (shut_bool Try.underlying4 _), (trodAll_cons_mk (Below.trod laidOut (by kernel_rfl) (of_decide_eq_true (by kernel_rfl)) k0 bel lt0) trodAll_mk0), rfl, bel.frame _, fun h => by cases h⟩

/-- The statement. -/
theorem proved : Rows.ExtraNothingSaid :=
  OpenClaim.holds_of_wide 4 Try.f4 rfl rfl rfl rfl rfl rfl rfl ⟨rfl, rfl, rfl, rfl, rfl⟩ rfl rfl rfl rfl rfl (by kernel_rfl) Try.func4 (by kernel_rfl)
    (of_decide_eq_true (by kernel_rfl)) (by unfold Func.isWrapper; first | (rw [if_pos (by decide +kernel)]; kernel_rfl) | (rw [if_neg (by decide +kernel)]; exact ⟨rfl, rfl⟩))
    (fun os started H enc _ => lifted os started H enc)
end Go.Proofs.Ytpjglhllbgmbhaa.extraNothing
