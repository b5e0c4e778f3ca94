
/- Of whatever two blocks, what each says, which one is the newest, and where the next one belongs, is the document's: for every two blocks the law returns true, where the table crc.halves holds what the program's text lays in it (the card ties it). -/
import Derived.Test.YtpdaggkhnmiioaaDoorCrcW
import Derived.Test.YtpdaggkhnmiioaaDoorSealI
namespace Go.Proofs.YtpdaggkhnmiioaaDoor.sealGets
open Go.ChangeShapes Go.WideShapes Go.ChangeAt Go.RowKit Go.Deep
open Mem Rec Crc Blk Ref00 Seal
set_option linter.unusedVariables false

attribute [local go_sem ↓] Go.wp_at_zero Go.wp_at_succ
theorem at_lt {w : World} {g : Nat} {o : Obj} (h : w.heap[g]? = some o) : g < w.heap.size := by
  rcases Nat.lt_or_ge g w.heap.size with hlt | hge
  · exact hlt
  · rw [Array.getElem?_eq_none hge] at h; cases h
set_option maxHeartbeats 4000000 in
theorem walk (L0 M0 : List Int) (w : World) (hL0 : okL L0) (hM0 : okL M0) (Ld : Laid w) :
    Calls Tryd.prog 4 #[blkV L0, blkV M0] w fun e w' => e = .returned (.bool true) ∧ Below w.heap.size w w' := by
  have HL := Lib.hid Ld
  have HL0 := Lib.hid hL0
  have HM0 := Lib.hid hM0
  have hu := Tryd.underlying26
  have hi64 := fun (L : List Int) (h : okL L) => (by rw [bytesV_length, h.1]; exact infoBlk : (Tryd.prog.info? 26).map (·.size) = some (bytesV L).length)
  have HI := Lib.hid hi64
  clear hi64 hL0 hM0 Ld
  have B0 := bAlloc (bAlloc (Below.refl w.heap.size w) (.cells (blkC L0) 26)) (.cells (blkC M0) 26)
  have HX0 : Hid (((w.alloc (.cells (blkC L0) 26)).alloc (.cells (blkC M0) 26)).heap[w.heap.size]? = some (.cells (blkC L0) 26 (0, 0))) := Lib.hid (kept_at (heap_alloc_new w _))
  have HY0 : Hid (((w.alloc (.cells (blkC L0) 26)).alloc (.cells (blkC M0) 26)).heap[w.heap.size + 1]? = some (.cells (blkC M0) 26 (0, 0))) := Lib.hid (new_at (by simp))
  have HB0 := Lib.hid B0
  clear B0
  go_enter Tryd.func4, Tryd.ntmps4
  go_wp2_with fail
  go_loopw [5] (fun i wr => ∃ k : Nat, k ≤ 2 ∧ i = .int .i64 k ∧ (∃ L M, okL L ∧ okL M ∧ wr.heap[w.heap.size]? = some (.cells (blkC L) 26 (0, 0)) ∧ wr.heap[w.heap.size + 1]? = some (.cells (blkC M) 26 (0, 0))) ∧ Below w.heap.size w wr) (fun i _ => 2 - (intOf i).toNat)
  case atStart => exact ⟨0, by omega, rfl, ⟨L0, M0, HL0.out, HM0.out, HX0.out, HY0.out⟩, HB0.out⟩
  case round =>
    obtain ⟨k, hk, rfl, ⟨L, M, hL, hM, hx, hy⟩, hb⟩ := hrel
    have HKL := Lib.hid hL
    have HKM := Lib.hid hM
    have HX := Lib.hid hx
    have HY := Lib.hid hy
    have HB := Lib.hid hb
    clear hL hM hx hy hb HX0 HY0 HB0 HL0 HM0
    by_cases hlt : k < 2
    · have hiL := HI.out L HKL.out
      have hiM := HI.out M HKM.out
      go_wp2_with (first | (refine load_blk rfl (.tmp 2) rfl w.heap.size rfl L _ _ HX.out HKL.out.1 ?_))
      refine (get_any L wr HKL.out (HL.out.below HB.out)).mono ?_
      rintro e w1 ⟨A1, m1, c1, rfl, _, r1, b1⟩
      have HX1 := Lib.hid (kept_at' b1 HX.out)
      have R1 := Lib.hid r1
      clear r1
      go_wp2_with (first | (refine load_blk rfl (.tmp 2) rfl w.heap.size rfl L _ _ HX1.out HKL.out.1 ?_))
      refine (rget_any L w1 HKL.out).mono ?_
      rintro e w2 ⟨A2, m2, c2, rfl, _, r2, b2⟩
      have R1 := Lib.hid (R1.out.below b2)
      have R2 := Lib.hid r2
      have b12 := bTrans b1 b2
      have HX2 := Lib.hid (kept_at' b12 HX.out)
      have HY2 := Lib.hid (kept_at' b12 HY.out)
      have HB2 := Lib.hid (bTrans HB.out b12)
      clear r2 b1 b2 b12
      go_wp2_with fail
      refine (same_true A1 A2 m1 m2 c1 c2 (gB L) w2 _ _ R1.out R2.out).mono ?_
      rintro e w3 ⟨rfl, rfl⟩
      go_wp2_with (first | (refine load_blk rfl (.tmp 2) rfl w.heap.size rfl L _ _ HX2.out HKL.out.1 ?_) | (refine load_blk rfl (.tmp 3) rfl (w.heap.size + 1) rfl M _ _ HY2.out HKM.out.1 ?_))
      refine (newest_any L M w2 HKL.out HKM.out (HL.out.below HB2.out)).mono ?_
      rintro e w3 ⟨rfl, b3⟩
      have HX3 := Lib.hid (kept_at' b3 HX2.out)
      have HY3 := Lib.hid (kept_at' b3 HY2.out)
      have HB3 := Lib.hid (bTrans HB2.out b3)
      clear b3
      go_wp2_with (first | (refine load_blk rfl (.tmp 2) rfl w.heap.size rfl L _ _ HX3.out HKL.out.1 ?_) | (refine load_blk rfl (.tmp 3) rfl (w.heap.size + 1) rfl M _ _ HY3.out HKM.out.1 ?_))
      refine (rnewest_any L M w3 HKL.out HKM.out (HL.out.below HB3.out)).mono ?_
      rintro e w5 ⟨rfl, b5⟩
      have HX5 := Lib.hid (kept_at' b5 HX3.out)
      have HY5 := Lib.hid (kept_at' b5 HY3.out)
      have HB5 := Lib.hid (bTrans HB3.out b5)
      have L5 := Lib.hid (HL.out.below HB5.out)
      have hp5 := at_lt HX5.out
      have hq5 := at_lt HY5.out
      have SL := range_of HX5.out
      have SM := range_of HY5.out
      clear b5 R1 R2 HX HY HX1 HX2 HY2 HX3 HY3 HB HB2 HB3
      generalize nwW L M = a1
      generalize nwE L M = a2
      have q1 : (a1 != a1) = false := by simp
      have q2 : (a2 != a2) = false := by simp
      have q3 : (!(a1 == a1)) = false := by simp
      have q4 : (!(a2 == a2)) = false := by simp
      go_wp2_with fail
      refine wp_region_held_drew (S := (fun w' => (w'.rangeAt w.heap.size 0 (bytesV L) ∧ w'.rangeAt (w.heap.size + 1) 0 (bytesV M)) ∧ Below w5.heap.size w5 w')) (by kernel_rfl) ?_ (fun hHeld => ?_)
      · (first | exact ⟨⟨range_kept Bn hp5 SL, range_kept Bn hq5 SM⟩, Bn⟩ | exact ⟨⟨SL, SM⟩, Below.refl _ _⟩ | exact ⟨⟨SL, SM⟩, bDrew (Below.refl _ _)⟩)
      refine wpAnyH_take (i := 0) (oi := ⟨some 58, _, _, _, _, _⟩) (v := ?_) rfl (by kernel_rfl) (by kernel_rfl) (by kernel_rfl) (fun _ _ _ h => h) (Or.inl ⟨by rfl, ?_⟩) (by assumption) ?_
      rotate_left
      · (intro w hSw; (try dsimp only at hSw); go_simp <;> (with_reducible rfl))
      try simp only [Act.put, List.setIfInBounds_toArray, List.set_cons_zero, List.set_cons_succ]
      refine wpAnyH_take (i := 1) (oi := ⟨some 59, _, _, _, _, _⟩) (v := ?_) rfl (by kernel_rfl) (by kernel_rfl) (by kernel_rfl) (fun _ _ _ h => h) (Or.inl ⟨by rfl, ?_⟩) (by assumption) ?_
      rotate_left
      · (intro w hSw; (try dsimp only at hSw); go_simp <;> (with_reducible rfl))
      try simp only [Act.put, List.setIfInBounds_toArray, List.set_cons_zero, List.set_cons_succ]
      refine wpAnyH_take (i := 2) (oi := ⟨some 60, _, _, _, _, _⟩) (v := ?_) rfl (by kernel_rfl) (by kernel_rfl) (by kernel_rfl) (fun _ _ _ h => h) (Or.inl ⟨by rfl, ?_⟩) (by assumption) ?_
      rotate_left
      · (intro w hSw; (try dsimp only at hSw); go_simp <;> (with_reducible rfl))
      try simp only [Act.put, List.setIfInBounds_toArray, List.set_cons_zero, List.set_cons_succ]
      refine wpAnyH_take (i := 3) (oi := ⟨some 61, _, _, _, _, _⟩) (v := ?_) rfl (by kernel_rfl) (by kernel_rfl) (by kernel_rfl) (fun _ _ _ h => h) (Or.inl ⟨by rfl, ?_⟩) (by assumption) ?_
      rotate_left
      · (intro w hSw; (try dsimp only at hSw); go_simp <;> (with_reducible rfl))
      try simp only [Act.put, List.setIfInBounds_toArray, List.set_cons_zero, List.set_cons_succ]
      refine wpAnyH_take (i := 4) (oi := ⟨some 62, _, _, _, _, _⟩) (v := ?_) rfl (by kernel_rfl) (by kernel_rfl) (by kernel_rfl) (fun _ _ _ h => h) (Or.inl ⟨by rfl, ?_⟩) (by assumption) ?_
      rotate_left
      · (intro w hSw; (try dsimp only at hSw); go_simp <;> (with_reducible rfl))
      try simp only [Act.put, List.setIfInBounds_toArray, List.set_cons_zero, List.set_cons_succ]
      refine wpAnyH_take (i := 5) (oi := ⟨some 63, _, _, _, _, _⟩) (v := ?_) rfl (by kernel_rfl) (by kernel_rfl) (by kernel_rfl) (fun _ _ _ h => h) (Or.inl ⟨by rfl, ?_⟩) (by assumption) ?_
      rotate_left
      · (intro w hSw; (try dsimp only at hSw); go_simp <;> (with_reducible rfl))
      try simp only [Act.put, List.setIfInBounds_toArray, List.set_cons_zero, List.set_cons_succ]
      refine wpAnyH_take (i := 6) (oi := ⟨some 64, _, _, _, _, _⟩) (v := ?_) rfl (by kernel_rfl) (by kernel_rfl) (by kernel_rfl) (fun _ _ _ h => h) (Or.inl ⟨by rfl, ?_⟩) (by assumption) ?_
      rotate_left
      · (intro w hSw; (try dsimp only at hSw); go_simp <;> (with_reducible rfl))
      try simp only [Act.put, List.setIfInBounds_toArray, List.set_cons_zero, List.set_cons_succ]
      refine wpAnyH_take (i := 7) (oi := ⟨some 65, _, _, _, _, _⟩) (v := ?_) rfl (by kernel_rfl) (by kernel_rfl) (by kernel_rfl) (fun _ _ _ h => h) (Or.inl ⟨by rfl, ?_⟩) (by assumption) ?_
      rotate_left
      · (intro w hSw; (try dsimp only at hSw); go_simp <;> (with_reducible rfl))
      try simp only [Act.put, List.setIfInBounds_toArray, List.set_cons_zero, List.set_cons_succ]
      refine wpAnyH_take (i := 8) (oi := ⟨some 66, _, _, _, _, _⟩) (v := ?_) rfl (by kernel_rfl) (by kernel_rfl) (by kernel_rfl) (fun _ _ _ h => h) (Or.inl ⟨by rfl, ?_⟩) (by assumption) ?_
      rotate_left
      · (intro w hSw; (try dsimp only at hSw); go_simp <;> (with_reducible rfl))
      try simp only [Act.put, List.setIfInBounds_toArray, List.set_cons_zero, List.set_cons_succ]
      refine wpAnyH_take (i := 9) (oi := ⟨some 67, _, _, _, _, _⟩) (v := _) rfl (by kernel_rfl) (by kernel_rfl) (by kernel_rfl) (fun _ _ _ h => h) (yieldsIf_load_mid (by rfl) _ _ rfl w.heap.size 0 rfl (bytesV L) _ (fun w h => h.1.1) hu rfl hiL) (by assumption) ?_
      try simp only [Act.put, List.setIfInBounds_toArray, List.set_cons_zero, List.set_cons_succ]
      refine wpAnyH_take (i := 10) (oi := ⟨some 68, _, _, _, _, _⟩) (v := _) rfl (by kernel_rfl) (by kernel_rfl) (by kernel_rfl) (fun _ _ _ h => h) (yieldsIf_load_mid (by rfl) _ _ rfl (w.heap.size + 1) 0 rfl (bytesV M) _ (fun w h => h.1.2) hu rfl hiM) (by assumption) ?_
      try simp only [Act.put, List.setIfInBounds_toArray, List.set_cons_zero, List.set_cons_succ]
      refine wpAnyH_take (i := 12) (oi := ⟨some 70, _, _, _, _, _⟩) (v := _) rfl (by kernel_rfl) (by kernel_rfl) (by kernel_rfl) (fun _ _ _ h => h) (yieldsIf_load_mid (by rfl) _ _ rfl w.heap.size 0 rfl (bytesV L) _ (fun w h => h.1.1) hu rfl hiL) (by assumption) ?_
      try simp only [Act.put, List.setIfInBounds_toArray, List.set_cons_zero, List.set_cons_succ]
      refine wpAnyH_take (i := 13) (oi := ⟨some 71, _, _, _, _, _⟩) (v := _) rfl (by kernel_rfl) (by kernel_rfl) (by kernel_rfl) (fun _ _ _ h => h) (yieldsIf_load_mid (by rfl) _ _ rfl (w.heap.size + 1) 0 rfl (bytesV M) _ (fun w h => h.1.2) hu rfl hiM) (by assumption) ?_
      try simp only [Act.put, List.setIfInBounds_toArray, List.set_cons_zero, List.set_cons_succ]
      refine wpAnyH_ready (rs := [11]) (by kernel_rfl) (by simp) ?_
      refine AllReadyH.cons (o := ⟨some 69, _, _, _, _, _⟩) rfl (fun K hK => ?_) ?_
      · go_simp
        go_at_call 18
        refine (next_any L M _ HKL.out HKM.out (L5.out.below hHeld.2)).mono ?_
        rintro e wn ⟨rfl, bn⟩
        have Bn : Below w5.heap.size w5 wn := bTrans hHeld.2 bn
        try go_wp2_with fail
        refine hK.out _ _ ?_ (fun hHeld => ?_)
        · (first | exact ⟨⟨range_kept Bn hp5 SL, range_kept Bn hq5 SM⟩, Bn⟩ | exact ⟨⟨SL, SM⟩, Below.refl _ _⟩ | exact ⟨⟨SL, SM⟩, bDrew (Below.refl _ _)⟩)
        clear hK K
        try simp only [Act.put, List.setIfInBounds_toArray, List.set_cons_zero, List.set_cons_succ]
        refine wpAnyH_ready (rs := [14]) (by kernel_rfl) (by simp) ?_
        refine AllReadyH.cons (o := ⟨some 72, _, _, _, _, _⟩) rfl (fun K hK => ?_) ?_
        · go_simp
          go_at_call 19
          refine (rnext_any L M _ HKL.out HKM.out (L5.out.below hHeld.2)).mono ?_
          rintro e wn ⟨rfl, bn⟩
          have Bn : Below w5.heap.size w5 wn := bTrans hHeld.2 bn
          try go_wp2_with fail
          refine hK.out _ _ ?_ (fun hHeld => ?_)
          · (first | exact ⟨⟨range_kept Bn hp5 SL, range_kept Bn hq5 SM⟩, Bn⟩ | exact ⟨⟨SL, SM⟩, Below.refl _ _⟩ | exact ⟨⟨SL, SM⟩, bDrew (Below.refl _ _)⟩)
          clear hK K
          try simp only [Act.put, List.setIfInBounds_toArray, List.set_cons_zero, List.set_cons_succ]
          refine wpAnyH_take (i := 15) (oi := ⟨some 73, _, _, _, _, _⟩) (v := ?_) rfl (by kernel_rfl) (by kernel_rfl) (by kernel_rfl) (fun _ _ _ h => h) (Or.inl ⟨by rfl, ?_⟩) (by assumption) ?_
          rotate_left
          · (intro w hSw; (try dsimp only at hSw); go_simp <;> (with_reducible rfl))
          try simp only [Act.put, List.setIfInBounds_toArray, List.set_cons_zero, List.set_cons_succ]
          refine wpAnyH_take (i := 16) (oi := ⟨some 74, _, _, _, _, _⟩) (v := ?_) rfl (by kernel_rfl) (by kernel_rfl) (by kernel_rfl) (fun _ _ _ h => h) (Or.inl ⟨by rfl, ?_⟩) (by assumption) ?_
          rotate_left
          · (intro w hSw; (try dsimp only at hSw); go_simp <;> (with_reducible rfl))
          try simp only [Act.put, List.setIfInBounds_toArray, List.set_cons_zero, List.set_cons_succ]
          refine wpAnyH_done (by kernel_rfl) ?_ _
          have HX6 := Lib.hid (kept_at' Bn HX5.out)
          have HY6 := Lib.hid (kept_at' Bn HY5.out)
          have HB6 := Lib.hid (bTrans HB5.out Bn)
          clear Bn bn SL SM
          go_wp2_with (first | (refine load_blk rfl (.tmp 3) rfl (w.heap.size + 1) rfl M _ _ HY6.out HKM.out.1 ?_) | (refine load_blk rfl (.tmp 2) rfl w.heap.size rfl L _ _ HX6.out HKL.out.1 ?_) | (refine store_blk rfl (.tmp 2) _ rfl w.heap.size M L _ rfl rfl HX6.out HKM.out.1 HKL.out.1 ?_) | (refine store_blk rfl (.tmp 3) _ rfl (w.heap.size + 1) L M _ rfl rfl ((row_else' (by omega)).trans HY6.out) HKL.out.1 HKM.out.1 ?_))
          go_roundw
          case rel => exact ⟨k + 1, by omega, by go_num, ⟨M, L, HKM.out, HKL.out, (row_else' (by omega)).trans (row_at HX6.out), row_at ((row_else' (by omega)).trans HY6.out)⟩, below_row _ (below_row _ HB6.out (Nat.le_refl _)) (by omega)⟩
          case measure => simp [intOf]; omega
        · exact AllReadyH.nil
      · exact AllReadyH.nil
    · go_wp2_with fail
      refine (lives_any wr (HL.out.below HB.out)).mono ?_
      rintro e w2 ⟨rfl, hb2⟩
      go_wp2
      go_ret
      exact ⟨rfl, bTrans HB.out hb2⟩

/-! The row's step, by the frame; the card. -/
theorem own : ownKnob Tryd.prog.godebug = none := by kernel_rfl
theorem laidOut : laidOutB Tryd.prog = true := by kernel_rfl
theorem laid_met (os : Os) : laidMet Tryd.prog Rows.sealGetsRow.laid ((doorWorld os).forCall (fun _ _ => 0) ⟨#[], #[.agg (blkC (zs 64)), .agg (blkC (zs 64))], []⟩).memory :=
  laidMet_of_run' 8 (by kernel_rfl) (by kernel_rfl)
theorem reads (os : Os) {H : Type} (enc : TypeId × Value → H) : ∃ places, DataW.whole enc Tryd.prog ((doorWorld os).forCall (fun _ _ => 0) ⟨#[], #[.agg (blkC (zs 64)), .agg (blkC (zs 64))], []⟩).memory Tryd.f4.params.toList Rows.sealGetsSpec.vars false (#[.agg (blkC (zs 64)), .agg (blkC (zs 64))] : Array Value).toList 8 = some ([.agg (List.replicate 64 (.lit (.int .u8 0))), .agg (List.replicate 64 (.lit (.int .u8 0)))], [], places) :=
  ⟨[], by kernel_rfl⟩
set_option maxRecDepth 100000 in
theorem lifted (os : Os) (started : os.Started) (H : Type) (enc : TypeId × Value → H) (F : Stop.Interp) :
    ReturnsInHanded {} Tryd.checked os 4 .any ((OpenSpec.ofChange Rows.sealGetsSpec).preRow enc Tryd.prog Tryd.f4 Rows.sealGetsRow.domain false Rows.sealGetsRow.laid) (((OpenSpec.ofChange Rows.sealGetsSpec).at F).post enc Tryd.prog Tryd.f4 false true false false) := by
  obtain ⟨places, hx⟩ := reads os enc
  refine returnsInHanded_of_row (C := Tryd.checked) (s := OpenSpec.ofChange Rows.sealGetsSpec) own started (by kernel_rfl) Tryd.func4
    (witness_row_at (enc := enc) (C := Tryd.checked) false (doorWorld os) #[.agg (blkC (zs 64)), .agg (blkC (zs 64))] rfl (by kernel_rfl) (by kernel_rfl) (by kernel_rfl)
      (OpenSpec.preRow_of_cond 8 hx (by kernel_rfl) (fun k hk => by cases hk) (by kernel_rfl) (laid_met os))) ?_
  intro W base args ds gs before hval0 hW _ hk1 hsz0 hL _ _
  have hsz : (DataW.weightsEach Tryd.prog (Tryd.f4.params.toList ++ Rows.sealGetsSpec.plain.varTypes Tryd.prog) (ds ++ gs)).all (· ≤ reachBytes) = true := hsz0
  have hval : ∀ (j : Nat) t v, Tryd.f4.params[j]? = some t → args[j]? = some v → Value.okWide Tryd.prog W .any base t v := hval0
  have hW' := hW
  obtain ⟨p, q, hA0, hV, rfl, hfz, hnd⟩ := hW
  have hA : DataW.TrodAll enc Tryd.prog W 0 (fun _ => true) true Tryd.f4.params.toList args.toList ds p := hA0
  rw [Tryd.params4] at hA hval hsz
  obtain ⟨v0, vs0, d0, ds0, p0, q0, hargs, rfl, rfl, h0, r0⟩ := trodAll_cons hA
  obtain ⟨v1, vs1, d1, ds1, p1, q1, rfl, rfl, rfl, h1, r1⟩ := trodAll_cons r0
  obtain ⟨rfl, rfl, rfl⟩ := trodAll_nil r1
  obtain rfl : args = #[v0, v1] := by cases args; simp_all
  obtain ⟨rfl, rfl⟩ := trodVars_none hV
  have k0 := h0
  have lt0 : ∀ x ∈ p0, x.block < W.heap.size := by obtain ⟨m, hm⟩ := k0; exact DataW.trod_lt m _ _ _ hm
  obtain ⟨L0, rfl, b0⟩ := blk_arg (hval 0 26 v0 rfl rfl) h0
  have k1 := h1
  have lt1 : ∀ x ∈ p1, x.block < W.heap.size := by obtain ⟨m, hm⟩ := k1; exact DataW.trod_lt m _ _ _ hm
  obtain ⟨L1, rfl, b1⟩ := blk_arg (hval 1 26 v1 rfl rfl) h1
  clear hA0 hval0 hsz0
  refine (walk L0 L1 W b0 b1 (laid_of hL)).mono fun e W' ⟨he, bel⟩ => ?_
  subst he
  exact ⟨_, rfl, _, _, _, [], _, [], hW', trodAll_mk1 (shut_bool Tryd.underlying4 _), (trodAll_cons_mk (Below.trod laidOut (by kernel_rfl) (of_decide_eq_true (by kernel_rfl)) k0 bel lt0) (trodAll_cons_mk (Below.trod laidOut (by kernel_rfl) (of_decide_eq_true (by kernel_rfl)) k1 bel lt1) trodAll_mk0)), rfl, bel.frame _, fun h => by cases h⟩

theorem said : Rows.SealGetsSaid :=
  OpenClaim.holds_of_cond 4 Tryd.f4 rfl rfl rfl rfl rfl rfl rfl ⟨rfl, rfl, rfl, rfl, rfl⟩ rfl rfl rfl rfl rfl (by kernel_rfl) Tryd.func4 (by kernel_rfl)
    (of_decide_eq_true (by kernel_rfl)) (by unfold Func.isWrapper; first | (rw [if_pos (by decide +kernel)]; kernel_rfl) | (rw [if_neg (by decide +kernel)]; exact ⟨rfl, rfl⟩))
    (fun os started H enc _ F => by rw [OpenClaim.pre_eq_preRow]; exact lifted os started H enc F)
theorem plain (f : FuncId) (fn : Func) (hf : Tryd.pinned.checked.prog.funcNamed "cohort/cohortlaw07.SealGets" = some f) (hfn : Tryd.pinned.checked.prog.funcs[f]? = some fn) :
    false = Tryd.pinned.checked.prog.looks [] ∧ ∀ (j : Nat) t, fn.params[j]? = some t → Tryd.pinned.checked.prog.wantsStandIn t = false := by
  obtain rfl : f = 4 := Option.some.inj ((show Tryd.prog.funcNamed "cohort/cohortlaw07.SealGets" = some 4 by kernel_rfl).symm.trans hf) |>.symm
  obtain rfl : fn = Tryd.f4 := (Option.some.inj (Tryd.func4.symm.trans hfn)).symm
  refine ⟨by kernel_rfl, fun j t ht => ?_⟩
  rw [Tryd.params4] at ht
  have hm : t ∈ [26, 26] := by simpa using Array.mem_of_getElem? ht
  have hall : ([26, 26].all fun u => !Tryd.prog.wantsStandIn u) = true := by kernel_rfl
  exact (show Tryd.prog.wantsStandIn t = false by simpa using List.all_eq_true.1 hall t hm)
/-- The card. -/
theorem proved : Rows.SealGetsCardSaid :=
  Claim7.holds_tied_plain_at .later [] _ _ _ _ said (fun _ h => by cases h) (by kernel_rfl) (fun _ h => by cases h) sealGets_row_tie rfl ⟨rfl, rfl⟩ (by kernel_rfl) rfl plain (by kernel_rfl)
end Go.Proofs.YtpdaggkhnmiioaaDoor.sealGets
