
/- What Sort tells is the same texts, each where it says, in order, of equal ones the one that stood ahead first: for every list of texts the law returns true. No condition on the input. -/
import Derived.Test.YtkoifdbbomipbaaNameT
namespace Go.Proofs.Ytkoifdbbomipbaa.nameSorts
open Go.ChangeShapes Go.WideShapes Go.ChangeAt Go.RowKit
open Mem Arr Lst Name Ins Srt Mrg
set_option linter.unusedVariables false
set_option linter.unusedSimpArgs false

set_option maxRecDepth 100000 in
set_option maxHeartbeats 8000000 in
theorem walk (A : Option Addr) (n c : Nat) (S : Nat → ByteArray) (w : World) (h : TextArg w A n c S) :
    Calls Try.prog 6 #[.slice A n c] w fun e w' => e = .returned (.bool true) ∧ Below w.heap.size w w' := by
  have hn : n ≤ 8796093022208 := by have := h.le; have := h.reach; omega
  have HR := Lib.hid h.rd
  clear h
  go_enter Try.func6, Try.ntmps6
  go_wp2_with fail
  refine (sortN_any A n c S w HR.out hn).mono ?_
  rintro e w1 ⟨vs, vp, P, rfl, o1, o2, b1, pl⟩
  obtain ⟨A1, k1, rfl, -, -, -, -⟩ := o1.shape
  obtain ⟨A2, k2, rfl, -, -, -, -⟩ := o2.shape
  have O1 := Lib.hid o1
  have O2 := Lib.hid o2
  have B1 := Lib.hid b1
  have PL := Lib.hid pl
  clear o1 o2 b1 pl
  have hmk := mkBn n hn w1
  have OM : Hid (Own (w1.alloc (.cells (vals n (fun _ => .bool false)).toArray 4)) w1.heap.size 4 (.slice (some ⟨w1.heap.size, 0, none⟩) n n) n (fun i => .bool ((fun _ => false) i))) := Lib.hid (own_made w1 w1.heap.size 4 n (fun _ => .bool false) (Nat.le_refl _) (by unfold maxLen; omega))
  have CM : Hid (Chg w1.heap.size (w1.alloc (.cells (vals n (fun _ => .bool false)).toArray 4)) (w1.alloc (.cells (vals n (fun _ => .bool false)).toArray 4))) := Lib.hid (Chg.refl _ _)
  have OA : Hid (Own (w1.alloc (.cells (vals n (fun _ => .bool false)).toArray 4)) w.heap.size 9 (.slice A1 n k1) n (fun i => .string (S (P i)))) := Lib.hid (O1.out.alloc _)
  have OP : Hid (Own (w1.alloc (.cells (vals n (fun _ => .bool false)).toArray 4)) w.heap.size 3 (.slice A2 n k2) n (intsV P)) := Lib.hid (O2.out.alloc _)
  have B2 : Hid (Below w.heap.size w (w1.alloc (.cells (vals n (fun _ => .bool false)).toArray 4))) := Lib.hid (bAlloc B1.out _)
  obtain ⟨W, hW⟩ : ∃ W, w1.alloc (.cells (vals n (fun _ => .bool false)).toArray 4) = W := ⟨_, rfl⟩
  rw [hW] at hmk OM CM OA OP B2
  clear hW
  go_wp2
  go_loopw [6] (fun iv wr => ∃ (k : Nat) (M : Nat → Bool), k ≤ n ∧ iv = .int .i64 k ∧ Hid (Own wr w1.heap.size 4 (.slice (some ⟨w1.heap.size, 0, none⟩) n n) n (fun i => .bool (M i))) ∧ Hid (∀ i, k ≤ i → i < n → M (P i) = false) ∧ Hid (Chg w1.heap.size W wr)) (fun iv _ => n - (intOf iv).toNat)
  case atStart => exact ⟨0, fun _ => false, by omega, rfl, OM, Lib.hid (fun _ _ _ => rfl), CM⟩
  case round =>
    obtain ⟨k, M, hk, rfl, OK, MK, CK⟩ := hrel
    have hbs : w.heap.size ≤ w1.heap.size := bSize B1.out
    by_cases hlt : k < n
    · obtain ⟨ga, ca, ea, ga1, ga2, -, -⟩ := O1.out.form (by omega)
      obtain ⟨gp, cp, ep, gp1, gp2, -, -⟩ := O2.out.form (by omega)
      injection ea with ea _ eac
      injection ep with ep _ epc
      subst ea ep eac epc
      have RD : Reads wr w.heap.size A n (textV S) := Recs.below HR.out (CK.out.below B2.out hbs)
      obtain ⟨b, off, rfl, hbl⟩ := reads_form RD (by omega)
      have hq := PL.out.lt k hlt
      have aC := own_chg OA.out CK.out (by omega)
      have pC := own_chg OP.out CK.out (by omega)
      have x1 : wr.cell? ⟨gp, k, none⟩ = some (.int .i64 (P k : Nat)) := pC.cell hlt
      have x2 : wr.cell? ⟨ga, k, none⟩ = some (.string (S (P k))) := aC.cell hlt
      have x3 : wr.cell? ⟨b, off + P k, none⟩ = some (.string (S (P k))) := reads_cell RD hq
      have x4 : wr.cell? ⟨w1.heap.size, P k, none⟩ = some (.bool false) := by rw [OK.out.cell hq, MK.out k (Nat.le_refl _) hlt]
      have f4 : wr.frozen? ⟨w1.heap.size, P k, none⟩ = false := OK.out.free _
      have ON : Hid (Own (wr.setCell ⟨w1.heap.size, P k, none⟩ (.bool true)) w1.heap.size 4 (.slice (some ⟨w1.heap.size, 0, none⟩) n n) n (fun i => .bool ((fun i => if i = P k then true else M i) i))) := Lib.hid (Own.congr (OK.out.stored (k := P k) (.bool true)) (fun i _ => by
        by_cases e : i = P k
        · rw [if_pos e]; simp [e]
        · rw [if_neg e]; simp [e]))
      have MN : Hid (∀ i, k + 1 ≤ i → i < n → (fun i => if i = P k then true else M i) (P i) = false) := Lib.hid (fun i p1 p2 => by
        have : P i ≠ P k := fun e => by have := PL.out.inj p2 hlt e; omega
        show (if P i = P k then true else M (P i)) = false
        rw [if_neg this]; exact MK.out i (by omega) p2)
      have CN : Hid (Chg w1.heap.size W (wr.setCell ⟨w1.heap.size, P k, none⟩ (.bool true))) := Lib.hid (CK.out.set _ _)
      have SP : Hid (∀ p, k = p + 1 → ltS S (P p) (P k)) := Lib.hid (fun p hp => PL.out.so p k (by omega) (by omega) hlt)
      clear aC pC OK MK CK RD
      obtain ⟨q, hqe⟩ : ∃ q, P k = q := ⟨_, rfl⟩
      rw [hqe] at x1 x2 x3 x4 f4 hq ON MN CN SP
      have HQ := Lib.hid hqe
      clear hqe
      have z1 : ¬ n ≤ q := by omega
      have z2 : (q : Int) < (n : Int) := by omega
      obtain ⟨X, hX⟩ : ∃ X, S q = X := ⟨_, rfl⟩
      rw [hX] at x2 x3
      have HX := Lib.hid hX
      clear hX
      go_wp2
      go_quiet (fail)
      go_wp2
      obtain ⟨w3, hw3⟩ : ∃ w3, (wr.drewN nq).setCell ⟨w1.heap.size, q, none⟩ (.bool true) = w3 := ⟨_, rfl⟩
      rw [hw3]
      have O3 : Hid (Own w3 w1.heap.size 4 (.slice (some ⟨w1.heap.size, 0, none⟩) n n) n (fun i => .bool ((fun i => if i = q then true else M i) i))) := Lib.hid (by rw [← hw3]; exact ON.out)
      have C3 : Hid (Chg w1.heap.size W w3) := Lib.hid (by rw [← hw3]; exact CN.out.drew nq)
      have aC := own_chg OA.out C3.out (by omega)
      have pC := own_chg OP.out C3.out (by omega)
      clear hw3 x1 x2 x3 x4 f4 ON CN
      have y1 : w3.cell? ⟨gp, k, none⟩ = some (.int .i64 (q : Nat)) := by rw [← HQ.out]; exact pC.cell hlt
      have y2 : w3.cell? ⟨ga, k, none⟩ = some (.string X) := by rw [← HX.out, ← HQ.out]; exact aC.cell hlt
      by_cases h0 : k = 0
      · subst h0
        clear aC pC
        go_quiet (fail)
        go_wp2
        go_roundw
        case rel => exact ⟨1, fun i => if i = q then true else M i, by omega, by go_num, O3, MN, Lib.hid (C3.out.drew _)⟩
        case measure => simp [intOf]; omega
      · obtain ⟨p, rfl⟩ : ∃ p, k = p + 1 := ⟨k - 1, by omega⟩
        have sp := SP.out p rfl
        have y3 : w3.cell? ⟨gp, p, none⟩ = some (.int .i64 (P p : Nat)) := pC.cell (by omega)
        have y4 : w3.cell? ⟨ga, p, none⟩ = some (.string (S (P p))) := aC.cell (by omega)
        have hwp : IntKind.i64.wrap (p : Int) = (p : Int) := by rw [IntKind.wrap_i64]; omega
        have e0 : ((p : Int) + 1).toNat = p + 1 := by omega
        have v1 : (p : Int) + 1 < (n : Int) := by omega
        have v2 : (p : Int) < (n : Int) := by omega
        have v3 : (0 : Int) ≤ (p : Int) + 1 := by omega
        have v4 : (0 : Int) < (p : Int) + 1 := by omega
        unfold ltS at sp
        rw [HX.out] at sp
        obtain ⟨t, ht⟩ : ∃ t, P p = t := ⟨_, rfl⟩
        rw [ht] at sp y3 y4
        obtain ⟨Y, hY⟩ : ∃ Y, S t = Y := ⟨_, rfl⟩
        rw [hY] at sp y4
        clear aC pC ht hY h0
        by_cases hc : cmpV Y X = 0
        · have V : Hid (cmpV Y X = 0) := Lib.hid hc
          have E : (Y.toList == X.toList) = true := by rw [beq_iff_eq]; exact cmpV_zero.1 hc
          have L : t < q := by omega
          have L2 : ¬ q < t := by omega
          clear hc sp
          go_quiet (first | (go_at_call 9; exact quietL (compare_is _ _ _ _ V)))
          go_wp2
          go_roundw
          case rel => exact ⟨p + 1 + 1, fun i => if i = q then true else M i, by omega, by go_num, O3, MN, Lib.hid (C3.out.drew _)⟩
          case measure => simp [intOf]; omega
        · have hm : cmpV Y X = -1 := by
            rcases cmpV_bd Y X with b | b | b
            · exact b
            · exact absurd b hc
            · omega
          have V : Hid (cmpV Y X = -1) := Lib.hid hm
          have E : (Y.toList == X.toList) = false := by rw [beq_eq_false_iff_ne]; exact fun e => hc (cmpV_zero.2 e)
          clear hc sp hm
          go_quiet (first | (go_at_call 9; exact quietL (compare_is _ _ _ _ V)))
          go_wp2
          go_roundw
          case rel => exact ⟨p + 1 + 1, fun i => if i = q then true else M i, by omega, by go_num, O3, MN, Lib.hid (C3.out.drew _)⟩
          case measure => simp [intOf]; omega
    · have BW := Lib.hid (CK.out.below B2.out hbs)
      clear OK MK CK
      go_wp2_with fail
      refine (lives_any _).mono ?_; rintro e w4 ⟨rfl, b4⟩
      go_wp2
      go_ret
      exact ⟨rfl, bTrans BW.out b4⟩

/-! The row's step, by the frame. -/
theorem own : ownKnob Try.prog.godebug = none := by kernel_rfl
theorem laidOut : laidOutB Try.prog = true := by kernel_rfl
set_option maxRecDepth 100000 in
theorem lifted (os : Os) (started : os.Started) (H : Type) (enc : TypeId × Value → H) :
    ReturnsInHanded {} Try.checked os 6 .any (Rows.nameSortsSpec.pre6 enc Try.prog Try.f6 Rows.nameSortsRow.domain false) (Rows.nameSortsSpec.post enc Try.prog Try.f6 false true false false) := by
  refine returnsInHanded_of_change_sized (C := Try.checked) own started (by kernel_rfl) Try.func6
    (ChangeSpec.witness6 (enc := enc) (C := Try.checked) false ⟨#[], #[.slice none 0 0], []⟩ 8 (by kernel_rfl) (by kernel_rfl) (by kernel_rfl) (by kernel_rfl)) ?_
  intro W base args ds gs before hval0 hW _ hsz0 _
  have hsz : (DataW.weightsEach Try.prog (Try.f6.params.toList ++ Rows.nameSortsSpec.plain.varTypes Try.prog) (ds ++ gs)).all (· ≤ reachBytes) = true := hsz0
  have hval : ∀ (j : Nat) t v, Try.f6.params[j]? = some t → args[j]? = some v → Value.okWide Try.prog W .any base t v := hval0
  have hW' := hW
  obtain ⟨p, q, hA0, hV, rfl, hfz, hnd⟩ := hW
  have hA : DataW.TrodAll enc Try.prog W 0 (fun _ => true) true Try.f6.params.toList args.toList ds p := hA0
  rw [Try.params6] at hA hval hsz
  obtain ⟨v0, vs0, d0, ds0, p0, q0, hargs, rfl, rfl, h0, r0⟩ := trodAll_cons hA
  obtain ⟨rfl, rfl, rfl⟩ := trodAll_nil r0
  obtain rfl : args = #[v0] := by cases args; simp_all
  obtain ⟨rfl, rfl⟩ := trodVars_none hV
  obtain ⟨A0, n0, c0, rfl⟩ := okWide_slice Try.underlying26 (hval 0 26 v0 rfl rfl)
  have k0 := h0
  have lt0 : ∀ x ∈ p0, x.block < W.heap.size := by obtain ⟨m, hm⟩ := k0; exact DataW.trod_lt m _ _ _ hm
  obtain ⟨S0, b0⟩ := texts_arg Try.underlying26 Try.underlying9 (by kernel_rfl) (by kernel_rfl) hsz (j := 0) rfl rfl h0
  clear hA0 hval0 hsz0
  refine (walk A0 n0 c0 S0 W b0).mono fun e W' ⟨he, bel⟩ => ?_
  subst he
  exact ⟨_, rfl, _, _, _, [], _, [], hW', trodAll_mk1 (shut_bool Try.underlying4 _), (trodAll_cons_mk (Below.trod laidOut (by kernel_rfl) (of_decide_eq_true (by kernel_rfl)) k0 bel lt0) trodAll_mk0), rfl, bel.frame _, fun h => by cases h⟩

/-- The statement. -/
theorem proved : Rows.NameSortsSaid :=
  OpenClaim.holds_of_wide 6 Try.f6 rfl rfl rfl rfl rfl rfl rfl ⟨rfl, rfl, rfl, rfl, rfl⟩ rfl rfl rfl rfl rfl (by kernel_rfl) Try.func6 (by kernel_rfl)
    (of_decide_eq_true (by kernel_rfl)) (by unfold Func.isWrapper; first | (rw [if_pos (by decide +kernel)]; kernel_rfl) | (rw [if_neg (by decide +kernel)]; exact ⟨rfl, rfl⟩))
    (fun os started H enc _ => lifted os started H enc)
end Go.Proofs.Ytkoifdbbomipbaa.nameSorts
