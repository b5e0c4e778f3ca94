
/- A pool that is refused is not open until its span is over, and is then, if it was told, and not refused for longer; the others are as they were: for every list of quotes, every pool, every tick and span the law returns true. No condition. -/
import Derived.Test.YtgaeelhbdgpobaaBlackL
namespace Go.Proofs.Ytgaeelhbdgpobaa.blackWhile
open Go.ChangeShapes Go.WideShapes Go.ChangeAt Go.RowKit
open Mem Arr Lst Rec Black
set_option linter.unusedVariables false

theorem ref_else {n k : Nat} {P U : Nat → Int} {p now span a : Int} (h : (k : Int) ≠ p) (h0 : 0 ≤ p) : openB n P (refU n U p now span) k a = openB n P U k a := by
  have : refU n U p now span k = U k := by unfold refU; rw [if_neg (by omega)]
  unfold openB
  simp only [Int.toNat_natCast, this]
theorem ref_over {n k : Nat} {P U : Nat → Int} {p now span a : Int} (h : (k : Int) = p) (ha : now + span ≤ a) : openB n P (refU n U p now span) k a = openB n P U k a := by
  have : refU n U p now span k = U k ∨ (refU n U p now span k = now + span ∧ U k < now + span) := by
    unfold refU
    by_cases h1 : refB n p now span = true ∧ k = p.toNat
    · rw [if_pos h1]; by_cases h2 : U k < now + span
      · rw [if_pos h2]; exact .inr ⟨rfl, h2⟩
      · rw [if_neg h2]; exact .inl rfl
    · rw [if_neg h1]; exact .inl rfl
  have e : refU n U p now span k ≤ a ↔ U k ≤ a := by omega
  unfold openB
  simp only [Int.toNat_natCast, e]
theorem ref_shut {n k : Nat} {P U : Nat → Int} {p now span a : Int} (h : (k : Int) = p) (hk : k < n) (h1 : now ≤ 1099511627776) (h2 : span ≤ 65536) (ha : a < now + span) : openB n P (refU n U p now span) k a = false := by
  have hr : refB n p now span = true := decide_eq_true (by omega)
  have : ¬ refU n U p now span k ≤ a := by
    unfold refU
    rw [if_pos ⟨hr, by omega⟩]
    by_cases h2 : U k < now + span
    · rw [if_pos h2]; omega
    · rw [if_neg h2]; omega
  unfold openB
  simp only [Int.toNat_natCast, this]
  simp
set_option maxHeartbeats 4000000 in
theorem walk (A : Option Addr) (n c : Nat) (P S U : Nat → Int) (pool now span at_ : Int) (w : World) (h : QuoteArg w A n c P S U) (h0 : (Lit.int .u8 pool).wf = true) (h1 : (Lit.int .u64 now).wf = true) (h2 : (Lit.int .u64 span).wf = true) (h3 : (Lit.int .u64 at_).wf = true) :
    Calls Try.prog 4 #[.slice A n c, .int .u8 pool, .int .u64 now, .int .u64 span, .int .u64 at_] w fun e w' => e = .returned (.bool true) ∧ Below w.heap.size w w' := by
  obtain ⟨p0, p1⟩ := bounds_u8 h0
  obtain ⟨n0, n1⟩ := bounds_u64 h1
  obtain ⟨s0, s1⟩ := bounds_u64 h2
  obtain ⟨t0, t1⟩ := bounds_u64 h3
  have hc := h.cap
  have hle := h.le
  clear h0 h1 h2 h3
  by_cases hn : 200 < n
  · go_enter Try.func4, Try.ntmps4
    go_wp2_with fail
    refine (lives_any _).mono ?_
    rintro e w9 ⟨rfl, b9⟩
    go_wp2
    go_ret
    exact ⟨rfl, b9⟩
  · by_cases hz : 0 < n
    · have H := Lib.hid h.quotes
      have HN := Lib.hid h.none_
      clear h
      have z1 : ((n : Int) == 0) = false := by simp; omega
      have q0 : 0 ≤ pool % (n : Int) := Int.emod_nonneg _ (by omega)
      have q1 : pool % (n : Int) < n := Int.emod_lt_of_pos _ (by omega)
      have r0 : 0 ≤ now % 1099511627777 := Int.emod_nonneg _ (by omega)
      have r1 : now % 1099511627777 ≤ 1099511627776 := by have := Int.emod_lt_of_pos now (show (0 : Int) < 1099511627777 by omega); omega
      have u0 : 0 ≤ span % 65537 := Int.emod_nonneg _ (by omega)
      have u1 : span % 65537 ≤ 65536 := by have := Int.emod_lt_of_pos span (show (0 : Int) < 65537 by omega); omega
      go_enter Try.func4, Try.ntmps4
      go_wp2_with fail
      refine (refuse_own A n c P S U (pool % (n : Int)) (now % 1099511627777) (span % 65537) w H.out HN.out (by omega) r0 u0).mono ?_
      rintro e w1 ⟨v1, rfl, own1, hb1⟩
      obtain ⟨g, cap, rfl, _, gl, gc1, gc2⟩ := own1.form hz
      have H1 := Lib.hid (Row.Own.recs own1)
      clear own1
      go_wp2_with fail
      go_loopw [13] (fun i wr => ∃ k : Nat, k ≤ n ∧ i = .int .i64 k ∧ Below w1.heap.size w1 wr) (fun i _ => n - (intOf i).toNat)
      case atStart => exact ⟨0, by omega, rfl, Below.refl _ _⟩
      case round =>
        obtain ⟨k, hk, rfl, hb⟩ := hrel
        by_cases hlt : k < n
        · have O1 := Lib.hid (fun s (hs : Hid (openB n P U k at_ = s)) => open_is A n c P S U k at_ s wr (Recs.later H.out (bTrans hb1 hb)) (by omega) hs)
          have O2 := Lib.hid (fun s (hs : Hid (openB n P (refU n U (pool % (n : Int)) (now % 1099511627777) (span % 65537)) k at_ = s)) => open_is (some ⟨g, 0, none⟩) n cap P S (refU n U (pool % (n : Int)) (now % 1099511627777) (span % 65537)) k at_ s wr (Recs.later H1.out hb) (by omega) hs)
          by_cases hkp : (k : Int) = pool % (n : Int)
          · have e1 : ((k : Int) == pool % (n : Int)) = true := by simpa using hkp
            have e2 : ((k : Int) != pool % (n : Int)) = false := by simpa using hkp
            by_cases ha : now % 1099511627777 + span % 65537 ≤ at_
            · have he := ref_over (n := n) (P := P) (U := U) hkp ha
              clear hkp
              cases ho : openB n P U k at_
              all_goals
                have HS := Lib.hid ho
                have HS2 := Lib.hid (he.trans ho)
                clear ho he
                go_wp2_with fail
                refine (O1.out _ HS).mono ?_
                rintro e w2 ⟨rfl, rfl⟩
                go_wp2_with fail
                refine (O2.out _ HS2).mono ?_
                rintro e w2 ⟨rfl, rfl⟩
                go_wp2_with fail
                go_roundw
                case rel => exact ⟨k + 1, by omega, by go_num, hb⟩
                case measure => simp [intOf]; omega
            · have he := ref_shut (n := n) (P := P) (U := U) hkp hlt r1 u1 (Int.not_le.1 ha)
              have HS2 := Lib.hid he
              clear hkp he
              cases ho : openB n P U k at_
              all_goals
                have HS := Lib.hid ho
                clear ho
                go_wp2_with fail
                refine (O1.out _ HS).mono ?_
                rintro e w2 ⟨rfl, rfl⟩
                go_wp2_with fail
                refine (O2.out _ HS2).mono ?_
                rintro e w2 ⟨rfl, rfl⟩
                go_wp2_with fail
                go_roundw
                case rel => exact ⟨k + 1, by omega, by go_num, hb⟩
                case measure => simp [intOf]; omega
          · have e1 : ((k : Int) == pool % (n : Int)) = false := by simpa using hkp
            have e2 : ((k : Int) != pool % (n : Int)) = true := by simpa using hkp
            have he := ref_else (n := n) (P := P) (U := U) (a := at_) (now := now % 1099511627777) (span := span % 65537) hkp q0
            clear hkp
            cases ho : openB n P U k at_
            all_goals
              have HS := Lib.hid ho
              have HS2 := Lib.hid (he.trans ho)
              clear ho he
              go_wp2_with fail
              refine (O1.out _ HS).mono ?_
              rintro e w2 ⟨rfl, rfl⟩
              go_wp2_with fail
              refine (O2.out _ HS2).mono ?_
              rintro e w2 ⟨rfl, rfl⟩
              go_wp2_with fail
              go_roundw
              case rel => exact ⟨k + 1, by omega, by go_num, hb⟩
              case measure => simp [intOf]; omega
        · go_wp2_with fail
          refine (lives_any _).mono ?_
          rintro e w9 ⟨rfl, b9⟩
          go_wp2
          go_ret
          exact ⟨rfl, bTrans (bTrans hb1 hb) b9⟩
    · obtain rfl : n = 0 := by omega
      go_enter Try.func4, Try.ntmps4
      go_wp2_with fail
      refine (lives_any _).mono ?_
      rintro e w9 ⟨rfl, b9⟩
      go_wp2
      go_ret
      exact ⟨rfl, b9⟩


/-! The row's step, by the frame. -/
theorem own : ownKnob Try.prog.godebug = none := by kernel_rfl
theorem laidOut : laidOutB Try.prog = true := by kernel_rfl
set_option maxRecDepth 100000 in
theorem lifted (os : Os) (started : os.Started) (H : Type) (enc : TypeId × Value → H) :
    ReturnsInHanded {} Try.checked os 4 .any (Rows.blackWhileSpec.pre6 enc Try.prog Try.f4 Rows.blackWhileRow.domain false) (Rows.blackWhileSpec.post enc Try.prog Try.f4 false true false false) := by
  refine returnsInHanded_of_change_sized (C := Try.checked) own started (by kernel_rfl) Try.func4
    (ChangeSpec.witness6 (enc := enc) (C := Try.checked) false ⟨#[], #[.slice none 0 0, .int .u8 0, .int .u64 0, .int .u64 0, .int .u64 0], []⟩ 8 (by kernel_rfl) (by kernel_rfl) (by kernel_rfl) (by kernel_rfl)) ?_
  intro W base args ds gs before hval0 hW _ hsz0 _
  have hsz : (DataW.weightsEach Try.prog (Try.f4.params.toList ++ Rows.blackWhileSpec.plain.varTypes Try.prog) (ds ++ gs)).all (· ≤ reachBytes) = true := hsz0
  have hval : ∀ (j : Nat) t v, Try.f4.params[j]? = some t → args[j]? = some v → Value.okWide Try.prog W .any base t v := hval0
  have hW' := hW
  obtain ⟨p, q, hA0, hV, rfl, hfz, hnd⟩ := hW
  have hA : DataW.TrodAll enc Try.prog W 0 (fun _ => true) true Try.f4.params.toList args.toList ds p := hA0
  rw [Try.params4] at hA hval hsz
  obtain ⟨v0, vs0, d0, ds0, p0, q0, hargs, rfl, rfl, h0, r0⟩ := trodAll_cons hA
  obtain ⟨v1, vs1, d1, ds1, p1, q1, rfl, rfl, rfl, h1, r1⟩ := trodAll_cons r0
  obtain ⟨v2, vs2, d2, ds2, p2, q2, rfl, rfl, rfl, h2, r2⟩ := trodAll_cons r1
  obtain ⟨v3, vs3, d3, ds3, p3, q3, rfl, rfl, rfl, h3, r3⟩ := trodAll_cons r2
  obtain ⟨v4, vs4, d4, ds4, p4, q4, rfl, rfl, rfl, h4, r4⟩ := trodAll_cons r3
  obtain ⟨rfl, rfl, rfl⟩ := trodAll_nil r4
  obtain rfl : args = #[v0, v1, v2, v3, v4] := by cases args; simp_all
  obtain ⟨rfl, rfl⟩ := trodVars_none hV
  obtain ⟨A0, n0, c0, rfl⟩ := okWide_slice Try.underlying28 (hval 0 28 v0 rfl rfl)
  have k0 := h0
  have lt0 : ∀ x ∈ p0, x.block < W.heap.size := by obtain ⟨m, hm⟩ := k0; exact DataW.trod_lt m _ _ _ hm
  obtain ⟨P0, S0, U0, b0⟩ := quotes_arg h0
  obtain ⟨a1, rfl, rfl, rfl, w1⟩ := open_int Try.underlying5 (hval 1 5 v1 rfl rfl) h1
  obtain ⟨a2, rfl, rfl, rfl, w2⟩ := open_int Try.underlying23 (hval 2 23 v2 rfl rfl) h2
  obtain ⟨a3, rfl, rfl, rfl, w3⟩ := open_int Try.underlying23 (hval 3 23 v3 rfl rfl) h3
  obtain ⟨a4, rfl, rfl, rfl, w4⟩ := open_int Try.underlying23 (hval 4 23 v4 rfl rfl) h4
  clear hA0 hval0 hsz0
  refine (walk A0 n0 c0 P0 S0 U0 a1 a2 a3 a4 W b0 w1 w2 w3 w4).mono fun e W' ⟨he, bel⟩ => ?_
  subst he
  exact ⟨_, rfl, _, _, _, [], _, [], hW', trodAll_mk1 (shut_bool Try.underlying4 _), (trodAll_cons_mk (Below.trod laidOut (by kernel_rfl) (of_decide_eq_true (by kernel_rfl)) k0 bel lt0) (trodAll_cons_mk (shut_int Try.underlying5 w1) (trodAll_cons_mk (shut_int Try.underlying23 w2) (trodAll_cons_mk (shut_int Try.underlying23 w3) (trodAll_cons_mk (shut_int Try.underlying23 w4) trodAll_mk0))))), rfl, bel.frame _, fun h => by cases h⟩

/-- The statement. -/
theorem proved : Rows.BlackWhileSaid :=
  OpenClaim.holds_of_wide 4 Try.f4 rfl rfl rfl rfl rfl rfl rfl ⟨rfl, rfl, rfl, rfl, rfl⟩ rfl rfl rfl rfl rfl (by kernel_rfl) Try.func4 (by kernel_rfl)
    (of_decide_eq_true (by kernel_rfl)) (by unfold Func.isWrapper; first | (rw [if_pos (by decide +kernel)]; kernel_rfl) | (rw [if_neg (by decide +kernel)]; exact ⟨rfl, rfl⟩))
    (fun os started H enc _ => lifted os started H enc)
end Go.Proofs.Ytgaeelhbdgpobaa.blackWhile
