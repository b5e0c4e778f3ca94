
/- At the next tick more is open than ahead of it, if it was told; between now and that nothing comes to be open: for every list of quotes and every two ticks the law returns true. No condition. -/
import Derived.Test.YtgaeelhbdgpobaaBlackL
namespace Go.Proofs.Ytgaeelhbdgpobaa.blackNext
open Go.ChangeShapes Go.WideShapes Go.ChangeAt Go.RowKit
open Mem Arr Lst Rec Black
set_option linter.unusedVariables false

theorem eq_open {n k : Nat} {P U : Nat → Int} {a b : Int} (h : U k ≤ a ↔ U k ≤ b) : openB n P U k a = openB n P U k b := by
  unfold openB
  simp only [Int.toNat_natCast, h]
theorem at_open {n k : Nat} {P U : Nat → Int} {z : Int} (hk : k < n) (h : U k = z) : openB n P U k z = decide (1 ≤ P k) := by
  unfold openB
  have h1 : (0 : Int) ≤ (k : Int) ∧ (k : Int) < (n : Int) := by omega
  simp only [Int.toNat_natCast, h1, and_self, true_and]
  have : U k ≤ z := by omega
  simp [this]
set_option maxHeartbeats 4000000 in
theorem walk (A : Option Addr) (n c : Nat) (P S U : Nat → Int) (now at_ : Int) (w : World) (h : QuoteArg w A n c P S U) (h1 : (Lit.int .u64 now).wf = true) (h2 : (Lit.int .u64 at_).wf = true) :
    Calls Try.prog 5 #[.slice A n c, .int .u64 now, .int .u64 at_] w fun e w' => e = .returned (.bool true) ∧ Below w.heap.size w w' := by
  obtain ⟨n0, n1⟩ := bounds_u64 h1
  have hc := h.cap
  have hle := h.le
  clear h1 h2
  by_cases hn : 200 < n
  · go_enter Try.func5, Try.ntmps5
    go_wp2_with fail
    refine (lives_any _).mono ?_
    rintro e w9 ⟨rfl, b9⟩
    go_wp2
    go_ret
    exact ⟨rfl, b9⟩
  · have H := Lib.hid h.quotes
    have hnx := nx_fact U now n
    have C := Lib.hid (next_any A n c P S U now w H.out (by omega))
    generalize nx U now n = r at hnx C
    obtain ⟨z, t⟩ := r
    obtain ⟨f1, f2⟩ := hnx
    have F1 := Lib.hid f1
    have F2 := Lib.hid f2
    clear f1 f2
    have ht : t = true → now < z := fun e => by
      obtain ⟨⟨i, _, h3, h4⟩, _⟩ := F2.out e
      have h4' : U i = z := h4
      omega
    have hz : t = false → z = 0 := fun e => (F1.out e).1
    go_enter Try.func5, Try.ntmps5
    go_wp2_with fail
    refine C.out.mono ?_
    rintro e w1 ⟨rfl, hb1⟩
    clear C
    cases t with
    | false =>
      obtain rfl := hz rfl
      have G := Lib.hid (F1.out rfl).2
      clear ht hz F1 F2
      go_wp2_with fail
      go_loopw [9] (fun i wr => ∃ k : Nat, k ≤ n ∧ i = .int .i64 k ∧ Below w.heap.size w wr) (fun i _ => n - (intOf i).toNat)
      case atStart => exact ⟨0, by omega, rfl, hb1⟩
      case round =>
        obtain ⟨k, hk, rfl, hb⟩ := hrel
        by_cases hlt : k < n
        · have hu := G.out k hlt
          by_cases ha : now ≤ at_
          · have he : openB n P U k at_ = openB n P U k now := eq_open (by omega)
            have O1 := Lib.hid (fun s (hs : Hid (openB n P U k now = s)) => open_is A n c P S U k at_ s wr (Recs.later H.out hb) (by omega) (Lib.hid (he.trans hs.out)))
            have O2 := Lib.hid (fun s (hs : Hid (openB n P U k now = s)) => open_is A n c P S U k now s wr (Recs.later H.out hb) (by omega) hs)
            cases ho : openB n P U k now
            all_goals
              have HS := Lib.hid ho
              clear ho he
              go_wp2_with fail
              refine (O1.out _ HS).mono ?_
              rintro e w2 ⟨rfl, rfl⟩
              go_wp2_with fail
              refine (O2.out _ HS).mono ?_
              rintro e w2 ⟨rfl, rfl⟩
              go_wp2_with fail
              go_quiet (fail)
              go_wp2_with fail
              go_roundw
              case rel => exact ⟨k + 1, by omega, by go_num, bDrewN _ hb⟩
              case measure => simp [intOf]; omega
          · go_wp2_with fail
            go_quiet (fail)
            go_wp2_with fail
            go_roundw
            case rel => exact ⟨k + 1, by omega, by go_num, bDrewN _ hb⟩
            case measure => simp [intOf]; omega
        · go_wp2_with fail
          refine (lives_any _).mono ?_
          rintro e w9 ⟨rfl, b9⟩
          go_wp2
          go_ret
          exact ⟨rfl, bTrans hb b9⟩
    | true =>
      have hz' := ht rfl
      have G := Lib.hid (F2.out rfl).2
      clear hz ht F1 F2
      go_wp2_with fail
      go_loopw [9] (fun i wr => ∃ k : Nat, k ≤ n ∧ i = .int .i64 k ∧ Below w.heap.size w wr) (fun i _ => n - (intOf i).toNat)
      case atStart => exact ⟨0, by omega, rfl, hb1⟩
      case round =>
        obtain ⟨k, hk, rfl, hb⟩ := hrel
        by_cases hlt : k < n
        · by_cases ha : now ≤ at_
          · by_cases hl : at_ < z
            · have he : openB n P U k at_ = openB n P U k now := eq_open (by have := G.out k hlt; omega)
              have O1 := Lib.hid (fun s (hs : Hid (openB n P U k now = s)) => open_is A n c P S U k at_ s wr (Recs.later H.out hb) (by omega) (Lib.hid (he.trans hs.out)))
              have O2 := Lib.hid (fun s (hs : Hid (openB n P U k now = s)) => open_is A n c P S U k now s wr (Recs.later H.out hb) (by omega) hs)
              cases ho : openB n P U k now
              all_goals
                have HS := Lib.hid ho
                clear ho he
                go_wp2_with fail
                refine (O1.out _ HS).mono ?_
                rintro e w2 ⟨rfl, rfl⟩
                go_wp2_with fail
                refine (O2.out _ HS).mono ?_
                rintro e w2 ⟨rfl, rfl⟩
                by_cases hu : U k = z
                · have e3 : openB n P U k z = decide (1 ≤ P k) := at_open hlt hu
                  have O3 := Lib.hid (fun s (hs : Hid (decide (1 ≤ P k) = s)) m => open_is A n c P S U k z s (wr.drewN m) (Recs.later H.out (bDrewN m hb)) (by omega) (Lib.hid (e3.trans hs.out)))
                  obtain ⟨b, off, rfl⟩ := quotes_at H.out (by omega)
                  obtain ⟨hbl, c0, c1, c2⟩ := quote_cells H.out hb rfl hlt
                  have d1 : decide (k < n) = true := decide_eq_true hlt
                  rw [hu] at c2
                  cases hp : decide (1 ≤ P k)
                  all_goals
                    have HS3 := Lib.hid hp
                    go_wp2_with fail
                    go_quiet (first | (go_at_call_of 16 (Value.int .u64 z); exact quietL (O3.out _ HS3 _)))
                    go_wp2_with fail
                    go_roundw
                    case rel => exact ⟨k + 1, by omega, by go_num, bDrewN _ hb⟩
                    case measure => simp [intOf]; omega
                · obtain ⟨b, off, rfl⟩ := quotes_at H.out (by omega)
                  obtain ⟨hbl, c0, c1, c2⟩ := quote_cells H.out hb rfl hlt
                  have d1 : decide (k < n) = true := decide_eq_true hlt
                  have hu' : (U k == z) = false := by simpa using hu
                  go_wp2_with fail
                  go_quiet (fail)
                  go_wp2_with fail
                  go_roundw
                  case rel => exact ⟨k + 1, by omega, by go_num, bDrewN _ hb⟩
                  case measure => simp [intOf]; omega
            · by_cases hu : U k = z
              · have e3 : openB n P U k z = decide (1 ≤ P k) := at_open hlt hu
                have O3 := Lib.hid (fun s (hs : Hid (decide (1 ≤ P k) = s)) m => open_is A n c P S U k z s (wr.drewN m) (Recs.later H.out (bDrewN m hb)) (by omega) (Lib.hid (e3.trans hs.out)))
                obtain ⟨b, off, rfl⟩ := quotes_at H.out (by omega)
                obtain ⟨hbl, c0, c1, c2⟩ := quote_cells H.out hb rfl hlt
                have d1 : decide (k < n) = true := decide_eq_true hlt
                rw [hu] at c2
                cases hp : decide (1 ≤ P k)
                all_goals
                  have HS3 := Lib.hid hp
                  go_wp2_with fail
                  go_quiet (first | (go_at_call_of 16 (Value.int .u64 z); exact quietL (O3.out _ HS3 _)))
                  go_wp2_with fail
                  go_roundw
                  case rel => exact ⟨k + 1, by omega, by go_num, bDrewN _ hb⟩
                  case measure => simp [intOf]; omega
              · obtain ⟨b, off, rfl⟩ := quotes_at H.out (by omega)
                obtain ⟨hbl, c0, c1, c2⟩ := quote_cells H.out hb rfl hlt
                have d1 : decide (k < n) = true := decide_eq_true hlt
                have hu' : (U k == z) = false := by simpa using hu
                go_wp2_with fail
                go_quiet (fail)
                go_wp2_with fail
                go_roundw
                case rel => exact ⟨k + 1, by omega, by go_num, bDrewN _ hb⟩
                case measure => simp [intOf]; omega
          · by_cases hu : U k = z
            · have e3 : openB n P U k z = decide (1 ≤ P k) := at_open hlt hu
              have O3 := Lib.hid (fun s (hs : Hid (decide (1 ≤ P k) = s)) m => open_is A n c P S U k z s (wr.drewN m) (Recs.later H.out (bDrewN m hb)) (by omega) (Lib.hid (e3.trans hs.out)))
              obtain ⟨b, off, rfl⟩ := quotes_at H.out (by omega)
              obtain ⟨hbl, c0, c1, c2⟩ := quote_cells H.out hb rfl hlt
              have d1 : decide (k < n) = true := decide_eq_true hlt
              rw [hu] at c2
              cases hp : decide (1 ≤ P k)
              all_goals
                have HS3 := Lib.hid hp
                go_wp2_with fail
                go_quiet (first | (go_at_call_of 16 (Value.int .u64 z); exact quietL (O3.out _ HS3 _)))
                go_wp2_with fail
                go_roundw
                case rel => exact ⟨k + 1, by omega, by go_num, bDrewN _ hb⟩
                case measure => simp [intOf]; omega
            · obtain ⟨b, off, rfl⟩ := quotes_at H.out (by omega)
              obtain ⟨hbl, c0, c1, c2⟩ := quote_cells H.out hb rfl hlt
              have d1 : decide (k < n) = true := decide_eq_true hlt
              have hu' : (U k == z) = false := by simpa using hu
              go_wp2_with fail
              go_quiet (fail)
              go_wp2_with fail
              go_roundw
              case rel => exact ⟨k + 1, by omega, by go_num, bDrewN _ hb⟩
              case measure => simp [intOf]; omega
        · go_wp2_with fail
          refine (lives_any _).mono ?_
          rintro e w9 ⟨rfl, b9⟩
          go_wp2
          go_ret
          exact ⟨rfl, bTrans hb b9⟩


/-! The row's step, by the frame. -/
theorem own : ownKnob Try.prog.godebug = none := by kernel_rfl
theorem laidOut : laidOutB Try.prog = true := by kernel_rfl
set_option maxRecDepth 100000 in
theorem lifted (os : Os) (started : os.Started) (H : Type) (enc : TypeId × Value → H) :
    ReturnsInHanded {} Try.checked os 5 .any (Rows.blackNextSpec.pre6 enc Try.prog Try.f5 Rows.blackNextRow.domain false) (Rows.blackNextSpec.post enc Try.prog Try.f5 false true false false) := by
  refine returnsInHanded_of_change_sized (C := Try.checked) own started (by kernel_rfl) Try.func5
    (ChangeSpec.witness6 (enc := enc) (C := Try.checked) false ⟨#[], #[.slice none 0 0, .int .u64 0, .int .u64 0], []⟩ 8 (by kernel_rfl) (by kernel_rfl) (by kernel_rfl) (by kernel_rfl)) ?_
  intro W base args ds gs before hval0 hW _ hsz0 _
  have hsz : (DataW.weightsEach Try.prog (Try.f5.params.toList ++ Rows.blackNextSpec.plain.varTypes Try.prog) (ds ++ gs)).all (· ≤ reachBytes) = true := hsz0
  have hval : ∀ (j : Nat) t v, Try.f5.params[j]? = some t → args[j]? = some v → Value.okWide Try.prog W .any base t v := hval0
  have hW' := hW
  obtain ⟨p, q, hA0, hV, rfl, hfz, hnd⟩ := hW
  have hA : DataW.TrodAll enc Try.prog W 0 (fun _ => true) true Try.f5.params.toList args.toList ds p := hA0
  rw [Try.params5] at hA hval hsz
  obtain ⟨v0, vs0, d0, ds0, p0, q0, hargs, rfl, rfl, h0, r0⟩ := trodAll_cons hA
  obtain ⟨v1, vs1, d1, ds1, p1, q1, rfl, rfl, rfl, h1, r1⟩ := trodAll_cons r0
  obtain ⟨v2, vs2, d2, ds2, p2, q2, rfl, rfl, rfl, h2, r2⟩ := trodAll_cons r1
  obtain ⟨rfl, rfl, rfl⟩ := trodAll_nil r2
  obtain rfl : args = #[v0, v1, v2] := by cases args; simp_all
  obtain ⟨rfl, rfl⟩ := trodVars_none hV
  obtain ⟨A0, n0, c0, rfl⟩ := okWide_slice Try.underlying28 (hval 0 28 v0 rfl rfl)
  have k0 := h0
  have lt0 : ∀ x ∈ p0, x.block < W.heap.size := by obtain ⟨m, hm⟩ := k0; exact DataW.trod_lt m _ _ _ hm
  obtain ⟨P0, S0, U0, b0⟩ := quotes_arg h0
  obtain ⟨a1, rfl, rfl, rfl, w1⟩ := open_int Try.underlying23 (hval 1 23 v1 rfl rfl) h1
  obtain ⟨a2, rfl, rfl, rfl, w2⟩ := open_int Try.underlying23 (hval 2 23 v2 rfl rfl) h2
  clear hA0 hval0 hsz0
  refine (walk A0 n0 c0 P0 S0 U0 a1 a2 W b0 w1 w2).mono fun e W' ⟨he, bel⟩ => ?_
  subst he
  exact ⟨_, rfl, _, _, _, [], _, [], hW', trodAll_mk1 (shut_bool Try.underlying4 _), (trodAll_cons_mk (Below.trod laidOut (by kernel_rfl) (of_decide_eq_true (by kernel_rfl)) k0 bel lt0) (trodAll_cons_mk (shut_int Try.underlying23 w1) (trodAll_cons_mk (shut_int Try.underlying23 w2) trodAll_mk0))), rfl, bel.frame _, fun h => by cases h⟩

/-- The statement. -/
theorem proved : Rows.BlackNextSaid :=
  OpenClaim.holds_of_wide 5 Try.f5 rfl rfl rfl rfl rfl rfl rfl ⟨rfl, rfl, rfl, rfl, rfl⟩ rfl rfl rfl rfl rfl (by kernel_rfl) Try.func5 (by kernel_rfl)
    (of_decide_eq_true (by kernel_rfl)) (by unfold Func.isWrapper; first | (rw [if_pos (by decide +kernel)]; kernel_rfl) | (rw [if_neg (by decide +kernel)]; exact ⟨rfl, rfl⟩))
    (fun os started H enc _ => lifted os started H enc)
end Go.Proofs.Ytgaeelhbdgpobaa.blackNext
