
/- Launched as Next tells, by weights of 1, from nothing on, demand and spot come to just what is wanted, and no further (up to 300): for every input the law returns true. No condition. -/
import Derived.Test.YtinkeeifndmalaaSplitL
namespace Go.Proofs.Ytinkeeifndmalaa.splitLaunches
open Go.ChangeShapes Go.WideShapes Go.ChangeAt Go.RowKit
open NumM NumA Mem Rec Split
set_option linter.unusedVariables false

theorem next_is (c : Cfg) (n d s : Int) (u v : Bool) (w : World) (hv : Hid (isSpotB c.base c.percent n d s = u ∧ okB c.base c.percent n d s = v)) :
    Calls Try.prog 10 #[c.val, .int .i64 n, .int .i64 d, .int .i64 s] w fun e w' => e = .returned (.tuple #[.bool u, .bool v]) ∧ Below w.heap.size w w' := by
  have h := next_any c n d s w
  rw [hv.out.1, hv.out.2] at h; exact h

/-- what is on demand behind k launches, and on spot -/
def dk (a : Int) (k : Nat) : Int := if (k : Int) < a then k else a
def sk (a : Int) (k : Nat) : Int := k - dk a k
def Laid (w wr : World) (g : Nat) (c : Cfg) : Prop := Hid (wr.heap[g]? = some (.cells c.cells 27 (0, 0))) ∧ Below w.heap.size w wr
theorem dk_bd {a : Int} {k : Nat} (h : 0 ≤ a) : 0 ≤ dk a k ∧ dk a k ≤ k ∧ dk a k ≤ a := by unfold dk; split <;> omega

theorem next_more {b p n a : Int} {k : Nat} (hr : reckB b p n = true) (ha : demV b p n = a) (hn : n ≤ 300) (h0 : 0 ≤ a) (hk : (k : Int) < n) : isSpotB b p n (dk a k) (sk a k) = decide (a ≤ (k : Int)) ∧ okB b p n (dk a k) (sk a k) = true := by
  have hd := dk_bd (k := k) h0
  have hok : okB b p n (dk a k) (sk a k) = true := by
    unfold okB mayB sk; rw [hr]; simp; omega
  refine ⟨?_, hok⟩
  unfold isSpotB; rw [hok, ha, Bool.true_and]
  exact decide_eq_decide.mpr (by unfold dk; split <;> omega)
theorem next_end {b p n a : Int} {k : Nat} (hk : ¬ (k : Int) < n) : isSpotB b p n (dk a k) (sk a k) = false ∧ okB b p n (dk a k) (sk a k) = false := by
  have hok : okB b p n (dk a k) (sk a k) = false := by
    unfold okB mayB sk; rw [decide_eq_false (p := dk a k + (↑k - dk a k) < n) (by omega)]; simp
  exact ⟨by unfold isSpotB; rw [hok]; rfl, hok⟩

set_option maxHeartbeats 2000000 in
theorem walk (a0 a1 a2 : Int) (w : World) (w0 : (Lit.int .u8 a0).wf = true) (w1 : (Lit.int .u8 a1).wf = true) (w2 : (Lit.int .u16 a2).wf = true) :
    Calls Try.prog 6 #[.int .u8 a0, .int .u8 a1, .int .u16 a2] w fun e w' => e = .returned (.bool true) ∧ Below w.heap.size w w' := by
  obtain ⟨_, _⟩ := bounds_u8 w0
  obtain ⟨_, _⟩ := bounds_u8 w1
  obtain ⟨_, _⟩ := bounds_u16 w2
  clear w0 w1 w2
  have hr : reckB a0 (a1 % 101) (a2 % 301) = true := by unfold reckB; exact decide_eq_true (by omega)
  have hb := dem_bd hr
  have hs : spoV a0 (a1 % 101) (a2 % 301) = a2 % 301 - demV a0 (a1 % 101) (a2 % 301) := by unfold spoV demV; rw [if_pos hr, if_pos hr]; omega
  have H1 := Lib.hid (Cfg.one (Cfg.with_ a0 (a1 % 101)))
  generalize ha : demV a0 (a1 % 101) (a2 % 301) = a at *
  have HW : Hid (demV (Cfg.with_ a0 (a1 % 101)).base (Cfg.with_ a0 (a1 % 101)).percent (a2 % 301) = a ∧ spoV (Cfg.with_ a0 (a1 % 101)).base (Cfg.with_ a0 (a1 % 101)).percent (a2 % 301) = a2 % 301 - a) := Lib.hid ⟨ha, hs⟩
  have HR := Lib.hid hr
  have HA := Lib.hid ha
  clear hs hr ha
  obtain ⟨b1, b2, _⟩ := hb
  go_enter Try.func6, Try.ntmps6
  go_wp2_with fail
  refine (with_any _ _ _).mono ?_; rintro e w1 ⟨rfl, B1⟩
  go_wp2_with (first
      | (refine store_new rfl 27 _ _ rfl (Cfg.with_ a0 (a1 % 101)).cells _ _ rfl rfl (infoCfg.trans rfl) rfl H1.out ?_))
  have L0 : Laid w (w1.alloc (.cells (Cfg.with_ a0 (a1 % 101)).cells 27)) w1.heap.size (Cfg.with_ a0 (a1 % 101)) := ⟨Lib.hid (heap_alloc_new _ _), bAlloc B1 _⟩
  go_loopw [9, 10, 11] (fun d s i wr => ∃ k : Nat, (k : Int) ≤ a2 % 301 ∧ i = .int .i64 k ∧ d = .int .i64 (dk a k) ∧ s = .int .i64 (sk a k) ∧ Laid w wr w1.heap.size (Cfg.with_ a0 (a1 % 101))) (fun _ _ i _ => (a2 % 301 - intOf i).toNat)
  case atStart => exact ⟨0, by omega, rfl, by unfold dk; split <;> first | rfl | (have e : a = 0 := by omega); rw [e], by unfold sk dk; split <;> first | rfl | (have e : a = 0 := by omega); rw [e]; rfl, L0⟩
  case round =>
    obtain ⟨k, hk, rfl, rfl, rfl, gn, Bn⟩ := hrel
    have hd := dk_bd (k := k) b1
    obtain ⟨_, _, _⟩ := hd
    have hsk : 0 ≤ sk a k ∧ sk a k ≤ k := by unfold sk; omega
    obtain ⟨_, _⟩ := hsk
    by_cases hlt : (k : Int) < a2 % 301
    · obtain ⟨m1, m2⟩ := next_more HR.out HA.out (by omega) b1 hlt
      by_cases hka : a ≤ (k : Int)
      · have HN : Hid (isSpotB (Cfg.with_ a0 (a1 % 101)).base (Cfg.with_ a0 (a1 % 101)).percent (a2 % 301) (dk a k) (sk a k) = true ∧ okB (Cfg.with_ a0 (a1 % 101)).base (Cfg.with_ a0 (a1 % 101)).percent (a2 % 301) (dk a k) (sk a k) = true) := Lib.hid ⟨m1.trans (decide_eq_true hka), m2⟩
        have E1 : Hid (dk a k = dk a (k + 1)) := Lib.hid (by unfold dk; rw [if_neg (by omega), if_neg (by omega)])
        have E2 : Hid (sk a k + 1 = sk a (k + 1)) := Lib.hid (by unfold sk; rw [← E1.out]; omega)
        clear m1 m2
        go_wp2_with (first
      | (refine load_cfg rfl _ rfl _ rfl (Cfg.with_ a0 (a1 % 101)) _ _ (heap_alloc_new _ _) ?_)
      | (refine load_cfg rfl _ rfl _ rfl (Cfg.with_ a0 (a1 % 101)) _ _ (Hid.out (by assumption)) ?_)
      | (go_at_call 10; refine (next_is (Cfg.with_ a0 (a1 % 101)) _ _ _ _ _ _ HN).mono ?_; rintro e wn ⟨rfl, bn⟩; (first | (have gn := kept_hid bn (by assumption)) | (have gn := new_hid bn) | skip); (first | (have Bn : Below w.heap.size w _ := bTrans (by assumption) bn) | (have Bn : Below w.heap.size w _ := bTrans (bDrew (by assumption)) bn) | (have Bn : Below w.heap.size w _ := bTrans (bAlloc (by assumption) _) bn) | (have Bn : Below w.heap.size w _ := bTrans (bAlloc (bDrew (by assumption)) _) bn) | (have Bn : Below w.heap.size w _ := bTrans (bDrew (bAlloc (by assumption) _)) bn) | (have Bn : Below w.heap.size w _ := bTrans (Below.refl _ _) bn) | (have Bn : Below w.heap.size w _ := bTrans (bDrew (Below.refl _ _)) bn) | (have Bn : Below w.heap.size w _ := bTrans (bAlloc (Below.refl _ _) _) bn) | (have Bn : Below w.heap.size w _ := bTrans (bAlloc (bAlloc (Below.refl _ _) _) _) bn))))
        go_roundw
        case rel => exact ⟨k + 1, by omega, by go_num, by rw [E1.out], by rw [E2.out], gn, Bn⟩
        case measure => simp [intOf]; omega
      · have HN : Hid (isSpotB (Cfg.with_ a0 (a1 % 101)).base (Cfg.with_ a0 (a1 % 101)).percent (a2 % 301) (dk a k) (sk a k) = false ∧ okB (Cfg.with_ a0 (a1 % 101)).base (Cfg.with_ a0 (a1 % 101)).percent (a2 % 301) (dk a k) (sk a k) = true) := Lib.hid ⟨m1.trans (decide_eq_false hka), m2⟩
        have E1 : Hid (dk a k + 1 = dk a (k + 1)) := Lib.hid (by unfold dk; rw [if_pos (by omega)]; split <;> omega)
        have E2 : Hid (sk a k = sk a (k + 1)) := Lib.hid (by unfold sk; rw [← E1.out]; omega)
        clear m1 m2
        go_wp2_with (first
      | (refine load_cfg rfl _ rfl _ rfl (Cfg.with_ a0 (a1 % 101)) _ _ (heap_alloc_new _ _) ?_)
      | (refine load_cfg rfl _ rfl _ rfl (Cfg.with_ a0 (a1 % 101)) _ _ (Hid.out (by assumption)) ?_)
      | (go_at_call 10; refine (next_is (Cfg.with_ a0 (a1 % 101)) _ _ _ _ _ _ HN).mono ?_; rintro e wn ⟨rfl, bn⟩; (first | (have gn := kept_hid bn (by assumption)) | (have gn := new_hid bn) | skip); (first | (have Bn : Below w.heap.size w _ := bTrans (by assumption) bn) | (have Bn : Below w.heap.size w _ := bTrans (bDrew (by assumption)) bn) | (have Bn : Below w.heap.size w _ := bTrans (bAlloc (by assumption) _) bn) | (have Bn : Below w.heap.size w _ := bTrans (bAlloc (bDrew (by assumption)) _) bn) | (have Bn : Below w.heap.size w _ := bTrans (bDrew (bAlloc (by assumption) _)) bn) | (have Bn : Below w.heap.size w _ := bTrans (Below.refl _ _) bn) | (have Bn : Below w.heap.size w _ := bTrans (bDrew (Below.refl _ _)) bn) | (have Bn : Below w.heap.size w _ := bTrans (bAlloc (Below.refl _ _) _) bn) | (have Bn : Below w.heap.size w _ := bTrans (bAlloc (bAlloc (Below.refl _ _) _) _) bn))))
        go_roundw
        case rel => exact ⟨k + 1, by omega, by go_num, by rw [E1.out], by rw [E2.out], gn, Bn⟩
        case measure => simp [intOf]; omega
    · have HN : Hid (isSpotB (Cfg.with_ a0 (a1 % 101)).base (Cfg.with_ a0 (a1 % 101)).percent (a2 % 301) (dk a k) (sk a k) = false ∧ okB (Cfg.with_ a0 (a1 % 101)).base (Cfg.with_ a0 (a1 % 101)).percent (a2 % 301) (dk a k) (sk a k) = false) := Lib.hid (next_end hlt)
      have e1 : (dk a k == a) = true := by have : dk a k = a := by unfold dk; split <;> omega
                                           simpa using this
      have e2 : (sk a k == a2 % 301 - a) = true := by have : sk a k = a2 % 301 - a := by unfold sk dk; split <;> omega
                                                      simpa using this
      go_wp2_with (first
      | (refine load_cfg rfl _ rfl _ rfl (Cfg.with_ a0 (a1 % 101)) _ _ (heap_alloc_new _ _) ?_)
      | (refine load_cfg rfl _ rfl _ rfl (Cfg.with_ a0 (a1 % 101)) _ _ (Hid.out (by assumption)) ?_)
      | (go_at_call 10; refine (next_is (Cfg.with_ a0 (a1 % 101)) _ _ _ _ _ _ HN).mono ?_; rintro e wn ⟨rfl, bn⟩; (first | (have gn := kept_hid bn (by assumption)) | (have gn := new_hid bn) | skip); (first | (have Bn : Below w.heap.size w _ := bTrans (by assumption) bn) | (have Bn : Below w.heap.size w _ := bTrans (bDrew (by assumption)) bn) | (have Bn : Below w.heap.size w _ := bTrans (bAlloc (by assumption) _) bn) | (have Bn : Below w.heap.size w _ := bTrans (bAlloc (bDrew (by assumption)) _) bn) | (have Bn : Below w.heap.size w _ := bTrans (bDrew (bAlloc (by assumption) _)) bn) | (have Bn : Below w.heap.size w _ := bTrans (Below.refl _ _) bn) | (have Bn : Below w.heap.size w _ := bTrans (bDrew (Below.refl _ _)) bn) | (have Bn : Below w.heap.size w _ := bTrans (bAlloc (Below.refl _ _) _) bn) | (have Bn : Below w.heap.size w _ := bTrans (bAlloc (bAlloc (Below.refl _ _) _) _) bn)))
      | (go_at_call 8; refine (want_is (Cfg.with_ a0 (a1 % 101)) _ _ _ _ HW).mono ?_; rintro e wn ⟨rfl, bn⟩; (first | (have gn := kept_hid bn (by assumption)) | (have gn := new_hid bn) | skip); (first | (have Bn : Below w.heap.size w _ := bTrans (by assumption) bn) | (have Bn : Below w.heap.size w _ := bTrans (bDrew (by assumption)) bn) | (have Bn : Below w.heap.size w _ := bTrans (bAlloc (by assumption) _) bn) | (have Bn : Below w.heap.size w _ := bTrans (bAlloc (bDrew (by assumption)) _) bn) | (have Bn : Below w.heap.size w _ := bTrans (bDrew (bAlloc (by assumption) _)) bn) | (have Bn : Below w.heap.size w _ := bTrans (Below.refl _ _) bn) | (have Bn : Below w.heap.size w _ := bTrans (bDrew (Below.refl _ _)) bn) | (have Bn : Below w.heap.size w _ := bTrans (bAlloc (Below.refl _ _) _) bn) | (have Bn : Below w.heap.size w _ := bTrans (bAlloc (bAlloc (Below.refl _ _) _) _) bn)))
      | (go_at_call 16; refine (lives_any _).mono ?_; rintro e wn ⟨rfl, bn⟩; (first | (have gn := kept_hid bn (by assumption)) | (have gn := new_hid bn) | skip); (first | (have Bn : Below w.heap.size w _ := bTrans (by assumption) bn) | (have Bn : Below w.heap.size w _ := bTrans (bDrew (by assumption)) bn) | (have Bn : Below w.heap.size w _ := bTrans (bAlloc (by assumption) _) bn) | (have Bn : Below w.heap.size w _ := bTrans (bAlloc (bDrew (by assumption)) _) bn) | (have Bn : Below w.heap.size w _ := bTrans (bDrew (bAlloc (by assumption) _)) bn) | (have Bn : Below w.heap.size w _ := bTrans (Below.refl _ _) bn) | (have Bn : Below w.heap.size w _ := bTrans (bDrew (Below.refl _ _)) bn) | (have Bn : Below w.heap.size w _ := bTrans (bAlloc (Below.refl _ _) _) bn) | (have Bn : Below w.heap.size w _ := bTrans (bAlloc (bAlloc (Below.refl _ _) _) _) bn))))
      go_ret
      exact ⟨rfl, by assumption⟩

/-! The row's step, by the frame. -/
theorem own : ownKnob Try.prog.godebug = none := by kernel_rfl
theorem laidOut : laidOutB Try.prog = true := by kernel_rfl
set_option maxRecDepth 100000 in
theorem lifted (os : Os) (started : os.Started) (H : Type) (enc : TypeId × Value → H) :
    ReturnsInHanded {} Try.checked os 6 .any (Rows.splitLaunchesSpec.pre6 enc Try.prog Try.f6 Rows.splitLaunchesRow.domain false) (Rows.splitLaunchesSpec.post enc Try.prog Try.f6 false true false false) := by
  refine returnsInHanded_of_change_sized (C := Try.checked) own started (by kernel_rfl) Try.func6
    (ChangeSpec.witness6 (enc := enc) (C := Try.checked) false ⟨#[], #[.int .u8 0, .int .u8 0, .int .u16 0], []⟩ 8 (by kernel_rfl) (by kernel_rfl) (by kernel_rfl) (by kernel_rfl)) ?_
  intro W base args ds gs before hval0 hW _ hsz0 _
  have hsz : (DataW.weightsEach Try.prog (Try.f6.params.toList ++ Rows.splitLaunchesSpec.plain.varTypes Try.prog) (ds ++ gs)).all (· ≤ reachBytes) = true := hsz0
  have hval : ∀ (j : Nat) t v, Try.f6.params[j]? = some t → args[j]? = some v → Value.okWide Try.prog W .any base t v := hval0
  have hW' := hW
  obtain ⟨p, q, hA0, hV, rfl, hfz, hnd⟩ := hW
  have hA : DataW.TrodAll enc Try.prog W 0 (fun _ => true) true Try.f6.params.toList args.toList ds p := hA0
  rw [Try.params6] at hA hval hsz
  obtain ⟨v0, vs0, d0, ds0, p0, q0, hargs, rfl, rfl, h0, r0⟩ := trodAll_cons hA
  obtain ⟨v1, vs1, d1, ds1, p1, q1, rfl, rfl, rfl, h1, r1⟩ := trodAll_cons r0
  obtain ⟨v2, vs2, d2, ds2, p2, q2, rfl, rfl, rfl, h2, r2⟩ := trodAll_cons r1
  obtain ⟨rfl, rfl, rfl⟩ := trodAll_nil r2
  obtain rfl : args = #[v0, v1, v2] := by cases args; simp_all
  obtain ⟨rfl, rfl⟩ := trodVars_none hV
  obtain ⟨a0, rfl, rfl, rfl, w0⟩ := open_int Try.underlying5 (hval 0 5 v0 rfl rfl) h0
  obtain ⟨a1, rfl, rfl, rfl, w1⟩ := open_int Try.underlying5 (hval 1 5 v1 rfl rfl) h1
  obtain ⟨a2, rfl, rfl, rfl, w2⟩ := open_int Try.underlying40 (hval 2 40 v2 rfl rfl) h2
  clear hA0 hval0 hsz0
  refine (walk a0 a1 a2 W w0 w1 w2).mono fun e W' ⟨he, bel⟩ => ?_
  subst he
  exact ⟨_, rfl, _, _, _, [], _, [], hW', trodAll_mk1 (shut_bool Try.underlying4 _), (trodAll_cons_mk (shut_int Try.underlying5 w0) (trodAll_cons_mk (shut_int Try.underlying5 w1) (trodAll_cons_mk (shut_int Try.underlying40 w2) trodAll_mk0))), rfl, bel.frame _, fun h => by cases h⟩

/-- The statement. -/
theorem proved : Rows.SplitLaunchesSaid :=
  OpenClaim.holds_of_wide 6 Try.f6 rfl rfl rfl rfl rfl rfl rfl ⟨rfl, rfl, rfl, rfl, rfl⟩ rfl rfl rfl rfl rfl (by kernel_rfl) Try.func6 (by kernel_rfl)
    (of_decide_eq_true (by kernel_rfl)) (by unfold Func.isWrapper; first | (rw [if_pos (by decide +kernel)]; kernel_rfl) | (rw [if_neg (by decide +kernel)]; exact ⟨rfl, rfl⟩))
    (fun os started H enc _ => lifted os started H enc)
end Go.Proofs.Ytinkeeifndmalaa.splitLaunches
