
/- What the statements of layer 24 build; the numbers that the document tells. -/
import Derived.Test.YtgfiimllehmnoaaWantM
namespace Go.Proofs.Ytgfiimllehmnoaa.Want
open Go.ChangeShapes Go.WideShapes Go.ChangeAt Go.RowKit
open NumM NumA Mem Arr Rec

/-- a configuration of Min, Max, Target and Cool alone -/
def steadyC (lo hi tg cl : Int) : Cfg := ⟨none, 0, 0, 0, 0, false, lo, hi, 0, 0, 0, 0, 0, 0, 0, 0, 0, cl, false, tg, none, 0, 0, none, 0, 0⟩
theorem conf_any (w : World) :
    Calls Try.prog 8 #[] w fun e w' => e = .returned (steadyC 1 10 50 5).val ∧ Below w.heap.size w w' := by
  have H1 := Lib.hid (Cfg.one (steadyC 1 10 50 5))
  go_enter Try.func8, Try.ntmps8
  go_wp2_with (first | (refine store_new rfl 27 _ _ rfl (steadyC 1 10 50 5).cells _ _ rfl rfl (infoCfg.trans rfl) rfl H1.out ?_))
  refine bodyPost_ret (v := (steadyC 1 10 50 5).val) (results_cell_row rfl _ _ w.heap.size _ (steadyC 1 10 50 5).cells _ _ rfl (heap_alloc_new _ _) Try.underlying27 rfl (infoCfg.trans rfl)) rfl ⟨rfl, ?_⟩
  repeat (first | exact Below.refl _ _ | refine bAlloc ?_ _)
theorem great_any (c : Cfg) (t : Bool) (w : World) (h1 : c.bN ≤ 9223372036854775807) (h2 : c.lN ≤ 9223372036854775807) (ht : Hid (decide (100 < c.bN ∨ 100 < c.lN) = t)) :
    Calls Try.prog 5 #[c.val] w fun e w' => e = .returned (.bool t) ∧ Below w.heap.size w w' := by
  have f18 := c.f18
  have f19 := c.f19
  by_cases hb : 100 < c.bN
  · have HT : Hid (t = true) := Lib.hid (by rw [← ht.out]; simp [hb])
    clear ht
    go_enter Try.func5, Try.ntmps5
    go_wp2
    go_ret
    exact ⟨ret_bool HT.out.symm, bAlloc (Below.refl _ _) _⟩
  · have HT : Hid ((decide ((100 : Int) < (c.bN : Int)) || decide ((100 : Int) < (c.lN : Int))) = t) := Lib.hid (by
      rw [← ht.out, Bool.eq_iff_iff]; simp; omega)
    have HT' : Hid (decide ((100 : Int) < (c.lN : Int)) = t) := Lib.hid (by
      rw [← ht.out, Bool.eq_iff_iff]; simp; omega)
    clear ht hb
    go_enter Try.func5, Try.ntmps5
    go_wp2
    all_goals
      go_ret
      exact ⟨by first | exact ret_bool HT.out | exact ret_bool HT'.out | exact ret_bool (by rw [← HT.out]; simp; omega), bAlloc (Below.refl _ _) _⟩
theorem set_in (c : Cfg) (n : Int) (w : World) (h : 0 ≤ n ∧ n ≤ 65536) :
    Calls Try.prog 9 #[c.val, .int .i64 n] w fun e w' => e = .returned (.tuple #[.int .i64 (clampV n c.min c.max), .int .i64 0]) ∧ Below w.heap.size w w' := by
  have W1 : Hid (decide (0 ≤ n ∧ n ≤ 65536) = true) := Lib.hid (decide_eq_true h)
  clear h
  go_enter Try.func9, Try.ntmps9
  go_wp2_with (first | (refine load_cfg rfl _ rfl _ rfl c _ _ (heap_alloc_new _ _) ?_) | (go_at_call 10; refine (within_is _ _ _ _ W1 _).mono ?_; rintro e w1 ⟨rfl, rfl⟩) | (go_at_call 11; refine (goes_told _ _ _ _).mono ?_; rintro e w2 ⟨rfl, hb⟩))
  go_ret2
  exact ⟨rfl, bTrans (bAlloc (Below.refl _ _) _) hb⟩
theorem set_out (c : Cfg) (n : Int) (w : World) (h : ¬ (0 ≤ n ∧ n ≤ 65536)) :
    Calls Try.prog 9 #[c.val, .int .i64 n] w fun e w' => e = .returned (.tuple #[.int .i64 0, .int .i64 2]) ∧ Below w.heap.size w w' := by
  have W1 : Hid (decide (0 ≤ n ∧ n ≤ 65536) = false) := Lib.hid (decide_eq_false h)
  clear h
  go_enter Try.func9, Try.ntmps9
  go_wp2_with (first | (go_at_call 10; refine (within_is _ _ _ _ W1 _).mono ?_; rintro e w1 ⟨rfl, rfl⟩))
  go_ret2
  exact ⟨rfl, bAlloc (Below.refl _ _) _⟩

theorem met_go {F G : Nat → Int} {c : Cfg} {d u now m n t f v : Int} (h : Met F G c d u now m n t f) (hb : ¬ badM c d u now m) (hs : ¬ staysM c u now) (he : folE F G c d m = 0) (hv : clampV (folV F G c d m) c.min c.max = v) :
    n = v ∧ f = 0 ∧ (v ≠ d ∧ t = now + c.cool ∨ v = d ∧ t = u) := by
  rcases h with ⟨h, _⟩ | ⟨_, h, _⟩ | ⟨_, _, h, _⟩ | ⟨_, _, _, h1, h2, h3⟩
  · exact absurd h hb
  · exact absurd h hs
  · exact absurd he h
  · rw [hv] at h1; subst h1; exact ⟨rfl, h2, h3⟩
theorem met_stay {F G : Nat → Int} {c : Cfg} {d u now m n t f : Int} (h : Met F G c d u now m n t f) (hb : ¬ badM c d u now m) (hs : staysM c u now) : n = d ∧ t = u ∧ f = 0 := by
  rcases h with ⟨h, _⟩ | ⟨_, _, h⟩ | ⟨_, h, _⟩ | ⟨_, h, _⟩
  · exact absurd h hb
  · exact h
  · exact absurd hs h
  · exact absurd hs h
theorem no_bands (w : World) (c : Cfg) (h' : c.bN = 0) : Stair.Bands w w.heap.size c.bA c.bN (fun _ => 0) (fun _ => 0) := ⟨fun _ => h', fun h0 => absurd h0 (by omega)⟩
theorem metric_val (c : Cfg) (d u now m v t : Int) (w : World) (hN : c.bN = 0) (hu : 0 ≤ u) (hnow : 0 ≤ now) (hcool : 0 ≤ c.cool)
    (hv : ∀ n t' f, Met (fun _ => 0) (fun _ => 0) c d u now m n t' f → n = v ∧ t' = t ∧ f = 0) :
    Calls Try.prog 7 #[c.val, .int .i64 d, .int .u64 u, .int .u64 now, .int .i64 m] w fun e w' => e = .returned (.tuple #[.int .i64 v, .int .u64 t, .int .i64 0]) ∧ Below w.heap.size w w' :=
  (metric_any c _ _ d u now m w (no_bands w c hN) (by omega) hu hnow hcool).mono fun e w' ⟨n, t', f, he, hM, hb⟩ => by
    obtain ⟨rfl, rfl, rfl⟩ := hv n t' f hM
    exact ⟨he, hb⟩
theorem m1 (w : World) : Calls Try.prog 7 #[(steadyC 1 10 50 5).val, .int .i64 4, .int .u64 0, .int .u64 3, .int .i64 100] w fun e w' => e = .returned (.tuple #[.int .i64 8, .int .u64 8, .int .i64 0]) ∧ Below w.heap.size w w' :=
  metric_val _ _ _ _ _ _ _ w rfl (by omega) (by omega) (by decide) fun n t' f h => by
    obtain ⟨h1, h2, h3⟩ := met_go (v := 8) h (by unfold badM; simp [steadyC]) (by unfold staysM; simp [steadyC]) ((if_pos rfl).trans (by decide)) (by
      have e : folV (fun _ => 0) (fun _ => 0) (steadyC 1 10 50 5) 4 100 = 8 := (if_pos rfl).trans (by decide)
      rw [e]; decide)
    rcases h3 with ⟨_, h3⟩ | ⟨h3, _⟩
    · exact ⟨h1, h3.trans (by decide), h2⟩
    · omega
theorem m2 (w : World) : Calls Try.prog 7 #[(steadyC 1 10 50 5).val, .int .i64 8, .int .u64 8, .int .u64 7, .int .i64 100] w fun e w' => e = .returned (.tuple #[.int .i64 8, .int .u64 8, .int .i64 0]) ∧ Below w.heap.size w w' :=
  metric_val _ _ _ _ _ _ _ w rfl (by omega) (by omega) (by decide) fun n t' f h => met_stay h (by unfold badM; simp [steadyC]) (by unfold staysM; simp [steadyC])
theorem m3 (w : World) : Calls Try.prog 7 #[(steadyC 1 10 50 5).val, .int .i64 8, .int .u64 8, .int .u64 8, .int .i64 100] w fun e w' => e = .returned (.tuple #[.int .i64 10, .int .u64 13, .int .i64 0]) ∧ Below w.heap.size w w' :=
  metric_val _ _ _ _ _ _ _ w rfl (by omega) (by omega) (by decide) fun n t' f h => by
    obtain ⟨h1, h2, h3⟩ := met_go (v := 10) h (by unfold badM; simp [steadyC]) (by unfold staysM; simp [steadyC]) ((if_pos rfl).trans (by decide)) (by
      have e : folV (fun _ => 0) (fun _ => 0) (steadyC 1 10 50 5) 8 100 = 16 := (if_pos rfl).trans (by decide)
      rw [e]; decide)
    rcases h3 with ⟨_, h3⟩ | ⟨h3, _⟩
    · exact ⟨h1, h3.trans (by decide), h2⟩
    · omega
theorem s1 (w : World) : Calls Try.prog 9 #[(steadyC 1 10 50 5).val, .int .i64 99] w fun e w' => e = .returned (.tuple #[.int .i64 10, .int .i64 0]) ∧ Below w.heap.size w w' := set_in (steadyC 1 10 50 5) 99 w (by omega)
theorem s2 (w : World) : Calls Try.prog 9 #[(steadyC 1 10 50 5).val, .int .i64 (-1)] w fun e w' => e = .returned (.tuple #[.int .i64 0, .int .i64 2]) ∧ Below w.heap.size w w' := set_out (steadyC 1 10 50 5) (-1) w (by omega)
theorem lives_any (w : World) : Calls Try.prog 6 #[] w fun e w' => e = .returned (.bool true) ∧ Below w.heap.size w w' := by
  go_enter Try.func6, Try.ntmps6
  go_wp2_with fail
  refine (conf_any _).mono ?_; rintro e w1 ⟨rfl, b1⟩
  go_wp2_with fail
  refine (m1 _).mono ?_; rintro e w2 ⟨rfl, b2⟩
  go_wp2_with fail
  refine (conf_any _).mono ?_; rintro e w3 ⟨rfl, b3⟩
  go_wp2_with fail
  refine (m2 _).mono ?_; rintro e w4 ⟨rfl, b4⟩
  go_wp2_with fail
  refine (conf_any _).mono ?_; rintro e w5 ⟨rfl, b5⟩
  go_wp2_with fail
  refine (m3 _).mono ?_; rintro e w6 ⟨rfl, b6⟩
  go_wp2_with fail
  refine (conf_any _).mono ?_; rintro e w7 ⟨rfl, b7⟩
  go_wp2_with fail
  refine (s1 _).mono ?_; rintro e w8 ⟨rfl, b8⟩
  go_wp2_with fail
  refine (conf_any _).mono ?_; rintro e w9 ⟨rfl, b9⟩
  go_wp2_with fail
  refine (s2 _).mono ?_; rintro e w10 ⟨rfl, b10⟩
  go_wp2
  go_ret
  exact ⟨rfl, bTrans (bTrans (bTrans (bTrans (bTrans (bTrans (bTrans (bTrans (bTrans b1 b2) b3) b4) b5) b6) b7) b8) b9) b10⟩
end Go.Proofs.Ytgfiimllehmnoaa.Want
