
/- The contract of what a metric comes to. -/
import Derived.Test.YtgfiimllehmnoaaWant
namespace Go.Proofs.Ytgfiimllehmnoaa.Want
open Go.ChangeShapes Go.WideShapes Go.ChangeAt Go.RowKit
open NumM NumA Mem Arr Rec

def badM (c : Cfg) (d u now m : Int) : Prop := m < 0 ∨ 1048576 < m ∨ c.target < 0 ∨ 1048576 < c.target ∨ d < 0 ∨ 65536 < d ∨ 1099511693312 < u ∨ 1099511693312 < now ∨ 65536 < c.cool
def staysM (c : Cfg) (u now : Int) : Prop := c.target = 0 ∨ now < u
/-- what a metric comes to: n, until t, the error f -/
def Met (F G : Nat → Int) (c : Cfg) (d u now m n t f : Int) : Prop :=
  (badM c d u now m ∧ n = 0 ∧ t = 0 ∧ f = 2) ∨ (¬ badM c d u now m ∧ staysM c u now ∧ n = d ∧ t = u ∧ f = 0) ∨
  (¬ badM c d u now m ∧ ¬ staysM c u now ∧ folE F G c d m ≠ 0 ∧ n = 0 ∧ t = 0 ∧ f = folE F G c d m) ∨
  (¬ badM c d u now m ∧ ¬ staysM c u now ∧ folE F G c d m = 0 ∧ n = clampV (folV F G c d m) c.min c.max ∧ f = 0 ∧ (n ≠ d ∧ t = now + c.cool ∨ n = d ∧ t = u))
theorem goes_is (c : Cfg) (F G : Nat → Int) (n m v f : Int) (w : World) (h : Stair.Bands w w.heap.size c.bA c.bN F G) (hb : c.bN ≤ 9223372036854775807) (hn : n ≤ 9223372036854775807) (hm : m ≤ 9223372036854775807) (hv : Hid ((if folE F G c n m = 0 then clampV (folV F G c n m) c.min c.max else 0) = v ∧ folE F G c n m = f)) :
    Calls Try.prog 11 #[c.val, .int .i64 1, .int .i64 n, .int .i64 m] w fun e w' => e = .returned (.tuple #[.int .i64 v, .int .i64 f]) ∧ Below w.heap.size w w' := by
  have := goes_follows c F G n m w h hb hn hm
  rw [hv.out.1, hv.out.2] at this; exact this
theorem ret_met {F G : Nat → Int} {c : Cfg} {d u now m n t f : Int} {w w' : World} (h : Met F G c d u now m n t f) (hb : Below w.heap.size w w') : ∃ n' t' f', Ending.returned (.tuple #[.int .i64 n, .int .u64 t, .int .i64 f]) = .returned (.tuple #[.int .i64 n', .int .u64 t', .int .i64 f']) ∧ Met F G c d u now m n' t' f' ∧ Below w.heap.size w w' := ⟨n, t, f, rfl, h, hb⟩

set_option maxHeartbeats 4000000 in
theorem metric_any (c : Cfg) (F G : Nat → Int) (d u now m : Int) (w : World) (h : Stair.Bands w w.heap.size c.bA c.bN F G) (hb : c.bN ≤ 9223372036854775807) (hu : 0 ≤ u) (hnow : 0 ≤ now) (hcool : 0 ≤ c.cool) :
    Calls Try.prog 7 #[c.val, .int .i64 d, .int .u64 u, .int .u64 now, .int .i64 m] w fun e w' => ∃ n t f, e = .returned (.tuple #[.int .i64 n, .int .u64 t, .int .i64 f]) ∧ Met F G c d u now m n t f ∧ Below w.heap.size w w' := by
  have f15 := c.f15
  have f17 := c.f17
  have H := Lib.hid (h.later (later1 (.cells c.cells 27)))
  clear h
  by_cases q1 : 0 ≤ m ∧ m ≤ 1048576
  · have W1 : Hid (decide (0 ≤ m ∧ m ≤ 1048576) = true) := Lib.hid (decide_eq_true q1)
    by_cases q2 : 0 ≤ c.target ∧ c.target ≤ 1048576
    · have W2 : Hid (decide (0 ≤ c.target ∧ c.target ≤ 1048576) = true) := Lib.hid (decide_eq_true q2)
      by_cases q3 : 0 ≤ d ∧ d ≤ 65536
      · have W3 : Hid (decide (0 ≤ d ∧ d ≤ 65536) = true) := Lib.hid (decide_eq_true q3)
        by_cases q4 : u ≤ 1099511693312
        · skip
          by_cases q5 : now ≤ 1099511693312
          · skip
            by_cases q6 : c.cool ≤ 65536
            · skip
              have nb : ¬ badM c d u now m := by unfold badM; omega
              have NB := Lib.hid nb
              clear nb
              obtain ⟨_, _⟩ := q1
              obtain ⟨_, _⟩ := q2
              obtain ⟨_, _⟩ := q3
              by_cases s1 : c.target = 0
              · have f17' : c.cells[17]? = some (.int .i64 0) := by rw [f17, s1]
                have HS : Hid (staysM c u now) := Lib.hid (.inl s1)
                rw [s1] at W2
                clear f17 s1
                go_enter Try.func7, Try.ntmps7
                go_wp2_with fail
                refine (within_is _ _ _ _ W1 _).mono ?_; rintro e w1 ⟨rfl, rfl⟩
                go_wp2_with fail
                refine (within_is _ _ _ _ W2 _).mono ?_; rintro e w1 ⟨rfl, rfl⟩
                go_wp2_with fail
                refine (within_is _ _ _ _ W3 _).mono ?_; rintro e w1 ⟨rfl, rfl⟩
                go_wp2_with (first | (refine load_cfg rfl _ rfl _ rfl c _ _ (heap_alloc_new _ _) ?_) | (go_at_call 11; refine (goes_stays _ _ _ _).mono ?_; rintro e w1 ⟨rfl, hb1⟩))
                go_ret3
                exact ret_met (.inr (.inl ⟨NB.out, HS.out, rfl, rfl, rfl⟩)) (bTrans (bAlloc (Below.refl _ _) _) hb1)
              · have z1 : (c.target == 0) = false := by simpa using s1
                by_cases s2 : now < u
                · have HS : Hid (staysM c u now) := Lib.hid (.inr s2)
                  clear s1
                  go_enter Try.func7, Try.ntmps7
                  go_wp2_with fail
                  refine (within_is _ _ _ _ W1 _).mono ?_; rintro e w1 ⟨rfl, rfl⟩
                  go_wp2_with fail
                  refine (within_is _ _ _ _ W2 _).mono ?_; rintro e w1 ⟨rfl, rfl⟩
                  go_wp2_with fail
                  refine (within_is _ _ _ _ W3 _).mono ?_; rintro e w1 ⟨rfl, rfl⟩
                  go_wp2_with (first | (refine load_cfg rfl _ rfl _ rfl c _ _ (heap_alloc_new _ _) ?_) | (go_at_call 11; refine (goes_stays _ _ _ _).mono ?_; rintro e w1 ⟨rfl, hb1⟩))
                  go_ret3
                  exact ret_met (.inr (.inl ⟨NB.out, HS.out, rfl, rfl, rfl⟩)) (bTrans (bAlloc (Below.refl _ _) _) hb1)
                · have HS : Hid (¬ staysM c u now) := Lib.hid (by unfold staysM; omega)
                  clear s1
                  by_cases s3 : folE F G c d m = 0
                  · have S3 := Lib.hid s3
                    generalize hv : clampV (folV F G c d m) c.min c.max = v
                    have HV : Hid ((if folE F G c d m = 0 then clampV (folV F G c d m) c.min c.max else 0) = v ∧ folE F G c d m = 0) := Lib.hid ⟨by rw [if_pos s3, hv], s3⟩
                    have EV := Lib.hid hv
                    clear s3 hv
                    by_cases s4 : v = d
                    · have E4 := Lib.hid s4
                      have z4 : (v != d) = false := by simpa using s4
                      clear s4
                      go_enter Try.func7, Try.ntmps7
                      go_wp2_with fail
                      refine (within_is _ _ _ _ W1 _).mono ?_; rintro e w1 ⟨rfl, rfl⟩
                      go_wp2_with fail
                      refine (within_is _ _ _ _ W2 _).mono ?_; rintro e w1 ⟨rfl, rfl⟩
                      go_wp2_with fail
                      refine (within_is _ _ _ _ W3 _).mono ?_; rintro e w1 ⟨rfl, rfl⟩
                      go_wp2_with (first | (refine load_cfg rfl _ rfl _ rfl c _ _ (heap_alloc_new _ _) ?_) | (go_at_call 11; refine (goes_is _ _ _ _ _ _ _ _ H.out hb (by omega) (by omega) HV).mono ?_; rintro e w1 ⟨rfl, hb1⟩; have g15 := (box_cell hb1 15).trans c.f15))
                      go_ret3
                      exact ret_met (.inr (.inr (.inr ⟨NB.out, HS.out, S3.out, EV.out.symm, rfl, .inr ⟨E4.out, rfl⟩⟩))) (bTrans (bAlloc (Below.refl _ _) _) hb1)
                    · have E4 := Lib.hid s4
                      have z4 : (v != d) = true := by simpa using s4
                      clear s4
                      go_enter Try.func7, Try.ntmps7
                      go_wp2_with fail
                      refine (within_is _ _ _ _ W1 _).mono ?_; rintro e w1 ⟨rfl, rfl⟩
                      go_wp2_with fail
                      refine (within_is _ _ _ _ W2 _).mono ?_; rintro e w1 ⟨rfl, rfl⟩
                      go_wp2_with fail
                      refine (within_is _ _ _ _ W3 _).mono ?_; rintro e w1 ⟨rfl, rfl⟩
                      go_wp2_with (first | (refine load_cfg rfl _ rfl _ rfl c _ _ (heap_alloc_new _ _) ?_) | (go_at_call 11; refine (goes_is _ _ _ _ _ _ _ _ H.out hb (by omega) (by omega) HV).mono ?_; rintro e w1 ⟨rfl, hb1⟩; have g15 := (box_cell hb1 15).trans c.f15))
                      go_ret3
                      exact ret_met (.inr (.inr (.inr ⟨NB.out, HS.out, S3.out, EV.out.symm, rfl, .inl ⟨E4.out, rfl⟩⟩))) (bTrans (bAlloc (Below.refl _ _) _) hb1)
                  · have S3 := Lib.hid s3
                    generalize hf : folE F G c d m = f at *
                    have z3 : (f != 0) = true := by simpa using s3
                    have HV : Hid ((if folE F G c d m = 0 then clampV (folV F G c d m) c.min c.max else 0) = 0 ∧ folE F G c d m = f) := Lib.hid ⟨by rw [hf, if_neg s3], hf⟩
                    have HF := Lib.hid hf
                    clear s3 hf
                    go_enter Try.func7, Try.ntmps7
                    go_wp2_with fail
                    refine (within_is _ _ _ _ W1 _).mono ?_; rintro e w1 ⟨rfl, rfl⟩
                    go_wp2_with fail
                    refine (within_is _ _ _ _ W2 _).mono ?_; rintro e w1 ⟨rfl, rfl⟩
                    go_wp2_with fail
                    refine (within_is _ _ _ _ W3 _).mono ?_; rintro e w1 ⟨rfl, rfl⟩
                    go_wp2_with (first | (refine load_cfg rfl _ rfl _ rfl c _ _ (heap_alloc_new _ _) ?_) | (go_at_call 11; refine (goes_is _ _ _ _ _ _ _ _ H.out hb (by omega) (by omega) HV).mono ?_; rintro e w1 ⟨rfl, hb1⟩))
                    go_ret3
                    exact ret_met (.inr (.inr (.inl ⟨NB.out, HS.out, by rw [HF.out]; exact S3.out, rfl, rfl, HF.out.symm⟩))) (bTrans (bAlloc (Below.refl _ _) _) hb1)
            · have HB : Hid (badM c d u now m) := Lib.hid (by unfold badM; omega)
              go_enter Try.func7, Try.ntmps7
              go_wp2_with fail
              refine (within_is _ _ _ _ W1 _).mono ?_; rintro e w1 ⟨rfl, rfl⟩
              go_wp2_with fail
              refine (within_is _ _ _ _ W2 _).mono ?_; rintro e w1 ⟨rfl, rfl⟩
              go_wp2_with fail
              refine (within_is _ _ _ _ W3 _).mono ?_; rintro e w1 ⟨rfl, rfl⟩
              go_wp2
              go_ret3
              exact ret_met (.inl ⟨HB.out, rfl, rfl, rfl⟩) (bAlloc (Below.refl _ _) _)
          · have HB : Hid (badM c d u now m) := Lib.hid (by unfold badM; omega)
            go_enter Try.func7, Try.ntmps7
            go_wp2_with fail
            refine (within_is _ _ _ _ W1 _).mono ?_; rintro e w1 ⟨rfl, rfl⟩
            go_wp2_with fail
            refine (within_is _ _ _ _ W2 _).mono ?_; rintro e w1 ⟨rfl, rfl⟩
            go_wp2_with fail
            refine (within_is _ _ _ _ W3 _).mono ?_; rintro e w1 ⟨rfl, rfl⟩
            go_wp2
            go_ret3
            exact ret_met (.inl ⟨HB.out, rfl, rfl, rfl⟩) (bAlloc (Below.refl _ _) _)
        · have HB : Hid (badM c d u now m) := Lib.hid (by unfold badM; omega)
          go_enter Try.func7, Try.ntmps7
          go_wp2_with fail
          refine (within_is _ _ _ _ W1 _).mono ?_; rintro e w1 ⟨rfl, rfl⟩
          go_wp2_with fail
          refine (within_is _ _ _ _ W2 _).mono ?_; rintro e w1 ⟨rfl, rfl⟩
          go_wp2_with fail
          refine (within_is _ _ _ _ W3 _).mono ?_; rintro e w1 ⟨rfl, rfl⟩
          go_wp2
          go_ret3
          exact ret_met (.inl ⟨HB.out, rfl, rfl, rfl⟩) (bAlloc (Below.refl _ _) _)
      · have W3 : Hid (decide (0 ≤ d ∧ d ≤ 65536) = false) := Lib.hid (decide_eq_false q3)
        have HB : Hid (badM c d u now m) := Lib.hid (by unfold badM; omega)
        clear q3
        go_enter Try.func7, Try.ntmps7
        go_wp2_with fail
        refine (within_is _ _ _ _ W1 _).mono ?_; rintro e w1 ⟨rfl, rfl⟩
        go_wp2_with fail
        refine (within_is _ _ _ _ W2 _).mono ?_; rintro e w1 ⟨rfl, rfl⟩
        go_wp2_with fail
        refine (within_is _ _ _ _ W3 _).mono ?_; rintro e w1 ⟨rfl, rfl⟩
        go_wp2
        go_ret3
        exact ret_met (.inl ⟨HB.out, rfl, rfl, rfl⟩) (bAlloc (Below.refl _ _) _)
    · have W2 : Hid (decide (0 ≤ c.target ∧ c.target ≤ 1048576) = false) := Lib.hid (decide_eq_false q2)
      have HB : Hid (badM c d u now m) := Lib.hid (by unfold badM; omega)
      clear q2
      go_enter Try.func7, Try.ntmps7
      go_wp2_with fail
      refine (within_is _ _ _ _ W1 _).mono ?_; rintro e w1 ⟨rfl, rfl⟩
      go_wp2_with fail
      refine (within_is _ _ _ _ W2 _).mono ?_; rintro e w1 ⟨rfl, rfl⟩
      go_wp2
      go_ret3
      exact ret_met (.inl ⟨HB.out, rfl, rfl, rfl⟩) (bAlloc (Below.refl _ _) _)
  · have W1 : Hid (decide (0 ≤ m ∧ m ≤ 1048576) = false) := Lib.hid (decide_eq_false q1)
    have HB : Hid (badM c d u now m) := Lib.hid (by unfold badM; omega)
    clear q1
    go_enter Try.func7, Try.ntmps7
    go_wp2_with fail
    refine (within_is _ _ _ _ W1 _).mono ?_; rintro e w1 ⟨rfl, rfl⟩
    go_wp2
    go_ret3
    exact ret_met (.inl ⟨HB.out, rfl, rfl, rfl⟩) (bAlloc (Below.refl _ _) _)
end Go.Proofs.Ytgfiimllehmnoaa.Want
