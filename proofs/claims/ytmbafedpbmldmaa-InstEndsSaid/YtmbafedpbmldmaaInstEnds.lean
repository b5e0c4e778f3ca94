
/- One that serves and is noticed serves no more, and its end is asked for once, when its spans are over: the law returns true. -/
import Derived.Test.YtmbafedpbmldmaaIdH
import Derived.Test.YtmbafedpbmldmaaArg0
import Derived.Test.YtmbafedpbmldmaaEqI
namespace Go.Proofs.Ytmbafedpbmldmaa.instEnds
open Go.ChangeShapes Go.WideShapes Go.ChangeAt Go.RowKit
open Mem Arr Lst Rec Inst Grown Opens St0 Does ArgI
attribute [local go_sem] Oper.semAt_some
attribute [local go_sem ↓] exec_ins Go.wp_at_zero Go.wp_at_succ
set_option linter.unusedVariables false
set_option linter.unusedSimpArgs false
theorem may_is (x : Ins) (v : Bool) (hv : okB x = v) (w : World) : Calls Try.prog 9 #[x.val] w fun e w' => e = .returned (.bool v) ∧ Below w.heap.size w w' := by
  have := may_any x w; rw [hv] at this; exact this
theorem serves_is (x : Ins) (v : Bool) (hv : servesB x = v) (w : World) : Calls Try.prog 14 #[x.val] w fun e w' => e = .returned (.bool v) ∧ Below w.heap.size w w' := by
  have := serves_any x w; rw [hv] at this; exact this
theorem do_is (x : Ins) (what now at_ : Int) (c : Cfg) (h : In0 now at_ c) (a : Ins) (k e : Int) (ha : doV x what now at_ c = ⟨a, k, e⟩) (w : World) : Calls Try.prog 7 #[x.val, .int .u8 what, .int .u64 now, .int .u64 at_, c.val] w fun r w' => r = .returned (.tuple #[a.val, .int .u8 k, .int .i64 e]) ∧ Below w.heap.size w w' := by
  have := do_any x what now at_ c h w; rw [ha] at this; exact this
/-- what is known of what came in -/
structure En (x : Ins) (now dr ho : Int) : Prop where
  ok : okB x = true
  st : x.st = 3
  n0 : 0 ≤ now
  n1 : now ≤ 1099511626776
  d0 : 0 ≤ dr
  d1 : dr < 60
  h0 : 0 ≤ ho
  h1 : ho < 60
def y4 (x : Ins) (now dr : Int) : Ins := { x with st := 4, due := now + dr, ntd := true, kill := now + 120 }
def y5 (x : Ins) (now dr ho : Int) : Ins := { x with st := 5, due := now + dr + ho, ntd := true, kill := now + 120 }
def y6 (x : Ins) (now : Int) : Ins := { x with st := 6, due := 0, ntd := true, kill := now + 120 }
theorem do_row {x : Ins} {what now at_ : Int} {c : Cfg} (hm : mayDoB x what now at_ c = true) {r : Rw} (hr : rowOf what x.st = some r) (h8 : ¬ (what = 8 ∧ now < x.due)) (h4 : ¬ (what = 4 ∧ x.ntd = true ∧ x.st = 5)) {r' : Rw} (hu : unhV what c r = r') :
    doV x what now at_ c = ⟨goneX x what now at_ c r', r'.ask, 0⟩ := by
  have e1 : rowV what x.st = r := by unfold rowV; rw [hr]; rfl
  unfold doV
  rw [if_neg (by rw [hm]; simp), if_neg (by rw [hr]; simp; intro e; have := fun l => h8 ⟨e, l⟩; omega), if_neg (by rw [hr]; simp), if_neg h4, e1, hu]
theorem do_wait {x : Ins} {now at_ : Int} {c : Cfg} (hm : mayDoB x 8 now at_ c = true) (hd : now < x.due) : doV x 8 now at_ c = ⟨x, 0, 0⟩ := by
  unfold doV
  rw [if_neg (by rw [hm]; simp), if_pos ⟨rfl, .inr hd⟩]
/-- the instance's block and the configuration's, in the midst of the law -/
structure Sl (w : World) (y : Ins) (cb : Nat) (c : Cfg) (V : World) : Prop where
  b : Below w.heap.size w V
  x : V.heap[w.heap.size]? = some (.cells y.cells 25 (0, 0))
  c : V.heap[cb]? = some (.cells c.cells 30 (0, 0))
  ne : w.heap.size ≠ cb
theorem Sl.call {w V V' : World} {y : Ins} {cb : Nat} {c : Cfg} (h : Sl w y cb c V) (hb : Below V.heap.size V V') : Sl w y cb c V' := ⟨bTrans h.b hb, kept_box hb h.x, kept_box hb h.c, h.ne⟩
theorem Sl.row {w V : World} {y z : Ins} {cb : Nat} {c : Cfg} (h : Sl w y cb c V) : Sl w z cb c (V.setRow w.heap.size z.cells) := ⟨below_row _ h.b (Nat.le_refl _), row_at h.x, (row_else h.ne).trans h.c, h.ne⟩
section
variable {x : Ins} {now dr ho : Int}
theorem En.in0 (h : En x now dr ho) {t a : Int} (ht : 0 ≤ t) : In0 (now + t) a (spans 0 ho dr 5) := ⟨by have := h.n0; omega, (show (0 : Int) ≤ 0 by decide), h.h0, h.d0, (show (0 : Int) ≤ 5 by decide)⟩
theorem En.may (h : En x now dr ho) {y : Ins} (e : y.id = x.id ∧ y.tok = x.tok ∧ y.pool = x.pool ∧ y.wt = x.wt) (hs : 1 ≤ y.st ∧ y.st ≤ 9) (hd : y.due ≤ 1099511758848) (hk : y.kill ≤ 1099511758848) (hn : y.ntd = true ∨ y.kill = 0) {what t a : Int} (hw : 1 ≤ what ∧ what ≤ 11) (ht : t ≤ 120) (ha : a ≤ 1099511627776) : mayDoB y what (now + t) a (spans 0 ho dr 5) = true := by
  have o := ok_yes h.ok
  have h1 := h.h1
  have h2 := h.d1
  have h3 := h.n1
  have ok : okB y = true := by
    unfold okB
    rw [e.1, e.2.1, e.2.2.1, e.2.2.2]
    exact decide_eq_true ⟨o.1, o.2.1, o.2.2.1, o.2.2.2.1, o.2.2.2.2.1, o.2.2.2.2.2.1, o.2.2.2.2.2.2.1, hs.1, hs.2, hd, hk, hn⟩
  unfold mayDoB
  rw [ok, decide_eq_true (show (spans 0 ho dr 5).hookIn ≤ 65536 ∧ (spans 0 ho dr 5).hookOut ≤ 65536 ∧ (spans 0 ho dr 5).drain ≤ 65536 ∧ (spans 0 ho dr 5).deadline ≤ 65536 from ⟨(show (0 : Int) ≤ 65536 by decide), by show ho ≤ _; omega, by show dr ≤ _; omega, (show (5 : Int) ≤ 65536 by decide)⟩), decide_eq_true (show 1 ≤ what ∧ what ≤ 11 ∧ now + t ≤ 1099511627776 ∧ a ≤ 1099511627776 from ⟨hw.1, hw.2, by omega, ha⟩)]
  rfl
theorem En.note (h : En x now dr ho) : doV x 2 now (now + 120) (spans 0 ho dr 5) = ⟨y4 x now dr, 0, 0⟩ := by
  have o := ok_yes h.ok
  have n1 := h.n1
  obtain ⟨_, _, _, _, _, _, _, o7, o8, o9, o10, o11⟩ := o
  have hm := h.may (y := x) ⟨rfl, rfl, rfl, rfl⟩ ⟨o7, o8⟩ o9 o10 o11 (what := 2) (t := 0) (a := now + 120) (by omega) (by omega) (by omega)
  rw [Int.add_zero] at hm
  have hr : rowOf 2 x.st = (some ⟨2, 3, 4, 4, 0⟩ : Option Rw) := by rw [h.st]; rfl
  rw [do_row hm hr (fun e => absurd e.1 (by decide)) (fun e => absurd e.1 (by decide)) (r' := ⟨2, 3, 4, 4, 0⟩) rfl]
  rfl
theorem En.m4 (h : En x now dr ho) {what t : Int} (hw : 1 ≤ what ∧ what ≤ 11) (ht : t ≤ 120) : mayDoB (y4 x now dr) what (now + t) 0 (spans 0 ho dr 5) = true := by
  have n1 := h.n1
  have d1 := h.d1
  exact h.may (y := y4 x now dr) ⟨rfl, rfl, rfl, rfl⟩ ⟨(show (1 : Int) ≤ 4 by decide), (show (4 : Int) ≤ 9 by decide)⟩ (by show now + dr ≤ _; omega) (by show now + 120 ≤ _; omega) (.inl rfl) hw ht (show (0 : Int) ≤ _ by decide)
theorem En.m5 (h : En x now dr ho) {what t : Int} (hw : 1 ≤ what ∧ what ≤ 11) (ht : t ≤ 120) : mayDoB (y5 x now dr ho) what (now + t) 0 (spans 0 ho dr 5) = true := by
  have n1 := h.n1
  have d1 := h.d1
  have h1 := h.h1
  exact h.may (y := y5 x now dr ho) ⟨rfl, rfl, rfl, rfl⟩ ⟨(show (1 : Int) ≤ 5 by decide), (show (5 : Int) ≤ 9 by decide)⟩ (by show now + dr + ho ≤ _; omega) (by show now + 120 ≤ _; omega) (.inl rfl) hw ht (show (0 : Int) ≤ _ by decide)
theorem En.beat4 (h : En x now dr ho) {t : Int} (ht : t ≤ 120) : doV (y4 x now dr) 4 (now + t) 0 (spans 0 ho dr 5) = ⟨y4 x now dr, 0, 12⟩ := by
  have hm := h.m4 (what := 4) (by omega) ht
  have hr : rowOf 4 (y4 x now dr).st = none := by rfl
  unfold doV
  rw [if_neg (by rw [hm]; simp), if_neg (fun e => absurd e.1 (by decide)), if_pos (by rw [hr]; rfl)]
theorem En.beat5 (h : En x now dr ho) {t : Int} (ht : t ≤ 120) : doV (y5 x now dr ho) 4 (now + t) 0 (spans 0 ho dr 5) = ⟨y5 x now dr ho, 0, 0⟩ := by
  have hm := h.m5 (what := 4) (by omega) ht
  have hr : rowOf 4 (y5 x now dr ho).st = (some ⟨4, 5, 5, 3, 0⟩ : Option Rw) := by rfl
  unfold doV
  rw [if_neg (by rw [hm]; simp), if_neg (fun e => absurd e.1 (by decide)), if_neg (by rw [hr]; simp), if_pos ⟨rfl, rfl, rfl⟩]
theorem En.tick4 (h : En x now dr ho) {t : Int} (ht : t ≤ 120) : doV (y4 x now dr) 8 (now + t) 0 (spans 0 ho dr 5) = if t < dr then ⟨y4 x now dr, 0, 0⟩ else if ho = 0 then ⟨y6 x now, 2, 0⟩ else ⟨y5 x now t ho, 0, 0⟩ := by
  have hm := h.m4 (what := 8) (by omega) ht
  have hr : rowOf 8 (y4 x now dr).st = (some ⟨8, 4, 5, 3, 0⟩ : Option Rw) := by rfl
  by_cases h1 : t < dr
  · rw [if_pos h1]
    exact do_wait hm (show now + t < now + dr by omega)
  · rw [if_neg h1]
    have h2 : ¬ ((8 : Int) = 8 ∧ now + t < (y4 x now dr).due) := fun e => by have : now + t < now + dr := e.2; omega
    by_cases h3 : ho = 0
    · rw [if_pos h3, do_row hm hr h2 (fun e => absurd e.1 (by decide)) (r' := ⟨0, 0, 6, 0, 2⟩) (by unfold unhV; rw [if_neg (fun e => absurd e.1 (by decide)), if_pos ⟨rfl, rfl, h3⟩])]
      rfl
    · rw [if_neg h3, do_row hm hr h2 (fun e => absurd e.1 (by decide)) (r' := ⟨8, 4, 5, 3, 0⟩) (by unfold unhV; rw [if_neg (fun e => absurd e.1 (by decide)), if_neg (fun e => h3 e.2.2)])]
      rfl
theorem En.tick5 (h : En x now dr ho) {t : Int} (ht : t ≤ 120) : doV (y5 x now dr ho) 8 (now + t) 0 (spans 0 ho dr 5) = if t < dr + ho then ⟨y5 x now dr ho, 0, 0⟩ else ⟨y6 x now, 2, 0⟩ := by
  have hm := h.m5 (what := 8) (by omega) ht
  have hr : rowOf 8 (y5 x now dr ho).st = (some ⟨8, 5, 6, 0, 2⟩ : Option Rw) := by rfl
  by_cases h1 : t < dr + ho
  · rw [if_pos h1]
    exact do_wait hm (show now + t < now + dr + ho by omega)
  · rw [if_neg h1]
    have h2 : ¬ ((8 : Int) = 8 ∧ now + t < (y5 x now dr ho).due) := fun e => by have : now + t < now + dr + ho := e.2; omega
    rw [do_row hm hr h2 (fun e => absurd e.1 (by decide)) (r' := ⟨8, 5, 6, 0, 2⟩) rfl]
    rfl
/-- what it is at a tick, and how often its end was asked for -/
def yV (x : Ins) (now dr ho t : Int) : Ins := if t ≤ dr then y4 x now dr else if t ≤ dr + ho then y5 x now dr ho else y6 x now
def askN (dr ho t : Int) : Int := if t ≤ dr + ho then 0 else 1
def askV (dr ho t : Int) : Int := if t = dr + ho then 2 else 0
theorem En.tick (h : En x now dr ho) {t : Int} (t0 : 0 ≤ t) (ht : t ≤ dr + ho) : doV (yV x now dr ho t) 8 (now + t) 0 (spans 0 ho dr 5) = ⟨yV x now dr ho (t + 1), askV dr ho t, 0⟩ := by
  have d1 := h.d1
  have h1 := h.h1
  have h0 := h.h0
  unfold yV askV
  by_cases c1 : t ≤ dr
  · rw [if_pos c1, h.tick4 (by omega)]
    by_cases c2 : t < dr
    · rw [if_pos c2, if_pos (by omega), if_neg (by omega)]
    · have e : t = dr := by omega
      subst e
      rw [if_neg c2]
      by_cases c3 : ho = 0
      · rw [if_pos c3, if_neg (by omega), if_neg (by omega), if_pos (by omega)]
      · rw [if_neg c3, if_neg (by omega), if_pos (by omega), if_neg (by omega)]
  · rw [if_neg c1, if_pos ht, h.tick5 (by omega)]
    by_cases c2 : t < dr + ho
    · rw [if_pos c2, if_neg (by omega), if_pos (by omega), if_neg (by omega)]
    · rw [if_neg c2, if_neg (by omega), if_neg (by omega), if_pos (by omega)]
theorem En.beat (h : En x now dr ho) {t : Int} (t0 : 0 ≤ t) (ht : t ≤ dr + ho) : ∃ e, doV (yV x now dr ho t) 4 (now + t) 0 (spans 0 ho dr 5) = ⟨yV x now dr ho t, 0, e⟩ := by
  have d1 := h.d1
  have h1 := h.h1
  unfold yV
  by_cases c1 : t ≤ dr
  · rw [if_pos c1]; exact ⟨12, h.beat4 (by omega)⟩
  · rw [if_neg c1, if_pos ht]; exact ⟨0, h.beat5 (by omega)⟩
end
set_option maxHeartbeats 8000000 in
set_option maxRecDepth 100000 in
theorem walk (x : Ins) (now dr0 ho0 beats : Int) (w : World) (b0 : InsOk x) (wa : (Lit.int .u64 now).wf = true) (wb : (Lit.int .u8 dr0).wf = true) (wc : (Lit.int .u8 ho0).wf = true) (wd : (Lit.int .u64 beats).wf = true) :
    Calls Try.prog 6 #[x.val, .int .u64 now, .int .u8 dr0, .int .u8 ho0, .int .u64 beats] w fun e w' => e = .returned (.bool true) ∧ Below w.heap.size w w' := by
  have CL := Lib.hid (fun W => lives_any W)
  have n0 : 0 ≤ now := by simp [Lit.wf, IntKind.min, IntKind.max, IntKind.signed, IntKind.bits] at wa; omega
  have dd : 0 ≤ dr0 ∧ dr0 ≤ 255 := by simp [Lit.wf, IntKind.min, IntKind.max, IntKind.signed, IntKind.bits] at wb; omega
  have hh : 0 ≤ ho0 ∧ ho0 ≤ 255 := by simp [Lit.wf, IntKind.min, IntKind.max, IntKind.signed, IntKind.bits] at wc; omega
  have bb : 0 ≤ beats ∧ beats ≤ 18446744073709551615 := by simp [Lit.wf, IntKind.min, IntKind.max, IntKind.signed, IntKind.bits] at wd; omega
  clear wa wb wc wd b0
  have HX := heap_alloc_new w (.cells x.cells 25)
  have BW := bAlloc (Below.refl _ w) (.cells x.cells 25)
  have RX := range_row HX
  rcases hok : okB x with _ | _
  · have M := Lib.hid (fun W => may_is x false hok W)
    go_enter Try.func6, Try.ntmps6
    go_wp2_with ((with_reducible refine at_load' 25 ?_); (refine load_ins rfl _ rfl _ _ rfl x RX ?_))
    refine (M.out _).mono ?_
    rintro _ u ⟨rfl, bu⟩
    go_wp2_with fail
    refine (CL.out _).mono ?_
    rintro _ u2 ⟨rfl, bu2⟩
    go_wp2
    go_ret
    exact ⟨rfl, bTrans (bTrans BW bu) bu2⟩
  have M := Lib.hid (fun W => may_is x true hok W)
  rcases hsv : servesB x with _ | _
  · have S := Lib.hid (fun W => serves_is x false hsv W)
    go_enter Try.func6, Try.ntmps6
    go_wp2_with ((with_reducible refine at_load' 25 ?_); (refine load_ins rfl _ rfl _ _ rfl x RX ?_))
    refine (M.out _).mono ?_
    rintro _ u ⟨rfl, bu⟩
    have I0 := run_ins (range_row (kept_box bu HX))
    go_wp2_with fail
    refine (S.out _).mono ?_
    rintro _ u2 ⟨rfl, bu2⟩
    go_wp2_with fail
    refine (CL.out _).mono ?_
    rintro _ u3 ⟨rfl, bu3⟩
    go_wp2
    go_ret
    exact ⟨rfl, bTrans (bTrans (bTrans BW bu) bu2) bu3⟩
  have S := Lib.hid (fun W => serves_is x true hsv W)
  by_cases hb : 1099511626776 < now
  · have k0 := decide_eq_true hb
    go_enter Try.func6, Try.ntmps6
    go_wp2_with ((with_reducible refine at_load' 25 ?_); (refine load_ins rfl _ rfl _ _ rfl x RX ?_))
    refine (M.out _).mono ?_
    rintro _ u ⟨rfl, bu⟩
    have I0 := run_ins (range_row (kept_box bu HX))
    go_wp2_with fail
    refine (S.out _).mono ?_
    rintro _ u2 ⟨rfl, bu2⟩
    go_wp2_with fail
    refine (CL.out _).mono ?_
    rintro _ u3 ⟨rfl, bu3⟩
    go_wp2
    go_ret
    exact ⟨rfl, bTrans (bTrans (bTrans BW bu) bu2) bu3⟩
  have k0 := decide_eq_false hb
  obtain ⟨dr, hdr⟩ : ∃ dr, dr0 % 60 = dr := ⟨_, rfl⟩
  obtain ⟨ho, hho⟩ : ∃ ho, ho0 % 60 = ho := ⟨_, rfl⟩
  have HE : En x now dr ho := ⟨hok, of_decide_eq_true hsv, n0, by omega, by omega, by omega, by omega, by omega⟩
  have t1 : dr0.tmod 60 = dr := by rw [Int.tmod_eq_emod_of_nonneg dd.1, hdr]
  have t2 : ho0.tmod 60 = ho := by rw [Int.tmod_eq_emod_of_nonneg hh.1, hho]
  clear hok hsv hb
  obtain ⟨c, ec⟩ : ∃ c, spans 0 ho dr 5 = c := ⟨_, rfl⟩
  go_enter Try.func6, Try.ntmps6
  go_wp2_with ((with_reducible refine at_load' 25 ?_); (refine load_ins rfl _ rfl _ _ rfl x RX ?_))
  refine (M.out _).mono ?_
  rintro _ u ⟨rfl, bu⟩
  have I0 := run_ins (range_row (kept_box bu HX))
  go_wp2_with fail
  refine (S.out _).mono ?_
  rintro _ u2 ⟨rfl, bu2⟩
  have H3 : Sl w x u2.heap.size c (u2.alloc (.cells c.cells 30 (0, 0))) := ⟨bAlloc (bTrans (bTrans BW bu) bu2) _, heap_under (kept_box bu2 (kept_box bu HX)), heap_alloc_new _ _, fun e => by
    have h1 := (Array.getElem?_eq_some_iff.1 (kept_box bu2 (kept_box bu HX))).1; omega⟩
  clear BW bu bu2 HX RX I0 M S
  have n1 := HE.n1
  have w120 : IntKind.u64.wrap (now + 120) = now + 120 := IntWalk.u64_in _ (by omega)
  have hin : In0 now (now + 120) (spans 0 ho dr 5) := ⟨n0, (show (0 : Int) ≤ 0 by decide), HE.h0, HE.d0, (show (0 : Int) ≤ 5 by decide)⟩
  have N := Lib.hid (fun W => do_is x 2 now (now + 120) (spans 0 ho dr 5) hin _ _ _ HE.note W)
  rw [ec] at N
  have I3 := run_ins (range_row H3.x)
  go_wp2_with (first | (refine load_cfg rfl _ rfl _ rfl c _ _ H3.c ?_) | ((with_reducible refine at_store 30 ?_); (refine store_plain rfl 30 _ _ rfl c.cells _ _ rfl (by rw [← ec]; rfl) (infoCfg.trans rfl) rfl c.one ?_)))
  generalize u2.heap.size = cb at H3 ⊢
  refine (N.out _).mono ?_
  rintro _ V ⟨rfl, bu⟩
  have H4 := H3.call bu
  clear H3 I3 bu N hin
  have S4 := Lib.hid (fun W => serves_is (y4 x now dr) false (by rfl) W)
  have H5 := H4.row (z := y4 x now dr)
  have I5 := run_ins (range_row H5.x)
  go_wp2_with (first | ((with_reducible refine at_store 25 ?_); (refine store_whole rfl 25 _ _ rfl w.heap.size (y4 x now dr).cells _ _ rfl rfl H4.x (sizeInst.trans rfl) rfl (y4 x now dr).one ?_)))
  refine (S4.out _).mono ?_
  rintro _ V5 ⟨rfl, bu⟩
  have H6 := H5.call bu
  clear H4 H5 I5 bu S4
  have e7 : V5.cell? ⟨w.heap.size, 7, none⟩ = some (.bool true) := cell_row H6.x rfl
  have e8 : V5.cell? ⟨w.heap.size, 8, none⟩ = some (.int .u64 (now + 120)) := cell_row H6.x rfl
  go_wp2
  clear e7 e8
  have gd : c.drain = dr := by rw [← ec]; rfl
  have gh : c.hookOut = ho := by rw [← ec]; rfl
  have hd0 := HE.d0
  have hd1 := HE.d1
  have hh0 := HE.h0
  have hh1 := HE.h1
  have wdh : IntKind.u64.wrap (dr + ho) = dr + ho := IntWalk.u64_in _ (by omega)
  have H0 : Sl w (yV x now dr ho 0) cb c V5 := by unfold yV; rw [if_pos (by omega)]; exact H6
  clear H6
  go_loopw [14, 15] (fun asked t wr => ∃ k : Nat, (k : Int) ≤ dr + ho + 1 ∧ asked = .int .i64 (askN dr ho k) ∧ t = .int .u64 k ∧ Sl w (yV x now dr ho k) cb c wr) (fun _ t _ => (dr + ho + 1).toNat - (intOf t).toNat)
  case atStart => exact ⟨0, by omega, by unfold askN; rw [if_pos (by omega)], rfl, H0⟩
  case round =>
    obtain ⟨k, hk, rfl, rfl, hs⟩ := hrel
    have c10 : wr.cell? ⟨cb, 10, none⟩ = some (.int .u64 dr) := by have := cell_row hs.c c.f10; rw [gd] at this; exact this
    have c12 : wr.cell? ⟨cb, 12, none⟩ = some (.int .u64 ho) := by have := cell_row hs.c c.f12; rw [gh] at this; exact this
    by_cases hlt : (k : Int) ≤ dr + ho
    · have k1 := decide_eq_true hlt
      have wk : IntKind.u64.wrap (now + k) = now + k := IntWalk.u64_in _ (by omega)
      have wk1 : IntKind.u64.wrap ((k : Int) + 1) = (k : Int) + 1 := IntWalk.u64_in _ (by omega)
      have tk := HE.tick (t := k) (by omega) hlt
      obtain ⟨eb, hbt⟩ := HE.beat (t := k) (by omega) hlt
      have TK := Lib.hid (fun W => do_is _ 8 (now + k) 0 (spans 0 ho dr 5) (HE.in0 (by omega)) _ _ _ tk W)
      have BT := Lib.hid (fun W => do_is _ 4 (now + k) 0 (spans 0 ho dr 5) (HE.in0 (by omega)) _ _ _ hbt W)
      rw [ec] at TK BT
      have I := run_ins (range_row hs.x)
      clear tk hbt
      have hn0 : askN dr ho k = 0 := by unfold askN; rw [if_pos hlt]
      rw [hn0]
      obtain ⟨y, ey⟩ : ∃ y, yV x now dr ho (k + 1) = y := ⟨_, rfl⟩
      rw [ey] at TK
      by_cases hq : (k : Int) = dr + ho
      · have ha : askV dr ho k = 2 := by unfold askV; rw [if_pos hq]
        rw [ha] at TK
        have hQ := Lib.hid hq
        clear hq ha
        go_wp2_with (first | (refine load_cfg rfl _ rfl _ rfl c _ _ hs.c ?_))
        · refine (BT.out _).mono ?_
          rintro _ v0 ⟨rfl, b0⟩
          have hs0 := hs.call b0
          have hs1 := hs0.row (z := yV x now dr ho k)
          have I1 := run_ins (range_row hs1.x)
          go_wp2_with (first | (refine load_cfg rfl _ rfl _ rfl c _ _ hs1.c ?_) | ((with_reducible refine at_store 25 ?_); (refine store_whole rfl 25 _ _ rfl w.heap.size (yV x now dr ho k).cells _ _ rfl rfl hs0.x (sizeInst.trans rfl) rfl (yV x now dr ho k).one ?_)))
          refine (TK.out _).mono ?_
          rintro _ v ⟨rfl, bv⟩
          have h1 := (hs1.call bv).call (bAlloc (Below.refl _ v) (.cells y.cells 25 (0, 0)))
          have HA := run_ins (range_row (heap_alloc_new v (.cells y.cells 25 (0, 0))))
          have h2 := h1.row (z := y)
          go_wp2_with ((with_reducible refine at_store 25 ?_); (first | (refine store_inp rfl _ _ rfl y _ _ rfl rfl rfl ?_) | (refine store_whole rfl 25 _ _ rfl w.heap.size y.cells _ _ rfl rfl h1.x (sizeInst.trans rfl) rfl y.one ?_)))
          go_roundw
          case rel => exact ⟨k + 1, by omega, by have := hQ.out; unfold askN; rw [if_neg (by omega)], by rw [Int.natCast_add]; rfl, by rw [Int.natCast_add]; show Sl w (yV x now dr ho (k + 1)) cb c _; rw [ey]; exact h2⟩
          case measure => simp [intOf]; omega
        · refine (TK.out _).mono ?_
          rintro _ v ⟨rfl, bv⟩
          have h1 := (hs.call bv).call (bAlloc (Below.refl _ v) (.cells y.cells 25 (0, 0)))
          have HA := run_ins (range_row (heap_alloc_new v (.cells y.cells 25 (0, 0))))
          have h2 := h1.row (z := y)
          go_wp2_with ((with_reducible refine at_store 25 ?_); (first | (refine store_inp rfl _ _ rfl y _ _ rfl rfl rfl ?_) | (refine store_whole rfl 25 _ _ rfl w.heap.size y.cells _ _ rfl rfl h1.x (sizeInst.trans rfl) rfl y.one ?_)))
          go_roundw
          case rel => exact ⟨k + 1, by omega, by have := hQ.out; unfold askN; rw [if_neg (by omega)], by rw [Int.natCast_add]; rfl, by rw [Int.natCast_add]; show Sl w (yV x now dr ho (k + 1)) cb c _; rw [ey]; exact h2⟩
          case measure => simp [intOf]; omega
      · have ha : askV dr ho k = 0 := by unfold askV; rw [if_neg hq]
        rw [ha] at TK
        have hQ := Lib.hid hq
        clear hq ha
        go_wp2_with (first | (refine load_cfg rfl _ rfl _ rfl c _ _ hs.c ?_))
        · refine (BT.out _).mono ?_
          rintro _ v0 ⟨rfl, b0⟩
          have hs0 := hs.call b0
          have hs1 := hs0.row (z := yV x now dr ho k)
          have I1 := run_ins (range_row hs1.x)
          go_wp2_with (first | (refine load_cfg rfl _ rfl _ rfl c _ _ hs1.c ?_) | ((with_reducible refine at_store 25 ?_); (refine store_whole rfl 25 _ _ rfl w.heap.size (yV x now dr ho k).cells _ _ rfl rfl hs0.x (sizeInst.trans rfl) rfl (yV x now dr ho k).one ?_)))
          refine (TK.out _).mono ?_
          rintro _ v ⟨rfl, bv⟩
          have h1 := (hs1.call bv).call (bAlloc (Below.refl _ v) (.cells y.cells 25 (0, 0)))
          have HA := run_ins (range_row (heap_alloc_new v (.cells y.cells 25 (0, 0))))
          have h2 := h1.row (z := y)
          go_wp2_with ((with_reducible refine at_store 25 ?_); (first | (refine store_inp rfl _ _ rfl y _ _ rfl rfl rfl ?_) | (refine store_whole rfl 25 _ _ rfl w.heap.size y.cells _ _ rfl rfl h1.x (sizeInst.trans rfl) rfl y.one ?_)))
          go_roundw
          case rel => exact ⟨k + 1, by omega, by have := hQ.out; unfold askN; rw [if_pos (by omega)], by rw [Int.natCast_add]; rfl, by rw [Int.natCast_add]; show Sl w (yV x now dr ho (k + 1)) cb c _; rw [ey]; exact h2⟩
          case measure => simp [intOf]; omega
        · refine (TK.out _).mono ?_
          rintro _ v ⟨rfl, bv⟩
          have h1 := (hs.call bv).call (bAlloc (Below.refl _ v) (.cells y.cells 25 (0, 0)))
          have HA := run_ins (range_row (heap_alloc_new v (.cells y.cells 25 (0, 0))))
          have h2 := h1.row (z := y)
          go_wp2_with ((with_reducible refine at_store 25 ?_); (first | (refine store_inp rfl _ _ rfl y _ _ rfl rfl rfl ?_) | (refine store_whole rfl 25 _ _ rfl w.heap.size y.cells _ _ rfl rfl h1.x (sizeInst.trans rfl) rfl y.one ?_)))
          go_roundw
          case rel => exact ⟨k + 1, by omega, by have := hQ.out; unfold askN; rw [if_pos (by omega)], by rw [Int.natCast_add]; rfl, by rw [Int.natCast_add]; show Sl w (yV x now dr ho (k + 1)) cb c _; rw [ey]; exact h2⟩
          case measure => simp [intOf]; omega
    · have k1 := decide_eq_false hlt
      have ey : yV x now dr ho k = y6 x now := by unfold yV; rw [if_neg (by omega), if_neg (by omega)]
      have ea : askN dr ho k = 1 := by unfold askN; rw [if_neg (by omega)]
      rw [ey] at hs
      rw [ea]
      have e5 : wr.cell? ⟨w.heap.size, 5, none⟩ = some (.int .u8 6) := cell_row hs.x rfl
      go_wp2_with fail
      refine (CL.out _).mono ?_
      rintro _ v ⟨rfl, bv⟩
      go_wp2
      go_ret
      exact ⟨rfl, bTrans hs.b bv⟩

/-! The row's step, by the frame. -/
theorem own : ownKnob Try.prog.godebug = none := by kernel_rfl
theorem laidOut : laidOutB Try.prog = true := by kernel_rfl
set_option maxRecDepth 100000 in
theorem lifted (os : Os) (started : os.Started) (H : Type) (enc : TypeId × Value → H) :
    ReturnsInHanded {} Try.checked os 6 .any (Rows.instEndsSpec.pre6 enc Try.prog Try.f6 Rows.instEndsRow.domain false) (Rows.instEndsSpec.post enc Try.prog Try.f6 false true false false) := by
  refine returnsInHanded_of_change_sized (C := Try.checked) own started (by kernel_rfl) Try.func6
    (ChangeSpec.witness6 (enc := enc) (C := Try.checked) false ⟨#[], #[Inst.none_.val, .int .u64 0, .int .u8 0, .int .u8 0, .int .u64 0], []⟩ 8 (by kernel_rfl) (by kernel_rfl) (by kernel_rfl) (by kernel_rfl)) ?_
  intro W base args ds gs before hval0 hW _ hsz0 _
  have hsz : (DataW.weightsEach Try.prog (Try.f6.params.toList ++ Rows.instEndsSpec.plain.varTypes Try.prog) (ds ++ gs)).all (· ≤ reachBytes) = true := hsz0
  have hval : ∀ (j : Nat) t v, Try.f6.params[j]? = some t → args[j]? = some v → Value.okWide Try.prog W .any base t v := hval0
  have hW' := hW
  obtain ⟨p, q, hA0, hV, rfl, hfz, hnd⟩ := hW
  have hA : DataW.TrodAll enc Try.prog W 0 (fun _ => true) true Try.f6.params.toList args.toList ds p := hA0
  rw [Try.params6] at hA hval hsz
  obtain ⟨v0, vs0, d0, ds0, p0, q0, hargs, rfl, rfl, h0, r0⟩ := trodAll_cons hA
  obtain ⟨v1, vs1, d1, ds1, p1, q1, rfl, rfl, rfl, h1, r1⟩ := trodAll_cons r0
  obtain ⟨v2, vs2, d2, ds2, p2, q2, rfl, rfl, rfl, h2, r2⟩ := trodAll_cons r1
  obtain ⟨v3, vs3, d3, ds3, p3, q3, rfl, rfl, rfl, h3, r3⟩ := trodAll_cons r2
  obtain ⟨v4, vs4, d4, ds4, p4, q4, rfl, rfl, rfl, h4, r4⟩ := trodAll_cons r3
  obtain ⟨rfl, rfl, rfl⟩ := trodAll_nil r4
  obtain rfl : args = #[v0, v1, v2, v3, v4] := by cases args; simp_all
  obtain ⟨rfl, rfl⟩ := trodVars_none hV
  have k0 := h0
  have lt0 : ∀ x ∈ p0, x.block < W.heap.size := by obtain ⟨m, hm⟩ := k0; exact DataW.trod_lt m _ _ _ hm
  obtain ⟨x0, rfl, b0⟩ := ins_arg (hval 0 25 v0 rfl rfl) h0
  obtain ⟨a1, rfl, rfl, rfl, w1⟩ := open_int Try.underlying22 (hval 1 22 v1 rfl rfl) h1
  obtain ⟨a2, rfl, rfl, rfl, w2⟩ := open_int Try.underlying5 (hval 2 5 v2 rfl rfl) h2
  obtain ⟨a3, rfl, rfl, rfl, w3⟩ := open_int Try.underlying5 (hval 3 5 v3 rfl rfl) h3
  obtain ⟨a4, rfl, rfl, rfl, w4⟩ := open_int Try.underlying22 (hval 4 22 v4 rfl rfl) h4
  clear hA0 hval0 hsz0
  refine (walk x0 a1 a2 a3 a4 W b0 w1 w2 w3 w4).mono fun e W' ⟨he, bel⟩ => ?_
  subst he
  exact ⟨_, rfl, _, _, _, [], _, [], hW', trodAll_mk1 (shut_bool Try.underlying4 _), (trodAll_cons_mk (Below.trod laidOut (by kernel_rfl) (of_decide_eq_true (by kernel_rfl)) k0 bel lt0) (trodAll_cons_mk (shut_int Try.underlying22 w1) (trodAll_cons_mk (shut_int Try.underlying5 w2) (trodAll_cons_mk (shut_int Try.underlying5 w3) (trodAll_cons_mk (shut_int Try.underlying22 w4) trodAll_mk0))))), rfl, bel.frame _, fun h => by cases h⟩

/-- The statement. -/
theorem proved : Rows.InstEndsSaid :=
  OpenClaim.holds_of_wide 6 Try.f6 rfl rfl rfl rfl rfl rfl rfl ⟨rfl, rfl, rfl, rfl, rfl⟩ rfl rfl rfl rfl rfl (by kernel_rfl) Try.func6 (by kernel_rfl)
    (of_decide_eq_true (by kernel_rfl)) (by unfold Func.isWrapper; first | (rw [if_pos (by decide +kernel)]; kernel_rfl) | (rw [if_neg (by decide +kernel)]; exact ⟨rfl, rfl⟩))
    (fun os started H enc _ => lifted os started H enc)
end Go.Proofs.Ytmbafedpbmldmaa.instEnds
