
/- Whatever becomes of an instance, it may be, and what serves no more serves never again: the law returns true. -/
import Derived.Test.YtmbafedpbmldmaaIdH
import Derived.Test.YtmbafedpbmldmaaArg0
import Derived.Test.YtmbafedpbmldmaaEqI
namespace Go.Proofs.Ytmbafedpbmldmaa.instGoes
open Go.ChangeShapes Go.WideShapes Go.ChangeAt Go.RowKit
open Mem Arr Lst Rec Inst Grown Opens St0 Does ArgI Flow
attribute [local go_sem] Oper.semAt_some
attribute [local go_sem ↓] exec_ins Go.wp_at_zero Go.wp_at_succ
attribute [local go_sem ↓ high] run_eqIns run_neqIns run_guardIns
set_option linter.unusedVariables false
set_option linter.unusedSimpArgs false
/-! What came in. -/
structure De where
  what : Int
  wait : Int
  at_ : Int
def De.cells (x : De) : Array Value := #[.int .u8 x.what, .int .u8 x.wait, .int .u64 x.at_]
structure DeOk (x : De) : Prop where
  what : (Lit.int .u8 x.what).wf = true
  wait : (Lit.int .u8 x.wait).wf = true
  at_ : (Lit.int .u64 x.at_).wf = true
theorem de_of {H : Type} {enc : TypeId × Value → H} {w : World} {m : Nat} {x : DataW H × List MemPlace} {cs : List Value} (h : DataW.trod enc Try.prog w 0 (fun _ => true) true m 46 cs = some x) : ∃ i : De, cs = i.cells.toList ∧ DeOk i := by
  have hl := flen h Try.underlying46 (n := 3) (by kernel_rfl)
  obtain ⟨_, _, t0⟩ := fld h Try.underlying46 0 0 1 rfl rfl (by kernel_rfl)
  obtain ⟨z0, e0, w0⟩ := f_int t0 Try.underlying5
  obtain ⟨_, _, t1⟩ := fld h Try.underlying46 1 1 1 rfl rfl (by kernel_rfl)
  obtain ⟨z1, e1, w1⟩ := f_int t1 Try.underlying5
  obtain ⟨_, _, t2⟩ := fld h Try.underlying46 2 2 1 rfl rfl (by kernel_rfl)
  obtain ⟨z2, e2, w2⟩ := f_int t2 Try.underlying22
  have q0 := cut cs 0 1 1 rfl
  rw [e0] at q0
  have q1 := cut cs 1 1 2 rfl
  rw [e1] at q1
  have q2 := cut cs 2 1 3 rfl
  rw [e2] at q2
  refine ⟨⟨z0, z1, z2⟩, ?_, ⟨w0, w1, w2⟩⟩
  show cs.drop 0 = _
  rw [q0, q1, q2, end_of cs 3 hl]
  rfl
def deV (D : Nat → De) (i j : Nat) : Value := ((D i).cells[j]?).getD undef
theorem deeds_arg {H : Type} {enc : TypeId × Value → H} {w : World} {A : Option Addr} {n c : Nat} {d : DataW H} {p : List MemPlace} (h : DataW.Trod enc Try.prog w 0 (fun _ => true) true 43 (.slice A n c) d p) :
    ∃ D : Nat → De, Recs w w.heap.size A n 3 (deV D) ∧ (∀ i, i < n → DeOk (D i)) ∧ (A = none → c = 0) ∧ n ≤ c ∧ c ≤ maxLen := by
  obtain ⟨V, hr, h0, h1, h2, he⟩ := recs_of Try.underlying43 (sz := 3) (by kernel_rfl) (by omega) h
  obtain ⟨L, hk, hL⟩ := as_records (⟨0, 0, 0⟩ : De) De.cells (ok := DeOk) (V := V) (n := n) (sz := 3) (fun i hi => by
    obtain ⟨cs, m, x, hl, hv, ht⟩ := he i hi
    obtain ⟨y, e, k⟩ := de_of ht
    refine ⟨y, k, fun j hj => ?_⟩
    have := hv j hj
    rw [e, Array.getElem?_toList] at this
    rw [this]; rfl)
  exact ⟨L, recs_like hr hL, hk, h0, h1, h2⟩
/-! What an answer is good for. -/
structure Gd (x : Ins) (a : Ans) : Prop where
  ok : okB a.x = true
  id : a.x.id = x.id
  wt : a.x.wt = x.wt
  ver : a.x.ver = x.ver
  six : x.st = 6 → a.x = x
  ask : (a.x.st = 6 ∧ x.st ≠ 6) ↔ a.ask = 2
  lf : (x.st = 4 ∨ x.st = 5 ∨ x.st = 6) → (a.x.st = 4 ∨ a.x.st = 5 ∨ a.x.st = 6)
  l3 : x.st = 3 → a.x.st ≠ 3 → (a.x.st = 4 ∨ a.x.st = 5 ∨ a.x.st = 6)
theorem gd_same {x : Ins} (h : okB x = true) : Gd x ⟨x, 0, 0⟩ := ⟨h, rfl, rfl, rfl, fun _ => rfl, ⟨fun e => absurd e.1 e.2, fun e => absurd e (show ¬ (0 : Int) = 2 by decide)⟩, fun e => e, fun e f => absurd e f⟩
theorem tab_ok : ∀ r ∈ tab, 1 ≤ r.to ∧ r.to ≤ 9 ∧ (r.to = 6 ↔ r.ask = 2) ∧ r.st ≠ 6 ∧ ((r.st = 4 ∨ r.st = 5) → (r.to = 4 ∨ r.to = 5 ∨ r.to = 6)) ∧ (r.st = 3 → r.to = 3 ∨ r.to = 4) ∧ (r.what = 1 → r.st ≠ 3 ∧ r.st ≠ 4 ∧ r.st ≠ 5) ∧ (r.what = 8 → r.st ≠ 3) := by decide
theorem row_in {a c : Int} {r : Rw} (h : rowOf a c = some r) : r ∈ tab ∧ a = r.what ∧ c = r.st := by
  unfold rowOf at h
  have h1 := List.find?_some h
  exact ⟨List.mem_of_find?_eq_some h, (of_decide_eq_true h1).1, (of_decide_eq_true h1).2⟩
theorem unt_le {wt due now : Int} {c : Cfg} (h : InC now c) (hd : due ≤ 1099511758848) : untV wt due now c ≤ 1099511758848 := by
  obtain ⟨n0, n1, a0, a1, b0, b1, d0, d1, e0, e1⟩ := h
  unfold untV
  repeat' split
  all_goals omega
theorem do_bad {x : Ins} {what now at_ : Int} {c : Cfg} {a : Ans} (ha : doV x what now at_ c = a) (he : a.e ≠ 0) : a.x = x ∧ a.ask = 0 := by
  subst ha
  unfold doV at he ⊢
  split
  · exact ⟨rfl, rfl⟩
  · rename_i h1
    rw [if_neg h1] at he
    split
    · exact ⟨rfl, rfl⟩
    · rename_i h2
      rw [if_neg h2] at he
      split
      · exact ⟨rfl, rfl⟩
      · rename_i h3
        rw [if_neg h3] at he
        split
        · exact ⟨rfl, rfl⟩
        · rename_i h4
          rw [if_neg h4] at he
          exact absurd rfl he
theorem do_good {x : Ins} {what now at_ : Int} {c : Cfg} {a : Ans} (hx : okB x = true) (h : In0 now at_ c) (ha0 : at_ ≤ 1099511627776) (ha : doV x what now at_ c = a) (he : a.e = 0) : Gd x a := by
  subst ha
  rcases hm : mayDoB x what now at_ c with _ | _
  · unfold doV at he
    rw [if_pos hm] at he
    exact absurd he (show ¬ (2 : Int) = 0 by decide)
  have hc := mayDo_in h hm
  unfold doV at he ⊢
  rw [if_neg (by rw [hm]; simp)] at he ⊢
  split
  · exact gd_same hx
  · rename_i h2
    rw [if_neg h2] at he
    split
    · rename_i h3
      rw [if_pos h3] at he
      exact absurd he (show ¬ (12 : Int) = 0 by decide)
    · rename_i h3
      clear he
      split
      · exact gd_same hx
      · cases hr : rowOf what x.st with
        | none => rw [hr] at h3; exact absurd rfl h3
        | some r =>
          have hv : rowV what x.st = r := by unfold rowV; rw [hr]; rfl
          obtain ⟨hin, hw, hst⟩ := row_in hr
          obtain ⟨t1, t2, t3, t4, t5, t6, t7, t8⟩ := tab_ok r hin
          rw [hv]
          obtain ⟨r', hr'⟩ : ∃ r', unhV what c r = r' := ⟨_, rfl⟩
          rw [hr']
          have R : 1 ≤ r'.to ∧ r'.to ≤ 9 ∧ (r'.to = 6 ↔ r'.ask = 2) ∧ ((r.st = 4 ∨ r.st = 5) → (r'.to = 4 ∨ r'.to = 5 ∨ r'.to = 6)) ∧ (r.st = 3 → r'.to = 3 ∨ r'.to = 4) := by
            subst hr'
            unfold unhV
            split
            · rename_i hq
              have := t7 (hw ▸ hq.1)
              exact ⟨(show (1 : Int) ≤ 3 by decide), (show (3 : Int) ≤ 9 by decide), (show (3 : Int) = 6 ↔ (0 : Int) = 2 by decide), fun e => by omega, fun e => by omega⟩
            · split
              · rename_i hq
                have := t8 (hw ▸ hq.1)
                exact ⟨(show (1 : Int) ≤ 6 by decide), (show (6 : Int) ≤ 9 by decide), (show (6 : Int) = 6 ↔ (2 : Int) = 2 by decide), fun _ => .inr (.inr rfl), fun e => absurd e this⟩
              · exact ⟨t1, t2, t3, t5, t6⟩
          obtain ⟨s1, s2, s3, s4, s5⟩ := R
          have o := ok_yes hx
          obtain ⟨o0, o1, o2, o3, o4, o5, o6, o7, o8, o9, o10, o11⟩ := o
          have hu := unt_le (wt := r'.wait) hc o9
          have h6 : x.st ≠ 6 := by rw [hst]; exact t4
          refine ⟨?_, rfl, rfl, rfl, fun e => absurd e h6, ⟨fun e => s3.1 e.1, fun e => ⟨s3.2 e, h6⟩⟩, fun e => s4 (by omega), fun e f => ?_⟩
          · unfold okB
            refine decide_eq_true ⟨o0, o1, o2, o3, o4, o5, o6, s1, s2, hu, ?_, ?_⟩
            · show (if what = 2 then at_ else x.kill) ≤ _
              split <;> omega
            · show (if what = 2 then true else x.ntd) = true ∨ (if what = 2 then at_ else x.kill) = 0
              split
              · exact .inl rfl
              · exact o11
          · rcases s5 (by omega) with e' | e'
            · exact absurd e' f
            · exact .inl e'
/-- the instance's block and the configuration's, in the midst of the law -/
structure Sl (w : World) (y : Ins) (cb : Nat) (c : Cfg) (V : World) : Prop where
  b : Below w.heap.size w V
  x : V.heap[w.heap.size]? = some (.cells y.cells 25 (0, 0))
  c : V.heap[cb]? = some (.cells c.cells 30 (0, 0))
  ne : w.heap.size ≠ cb
theorem Sl.call {w V V' : World} {y : Ins} {cb : Nat} {c : Cfg} (h : Sl w y cb c V) (hb : Below V.heap.size V V') : Sl w y cb c V' := ⟨bTrans h.b hb, kept_box hb h.x, kept_box hb h.c, h.ne⟩
theorem Sl.row {w V : World} {y z : Ins} {cb : Nat} {c : Cfg} (h : Sl w y cb c V) : Sl w z cb c (V.setRow w.heap.size z.cells) := ⟨below_row _ h.b (Nat.le_refl _), row_at h.x, (row_else h.ne).trans h.c, h.ne⟩
theorem may_is (x : Ins) (v : Bool) (hv : okB x = v) (w : World) : Calls Try.prog 9 #[x.val] w fun e w' => e = .returned (.bool v) ∧ Below w.heap.size w w' := by
  have := may_any x w; rw [hv] at this; exact this
theorem serves_is (x : Ins) (v : Bool) (hv : servesB x = v) (w : World) : Calls Try.prog 14 #[x.val] w fun e w' => e = .returned (.bool v) ∧ Below w.heap.size w w' := by
  have := serves_any x w; rw [hv] at this; exact this
theorem comes_is (x : Ins) (v : Bool) (hv : comesB x = v) (w : World) : Calls Try.prog 16 #[x.val] w fun e w' => e = .returned (.bool v) ∧ Below w.heap.size w w' := by
  have := comes_any x w; rw [hv] at this; exact this
theorem do_is (x : Ins) (what now at_ : Int) (c : Cfg) (h : In0 now at_ c) (a : Ans) (ha : doV x what now at_ c = a) (w : World) : Calls Try.prog 7 #[x.val, .int .u8 what, .int .u64 now, .int .u64 at_, c.val] w fun e w' => e = .returned (.tuple #[a.x.val, .int .u8 a.ask, .int .i64 a.e]) ∧ Below w.heap.size w w' := by
  have := do_any x what now at_ c h w; rw [ha] at this; exact this
theorem de_cells {w wr : World} {A : Option Addr} {n : Nat} {D : Nat → De} (h : Recs w w.heap.size A n 3 (deV D)) (hb : Below w.heap.size w wr) {k : Nat} (hk : k < n) : ∃ bl off, A = some ⟨bl, off, none⟩ ∧ bl < wr.heap.size ∧
    wr.cell? ⟨bl, off + k * 3, none⟩ = some (.int .u8 (D k).what) ∧ wr.cell? ⟨bl, off + k * 3 + 1, none⟩ = some (.int .u8 (D k).wait) ∧ wr.cell? ⟨bl, off + k * 3 + 2, none⟩ = some (.int .u64 (D k).at_) := by
  obtain ⟨bl, off, e, hlt, hc⟩ := (h.later hb).2 (by omega)
  have c0 := hc k 0 hk (by omega)
  have c1 := hc k 1 hk (by omega)
  have c2 := hc k 2 hk (by omega)
  exact ⟨bl, off, e, hlt, c0, by rw [Nat.add_assoc]; exact c1, by rw [Nat.add_assoc]; exact c2⟩
set_option maxHeartbeats 8000000 in
set_option maxRecDepth 100000 in
theorem walk (x : Ins) (A : Option Addr) (n cc : Nat) (D : Nat → De) (hi ho dr : Int) (w : World) (b0 : InsOk x) (bd : Recs w w.heap.size A n 3 (deV D) ∧ (∀ i, i < n → DeOk (D i)) ∧ (A = none → cc = 0) ∧ n ≤ cc ∧ cc ≤ maxLen) (wa : (Lit.int .u16 hi).wf = true) (wb : (Lit.int .u16 ho).wf = true) (wc : (Lit.int .u16 dr).wf = true) :
    Calls Try.prog 5 #[x.val, .slice A n cc, .int .u16 hi, .int .u16 ho, .int .u16 dr] w fun e w' => e = .returned (.bool true) ∧ Below w.heap.size w w' := by
  obtain ⟨hD, hK, _, hn, hmax⟩ := bd
  have CL := Lib.hid (fun W => lives_any W)
  have h1 : 0 ≤ hi ∧ hi ≤ 65535 := by simp [Lit.wf, IntKind.min, IntKind.max, IntKind.signed, IntKind.bits] at wa; omega
  have h2 : 0 ≤ ho ∧ ho ≤ 65535 := by simp [Lit.wf, IntKind.min, IntKind.max, IntKind.signed, IntKind.bits] at wb; omega
  have h3 : 0 ≤ dr ∧ dr ≤ 65535 := by simp [Lit.wf, IntKind.min, IntKind.max, IntKind.signed, IntKind.bits] at wc; omega
  have v1 : IntKind.u64.wrap hi = hi := IntWalk.u64_in _ (by omega)
  have v2 : IntKind.u64.wrap ho = ho := IntWalk.u64_in _ (by omega)
  have v3 : IntKind.u64.wrap dr = dr := IntWalk.u64_in _ (by omega)
  clear wa wb wc b0
  have hnn : n ≤ 9223372036854775807 := by unfold maxLen at hmax; omega
  have HX := heap_alloc_new w (.cells x.cells 25)
  have BW := bAlloc (Below.refl _ w) (.cells x.cells 25)
  have I0 := run_ins (range_row HX)
  rcases hok : okB x with _ | _
  · have M := Lib.hid (fun W => may_is x false hok W)
    go_enter Try.func5, Try.ntmps5
    go_wp2_with fail
    refine (M.out _).mono ?_
    rintro _ u ⟨rfl, bu⟩
    go_wp2_with fail
    refine (CL.out _).mono ?_
    rintro _ u2 ⟨rfl, bu2⟩
    go_wp2
    go_ret
    exact ⟨rfl, bTrans (bTrans BW bu) bu2⟩
  have M := Lib.hid (fun W => may_is x true hok W)
  have HOK := Lib.hid hok
  clear hok
  obtain ⟨c, ec⟩ : ∃ c, spans hi ho dr 5 = c := ⟨_, rfl⟩
  have hin : Hid (∀ now at_ : Int, 0 ≤ now → In0 now at_ c) := Lib.hid (by rw [← ec]; exact fun now at_ h0 => ⟨h0, h1.1, h2.1, h3.1, (show (0 : Int) ≤ 5 by decide)⟩)
  clear h1 h2 h3
  go_enter Try.func5, Try.ntmps5
  go_wp2_with fail
  refine (M.out _).mono ?_
  rintro _ u2 ⟨rfl, bu⟩
  have H0 : Sl w x u2.heap.size c (u2.alloc (.cells c.cells 30 (0, 0))) := ⟨bAlloc (bTrans BW bu) _, heap_under (kept_box bu HX), heap_alloc_new _ _, fun e => by
    have h1 := (Array.getElem?_eq_some_iff.1 (kept_box bu HX)).1; omega⟩
  clear BW bu HX I0 M
  go_wp2_with ((with_reducible refine at_store 30 ?_); (refine store_plain rfl 30 _ _ rfl c.cells _ _ rfl (by rw [← ec]; rfl) (infoCfg.trans rfl) rfl c.one ?_))
  generalize u2.heap.size = cb at H0 ⊢
  generalize u2.alloc (.cells c.cells 30 (0, 0)) = V0 at H0 ⊢
  clear v1 v2 v3 ec
  go_loopw [12, 13, 14] (fun t12 t13 t14 wr => ∃ (k : Nat) (i : Ins) (now : Int) (lf : Bool), k ≤ n ∧ k ≤ 100 ∧ t12 = .int .u64 now ∧ t13 = .bool lf ∧ t14 = .int .i64 k ∧ 0 ≤ now ∧ now ≤ 255 * (k : Int) ∧ Hid (okB i = true) ∧ Hid (lf = true → (i.st = 4 ∨ i.st = 5 ∨ i.st = 6)) ∧ Sl w i cb c wr) (fun _ _ t14 _ => 100 - (intOf t14).toNat)
  case atStart => exact ⟨0, x, 0, false, by omega, by omega, rfl, rfl, rfl, by omega, by omega, HOK, Lib.hid (fun e => absurd e (by simp)), H0⟩
  case round =>
    obtain ⟨k, i, now, lf, hk, hk2, rfl, rfl, rfl, hn0, hn1, hio, hlf, hs⟩ := hrel
    by_cases hlt : k < n
    · have k1 : decide ((k : Int) < n) = true := decide_eq_true (by omega)
      by_cases h100 : k < 100
      · have k2 : decide ((k : Int) < 100) = true := decide_eq_true (by omega)
        obtain ⟨bl, off, rfl, hbl, d0, d1, d2⟩ := de_cells hD hs.b hlt
        have hok := hK k hlt
        have w0 : 0 ≤ (D k).wait ∧ (D k).wait ≤ 255 := by have := hok.wait; simp [Lit.wf, IntKind.min, IntKind.max, IntKind.signed, IntKind.bits] at this; omega
        have w1 : 0 ≤ (D k).at_ := by have := hok.at_; simp [Lit.wf, IntKind.min, IntKind.max, IntKind.signed, IntKind.bits] at this; omega
        have e1 : IntKind.u64.wrap (D k).wait = (D k).wait := IntWalk.u64_in _ (by omega)
        have e2 : IntKind.u64.wrap (now + (D k).wait) = now + (D k).wait := IntWalk.u64_in _ (by omega)
        have e3 : IntKind.i64.wrap ((k : Int) + 1) = (k : Int) + 1 := IntWalk.i64_in _ (by omega)
        obtain ⟨at1, hat⟩ : ∃ at1, (D k).at_ % 1000 = at1 := ⟨_, rfl⟩
        have e4 : (D k).at_.tmod 1000 = at1 := by rw [Int.tmod_eq_emod_of_nonneg w1, hat]
        have i0 : decide ((k : Int) < 0) = false := decide_eq_false (by omega)
        obtain ⟨a, ha⟩ : ∃ a, doV i (D k).what (now + (D k).wait) at1 c = a := ⟨_, rfl⟩
        have DO := Lib.hid (fun W => do_is i (D k).what (now + (D k).wait) at1 c (hin.out _ _ (by omega)) a ha W)
        have G1 : Hid (a.e ≠ 0 → a.x = i ∧ a.ask = 0) := Lib.hid (fun e => do_bad ha e)
        have G2 : Hid (a.e = 0 → Gd i a) := Lib.hid (fun e => do_good hio.out (hin.out _ _ (by omega)) (by omega) ha e)
        have N0 : Hid (0 ≤ now + (D k).wait ∧ now + (D k).wait ≤ 255 * ((k + 1 : Nat) : Int)) := Lib.hid ⟨by omega, by omega⟩
        clear ha hok w0 w1 hat hn0 hn1
        go_wp2_with fail
        have ST : ∀ {W W' : World}, Below W.heap.size W W' → ∀ ix, stab W W' ix 0 [fun v _ => v = i.val, fun v _ => v = .slice (some ⟨bl, off, none⟩) n cc, fun v _ => v = .int .i64 k, fun v _ => v = .pointer (some ⟨bl, off + k * 3, none⟩), fun v _ => v = .pointer (some ⟨bl, off + k * 3, none⟩), fun v _ => v = .int .u8 (D k).what, fun v _ => v = .int .u64 (now + (D k).wait), fun v _ => v = .slice (some ⟨bl, off, none⟩) n cc, fun v _ => v = .int .i64 k, fun v _ => v = .pointer (some ⟨bl, off + k * 3, none⟩), fun v _ => v = .pointer (some ⟨bl, off + k * 3 + 2, none⟩), fun v _ => v = .int .u64 (D k).at_, fun v _ => v = .int .u64 at1, fun v _ => v = c.val, fun v _ => v = .tuple #[a.x.val, .int .u8 a.ask, .int .i64 a.e], fun v _ => v = .tuple #[a.x.val, .int .u8 a.ask, .int .i64 a.e], fun v _ => v = a.x.val, fun v _ => v = .int .u8 a.ask, fun v _ => v = .int .i64 a.e, fun v W => ∃ g old, v = .pointer (some ⟨g, 0, none⟩) ∧ wr.heap.size ≤ g ∧ W.heap[g]? = some (.cells old 25 (0, 0)) ∧ old.size = 12, fun v W => ∃ g, v = .pointer (some ⟨g, 0, none⟩) ∧ wr.heap.size ≤ g ∧ W.heap[g]? = some (.cells a.x.cells 25 (0, 0)), fun v _ => v = .int .u8 a.ask, fun v _ => v = .int .i64 a.e] := by
          intro W W' hb ix
          refine ⟨.inr fun _ h => h, .inr fun _ h => h, .inr fun _ h => h, .inr fun _ h => h, .inr fun _ h => h, .inr fun _ h => h, .inr fun _ h => h, .inr fun _ h => h, .inr fun _ h => h, .inr fun _ h => h, .inr fun _ h => h, .inr fun _ h => h, .inr fun _ h => h, .inr fun _ h => h, .inr fun _ h => h, .inr fun _ h => h, .inr fun _ h => h, .inr fun _ h => h, .inr fun _ h => h, .inr ?_, .inr ?_, .inr fun _ h => h, .inr fun _ h => h, trivial⟩
          · rintro _ ⟨g, old, rfl, hg, hr, ho⟩
            exact ⟨g, old, rfl, hg, kept_box hb hr, ho⟩
          · rintro _ ⟨g, rfl, hg, hr⟩
            exact ⟨g, rfl, hg, kept_box hb hr⟩
        refine flow (fun _ W => Below wr.heap.size wr W) [fun v _ => v = i.val, fun v _ => v = .slice (some ⟨bl, off, none⟩) n cc, fun v _ => v = .int .i64 k, fun v _ => v = .pointer (some ⟨bl, off + k * 3, none⟩), fun v _ => v = .pointer (some ⟨bl, off + k * 3, none⟩), fun v _ => v = .int .u8 (D k).what, fun v _ => v = .int .u64 (now + (D k).wait), fun v _ => v = .slice (some ⟨bl, off, none⟩) n cc, fun v _ => v = .int .i64 k, fun v _ => v = .pointer (some ⟨bl, off + k * 3, none⟩), fun v _ => v = .pointer (some ⟨bl, off + k * 3 + 2, none⟩), fun v _ => v = .int .u64 (D k).at_, fun v _ => v = .int .u64 at1, fun v _ => v = c.val, fun v _ => v = .tuple #[a.x.val, .int .u8 a.ask, .int .i64 a.e], fun v _ => v = .tuple #[a.x.val, .int .u8 a.ask, .int .i64 a.e], fun v _ => v = a.x.val, fun v _ => v = .int .u8 a.ask, fun v _ => v = .int .i64 a.e, fun v W => ∃ g old, v = .pointer (some ⟨g, 0, none⟩) ∧ wr.heap.size ≤ g ∧ W.heap[g]? = some (.cells old 25 (0, 0)) ∧ old.size = 12, fun v W => ∃ g, v = .pointer (some ⟨g, 0, none⟩) ∧ wr.heap.size ≤ g ∧ W.heap[g]? = some (.cells a.x.cells 25 (0, 0)), fun v _ => v = .int .u8 a.ask, fun v _ => v = .int .i64 a.e] [48, 49, 50, 51, 52, 53, 54, 55, 56, 57, 58, 59, 60, 61, 62, 47, 63, 64, 65, 15, 15, 16, 17] [48, 49, 50, 51, 52, 53, 54, 55, 56, 57, 58, 59, 60, 61, 62, 47, 63, 64, 65, 15, 16, 17] 144 (by kernel_rfl) rfl (by kernel_rfl) rfl (bDrew (Below.refl _ _)) ⟨?_, ?_, ?_, ?_, ?_, ?_, ?_, ?_, ?_, ?_, ?_, ?_, ?_, ?_, ?_, ?_, ?_, ?_, ?_, ?_, ?_, ?_, ?_, trivial⟩ ?_
        · intro L fa W hz hd hk hI hL hcl hdep
          have hN : fa.tmps.size = 144 := hz
          have k5 : fa.eval (.tmp 5) = .pointer (some ⟨w.heap.size, 0, none⟩) := eval_of ((hk 5 (by decide)).trans rfl)
          apply step_val (s := 48) (v := i.val) (w' := W)
          · exact exec_load_row 25 _ rfl k5 (kept_box hI hs.x) Try.underlying25 rfl (sizeInst.trans rfl)
          · rfl
          · rfl
          · omega
          · exact hI
          · exact stab_refl _ _ _ _
          · exact rfl
        · intro L fa W hz hd hk hI hL hcl hdep
          have hN : fa.tmps.size = 144 := hz
          have k1 : fa.eval (.tmp 1) = .slice (some ⟨bl, off, none⟩) n cc := eval_of ((hk 1 (by decide)).trans rfl)
          apply step_val (s := 49) (v := .slice (some ⟨bl, off, none⟩) n cc) (w' := W)
          · simp [execOp, k1]
          · rfl
          · rfl
          · omega
          · exact hI
          · exact stab_refl _ _ _ _
          · exact rfl
        · intro L fa W hz hd hk hI hL hcl hdep
          have hN : fa.tmps.size = 144 := hz
          have k14 : fa.eval (.tmp 14) = .int .i64 k := eval_of ((hk 14 (by decide)).trans rfl)
          apply step_val (s := 50) (v := .int .i64 k) (w' := W)
          · simp [execOp, k14]
          · rfl
          · rfl
          · omega
          · exact hI
          · exact stab_refl _ _ _ _
          · exact rfl
        · intro L fa W hz hd hk hI hL hcl hdep
          have hN : fa.tmps.size = 144 := hz
          obtain ⟨⟨v1, e1, g1⟩, ⟨v2, e2, g2⟩, -⟩ := hdep
          replace g1 : v1 = .slice (some ⟨bl, off, none⟩) n cc := g1
          subst g1
          have k49 : fa.eval (.tmp 49) = .slice (some ⟨bl, off, none⟩) n cc := eval_of e1
          replace g2 : v2 = .int .i64 k := g2
          subst g2
          have k50 : fa.eval (.tmp 50) = .int .i64 k := eval_of e2
          apply step_val (s := 51) (v := .pointer (some ⟨bl, off + k * 3, none⟩)) (w' := W)
          · simp [execOp, k49, k50]; go_simp
          · rfl
          · rfl
          · omega
          · exact hI
          · exact stab_refl _ _ _ _
          · exact rfl
        · intro L fa W hz hd hk hI hL hcl hdep
          have hN : fa.tmps.size = 144 := hz
          obtain ⟨⟨v3, e3, g3⟩, -⟩ := hdep
          replace g3 : v3 = .pointer (some ⟨bl, off + k * 3, none⟩) := g3
          subst g3
          have k51 : fa.eval (.tmp 51) = .pointer (some ⟨bl, off + k * 3, none⟩) := eval_of e3
          apply step_val (s := 52) (v := .pointer (some ⟨bl, off + k * 3, none⟩)) (w' := W)
          · simp [execOp, k51]; go_simp
          · rfl
          · rfl
          · omega
          · exact hI
          · exact stab_refl _ _ _ _
          · exact rfl
        · intro L fa W hz hd hk hI hL hcl hdep
          have hN : fa.tmps.size = 144 := hz
          obtain ⟨⟨v4, e4, g4⟩, -⟩ := hdep
          replace g4 : v4 = .pointer (some ⟨bl, off + k * 3, none⟩) := g4
          subst g4
          have k52 : fa.eval (.tmp 52) = .pointer (some ⟨bl, off + k * 3, none⟩) := eval_of e4
          have c0 := ((bcell hI).1 bl (off + k * 3) hbl).trans d0
          apply step_val (s := 53) (v := .int .u8 (D k).what) (w' := W)
          · simp [execOp, k52]; go_simp
          · rfl
          · rfl
          · omega
          · exact hI
          · exact stab_refl _ _ _ _
          · exact rfl
        · intro L fa W hz hd hk hI hL hcl hdep
          have hN : fa.tmps.size = 144 := hz
          have k12 : fa.eval (.tmp 12) = .int .u64 (now + (D k).wait) := eval_of ((hk 12 (by decide)).trans rfl)
          apply step_val (s := 54) (v := .int .u64 (now + (D k).wait)) (w' := W)
          · simp [execOp, k12]
          · rfl
          · rfl
          · omega
          · exact hI
          · exact stab_refl _ _ _ _
          · exact rfl
        · intro L fa W hz hd hk hI hL hcl hdep
          have hN : fa.tmps.size = 144 := hz
          have k1 : fa.eval (.tmp 1) = .slice (some ⟨bl, off, none⟩) n cc := eval_of ((hk 1 (by decide)).trans rfl)
          apply step_val (s := 55) (v := .slice (some ⟨bl, off, none⟩) n cc) (w' := W)
          · simp [execOp, k1]
          · rfl
          · rfl
          · omega
          · exact hI
          · exact stab_refl _ _ _ _
          · exact rfl
        · intro L fa W hz hd hk hI hL hcl hdep
          have hN : fa.tmps.size = 144 := hz
          have k14 : fa.eval (.tmp 14) = .int .i64 k := eval_of ((hk 14 (by decide)).trans rfl)
          apply step_val (s := 56) (v := .int .i64 k) (w' := W)
          · simp [execOp, k14]
          · rfl
          · rfl
          · omega
          · exact hI
          · exact stab_refl _ _ _ _
          · exact rfl
        · intro L fa W hz hd hk hI hL hcl hdep
          have hN : fa.tmps.size = 144 := hz
          obtain ⟨⟨v7, e7, g7⟩, ⟨v8, e8, g8⟩, -⟩ := hdep
          replace g7 : v7 = .slice (some ⟨bl, off, none⟩) n cc := g7
          subst g7
          have k55 : fa.eval (.tmp 55) = .slice (some ⟨bl, off, none⟩) n cc := eval_of e7
          replace g8 : v8 = .int .i64 k := g8
          subst g8
          have k56 : fa.eval (.tmp 56) = .int .i64 k := eval_of e8
          apply step_val (s := 57) (v := .pointer (some ⟨bl, off + k * 3, none⟩)) (w' := W)
          · simp [execOp, k55, k56]; go_simp
          · rfl
          · rfl
          · omega
          · exact hI
          · exact stab_refl _ _ _ _
          · exact rfl
        · intro L fa W hz hd hk hI hL hcl hdep
          have hN : fa.tmps.size = 144 := hz
          obtain ⟨⟨v9, e9, g9⟩, -⟩ := hdep
          replace g9 : v9 = .pointer (some ⟨bl, off + k * 3, none⟩) := g9
          subst g9
          have k57 : fa.eval (.tmp 57) = .pointer (some ⟨bl, off + k * 3, none⟩) := eval_of e9
          apply step_val (s := 58) (v := .pointer (some ⟨bl, off + k * 3 + 2, none⟩)) (w' := W)
          · simp [execOp, k57]; go_simp
          · rfl
          · rfl
          · omega
          · exact hI
          · exact stab_refl _ _ _ _
          · exact rfl
        · intro L fa W hz hd hk hI hL hcl hdep
          have hN : fa.tmps.size = 144 := hz
          obtain ⟨⟨v10, e10, g10⟩, -⟩ := hdep
          replace g10 : v10 = .pointer (some ⟨bl, off + k * 3 + 2, none⟩) := g10
          subst g10
          have k58 : fa.eval (.tmp 58) = .pointer (some ⟨bl, off + k * 3 + 2, none⟩) := eval_of e10
          have c0 := ((bcell hI).1 bl (off + k * 3 + 2) hbl).trans d2
          apply step_val (s := 59) (v := .int .u64 (D k).at_) (w' := W)
          · simp [execOp, k58]; go_simp
          · rfl
          · rfl
          · omega
          · exact hI
          · exact stab_refl _ _ _ _
          · exact rfl
        · intro L fa W hz hd hk hI hL hcl hdep
          have hN : fa.tmps.size = 144 := hz
          obtain ⟨⟨v11, e11, g11⟩, -⟩ := hdep
          replace g11 : v11 = .int .u64 (D k).at_ := g11
          subst g11
          have k59 : fa.eval (.tmp 59) = .int .u64 (D k).at_ := eval_of e11
          apply step_val (s := 60) (v := .int .u64 at1) (w' := W)
          · simp [execOp, k59]; go_simp
          · rfl
          · rfl
          · omega
          · exact hI
          · exact stab_refl _ _ _ _
          · exact rfl
        · intro L fa W hz hd hk hI hL hcl hdep
          have hN : fa.tmps.size = 144 := hz
          have k11 : fa.eval (.tmp 11) = .pointer (some ⟨cb, 0, none⟩) := eval_of ((hk 11 (by decide)).trans rfl)
          apply step_val (s := 61) (v := c.val) (w' := W)
          · exact exec_load_row 30 _ rfl k11 (kept_box hI hs.c) Try.underlying30 rfl (infoCfg.trans rfl)
          · rfl
          · rfl
          · omega
          · exact hI
          · exact stab_refl _ _ _ _
          · exact rfl
        · intro L fa W hz hd hk hI hL hcl hdep
          have hN : fa.tmps.size = 144 := hz
          obtain ⟨⟨v0, e0, g0⟩, ⟨v5, e5, g5⟩, ⟨v6, e6, g6⟩, ⟨v12, e12, g12⟩, ⟨v13, e13, g13⟩, -⟩ := hdep
          replace g0 : v0 = i.val := g0
          subst g0
          have k48 : fa.eval (.tmp 48) = i.val := eval_of e0
          replace g5 : v5 = .int .u8 (D k).what := g5
          subst g5
          have k53 : fa.eval (.tmp 53) = .int .u8 (D k).what := eval_of e5
          replace g6 : v6 = .int .u64 (now + (D k).wait) := g6
          subst g6
          have k54 : fa.eval (.tmp 54) = .int .u64 (now + (D k).wait) := eval_of e6
          replace g12 : v12 = .int .u64 at1 := g12
          subst g12
          have k60 : fa.eval (.tmp 60) = .int .u64 at1 := eval_of e12
          replace g13 : v13 = c.val := g13
          subst g13
          have k61 : fa.eval (.tmp 61) = c.val := eval_of e13
          apply step_call (s := 62) (f := 7) (args := #[i.val, .int .u8 (D k).what, .int .u64 (now + (D k).wait), .int .u64 at1, c.val])
          · go_simp; exact ⟨idx e0, idx e5, idx e6, idx e12, idx e13⟩
          · rfl
          · rfl
          · omega
          refine (DO.out W).mono ?_
          rintro _ W' ⟨rfl, bw⟩
          exact ⟨_, rfl, bTrans hI bw, ST bw _, rfl⟩
        · intro L fa W hz hd hk hI hL hcl hdep
          have hN : fa.tmps.size = 144 := hz
          obtain ⟨⟨v14, e14, g14⟩, -⟩ := hdep
          replace g14 : v14 = .tuple #[a.x.val, .int .u8 a.ask, .int .i64 a.e] := g14
          subst g14
          have k62 : fa.eval (.tmp 62) = .tuple #[a.x.val, .int .u8 a.ask, .int .i64 a.e] := eval_of e14
          apply step_val (s := 47) (v := .tuple #[a.x.val, .int .u8 a.ask, .int .i64 a.e]) (w' := W)
          · simp [execOp, k62]
          · rfl
          · rfl
          · omega
          · exact hI
          · exact stab_refl _ _ _ _
          · exact rfl
        · intro L fa W hz hd hk hI hL hcl hdep
          have hN : fa.tmps.size = 144 := hz
          obtain ⟨⟨v15, e15, g15⟩, -⟩ := hdep
          replace g15 : v15 = .tuple #[a.x.val, .int .u8 a.ask, .int .i64 a.e] := g15
          subst g15
          have k47 : fa.eval (.tmp 47) = .tuple #[a.x.val, .int .u8 a.ask, .int .i64 a.e] := eval_of e15
          apply step_val (s := 63) (v := a.x.val) (w' := W)
          · simp [execOp, k47]; go_simp
          · rfl
          · rfl
          · omega
          · exact hI
          · exact stab_refl _ _ _ _
          · exact rfl
        · intro L fa W hz hd hk hI hL hcl hdep
          have hN : fa.tmps.size = 144 := hz
          obtain ⟨⟨v15, e15, g15⟩, -⟩ := hdep
          replace g15 : v15 = .tuple #[a.x.val, .int .u8 a.ask, .int .i64 a.e] := g15
          subst g15
          have k47 : fa.eval (.tmp 47) = .tuple #[a.x.val, .int .u8 a.ask, .int .i64 a.e] := eval_of e15
          apply step_val (s := 64) (v := .int .u8 a.ask) (w' := W)
          · simp [execOp, k47]; go_simp
          · rfl
          · rfl
          · omega
          · exact hI
          · exact stab_refl _ _ _ _
          · exact rfl
        · intro L fa W hz hd hk hI hL hcl hdep
          have hN : fa.tmps.size = 144 := hz
          obtain ⟨⟨v15, e15, g15⟩, -⟩ := hdep
          replace g15 : v15 = .tuple #[a.x.val, .int .u8 a.ask, .int .i64 a.e] := g15
          subst g15
          have k47 : fa.eval (.tmp 47) = .tuple #[a.x.val, .int .u8 a.ask, .int .i64 a.e] := eval_of e15
          apply step_val (s := 65) (v := .int .i64 a.e) (w' := W)
          · simp [execOp, k47]; go_simp
          · rfl
          · rfl
          · omega
          · exact hI
          · exact stab_refl _ _ _ _
          · exact rfl
        · intro L fa W hz hd hk hI hL hcl hdep
          have hN : fa.tmps.size = 144 := hz
          apply step_val (s := 15) (v := .pointer (some ⟨W.heap.size, 0, none⟩)) (w' := W.alloc (.cells Inst.none_.cells 25 (0, 0)))
          · go_simp <;> rfl
          · rfl
          · rfl
          · omega
          · exact bAlloc hI _
          · exact ST (bAlloc (Below.refl _ _) _) _
          · exact ⟨W.heap.size, Inst.none_.cells, rfl, hI.size, heap_alloc_new _ _, rfl⟩
        · intro L fa W hz hd hk hI hL hcl hdep
          have hN : fa.tmps.size = 144 := hz
          obtain ⟨⟨v19, e19, g19⟩, ⟨v16, e16, g16⟩, ⟨v14, e14, g14⟩, ⟨v0, e0, g0⟩, ⟨v1, e1, g1⟩, ⟨v2, e2, g2⟩, ⟨v3, e3, g3⟩, ⟨v4, e4, g4⟩, ⟨v5, e5, g5⟩, ⟨v6, e6, g6⟩, ⟨v7, e7, g7⟩, ⟨v8, e8, g8⟩, ⟨v9, e9, g9⟩, ⟨v10, e10, g10⟩, ⟨v11, e11, g11⟩, ⟨v12, e12, g12⟩, ⟨v13, e13, g13⟩, -, ⟨v15, e15, g15⟩, -, -, -⟩ := hdep
          replace g16 : v16 = a.x.val := g16
          subst g16
          have k63 : fa.eval (.tmp 63) = a.x.val := eval_of e16
          replace g14 : v14 = .tuple #[a.x.val, .int .u8 a.ask, .int .i64 a.e] := g14
          subst g14
          have k62 : fa.eval (.tmp 62) = .tuple #[a.x.val, .int .u8 a.ask, .int .i64 a.e] := eval_of e14
          replace g0 : v0 = i.val := g0
          subst g0
          have k48 : fa.eval (.tmp 48) = i.val := eval_of e0
          replace g1 : v1 = .slice (some ⟨bl, off, none⟩) n cc := g1
          subst g1
          have k49 : fa.eval (.tmp 49) = .slice (some ⟨bl, off, none⟩) n cc := eval_of e1
          replace g2 : v2 = .int .i64 k := g2
          subst g2
          have k50 : fa.eval (.tmp 50) = .int .i64 k := eval_of e2
          replace g3 : v3 = .pointer (some ⟨bl, off + k * 3, none⟩) := g3
          subst g3
          have k51 : fa.eval (.tmp 51) = .pointer (some ⟨bl, off + k * 3, none⟩) := eval_of e3
          replace g4 : v4 = .pointer (some ⟨bl, off + k * 3, none⟩) := g4
          subst g4
          have k52 : fa.eval (.tmp 52) = .pointer (some ⟨bl, off + k * 3, none⟩) := eval_of e4
          replace g5 : v5 = .int .u8 (D k).what := g5
          subst g5
          have k53 : fa.eval (.tmp 53) = .int .u8 (D k).what := eval_of e5
          replace g6 : v6 = .int .u64 (now + (D k).wait) := g6
          subst g6
          have k54 : fa.eval (.tmp 54) = .int .u64 (now + (D k).wait) := eval_of e6
          replace g7 : v7 = .slice (some ⟨bl, off, none⟩) n cc := g7
          subst g7
          have k55 : fa.eval (.tmp 55) = .slice (some ⟨bl, off, none⟩) n cc := eval_of e7
          replace g8 : v8 = .int .i64 k := g8
          subst g8
          have k56 : fa.eval (.tmp 56) = .int .i64 k := eval_of e8
          replace g9 : v9 = .pointer (some ⟨bl, off + k * 3, none⟩) := g9
          subst g9
          have k57 : fa.eval (.tmp 57) = .pointer (some ⟨bl, off + k * 3, none⟩) := eval_of e9
          replace g10 : v10 = .pointer (some ⟨bl, off + k * 3 + 2, none⟩) := g10
          subst g10
          have k58 : fa.eval (.tmp 58) = .pointer (some ⟨bl, off + k * 3 + 2, none⟩) := eval_of e10
          replace g11 : v11 = .int .u64 (D k).at_ := g11
          subst g11
          have k59 : fa.eval (.tmp 59) = .int .u64 (D k).at_ := eval_of e11
          replace g12 : v12 = .int .u64 at1 := g12
          subst g12
          have k60 : fa.eval (.tmp 60) = .int .u64 at1 := eval_of e12
          replace g13 : v13 = c.val := g13
          subst g13
          have k61 : fa.eval (.tmp 61) = c.val := eval_of e13
          replace g15 : v15 = .tuple #[a.x.val, .int .u8 a.ask, .int .i64 a.e] := g15
          subst g15
          have k47 : fa.eval (.tmp 47) = .tuple #[a.x.val, .int .u8 a.ask, .int .i64 a.e] := eval_of e15
          obtain ⟨g, old, rfl, hg, hr, ho⟩ := (show ∃ g old, v19 = .pointer (some ⟨g, 0, none⟩) ∧ wr.heap.size ≤ g ∧ W.heap[g]? = some (.cells old 25 (0, 0)) ∧ old.size = 12 from g19)
          have k15 : fa.eval (.tmp 15) = .pointer (some ⟨g, 0, none⟩) := eval_of e19
          apply Flow.step_skip (w' := W.setRow g a.x.cells)
          · exact exec_store_row 25 _ _ rfl k15 k63 hr (sizeInst.trans rfl) (ho.trans rfl) a.x.one
          · rfl
          · exact below_row _ hI hg
          · refine ⟨.inr fun _ h => h, .inr fun _ h => h, .inr fun _ h => h, .inr fun _ h => h, .inr fun _ h => h, .inr fun _ h => h, .inr fun _ h => h, .inr fun _ h => h, .inr fun _ h => h, .inr fun _ h => h, .inr fun _ h => h, .inr fun _ h => h, .inr fun _ h => h, .inr fun _ h => h, .inr fun _ h => h, .inr fun _ h => h, .inr fun _ h => h, .inr fun _ h => h, .inr fun _ h => h, .inr ?_, .inl rfl, .inr fun _ h => h, .inr fun _ h => h, trivial⟩
            rintro _ ⟨g', old', rfl, hg', hr', ho'⟩
            by_cases e : g = g'
            · subst e; exact ⟨g, _, rfl, hg', row_at hr', rfl⟩
            · exact ⟨g', old', rfl, hg', (row_else e).trans hr', ho'⟩
          · exact ⟨g, k15, hg, row_at hr⟩
        · intro L fa W hz hd hk hI hL hcl hdep
          have hN : fa.tmps.size = 144 := hz
          obtain ⟨⟨v17, e17, g17⟩, ⟨v20, e20, g20⟩, ⟨v0, e0, g0⟩, ⟨v1, e1, g1⟩, ⟨v2, e2, g2⟩, ⟨v3, e3, g3⟩, ⟨v4, e4, g4⟩, ⟨v5, e5, g5⟩, ⟨v6, e6, g6⟩, ⟨v7, e7, g7⟩, ⟨v8, e8, g8⟩, ⟨v9, e9, g9⟩, ⟨v10, e10, g10⟩, ⟨v11, e11, g11⟩, ⟨v12, e12, g12⟩, ⟨v13, e13, g13⟩, ⟨v14, e14, g14⟩, ⟨v15, e15, g15⟩, ⟨v16, e16, g16⟩, -, ⟨v19, e19, g19⟩, -, -⟩ := hdep
          replace g17 : v17 = .int .u8 a.ask := g17
          subst g17
          have k64 : fa.eval (.tmp 64) = .int .u8 a.ask := eval_of e17
          replace g0 : v0 = i.val := g0
          subst g0
          have k48 : fa.eval (.tmp 48) = i.val := eval_of e0
          replace g1 : v1 = .slice (some ⟨bl, off, none⟩) n cc := g1
          subst g1
          have k49 : fa.eval (.tmp 49) = .slice (some ⟨bl, off, none⟩) n cc := eval_of e1
          replace g2 : v2 = .int .i64 k := g2
          subst g2
          have k50 : fa.eval (.tmp 50) = .int .i64 k := eval_of e2
          replace g3 : v3 = .pointer (some ⟨bl, off + k * 3, none⟩) := g3
          subst g3
          have k51 : fa.eval (.tmp 51) = .pointer (some ⟨bl, off + k * 3, none⟩) := eval_of e3
          replace g4 : v4 = .pointer (some ⟨bl, off + k * 3, none⟩) := g4
          subst g4
          have k52 : fa.eval (.tmp 52) = .pointer (some ⟨bl, off + k * 3, none⟩) := eval_of e4
          replace g5 : v5 = .int .u8 (D k).what := g5
          subst g5
          have k53 : fa.eval (.tmp 53) = .int .u8 (D k).what := eval_of e5
          replace g6 : v6 = .int .u64 (now + (D k).wait) := g6
          subst g6
          have k54 : fa.eval (.tmp 54) = .int .u64 (now + (D k).wait) := eval_of e6
          replace g7 : v7 = .slice (some ⟨bl, off, none⟩) n cc := g7
          subst g7
          have k55 : fa.eval (.tmp 55) = .slice (some ⟨bl, off, none⟩) n cc := eval_of e7
          replace g8 : v8 = .int .i64 k := g8
          subst g8
          have k56 : fa.eval (.tmp 56) = .int .i64 k := eval_of e8
          replace g9 : v9 = .pointer (some ⟨bl, off + k * 3, none⟩) := g9
          subst g9
          have k57 : fa.eval (.tmp 57) = .pointer (some ⟨bl, off + k * 3, none⟩) := eval_of e9
          replace g10 : v10 = .pointer (some ⟨bl, off + k * 3 + 2, none⟩) := g10
          subst g10
          have k58 : fa.eval (.tmp 58) = .pointer (some ⟨bl, off + k * 3 + 2, none⟩) := eval_of e10
          replace g11 : v11 = .int .u64 (D k).at_ := g11
          subst g11
          have k59 : fa.eval (.tmp 59) = .int .u64 (D k).at_ := eval_of e11
          replace g12 : v12 = .int .u64 at1 := g12
          subst g12
          have k60 : fa.eval (.tmp 60) = .int .u64 at1 := eval_of e12
          replace g13 : v13 = c.val := g13
          subst g13
          have k61 : fa.eval (.tmp 61) = c.val := eval_of e13
          replace g14 : v14 = .tuple #[a.x.val, .int .u8 a.ask, .int .i64 a.e] := g14
          subst g14
          have k62 : fa.eval (.tmp 62) = .tuple #[a.x.val, .int .u8 a.ask, .int .i64 a.e] := eval_of e14
          replace g15 : v15 = .tuple #[a.x.val, .int .u8 a.ask, .int .i64 a.e] := g15
          subst g15
          have k47 : fa.eval (.tmp 47) = .tuple #[a.x.val, .int .u8 a.ask, .int .i64 a.e] := eval_of e15
          replace g16 : v16 = a.x.val := g16
          subst g16
          have k63 : fa.eval (.tmp 63) = a.x.val := eval_of e16
          apply step_val (s := 16) (v := .int .u8 a.ask) (w' := W)
          · simp [execOp, k64]
          · rfl
          · rfl
          · omega
          · exact hI
          · exact stab_refl _ _ _ _
          · exact rfl
        · intro L fa W hz hd hk hI hL hcl hdep
          have hN : fa.tmps.size = 144 := hz
          obtain ⟨⟨v18, e18, g18⟩, ⟨v21, e21, g21⟩, ⟨v0, e0, g0⟩, ⟨v1, e1, g1⟩, ⟨v2, e2, g2⟩, ⟨v3, e3, g3⟩, ⟨v4, e4, g4⟩, ⟨v5, e5, g5⟩, ⟨v6, e6, g6⟩, ⟨v7, e7, g7⟩, ⟨v8, e8, g8⟩, ⟨v9, e9, g9⟩, ⟨v10, e10, g10⟩, ⟨v11, e11, g11⟩, ⟨v12, e12, g12⟩, ⟨v13, e13, g13⟩, ⟨v14, e14, g14⟩, ⟨v15, e15, g15⟩, ⟨v16, e16, g16⟩, ⟨v17, e17, g17⟩, -, ⟨v19, e19, g19⟩, ⟨v20, e20, g20⟩, -, -⟩ := hdep
          replace g18 : v18 = .int .i64 a.e := g18
          subst g18
          have k65 : fa.eval (.tmp 65) = .int .i64 a.e := eval_of e18
          replace g21 : v21 = .int .u8 a.ask := g21
          subst g21
          have k16 : fa.eval (.tmp 16) = .int .u8 a.ask := eval_of e21
          replace g0 : v0 = i.val := g0
          subst g0
          have k48 : fa.eval (.tmp 48) = i.val := eval_of e0
          replace g1 : v1 = .slice (some ⟨bl, off, none⟩) n cc := g1
          subst g1
          have k49 : fa.eval (.tmp 49) = .slice (some ⟨bl, off, none⟩) n cc := eval_of e1
          replace g2 : v2 = .int .i64 k := g2
          subst g2
          have k50 : fa.eval (.tmp 50) = .int .i64 k := eval_of e2
          replace g3 : v3 = .pointer (some ⟨bl, off + k * 3, none⟩) := g3
          subst g3
          have k51 : fa.eval (.tmp 51) = .pointer (some ⟨bl, off + k * 3, none⟩) := eval_of e3
          replace g4 : v4 = .pointer (some ⟨bl, off + k * 3, none⟩) := g4
          subst g4
          have k52 : fa.eval (.tmp 52) = .pointer (some ⟨bl, off + k * 3, none⟩) := eval_of e4
          replace g5 : v5 = .int .u8 (D k).what := g5
          subst g5
          have k53 : fa.eval (.tmp 53) = .int .u8 (D k).what := eval_of e5
          replace g6 : v6 = .int .u64 (now + (D k).wait) := g6
          subst g6
          have k54 : fa.eval (.tmp 54) = .int .u64 (now + (D k).wait) := eval_of e6
          replace g7 : v7 = .slice (some ⟨bl, off, none⟩) n cc := g7
          subst g7
          have k55 : fa.eval (.tmp 55) = .slice (some ⟨bl, off, none⟩) n cc := eval_of e7
          replace g8 : v8 = .int .i64 k := g8
          subst g8
          have k56 : fa.eval (.tmp 56) = .int .i64 k := eval_of e8
          replace g9 : v9 = .pointer (some ⟨bl, off + k * 3, none⟩) := g9
          subst g9
          have k57 : fa.eval (.tmp 57) = .pointer (some ⟨bl, off + k * 3, none⟩) := eval_of e9
          replace g10 : v10 = .pointer (some ⟨bl, off + k * 3 + 2, none⟩) := g10
          subst g10
          have k58 : fa.eval (.tmp 58) = .pointer (some ⟨bl, off + k * 3 + 2, none⟩) := eval_of e10
          replace g11 : v11 = .int .u64 (D k).at_ := g11
          subst g11
          have k59 : fa.eval (.tmp 59) = .int .u64 (D k).at_ := eval_of e11
          replace g12 : v12 = .int .u64 at1 := g12
          subst g12
          have k60 : fa.eval (.tmp 60) = .int .u64 at1 := eval_of e12
          replace g13 : v13 = c.val := g13
          subst g13
          have k61 : fa.eval (.tmp 61) = c.val := eval_of e13
          replace g14 : v14 = .tuple #[a.x.val, .int .u8 a.ask, .int .i64 a.e] := g14
          subst g14
          have k62 : fa.eval (.tmp 62) = .tuple #[a.x.val, .int .u8 a.ask, .int .i64 a.e] := eval_of e14
          replace g15 : v15 = .tuple #[a.x.val, .int .u8 a.ask, .int .i64 a.e] := g15
          subst g15
          have k47 : fa.eval (.tmp 47) = .tuple #[a.x.val, .int .u8 a.ask, .int .i64 a.e] := eval_of e15
          replace g16 : v16 = a.x.val := g16
          subst g16
          have k63 : fa.eval (.tmp 63) = a.x.val := eval_of e16
          replace g17 : v17 = .int .u8 a.ask := g17
          subst g17
          have k64 : fa.eval (.tmp 64) = .int .u8 a.ask := eval_of e17
          apply step_val (s := 17) (v := .int .i64 a.e) (w' := W)
          · simp [execOp, k65]
          · rfl
          · rfl
          · omega
          · exact hI
          · exact stab_refl _ _ _ _
          · exact rfl
        intro V Y bI
        replace bI : Below wr.heap.size wr V := bI
        refine fun g0 g1 g2 g3 g4 g5 g6 g7 g8 g9 g10 g11 g12 g13 g14 g15 g16 g17 g18 g19 g20 g21 g22 => ?_
        replace g0 : Y 48 = i.val := g0
        replace g1 : Y 49 = .slice (some ⟨bl, off, none⟩) n cc := g1
        replace g2 : Y 50 = .int .i64 k := g2
        replace g3 : Y 51 = .pointer (some ⟨bl, off + k * 3, none⟩) := g3
        replace g4 : Y 52 = .pointer (some ⟨bl, off + k * 3, none⟩) := g4
        replace g5 : Y 53 = .int .u8 (D k).what := g5
        replace g6 : Y 54 = .int .u64 (now + (D k).wait) := g6
        replace g7 : Y 55 = .slice (some ⟨bl, off, none⟩) n cc := g7
        replace g8 : Y 56 = .int .i64 k := g8
        replace g9 : Y 57 = .pointer (some ⟨bl, off + k * 3, none⟩) := g9
        replace g10 : Y 58 = .pointer (some ⟨bl, off + k * 3 + 2, none⟩) := g10
        replace g11 : Y 59 = .int .u64 (D k).at_ := g11
        replace g12 : Y 60 = .int .u64 at1 := g12
        replace g13 : Y 61 = c.val := g13
        replace g14 : Y 62 = .tuple #[a.x.val, .int .u8 a.ask, .int .i64 a.e] := g14
        replace g15 : Y 47 = .tuple #[a.x.val, .int .u8 a.ask, .int .i64 a.e] := g15
        replace g16 : Y 63 = a.x.val := g16
        replace g17 : Y 64 = .int .u8 a.ask := g17
        replace g18 : Y 65 = .int .i64 a.e := g18
        replace g21 : Y 16 = .int .u8 a.ask := g21
        replace g22 : Y 17 = .int .i64 a.e := g22
        obtain ⟨g, eA, hgA, HG⟩ := (show ∃ g, Y 15 = .pointer (some ⟨g, 0, none⟩) ∧ wr.heap.size ≤ g ∧ V.heap[g]? = some (.cells a.x.cells 25 (0, 0)) from g20)
        clear g19 g20 ST
        rename_i K hK
        show K _ V
        refine hK _ _ ?_
        rw [g0, g1, g2, g3, g4, g5, g6, g7, g8, g9, g10, g11, g12, g13, g14, g15, g16, g17, g18, g21, g22, eA]
        clear hK g0 g1 g2 g3 g4 g5 g6 g7 g8 g9 g10 g11 g12 g13 g14 g15 g16 g17 g18 g21 g22 eA
        try simp only [Act.put, List.setIfInBounds_toArray, List.set_cons_succ, List.set_cons_zero]
        have hz := (Array.getElem?_eq_some_iff.1 hs.x).1
        have hs1 := hs.call bI
        clear bI DO d0 d1 d2 e1 e2 e4
        have J5 := run_ins (range_row hs1.x)
        by_cases he : a.e = 0
        · have z0 : (a.e != 0) = false := by simp [he]
          have gd := G2.out he
          have ok2 := Lib.hid gd.ok
          have MA := Lib.hid (fun W => may_is a.x true gd.ok W)
          clear he G1 G2
          by_cases p6 : i.st = 6
          · have hx := gd.six p6
            have r6 : a.x.st = 6 := by rw [hx]; exact p6
            have p3 : ¬ i.st = 3 := by omega
            have r3 : ¬ a.x.st = 3 := by omega
            have rq : ¬ a.ask = 2 := fun e => (gd.ask.2 e).2 p6
            clear hx
            rcases lf with _ | _
            · skip
              have f1 : (i.st == 6) = true := by simp [p6]
              have f2 : (i.st != 6) = false := by simp [p6]
              have f3 : (i.st == 3) = false := by simp [p3]
              have f4 : (a.x.st == 6) = true := by simp [r6]
              have f5 : (a.x.st != 3) = true := by simp [r3]
              have f6 : (a.ask == 2) = false := by simp [rq]
              have c5a : V.cell? ⟨w.heap.size, 0, none⟩ = some (.int .u64 i.id) := cell_row hs1.x i.f0
              have c5b : V.cell? ⟨w.heap.size, 3, none⟩ = some (.int .i64 i.wt) := cell_row hs1.x i.f3
              have c5c : V.cell? ⟨w.heap.size, 11, none⟩ = some (.int .u32 i.ver) := cell_row hs1.x i.f11
              have hs3 := fun (U : World) (hU : Below V.heap.size V U) => hs1.call hU
              have HG3 := fun (U : World) (hU : Below V.heap.size V U) => kept_box hU HG
              have J15 := run_ins (range_row HG)
              go_wp2_with fail
              refine (MA.out _).mono ?_
              rintro _ U ⟨rfl, bU⟩
              have hs4 := hs1.call bU
              have HG4 := kept_box bU HG
              clear hs3 HG3 J5 J15 c5a c5b c5c MA
              have c5a : U.cell? ⟨w.heap.size, 0, none⟩ = some (.int .u64 i.id) := cell_row hs4.x i.f0
              have cga : U.cell? ⟨g, 0, none⟩ = some (.int .u64 i.id) := by have := cell_row HG4 a.x.f0; rw [gd.id] at this; exact this
              have c5b : U.cell? ⟨w.heap.size, 3, none⟩ = some (.int .i64 i.wt) := cell_row hs4.x i.f3
              have cgb : U.cell? ⟨g, 3, none⟩ = some (.int .i64 i.wt) := by have := cell_row HG4 a.x.f3; rw [gd.wt] at this; exact this
              have c5c : U.cell? ⟨w.heap.size, 11, none⟩ = some (.int .u32 i.ver) := cell_row hs4.x i.f11
              have cgc : U.cell? ⟨g, 11, none⟩ = some (.int .u32 i.ver) := by have := cell_row HG4 a.x.f11; rw [gd.ver] at this; exact this
              have c5s : U.cell? ⟨w.heap.size, 5, none⟩ = some (.int .u8 i.st) := cell_row hs4.x i.f5
              have cgs : U.cell? ⟨g, 5, none⟩ = some (.int .u8 a.x.st) := cell_row HG4 a.x.f5
              have J5 := run_ins (range_row hs4.x)
              have J15 := run_ins (range_row HG4)
              have dq : decide (a.x = i) = true := decide_eq_true (gd.six p6)
              clear gd p6 p3 r6 r3 rq
              have hs2 := hs4.row (z := a.x)
              go_wp2_with ((with_reducible refine at_store 25 ?_); (refine store_whole rfl 25 _ _ rfl w.heap.size a.x.cells _ _ rfl rfl hs4.x (sizeInst.trans rfl) rfl a.x.one ?_))
              go_roundw
              case rel => exact ⟨k + 1, a.x, now + (D k).wait, false, by omega, by omega, rfl, rfl, by rw [Int.natCast_add]; rfl, N0.out.1, N0.out.2, ok2, Lib.hid (fun e => absurd e (by simp)), hs2⟩
              case measure => simp [intOf]; omega
            · skip
              have f1 : (i.st == 6) = true := by simp [p6]
              have f2 : (i.st != 6) = false := by simp [p6]
              have f3 : (i.st == 3) = false := by simp [p3]
              have f4 : (a.x.st == 6) = true := by simp [r6]
              have f5 : (a.x.st != 3) = true := by simp [r3]
              have f6 : (a.ask == 2) = false := by simp [rq]
              have hl : a.x.st = 4 ∨ a.x.st = 5 ∨ a.x.st = 6 := .inr (.inr r6)
              have HL : Hid (a.x.st = 4 ∨ a.x.st = 5 ∨ a.x.st = 6) := Lib.hid hl
              have S1 := Lib.hid (fun W => serves_is a.x false (by unfold servesB; exact decide_eq_false (by omega)) W)
              have C1 := Lib.hid (fun W => comes_is a.x false (by unfold comesB; exact decide_eq_false (by omega)) W)
              have c5a : V.cell? ⟨w.heap.size, 0, none⟩ = some (.int .u64 i.id) := cell_row hs1.x i.f0
              have c5b : V.cell? ⟨w.heap.size, 3, none⟩ = some (.int .i64 i.wt) := cell_row hs1.x i.f3
              have c5c : V.cell? ⟨w.heap.size, 11, none⟩ = some (.int .u32 i.ver) := cell_row hs1.x i.f11
              have hs3 := fun (U : World) (hU : Below V.heap.size V U) => hs1.call hU
              have HG3 := fun (U : World) (hU : Below V.heap.size V U) => kept_box hU HG
              have J15 := run_ins (range_row HG)
              go_wp2_with fail
              refine (MA.out _).mono ?_
              rintro _ U ⟨rfl, bU⟩
              have hs4 := hs1.call bU
              have HG4 := kept_box bU HG
              clear hs3 HG3 J5 J15 c5a c5b c5c MA
              have c5a : U.cell? ⟨w.heap.size, 0, none⟩ = some (.int .u64 i.id) := cell_row hs4.x i.f0
              have cga : U.cell? ⟨g, 0, none⟩ = some (.int .u64 i.id) := by have := cell_row HG4 a.x.f0; rw [gd.id] at this; exact this
              have c5b : U.cell? ⟨w.heap.size, 3, none⟩ = some (.int .i64 i.wt) := cell_row hs4.x i.f3
              have cgb : U.cell? ⟨g, 3, none⟩ = some (.int .i64 i.wt) := by have := cell_row HG4 a.x.f3; rw [gd.wt] at this; exact this
              have c5c : U.cell? ⟨w.heap.size, 11, none⟩ = some (.int .u32 i.ver) := cell_row hs4.x i.f11
              have cgc : U.cell? ⟨g, 11, none⟩ = some (.int .u32 i.ver) := by have := cell_row HG4 a.x.f11; rw [gd.ver] at this; exact this
              have c5s : U.cell? ⟨w.heap.size, 5, none⟩ = some (.int .u8 i.st) := cell_row hs4.x i.f5
              have cgs : U.cell? ⟨g, 5, none⟩ = some (.int .u8 a.x.st) := cell_row HG4 a.x.f5
              have J5 := run_ins (range_row hs4.x)
              have J15 := run_ins (range_row HG4)
              have dq : decide (a.x = i) = true := decide_eq_true (gd.six p6)
              clear gd p6 p3 r6 r3 rq
              go_wp2_with fail
              refine (S1.out _).mono ?_
              rintro _ U2 ⟨rfl, b2⟩
              have hs5 := hs4.call b2
              have HG5 := kept_box b2 HG4
              have J25 := run_ins (range_row HG5)
              go_wp2_with fail
              refine (C1.out _).mono ?_
              rintro _ U3 ⟨rfl, b3⟩
              have hs6 := hs5.call b3
              have HG6 := kept_box b3 HG5
              have J35 := run_ins (range_row HG6)
              have hs2 := hs6.row (z := a.x)
              go_wp2_with ((with_reducible refine at_store 25 ?_); (refine store_whole rfl 25 _ _ rfl w.heap.size a.x.cells _ _ rfl rfl hs6.x (sizeInst.trans rfl) rfl a.x.one ?_))
              go_roundw
              case rel => exact ⟨k + 1, a.x, now + (D k).wait, true, by omega, by omega, rfl, rfl, by rw [Int.natCast_add]; rfl, N0.out.1, N0.out.2, ok2, Lib.hid (fun _ => HL.out), hs2⟩
              case measure => simp [intOf]; omega
          · by_cases r6 : a.x.st = 6
            · have rq : a.ask = 2 := gd.ask.1 ⟨r6, p6⟩
              have r3 : ¬ a.x.st = 3 := by omega
              by_cases p3 : i.st = 3
              · rcases lf with _ | _
                · skip
                  have f1 : (i.st == 6) = false := by simp [p6]
                  have f2 : (i.st != 6) = true := by simp [p6]
                  have f3 : (i.st == 3) = true := by simp [p3]
                  have f4 : (a.x.st == 6) = true := by simp [r6]
                  have f5 : (a.x.st != 3) = true := by simp [r3]
                  have f6 : (a.ask == 2) = true := by simp [rq]
                  have hl : a.x.st = 4 ∨ a.x.st = 5 ∨ a.x.st = 6 := .inr (.inr r6)
                  have HL : Hid (a.x.st = 4 ∨ a.x.st = 5 ∨ a.x.st = 6) := Lib.hid hl
                  have S1 := Lib.hid (fun W => serves_is a.x false (by unfold servesB; exact decide_eq_false (by omega)) W)
                  have C1 := Lib.hid (fun W => comes_is a.x false (by unfold comesB; exact decide_eq_false (by omega)) W)
                  have c5a : V.cell? ⟨w.heap.size, 0, none⟩ = some (.int .u64 i.id) := cell_row hs1.x i.f0
                  have c5b : V.cell? ⟨w.heap.size, 3, none⟩ = some (.int .i64 i.wt) := cell_row hs1.x i.f3
                  have c5c : V.cell? ⟨w.heap.size, 11, none⟩ = some (.int .u32 i.ver) := cell_row hs1.x i.f11
                  have hs3 := fun (U : World) (hU : Below V.heap.size V U) => hs1.call hU
                  have HG3 := fun (U : World) (hU : Below V.heap.size V U) => kept_box hU HG
                  have J15 := run_ins (range_row HG)
                  go_wp2_with fail
                  refine (MA.out _).mono ?_
                  rintro _ U ⟨rfl, bU⟩
                  have hs4 := hs1.call bU
                  have HG4 := kept_box bU HG
                  clear hs3 HG3 J5 J15 c5a c5b c5c MA
                  have c5a : U.cell? ⟨w.heap.size, 0, none⟩ = some (.int .u64 i.id) := cell_row hs4.x i.f0
                  have cga : U.cell? ⟨g, 0, none⟩ = some (.int .u64 i.id) := by have := cell_row HG4 a.x.f0; rw [gd.id] at this; exact this
                  have c5b : U.cell? ⟨w.heap.size, 3, none⟩ = some (.int .i64 i.wt) := cell_row hs4.x i.f3
                  have cgb : U.cell? ⟨g, 3, none⟩ = some (.int .i64 i.wt) := by have := cell_row HG4 a.x.f3; rw [gd.wt] at this; exact this
                  have c5c : U.cell? ⟨w.heap.size, 11, none⟩ = some (.int .u32 i.ver) := cell_row hs4.x i.f11
                  have cgc : U.cell? ⟨g, 11, none⟩ = some (.int .u32 i.ver) := by have := cell_row HG4 a.x.f11; rw [gd.ver] at this; exact this
                  have c5s : U.cell? ⟨w.heap.size, 5, none⟩ = some (.int .u8 i.st) := cell_row hs4.x i.f5
                  have cgs : U.cell? ⟨g, 5, none⟩ = some (.int .u8 a.x.st) := cell_row HG4 a.x.f5
                  have J5 := run_ins (range_row hs4.x)
                  have J15 := run_ins (range_row HG4)
                  clear gd p6 p3 r6 r3 rq
                  go_wp2_with fail
                  refine (S1.out _).mono ?_
                  rintro _ U2 ⟨rfl, b2⟩
                  have hs5 := hs4.call b2
                  have HG5 := kept_box b2 HG4
                  have J25 := run_ins (range_row HG5)
                  go_wp2_with fail
                  refine (C1.out _).mono ?_
                  rintro _ U3 ⟨rfl, b3⟩
                  have hs6 := hs5.call b3
                  have HG6 := kept_box b3 HG5
                  have J35 := run_ins (range_row HG6)
                  have hs2 := hs6.row (z := a.x)
                  go_wp2_with ((with_reducible refine at_store 25 ?_); (refine store_whole rfl 25 _ _ rfl w.heap.size a.x.cells _ _ rfl rfl hs6.x (sizeInst.trans rfl) rfl a.x.one ?_))
                  go_roundw
                  case rel => exact ⟨k + 1, a.x, now + (D k).wait, true, by omega, by omega, rfl, rfl, by rw [Int.natCast_add]; rfl, N0.out.1, N0.out.2, ok2, Lib.hid (fun _ => HL.out), hs2⟩
                  case measure => simp [intOf]; omega
                · exfalso; have := hlf.out rfl; omega
              · rcases lf with _ | _
                · skip
                  have f1 : (i.st == 6) = false := by simp [p6]
                  have f2 : (i.st != 6) = true := by simp [p6]
                  have f3 : (i.st == 3) = false := by simp [p3]
                  have f4 : (a.x.st == 6) = true := by simp [r6]
                  have f5 : (a.x.st != 3) = true := by simp [r3]
                  have f6 : (a.ask == 2) = true := by simp [rq]
                  have c5a : V.cell? ⟨w.heap.size, 0, none⟩ = some (.int .u64 i.id) := cell_row hs1.x i.f0
                  have c5b : V.cell? ⟨w.heap.size, 3, none⟩ = some (.int .i64 i.wt) := cell_row hs1.x i.f3
                  have c5c : V.cell? ⟨w.heap.size, 11, none⟩ = some (.int .u32 i.ver) := cell_row hs1.x i.f11
                  have hs3 := fun (U : World) (hU : Below V.heap.size V U) => hs1.call hU
                  have HG3 := fun (U : World) (hU : Below V.heap.size V U) => kept_box hU HG
                  have J15 := run_ins (range_row HG)
                  go_wp2_with fail
                  refine (MA.out _).mono ?_
                  rintro _ U ⟨rfl, bU⟩
                  have hs4 := hs1.call bU
                  have HG4 := kept_box bU HG
                  clear hs3 HG3 J5 J15 c5a c5b c5c MA
                  have c5a : U.cell? ⟨w.heap.size, 0, none⟩ = some (.int .u64 i.id) := cell_row hs4.x i.f0
                  have cga : U.cell? ⟨g, 0, none⟩ = some (.int .u64 i.id) := by have := cell_row HG4 a.x.f0; rw [gd.id] at this; exact this
                  have c5b : U.cell? ⟨w.heap.size, 3, none⟩ = some (.int .i64 i.wt) := cell_row hs4.x i.f3
                  have cgb : U.cell? ⟨g, 3, none⟩ = some (.int .i64 i.wt) := by have := cell_row HG4 a.x.f3; rw [gd.wt] at this; exact this
                  have c5c : U.cell? ⟨w.heap.size, 11, none⟩ = some (.int .u32 i.ver) := cell_row hs4.x i.f11
                  have cgc : U.cell? ⟨g, 11, none⟩ = some (.int .u32 i.ver) := by have := cell_row HG4 a.x.f11; rw [gd.ver] at this; exact this
                  have c5s : U.cell? ⟨w.heap.size, 5, none⟩ = some (.int .u8 i.st) := cell_row hs4.x i.f5
                  have cgs : U.cell? ⟨g, 5, none⟩ = some (.int .u8 a.x.st) := cell_row HG4 a.x.f5
                  have J5 := run_ins (range_row hs4.x)
                  have J15 := run_ins (range_row HG4)
                  clear gd p6 p3 r6 r3 rq
                  have hs2 := hs4.row (z := a.x)
                  go_wp2_with ((with_reducible refine at_store 25 ?_); (refine store_whole rfl 25 _ _ rfl w.heap.size a.x.cells _ _ rfl rfl hs4.x (sizeInst.trans rfl) rfl a.x.one ?_))
                  go_roundw
                  case rel => exact ⟨k + 1, a.x, now + (D k).wait, false, by omega, by omega, rfl, rfl, by rw [Int.natCast_add]; rfl, N0.out.1, N0.out.2, ok2, Lib.hid (fun e => absurd e (by simp)), hs2⟩
                  case measure => simp [intOf]; omega
                · skip
                  have f1 : (i.st == 6) = false := by simp [p6]
                  have f2 : (i.st != 6) = true := by simp [p6]
                  have f3 : (i.st == 3) = false := by simp [p3]
                  have f4 : (a.x.st == 6) = true := by simp [r6]
                  have f5 : (a.x.st != 3) = true := by simp [r3]
                  have f6 : (a.ask == 2) = true := by simp [rq]
                  have hl : a.x.st = 4 ∨ a.x.st = 5 ∨ a.x.st = 6 := .inr (.inr r6)
                  have HL : Hid (a.x.st = 4 ∨ a.x.st = 5 ∨ a.x.st = 6) := Lib.hid hl
                  have S1 := Lib.hid (fun W => serves_is a.x false (by unfold servesB; exact decide_eq_false (by omega)) W)
                  have C1 := Lib.hid (fun W => comes_is a.x false (by unfold comesB; exact decide_eq_false (by omega)) W)
                  have c5a : V.cell? ⟨w.heap.size, 0, none⟩ = some (.int .u64 i.id) := cell_row hs1.x i.f0
                  have c5b : V.cell? ⟨w.heap.size, 3, none⟩ = some (.int .i64 i.wt) := cell_row hs1.x i.f3
                  have c5c : V.cell? ⟨w.heap.size, 11, none⟩ = some (.int .u32 i.ver) := cell_row hs1.x i.f11
                  have hs3 := fun (U : World) (hU : Below V.heap.size V U) => hs1.call hU
                  have HG3 := fun (U : World) (hU : Below V.heap.size V U) => kept_box hU HG
                  have J15 := run_ins (range_row HG)
                  go_wp2_with fail
                  refine (MA.out _).mono ?_
                  rintro _ U ⟨rfl, bU⟩
                  have hs4 := hs1.call bU
                  have HG4 := kept_box bU HG
                  clear hs3 HG3 J5 J15 c5a c5b c5c MA
                  have c5a : U.cell? ⟨w.heap.size, 0, none⟩ = some (.int .u64 i.id) := cell_row hs4.x i.f0
                  have cga : U.cell? ⟨g, 0, none⟩ = some (.int .u64 i.id) := by have := cell_row HG4 a.x.f0; rw [gd.id] at this; exact this
                  have c5b : U.cell? ⟨w.heap.size, 3, none⟩ = some (.int .i64 i.wt) := cell_row hs4.x i.f3
                  have cgb : U.cell? ⟨g, 3, none⟩ = some (.int .i64 i.wt) := by have := cell_row HG4 a.x.f3; rw [gd.wt] at this; exact this
                  have c5c : U.cell? ⟨w.heap.size, 11, none⟩ = some (.int .u32 i.ver) := cell_row hs4.x i.f11
                  have cgc : U.cell? ⟨g, 11, none⟩ = some (.int .u32 i.ver) := by have := cell_row HG4 a.x.f11; rw [gd.ver] at this; exact this
                  have c5s : U.cell? ⟨w.heap.size, 5, none⟩ = some (.int .u8 i.st) := cell_row hs4.x i.f5
                  have cgs : U.cell? ⟨g, 5, none⟩ = some (.int .u8 a.x.st) := cell_row HG4 a.x.f5
                  have J5 := run_ins (range_row hs4.x)
                  have J15 := run_ins (range_row HG4)
                  clear gd p6 p3 r6 r3 rq
                  go_wp2_with fail
                  refine (S1.out _).mono ?_
                  rintro _ U2 ⟨rfl, b2⟩
                  have hs5 := hs4.call b2
                  have HG5 := kept_box b2 HG4
                  have J25 := run_ins (range_row HG5)
                  go_wp2_with fail
                  refine (C1.out _).mono ?_
                  rintro _ U3 ⟨rfl, b3⟩
                  have hs6 := hs5.call b3
                  have HG6 := kept_box b3 HG5
                  have J35 := run_ins (range_row HG6)
                  have hs2 := hs6.row (z := a.x)
                  go_wp2_with ((with_reducible refine at_store 25 ?_); (refine store_whole rfl 25 _ _ rfl w.heap.size a.x.cells _ _ rfl rfl hs6.x (sizeInst.trans rfl) rfl a.x.one ?_))
                  go_roundw
                  case rel => exact ⟨k + 1, a.x, now + (D k).wait, true, by omega, by omega, rfl, rfl, by rw [Int.natCast_add]; rfl, N0.out.1, N0.out.2, ok2, Lib.hid (fun _ => HL.out), hs2⟩
                  case measure => simp [intOf]; omega
            · have rq : ¬ a.ask = 2 := fun e => r6 (gd.ask.2 e).1
              by_cases p3 : i.st = 3
              · rcases lf with _ | _
                · by_cases r3 : a.x.st = 3
                  · skip
                    have f1 : (i.st == 6) = false := by simp [p6]
                    have f2 : (i.st != 6) = true := by simp [p6]
                    have f3 : (i.st == 3) = true := by simp [p3]
                    have f4 : (a.x.st == 6) = false := by simp [r6]
                    have f5 : (a.x.st != 3) = false := by simp [r3]
                    have f6 : (a.ask == 2) = false := by simp [rq]
                    have c5a : V.cell? ⟨w.heap.size, 0, none⟩ = some (.int .u64 i.id) := cell_row hs1.x i.f0
                    have c5b : V.cell? ⟨w.heap.size, 3, none⟩ = some (.int .i64 i.wt) := cell_row hs1.x i.f3
                    have c5c : V.cell? ⟨w.heap.size, 11, none⟩ = some (.int .u32 i.ver) := cell_row hs1.x i.f11
                    have hs3 := fun (U : World) (hU : Below V.heap.size V U) => hs1.call hU
                    have HG3 := fun (U : World) (hU : Below V.heap.size V U) => kept_box hU HG
                    have J15 := run_ins (range_row HG)
                    go_wp2_with fail
                    refine (MA.out _).mono ?_
                    rintro _ U ⟨rfl, bU⟩
                    have hs4 := hs1.call bU
                    have HG4 := kept_box bU HG
                    clear hs3 HG3 J5 J15 c5a c5b c5c MA
                    have c5a : U.cell? ⟨w.heap.size, 0, none⟩ = some (.int .u64 i.id) := cell_row hs4.x i.f0
                    have cga : U.cell? ⟨g, 0, none⟩ = some (.int .u64 i.id) := by have := cell_row HG4 a.x.f0; rw [gd.id] at this; exact this
                    have c5b : U.cell? ⟨w.heap.size, 3, none⟩ = some (.int .i64 i.wt) := cell_row hs4.x i.f3
                    have cgb : U.cell? ⟨g, 3, none⟩ = some (.int .i64 i.wt) := by have := cell_row HG4 a.x.f3; rw [gd.wt] at this; exact this
                    have c5c : U.cell? ⟨w.heap.size, 11, none⟩ = some (.int .u32 i.ver) := cell_row hs4.x i.f11
                    have cgc : U.cell? ⟨g, 11, none⟩ = some (.int .u32 i.ver) := by have := cell_row HG4 a.x.f11; rw [gd.ver] at this; exact this
                    have c5s : U.cell? ⟨w.heap.size, 5, none⟩ = some (.int .u8 i.st) := cell_row hs4.x i.f5
                    have cgs : U.cell? ⟨g, 5, none⟩ = some (.int .u8 a.x.st) := cell_row HG4 a.x.f5
                    have J5 := run_ins (range_row hs4.x)
                    have J15 := run_ins (range_row HG4)
                    clear gd p6 p3 r6 r3 rq
                    have hs2 := hs4.row (z := a.x)
                    go_wp2_with ((with_reducible refine at_store 25 ?_); (refine store_whole rfl 25 _ _ rfl w.heap.size a.x.cells _ _ rfl rfl hs4.x (sizeInst.trans rfl) rfl a.x.one ?_))
                    go_roundw
                    case rel => exact ⟨k + 1, a.x, now + (D k).wait, false, by omega, by omega, rfl, rfl, by rw [Int.natCast_add]; rfl, N0.out.1, N0.out.2, ok2, Lib.hid (fun e => absurd e (by simp)), hs2⟩
                    case measure => simp [intOf]; omega
                  · skip
                    have f1 : (i.st == 6) = false := by simp [p6]
                    have f2 : (i.st != 6) = true := by simp [p6]
                    have f3 : (i.st == 3) = true := by simp [p3]
                    have f4 : (a.x.st == 6) = false := by simp [r6]
                    have f5 : (a.x.st != 3) = true := by simp [r3]
                    have f6 : (a.ask == 2) = false := by simp [rq]
                    have hl : a.x.st = 4 ∨ a.x.st = 5 ∨ a.x.st = 6 := gd.l3 p3 r3
                    have HL : Hid (a.x.st = 4 ∨ a.x.st = 5 ∨ a.x.st = 6) := Lib.hid hl
                    have S1 := Lib.hid (fun W => serves_is a.x false (by unfold servesB; exact decide_eq_false (by omega)) W)
                    have C1 := Lib.hid (fun W => comes_is a.x false (by unfold comesB; exact decide_eq_false (by omega)) W)
                    have c5a : V.cell? ⟨w.heap.size, 0, none⟩ = some (.int .u64 i.id) := cell_row hs1.x i.f0
                    have c5b : V.cell? ⟨w.heap.size, 3, none⟩ = some (.int .i64 i.wt) := cell_row hs1.x i.f3
                    have c5c : V.cell? ⟨w.heap.size, 11, none⟩ = some (.int .u32 i.ver) := cell_row hs1.x i.f11
                    have hs3 := fun (U : World) (hU : Below V.heap.size V U) => hs1.call hU
                    have HG3 := fun (U : World) (hU : Below V.heap.size V U) => kept_box hU HG
                    have J15 := run_ins (range_row HG)
                    go_wp2_with fail
                    refine (MA.out _).mono ?_
                    rintro _ U ⟨rfl, bU⟩
                    have hs4 := hs1.call bU
                    have HG4 := kept_box bU HG
                    clear hs3 HG3 J5 J15 c5a c5b c5c MA
                    have c5a : U.cell? ⟨w.heap.size, 0, none⟩ = some (.int .u64 i.id) := cell_row hs4.x i.f0
                    have cga : U.cell? ⟨g, 0, none⟩ = some (.int .u64 i.id) := by have := cell_row HG4 a.x.f0; rw [gd.id] at this; exact this
                    have c5b : U.cell? ⟨w.heap.size, 3, none⟩ = some (.int .i64 i.wt) := cell_row hs4.x i.f3
                    have cgb : U.cell? ⟨g, 3, none⟩ = some (.int .i64 i.wt) := by have := cell_row HG4 a.x.f3; rw [gd.wt] at this; exact this
                    have c5c : U.cell? ⟨w.heap.size, 11, none⟩ = some (.int .u32 i.ver) := cell_row hs4.x i.f11
                    have cgc : U.cell? ⟨g, 11, none⟩ = some (.int .u32 i.ver) := by have := cell_row HG4 a.x.f11; rw [gd.ver] at this; exact this
                    have c5s : U.cell? ⟨w.heap.size, 5, none⟩ = some (.int .u8 i.st) := cell_row hs4.x i.f5
                    have cgs : U.cell? ⟨g, 5, none⟩ = some (.int .u8 a.x.st) := cell_row HG4 a.x.f5
                    have J5 := run_ins (range_row hs4.x)
                    have J15 := run_ins (range_row HG4)
                    clear gd p6 p3 r6 r3 rq
                    go_wp2_with fail
                    refine (S1.out _).mono ?_
                    rintro _ U2 ⟨rfl, b2⟩
                    have hs5 := hs4.call b2
                    have HG5 := kept_box b2 HG4
                    have J25 := run_ins (range_row HG5)
                    go_wp2_with fail
                    refine (C1.out _).mono ?_
                    rintro _ U3 ⟨rfl, b3⟩
                    have hs6 := hs5.call b3
                    have HG6 := kept_box b3 HG5
                    have J35 := run_ins (range_row HG6)
                    have hs2 := hs6.row (z := a.x)
                    go_wp2_with ((with_reducible refine at_store 25 ?_); (refine store_whole rfl 25 _ _ rfl w.heap.size a.x.cells _ _ rfl rfl hs6.x (sizeInst.trans rfl) rfl a.x.one ?_))
                    go_roundw
                    case rel => exact ⟨k + 1, a.x, now + (D k).wait, true, by omega, by omega, rfl, rfl, by rw [Int.natCast_add]; rfl, N0.out.1, N0.out.2, ok2, Lib.hid (fun _ => HL.out), hs2⟩
                    case measure => simp [intOf]; omega
                · exfalso; have := hlf.out rfl; omega
              · rcases lf with _ | _
                · by_cases r3 : a.x.st = 3
                  · skip
                    have f1 : (i.st == 6) = false := by simp [p6]
                    have f2 : (i.st != 6) = true := by simp [p6]
                    have f3 : (i.st == 3) = false := by simp [p3]
                    have f4 : (a.x.st == 6) = false := by simp [r6]
                    have f5 : (a.x.st != 3) = false := by simp [r3]
                    have f6 : (a.ask == 2) = false := by simp [rq]
                    have c5a : V.cell? ⟨w.heap.size, 0, none⟩ = some (.int .u64 i.id) := cell_row hs1.x i.f0
                    have c5b : V.cell? ⟨w.heap.size, 3, none⟩ = some (.int .i64 i.wt) := cell_row hs1.x i.f3
                    have c5c : V.cell? ⟨w.heap.size, 11, none⟩ = some (.int .u32 i.ver) := cell_row hs1.x i.f11
                    have hs3 := fun (U : World) (hU : Below V.heap.size V U) => hs1.call hU
                    have HG3 := fun (U : World) (hU : Below V.heap.size V U) => kept_box hU HG
                    have J15 := run_ins (range_row HG)
                    go_wp2_with fail
                    refine (MA.out _).mono ?_
                    rintro _ U ⟨rfl, bU⟩
                    have hs4 := hs1.call bU
                    have HG4 := kept_box bU HG
                    clear hs3 HG3 J5 J15 c5a c5b c5c MA
                    have c5a : U.cell? ⟨w.heap.size, 0, none⟩ = some (.int .u64 i.id) := cell_row hs4.x i.f0
                    have cga : U.cell? ⟨g, 0, none⟩ = some (.int .u64 i.id) := by have := cell_row HG4 a.x.f0; rw [gd.id] at this; exact this
                    have c5b : U.cell? ⟨w.heap.size, 3, none⟩ = some (.int .i64 i.wt) := cell_row hs4.x i.f3
                    have cgb : U.cell? ⟨g, 3, none⟩ = some (.int .i64 i.wt) := by have := cell_row HG4 a.x.f3; rw [gd.wt] at this; exact this
                    have c5c : U.cell? ⟨w.heap.size, 11, none⟩ = some (.int .u32 i.ver) := cell_row hs4.x i.f11
                    have cgc : U.cell? ⟨g, 11, none⟩ = some (.int .u32 i.ver) := by have := cell_row HG4 a.x.f11; rw [gd.ver] at this; exact this
                    have c5s : U.cell? ⟨w.heap.size, 5, none⟩ = some (.int .u8 i.st) := cell_row hs4.x i.f5
                    have cgs : U.cell? ⟨g, 5, none⟩ = some (.int .u8 a.x.st) := cell_row HG4 a.x.f5
                    have J5 := run_ins (range_row hs4.x)
                    have J15 := run_ins (range_row HG4)
                    clear gd p6 p3 r6 r3 rq
                    have hs2 := hs4.row (z := a.x)
                    go_wp2_with ((with_reducible refine at_store 25 ?_); (refine store_whole rfl 25 _ _ rfl w.heap.size a.x.cells _ _ rfl rfl hs4.x (sizeInst.trans rfl) rfl a.x.one ?_))
                    go_roundw
                    case rel => exact ⟨k + 1, a.x, now + (D k).wait, false, by omega, by omega, rfl, rfl, by rw [Int.natCast_add]; rfl, N0.out.1, N0.out.2, ok2, Lib.hid (fun e => absurd e (by simp)), hs2⟩
                    case measure => simp [intOf]; omega
                  · skip
                    have f1 : (i.st == 6) = false := by simp [p6]
                    have f2 : (i.st != 6) = true := by simp [p6]
                    have f3 : (i.st == 3) = false := by simp [p3]
                    have f4 : (a.x.st == 6) = false := by simp [r6]
                    have f5 : (a.x.st != 3) = true := by simp [r3]
                    have f6 : (a.ask == 2) = false := by simp [rq]
                    have c5a : V.cell? ⟨w.heap.size, 0, none⟩ = some (.int .u64 i.id) := cell_row hs1.x i.f0
                    have c5b : V.cell? ⟨w.heap.size, 3, none⟩ = some (.int .i64 i.wt) := cell_row hs1.x i.f3
                    have c5c : V.cell? ⟨w.heap.size, 11, none⟩ = some (.int .u32 i.ver) := cell_row hs1.x i.f11
                    have hs3 := fun (U : World) (hU : Below V.heap.size V U) => hs1.call hU
                    have HG3 := fun (U : World) (hU : Below V.heap.size V U) => kept_box hU HG
                    have J15 := run_ins (range_row HG)
                    go_wp2_with fail
                    refine (MA.out _).mono ?_
                    rintro _ U ⟨rfl, bU⟩
                    have hs4 := hs1.call bU
                    have HG4 := kept_box bU HG
                    clear hs3 HG3 J5 J15 c5a c5b c5c MA
                    have c5a : U.cell? ⟨w.heap.size, 0, none⟩ = some (.int .u64 i.id) := cell_row hs4.x i.f0
                    have cga : U.cell? ⟨g, 0, none⟩ = some (.int .u64 i.id) := by have := cell_row HG4 a.x.f0; rw [gd.id] at this; exact this
                    have c5b : U.cell? ⟨w.heap.size, 3, none⟩ = some (.int .i64 i.wt) := cell_row hs4.x i.f3
                    have cgb : U.cell? ⟨g, 3, none⟩ = some (.int .i64 i.wt) := by have := cell_row HG4 a.x.f3; rw [gd.wt] at this; exact this
                    have c5c : U.cell? ⟨w.heap.size, 11, none⟩ = some (.int .u32 i.ver) := cell_row hs4.x i.f11
                    have cgc : U.cell? ⟨g, 11, none⟩ = some (.int .u32 i.ver) := by have := cell_row HG4 a.x.f11; rw [gd.ver] at this; exact this
                    have c5s : U.cell? ⟨w.heap.size, 5, none⟩ = some (.int .u8 i.st) := cell_row hs4.x i.f5
                    have cgs : U.cell? ⟨g, 5, none⟩ = some (.int .u8 a.x.st) := cell_row HG4 a.x.f5
                    have J5 := run_ins (range_row hs4.x)
                    have J15 := run_ins (range_row HG4)
                    clear gd p6 p3 r6 r3 rq
                    have hs2 := hs4.row (z := a.x)
                    go_wp2_with ((with_reducible refine at_store 25 ?_); (refine store_whole rfl 25 _ _ rfl w.heap.size a.x.cells _ _ rfl rfl hs4.x (sizeInst.trans rfl) rfl a.x.one ?_))
                    go_roundw
                    case rel => exact ⟨k + 1, a.x, now + (D k).wait, false, by omega, by omega, rfl, rfl, by rw [Int.natCast_add]; rfl, N0.out.1, N0.out.2, ok2, Lib.hid (fun e => absurd e (by simp)), hs2⟩
                    case measure => simp [intOf]; omega
                · have hlx := gd.lf (hlf.out rfl)
                  have r3 : ¬ a.x.st = 3 := by omega
                  have f1 : (i.st == 6) = false := by simp [p6]
                  have f2 : (i.st != 6) = true := by simp [p6]
                  have f3 : (i.st == 3) = false := by simp [p3]
                  have f4 : (a.x.st == 6) = false := by simp [r6]
                  have f5 : (a.x.st != 3) = true := by simp [r3]
                  have f6 : (a.ask == 2) = false := by simp [rq]
                  have hl : a.x.st = 4 ∨ a.x.st = 5 ∨ a.x.st = 6 := hlx
                  have HL : Hid (a.x.st = 4 ∨ a.x.st = 5 ∨ a.x.st = 6) := Lib.hid hl
                  have S1 := Lib.hid (fun W => serves_is a.x false (by unfold servesB; exact decide_eq_false (by omega)) W)
                  have C1 := Lib.hid (fun W => comes_is a.x false (by unfold comesB; exact decide_eq_false (by omega)) W)
                  have c5a : V.cell? ⟨w.heap.size, 0, none⟩ = some (.int .u64 i.id) := cell_row hs1.x i.f0
                  have c5b : V.cell? ⟨w.heap.size, 3, none⟩ = some (.int .i64 i.wt) := cell_row hs1.x i.f3
                  have c5c : V.cell? ⟨w.heap.size, 11, none⟩ = some (.int .u32 i.ver) := cell_row hs1.x i.f11
                  have hs3 := fun (U : World) (hU : Below V.heap.size V U) => hs1.call hU
                  have HG3 := fun (U : World) (hU : Below V.heap.size V U) => kept_box hU HG
                  have J15 := run_ins (range_row HG)
                  go_wp2_with fail
                  refine (MA.out _).mono ?_
                  rintro _ U ⟨rfl, bU⟩
                  have hs4 := hs1.call bU
                  have HG4 := kept_box bU HG
                  clear hs3 HG3 J5 J15 c5a c5b c5c MA
                  have c5a : U.cell? ⟨w.heap.size, 0, none⟩ = some (.int .u64 i.id) := cell_row hs4.x i.f0
                  have cga : U.cell? ⟨g, 0, none⟩ = some (.int .u64 i.id) := by have := cell_row HG4 a.x.f0; rw [gd.id] at this; exact this
                  have c5b : U.cell? ⟨w.heap.size, 3, none⟩ = some (.int .i64 i.wt) := cell_row hs4.x i.f3
                  have cgb : U.cell? ⟨g, 3, none⟩ = some (.int .i64 i.wt) := by have := cell_row HG4 a.x.f3; rw [gd.wt] at this; exact this
                  have c5c : U.cell? ⟨w.heap.size, 11, none⟩ = some (.int .u32 i.ver) := cell_row hs4.x i.f11
                  have cgc : U.cell? ⟨g, 11, none⟩ = some (.int .u32 i.ver) := by have := cell_row HG4 a.x.f11; rw [gd.ver] at this; exact this
                  have c5s : U.cell? ⟨w.heap.size, 5, none⟩ = some (.int .u8 i.st) := cell_row hs4.x i.f5
                  have cgs : U.cell? ⟨g, 5, none⟩ = some (.int .u8 a.x.st) := cell_row HG4 a.x.f5
                  have J5 := run_ins (range_row hs4.x)
                  have J15 := run_ins (range_row HG4)
                  clear gd p6 p3 r6 r3 rq
                  go_wp2_with fail
                  refine (S1.out _).mono ?_
                  rintro _ U2 ⟨rfl, b2⟩
                  have hs5 := hs4.call b2
                  have HG5 := kept_box b2 HG4
                  have J25 := run_ins (range_row HG5)
                  go_wp2_with fail
                  refine (C1.out _).mono ?_
                  rintro _ U3 ⟨rfl, b3⟩
                  have hs6 := hs5.call b3
                  have HG6 := kept_box b3 HG5
                  have J35 := run_ins (range_row HG6)
                  have hs2 := hs6.row (z := a.x)
                  go_wp2_with ((with_reducible refine at_store 25 ?_); (refine store_whole rfl 25 _ _ rfl w.heap.size a.x.cells _ _ rfl rfl hs6.x (sizeInst.trans rfl) rfl a.x.one ?_))
                  go_roundw
                  case rel => exact ⟨k + 1, a.x, now + (D k).wait, true, by omega, by omega, rfl, rfl, by rw [Int.natCast_add]; rfl, N0.out.1, N0.out.2, ok2, Lib.hid (fun _ => HL.out), hs2⟩
                  case measure => simp [intOf]; omega
        · have z0 : (a.e != 0) = true := by simp [he]
          obtain ⟨hx, hq⟩ := G1.out he
          rw [hx] at HG
          rw [hx, hq]
          have J15 := run_ins (range_row HG)
          clear he hx hq G1 G2
          go_wp2_with fail
          go_roundw
          case rel => exact ⟨k + 1, i, now + (D k).wait, lf, by omega, by omega, rfl, rfl, by rw [Int.natCast_add]; rfl, N0.out.1, N0.out.2, hio, hlf, hs1⟩
          case measure => simp [intOf]; omega
      · have k2 : decide ((k : Int) < 100) = false := decide_eq_false (by omega)
        go_wp2_with fail
        refine (CL.out _).mono ?_
        rintro _ v ⟨rfl, bv⟩
        go_wp2
        go_ret
        exact ⟨rfl, bTrans hs.b bv⟩
    · have k1 : decide ((k : Int) < n) = false := decide_eq_false (by omega)
      go_wp2_with fail
      refine (CL.out _).mono ?_
      rintro _ v ⟨rfl, bv⟩
      go_wp2
      go_ret
      exact ⟨rfl, bTrans hs.b bv⟩

/-! The row's step, by the frame. -/
theorem own : ownKnob Try.prog.godebug = none := by kernel_rfl
theorem laidOut : laidOutB Try.prog = true := by kernel_rfl
set_option maxRecDepth 100000 in
theorem lifted (os : Os) (started : os.Started) (H : Type) (enc : TypeId × Value → H) :
    ReturnsInHanded {} Try.checked os 5 .any (Rows.instGoesSpec.pre6 enc Try.prog Try.f5 Rows.instGoesRow.domain false) (Rows.instGoesSpec.post enc Try.prog Try.f5 false true false false) := by
  refine returnsInHanded_of_change_sized (C := Try.checked) own started (by kernel_rfl) Try.func5
    (ChangeSpec.witness6 (enc := enc) (C := Try.checked) false ⟨#[], #[Inst.none_.val, .slice none 0 0, .int .u16 0, .int .u16 0, .int .u16 0], []⟩ 8 (by kernel_rfl) (by kernel_rfl) (by kernel_rfl) (by kernel_rfl)) ?_
  intro W base args ds gs before hval0 hW _ hsz0 _
  have hsz : (DataW.weightsEach Try.prog (Try.f5.params.toList ++ Rows.instGoesSpec.plain.varTypes Try.prog) (ds ++ gs)).all (· ≤ reachBytes) = true := hsz0
  have hval : ∀ (j : Nat) t v, Try.f5.params[j]? = some t → args[j]? = some v → Value.okWide Try.prog W .any base t v := hval0
  have hW' := hW
  obtain ⟨p, q, hA0, hV, rfl, hfz, hnd⟩ := hW
  have hA : DataW.TrodAll enc Try.prog W 0 (fun _ => true) true Try.f5.params.toList args.toList ds p := hA0
  rw [Try.params5] at hA hval hsz
  obtain ⟨v0, vs0, d0, ds0, p0, q0, hargs, rfl, rfl, h0, r0⟩ := trodAll_cons hA
  obtain ⟨v1, vs1, d1, ds1, p1, q1, rfl, rfl, rfl, h1, r1⟩ := trodAll_cons r0
  obtain ⟨v2, vs2, d2, ds2, p2, q2, rfl, rfl, rfl, h2, r2⟩ := trodAll_cons r1
  obtain ⟨v3, vs3, d3, ds3, p3, q3, rfl, rfl, rfl, h3, r3⟩ := trodAll_cons r2
  obtain ⟨v4, vs4, d4, ds4, p4, q4, rfl, rfl, rfl, h4, r4⟩ := trodAll_cons r3
  obtain ⟨rfl, rfl, rfl⟩ := trodAll_nil r4
  obtain rfl : args = #[v0, v1, v2, v3, v4] := by cases args; simp_all
  obtain ⟨rfl, rfl⟩ := trodVars_none hV
  have k0 := h0
  have lt0 : ∀ x ∈ p0, x.block < W.heap.size := by obtain ⟨m, hm⟩ := k0; exact DataW.trod_lt m _ _ _ hm
  obtain ⟨x0, rfl, b0⟩ := ins_arg (hval 0 25 v0 rfl rfl) h0
  obtain ⟨A1, n1, c1, rfl⟩ := okWide_slice Try.underlying43 (hval 1 43 v1 rfl rfl)
  have k1 := h1
  have lt1 : ∀ x ∈ p1, x.block < W.heap.size := by obtain ⟨m, hm⟩ := k1; exact DataW.trod_lt m _ _ _ hm
  obtain ⟨D1, b1⟩ := deeds_arg h1
  obtain ⟨a2, rfl, rfl, rfl, w2⟩ := open_int Try.underlying44 (hval 2 44 v2 rfl rfl) h2
  obtain ⟨a3, rfl, rfl, rfl, w3⟩ := open_int Try.underlying44 (hval 3 44 v3 rfl rfl) h3
  obtain ⟨a4, rfl, rfl, rfl, w4⟩ := open_int Try.underlying44 (hval 4 44 v4 rfl rfl) h4
  clear hA0 hval0 hsz0
  refine (walk x0 A1 n1 c1 D1 a2 a3 a4 W b0 b1 w2 w3 w4).mono fun e W' ⟨he, bel⟩ => ?_
  subst he
  exact ⟨_, rfl, _, _, _, [], _, [], hW', trodAll_mk1 (shut_bool Try.underlying4 _), (trodAll_cons_mk (Below.trod laidOut (by kernel_rfl) (of_decide_eq_true (by kernel_rfl)) k0 bel lt0) (trodAll_cons_mk (Below.trod laidOut (by kernel_rfl) (of_decide_eq_true (by kernel_rfl)) k1 bel lt1) (trodAll_cons_mk (shut_int Try.underlying44 w2) (trodAll_cons_mk (shut_int Try.underlying44 w3) (trodAll_cons_mk (shut_int Try.underlying44 w4) trodAll_mk0))))), rfl, bel.frame _, fun h => by cases h⟩

/-- The statement. -/
theorem proved : Rows.InstGoesSaid :=
  OpenClaim.holds_of_wide 5 Try.f5 rfl rfl rfl rfl rfl rfl rfl ⟨rfl, rfl, rfl, rfl, rfl⟩ rfl rfl rfl rfl rfl (by kernel_rfl) Try.func5 (by kernel_rfl)
    (of_decide_eq_true (by kernel_rfl)) (by unfold Func.isWrapper; first | (rw [if_pos (by decide +kernel)]; kernel_rfl) | (rw [if_neg (by decide +kernel)]; exact ⟨rfl, rfl⟩))
    (fun os started H enc _ => lifted os started H enc)
end Go.Proofs.Ytmbafedpbmldmaa.instGoes
