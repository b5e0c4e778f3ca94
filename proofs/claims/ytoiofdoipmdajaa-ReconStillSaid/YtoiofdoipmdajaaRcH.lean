
/- Two lists of the same events are told to be the same. -/
import Derived.Test.YtoiofdoipmdajaaRcE
import Derived.BigQuiet
namespace Go.Proofs.Ytoiofdoipmdajaa.RcH
open Go.RowKit
open Go.ChangeShapes Go.WideShapes Go.ChangeAt
open Mem Arr Lst Rec Inst Grown Sums Opens St0 Tld Evs Push RcE
attribute [local go_sem] Oper.semAt_some
set_option linter.unusedVariables false
set_option linter.unusedSimpArgs false
def RdE (w : World) (B : Nat) (A : Option Addr) (E : List Ev) : Prop := Recs w B A E.length 28 (evV E)
theorem rec_ev {W : World} {B : Nat} {A : Option Addr} {E : List Ev} (h : RdE W B A E) {b off : Nat} (hA : A = some ⟨b, off, none⟩) {k : Nat} (hk : k < E.length) : b < B ∧ W.rangeAt b (off + k * 28) (E.getD k noEv).cells.toList := by
  obtain ⟨b', off', e, hlt, hc⟩ := h.2 (by omega)
  rw [hA] at e
  injection e with e
  injection e with e1 e2
  subst e1; subst e2
  refine ⟨hlt, fun j v hj => ?_⟩
  have hj' : (E.getD k noEv).cells[j]? = some v := by simpa using hj
  rw [Nat.add_assoc, hc k j hk (Array.getElem?_eq_some_iff.1 hj').1]
  unfold evV
  rw [hj']; rfl
theorem rd_at {W : World} {B : Nat} {A : Option Addr} {E : List Ev} (h : RdE W B A E) (hn : 0 < E.length) : ∃ b off, A = some ⟨b, off, none⟩ := by
  obtain ⟨b, off, e, _⟩ := h.2 hn
  exact ⟨b, off, e⟩
def GL (W0 : World) (x : Value) (W : World) : Prop := ∃ g old, x = .pointer (some ⟨g, 0, none⟩) ∧ W0.heap.size ≤ g ∧ W.heap[g]? = some (.cells old 45 (0, 0)) ∧ old.size = 28
def GT (W0 : World) (y : Ev) (x : Value) (W : World) : Prop := ∃ g, x = .pointer (some ⟨g, 0, none⟩) ∧ W0.heap.size ≤ g ∧ W.heap[g]? = some (.cells y.cells 45 (0, 0))
theorem GL.alloc {W0 W : World} {x : Value} (h : GL W0 x W) (o : Obj) : GL W0 x (W.alloc o) := by
  obtain ⟨g, old, e, hg, hr, ho⟩ := h
  exact ⟨g, old, e, hg, heap_under hr, ho⟩
theorem GT.alloc {W0 W : World} {y : Ev} {x : Value} (h : GT W0 y x W) (o : Obj) : GT W0 y x (W.alloc o) := by
  obtain ⟨g, e, hg, hr⟩ := h
  exact ⟨g, e, hg, heap_under hr⟩
theorem GL.store {W0 W : World} {x : Value} (h : GL W0 x W) (g : Nat) (y : Ev) : GL W0 x (W.setRow g y.cells) := by
  obtain ⟨g', old, e, hg, hr, ho⟩ := h
  by_cases q : g = g'
  · subst q; exact ⟨g, _, e, hg, row_at hr, rfl⟩
  · exact ⟨g', old, e, hg, (row_else q).trans hr, ho⟩
theorem GT.store {W0 W : World} {x : Value} {y : Ev} (h : GT W0 y x W) (g : Nat) : GT W0 y x (W.setRow g y.cells) := by
  obtain ⟨g', e, hg, hr⟩ := h
  by_cases q : g = g'
  · subst q; exact ⟨g, e, hg, row_at hr⟩
  · exact ⟨g', e, hg, (row_else q).trans hr⟩
theorem below_row {W W' : World} {g : Nat} (cs : Array Value) (h : Below W.heap.size W W') (hg : W.heap.size ≤ g) : Below W.heap.size W (W'.setRow g cs) :=
  ⟨h.os, h.tape, h.output, by have := h.size; unfold World.setRow; simpa using this, fun k hk => (row_else (by omega)).trans (h.block k hk)⟩
set_option maxHeartbeats 8000000 in
set_option maxRecDepth 100000 in
theorem events_yes (A B : Option Addr) (c d : Nat) (E : List Ev) (w : World) (h : RdE w w.heap.size A E) (h2 : RdE w w.heap.size B E) (hn : E.length ≤ 1000000) :
    Calls Try.prog 11 #[.slice A E.length c, .slice B E.length d] w fun e w' => e = .returned (.bool true) ∧ Below w.heap.size w w' := by
  have H := Lib.hid h
  have H2 := Lib.hid h2
  obtain ⟨n, hN⟩ : ∃ n, E.length = n := ⟨_, rfl⟩
  rw [hN] at hn ⊢
  replace hN := Lib.hid hN
  clear h h2
  go_enter Try.func11, Try.ntmps11
  go_wp2
  go_loopw [5] (fun i wr => ∃ k : Nat, k ≤ n ∧ i = .int .i64 k ∧ Below w.heap.size w wr) (fun i _ => n - (intOf i).toNat)
  case atStart => exact ⟨0, by omega, rfl, Below.refl _ _⟩
  case round =>
    obtain ⟨k, hk, rfl, hb⟩ := hrel
    by_cases hlt : k < n
    · have e1 : decide ((k : Int) < n) = true := decide_eq_true (by omega)
      have e0 : decide ((k : Int) < 0) = false := decide_eq_false (by omega)
      have wr2 : IntKind.i64.wrap ((k : Int) + 1) = (k : Int) + 1 := IntWalk.i64_in _ (by omega)
      have hkE : k < E.length := by rw [hN.out]; exact hlt
      obtain ⟨b, off, rfl⟩ := rd_at H.out (by omega)
      obtain ⟨b2, off2, rfl⟩ := rd_at H2.out (by omega)
      obtain ⟨hbl, R⟩ := rec_ev (Recs.below H.out hb) rfl hkE
      obtain ⟨hbl2, R2⟩ := rec_ev (Recs.below H2.out hb) rfl hkE
      obtain ⟨y, hy⟩ : ∃ y, E.getD k noEv = y := ⟨_, rfl⟩
      rw [hy] at R R2
      have hbr : b < wr.heap.size := Nat.lt_of_lt_of_le hbl hb.size
      have hbr2 : b2 < wr.heap.size := Nat.lt_of_lt_of_le hbl2 hb.size
      clear hy hkE
      go_wp2
      refine Flw.flow (fun _ U => Below wr.heap.size wr U) [fun v _ => v = .slice (some ⟨b, off, none⟩) n c, fun v _ => v = .int .i64 (k : Int), fun v _ => v = .pointer (some ⟨b, off + k * 28, none⟩), fun v _ => v = y.val, fun v _ => v = .slice (some ⟨b2, off2, none⟩) n d, fun v _ => v = .int .i64 (k : Int), fun v _ => v = .pointer (some ⟨b2, off2 + k * 28, none⟩), fun v _ => v = y.val, GL wr, GL wr, GT wr y, GT wr y] [19, 20, 21, 22, 23, 24, 25, 26, 6, 7, 6, 7] [19, 20, 21, 22, 23, 24, 25, 26, 6, 7] 93 (by kernel_rfl) rfl (by kernel_rfl) rfl (bDrew (Below.refl _ _)) ⟨?_, ?_, ?_, ?_, ?_, ?_, ?_, ?_, ?_, ?_, ?_, ?_, trivial⟩ ?_
      · intro fL fa fU hz hd fk hI hL hcl hdep
        have hN : fa.tmps.size = 93 := hz
        have k0 : fa.eval (.tmp 0) = .slice (some ⟨b, off, none⟩) n c := Flow.eval_of ((fk 0 (by decide)).trans rfl)
        replace hI : Below wr.heap.size wr fU := hI
        refine Flw.step_val fU (.slice (some ⟨b, off, none⟩) n c) (Flw.wanted_none rfl) ?_ rfl hI (Flow.stab_refl _ _ _ _) rfl
        clear hI hL hcl
        simp only [execOp, k0]
        go_simp
      · intro fL fa fU hz hd fk hI hL hcl hdep
        have hN : fa.tmps.size = 93 := hz
        have k5 : fa.eval (.tmp 5) = .int .i64 (k : Int) := Flow.eval_of ((fk 5 (by decide)).trans rfl)
        replace hI : Below wr.heap.size wr fU := hI
        refine Flw.step_val fU (.int .i64 (k : Int)) (Flw.wanted_none rfl) ?_ rfl hI (Flow.stab_refl _ _ _ _) rfl
        clear hI hL hcl
        simp only [execOp, k5]
        go_simp
      · intro fL fa fU hz hd fk hI hL hcl hdep
        have hN : fa.tmps.size = 93 := hz
        obtain ⟨⟨fv0, fe0, fg0⟩, ⟨fv1, fe1, fg1⟩, -⟩ := hdep
        have k19 : fa.eval (.tmp 19) = .slice (some ⟨b, off, none⟩) n c := Flow.eval_of (fe0.trans (congrArg some (show fv0 = .slice (some ⟨b, off, none⟩) n c from fg0)))
        have k20 : fa.eval (.tmp 20) = .int .i64 (k : Int) := Flow.eval_of (fe1.trans (congrArg some (show fv1 = .int .i64 (k : Int) from fg1)))
        replace hI : Below wr.heap.size wr fU := hI
        refine Flw.step_val fU (.pointer (some ⟨b, off + k * 28, none⟩)) (Flw.wanted_none rfl) ?_ rfl hI (Flow.stab_refl _ _ _ _) rfl
        clear hI hL hcl
        simp only [execOp, k19, k20]
        go_simp
      · intro fL fa fU hz hd fk hI hL hcl hdep
        have hN : fa.tmps.size = 93 := hz
        obtain ⟨⟨fv2, fe2, fg2⟩, -⟩ := hdep
        have k21 : fa.eval (.tmp 21) = .pointer (some ⟨b, off + k * 28, none⟩) := Flow.eval_of (fe2.trans (congrArg some (show fv2 = .pointer (some ⟨b, off + k * 28, none⟩) from fg2)))
        replace hI : Below wr.heap.size wr fU := hI
        exact Flw.step_val fU (y.val) (Flw.wanted_none rfl) (exec_load_mid 45 _ rfl k21 (range_later hI hbr R) Try.underlying45 rfl (sizeEv.trans rfl)) rfl hI (Flow.stab_refl _ _ _ _) rfl
      · intro fL fa fU hz hd fk hI hL hcl hdep
        have hN : fa.tmps.size = 93 := hz
        have k1 : fa.eval (.tmp 1) = .slice (some ⟨b2, off2, none⟩) n d := Flow.eval_of ((fk 1 (by decide)).trans rfl)
        replace hI : Below wr.heap.size wr fU := hI
        refine Flw.step_val fU (.slice (some ⟨b2, off2, none⟩) n d) (Flw.wanted_none rfl) ?_ rfl hI (Flow.stab_refl _ _ _ _) rfl
        clear hI hL hcl
        simp only [execOp, k1]
        go_simp
      · intro fL fa fU hz hd fk hI hL hcl hdep
        have hN : fa.tmps.size = 93 := hz
        have k5 : fa.eval (.tmp 5) = .int .i64 (k : Int) := Flow.eval_of ((fk 5 (by decide)).trans rfl)
        replace hI : Below wr.heap.size wr fU := hI
        refine Flw.step_val fU (.int .i64 (k : Int)) (Flw.wanted_none rfl) ?_ rfl hI (Flow.stab_refl _ _ _ _) rfl
        clear hI hL hcl
        simp only [execOp, k5]
        go_simp
      · intro fL fa fU hz hd fk hI hL hcl hdep
        have hN : fa.tmps.size = 93 := hz
        obtain ⟨⟨fv4, fe4, fg4⟩, ⟨fv5, fe5, fg5⟩, -⟩ := hdep
        have k23 : fa.eval (.tmp 23) = .slice (some ⟨b2, off2, none⟩) n d := Flow.eval_of (fe4.trans (congrArg some (show fv4 = .slice (some ⟨b2, off2, none⟩) n d from fg4)))
        have k24 : fa.eval (.tmp 24) = .int .i64 (k : Int) := Flow.eval_of (fe5.trans (congrArg some (show fv5 = .int .i64 (k : Int) from fg5)))
        replace hI : Below wr.heap.size wr fU := hI
        refine Flw.step_val fU (.pointer (some ⟨b2, off2 + k * 28, none⟩)) (Flw.wanted_none rfl) ?_ rfl hI (Flow.stab_refl _ _ _ _) rfl
        clear hI hL hcl
        simp only [execOp, k23, k24]
        go_simp
      · intro fL fa fU hz hd fk hI hL hcl hdep
        have hN : fa.tmps.size = 93 := hz
        obtain ⟨⟨fv6, fe6, fg6⟩, -⟩ := hdep
        have k25 : fa.eval (.tmp 25) = .pointer (some ⟨b2, off2 + k * 28, none⟩) := Flow.eval_of (fe6.trans (congrArg some (show fv6 = .pointer (some ⟨b2, off2 + k * 28, none⟩) from fg6)))
        replace hI : Below wr.heap.size wr fU := hI
        exact Flw.step_val fU (y.val) (Flw.wanted_none rfl) (exec_load_mid 45 _ rfl k25 (range_later hI hbr2 R2) Try.underlying45 rfl (sizeEv.trans rfl)) rfl hI (Flow.stab_refl _ _ _ _) rfl
      · intro fL fa fU hz hd fk hI hL hcl hdep
        have hN : fa.tmps.size = 93 := hz
        replace hI : Below wr.heap.size wr fU := hI
        refine Flw.step_val (fU.alloc (.cells noEv.cells 45 (0, 0))) (.pointer (some ⟨fU.heap.size, 0, none⟩)) (Flw.wanted_none rfl) ?_ rfl (bAlloc hI _) ⟨.inr fun _ h => h, .inr fun _ h => h, .inr fun _ h => h, .inr fun _ h => h, .inr fun _ h => h, .inr fun _ h => h, .inr fun _ h => h, .inr fun _ h => h, .inl rfl, .inr fun _ h => h.alloc _, .inr fun _ h => h.alloc _, .inr fun _ h => h.alloc _, trivial⟩ ⟨fU.heap.size, noEv.cells, rfl, hI.size, heap_alloc_new _ _, rfl⟩
        go_simp <;> rfl
      · intro fL fa fU hz hd fk hI hL hcl hdep
        have hN : fa.tmps.size = 93 := hz
        replace hI : Below wr.heap.size wr fU := hI
        refine Flw.step_val (fU.alloc (.cells noEv.cells 45 (0, 0))) (.pointer (some ⟨fU.heap.size, 0, none⟩)) (Flw.wanted_none rfl) ?_ rfl (bAlloc hI _) ⟨.inr fun _ h => h, .inr fun _ h => h, .inr fun _ h => h, .inr fun _ h => h, .inr fun _ h => h, .inr fun _ h => h, .inr fun _ h => h, .inr fun _ h => h, .inr fun _ h => h.alloc _, .inl rfl, .inr fun _ h => h.alloc _, .inr fun _ h => h.alloc _, trivial⟩ ⟨fU.heap.size, noEv.cells, rfl, hI.size, heap_alloc_new _ _, rfl⟩
        go_simp <;> rfl
      · intro fL fa fU hz hd fk hI hL hcl hdep
        have hN : fa.tmps.size = 93 := hz
        obtain ⟨⟨fv8, fe8, fg8⟩, ⟨fv3, fe3, fg3⟩, ⟨fv0, fe0, fg0⟩, ⟨fv1, fe1, fg1⟩, ⟨fv2, fe2, fg2⟩, -, -, ⟨fv9, fe9, fg9⟩, -⟩ := hdep
        have k22 : fa.eval (.tmp 22) = y.val := Flow.eval_of (fe3.trans (congrArg some (show fv3 = y.val from fg3)))
        replace hI : Below wr.heap.size wr fU := hI
        obtain ⟨q, old, hq1, hq2, hq3, hq4⟩ := (show GL wr fv8 fU from fg8)
        have ka : fa.eval (.tmp 6) = .pointer (some ⟨q, 0, none⟩) := Flow.eval_of (fe8.trans (congrArg some hq1))
        refine Flw.step_skip (fU.setRow q y.cells) (Flw.wanted_none rfl) (Flow.exec_store_row 45 _ _ rfl ka k22 hq3 (sizeEv.trans rfl) (hq4.trans rfl) y.one) rfl (below_row _ hI hq2) ⟨.inr fun _ h => h, .inr fun _ h => h, .inr fun _ h => h, .inr fun _ h => h, .inr fun _ h => h, .inr fun _ h => h, .inr fun _ h => h, .inr fun _ h => h, .inr fun _ h => h.store q y, .inr fun _ h => h.store q y, .inl rfl, .inr fun _ h => h.store q, trivial⟩ ⟨q, ?_, hq2, row_at hq3⟩
        exact ka
      · intro fL fa fU hz hd fk hI hL hcl hdep
        have hN : fa.tmps.size = 93 := hz
        obtain ⟨⟨fv9, fe9, fg9⟩, ⟨fv7, fe7, fg7⟩, ⟨fv10, fe10, fg10⟩, ⟨fv0, fe0, fg0⟩, ⟨fv1, fe1, fg1⟩, ⟨fv2, fe2, fg2⟩, ⟨fv3, fe3, fg3⟩, ⟨fv4, fe4, fg4⟩, ⟨fv5, fe5, fg5⟩, ⟨fv6, fe6, fg6⟩, -, ⟨fv8, fe8, fg8⟩, -, -, -⟩ := hdep
        have k26 : fa.eval (.tmp 26) = y.val := Flow.eval_of (fe7.trans (congrArg some (show fv7 = y.val from fg7)))
        replace hI : Below wr.heap.size wr fU := hI
        obtain ⟨q, old, hq1, hq2, hq3, hq4⟩ := (show GL wr fv9 fU from fg9)
        have ka : fa.eval (.tmp 7) = .pointer (some ⟨q, 0, none⟩) := Flow.eval_of (fe9.trans (congrArg some hq1))
        refine Flw.step_skip (fU.setRow q y.cells) (Flw.wanted_none rfl) (Flow.exec_store_row 45 _ _ rfl ka k26 hq3 (sizeEv.trans rfl) (hq4.trans rfl) y.one) rfl (below_row _ hI hq2) ⟨.inr fun _ h => h, .inr fun _ h => h, .inr fun _ h => h, .inr fun _ h => h, .inr fun _ h => h, .inr fun _ h => h, .inr fun _ h => h, .inr fun _ h => h, .inr fun _ h => h.store q y, .inr fun _ h => h.store q y, .inr fun _ h => h.store q, .inl rfl, trivial⟩ ⟨q, ?_, hq2, row_at hq3⟩
        exact ka
      intro U Y bU
      replace bU : Below wr.heap.size wr U := bU
      refine fun g0 g1 g2 g3 g4 g5 g6 g7 g8 g9 g10 g11 => ?_
      replace g0 : Y 19 = .slice (some ⟨b, off, none⟩) n c := g0
      replace g1 : Y 20 = .int .i64 (k : Int) := g1
      replace g2 : Y 21 = .pointer (some ⟨b, off + k * 28, none⟩) := g2
      replace g3 : Y 22 = y.val := g3
      replace g4 : Y 23 = .slice (some ⟨b2, off2, none⟩) n d := g4
      replace g5 : Y 24 = .int .i64 (k : Int) := g5
      replace g6 : Y 25 = .pointer (some ⟨b2, off2 + k * 28, none⟩) := g6
      replace g7 : Y 26 = y.val := g7
      obtain ⟨q6, hq6, hz6, hr6⟩ := (show GT wr y (Y 6) U from g10)
      obtain ⟨q7, hq7, hz7, hr7⟩ := (show GT wr y (Y 7) U from g11)
      unfold Flow.endOk
      rw [g0, g1, g2, g3, g4, g5, g6, g7, hq6, hq7]
      clear g8 g9 g10 g11 hq6 hq7 g0 g1 g2 g3 g4 g5 g6 g7
      rename_i K hK
      show K _ U
      refine hK _ _ ?_
      clear hK
      try simp only [Act.put, List.setIfInBounds_toArray, List.set_cons_succ, List.set_cons_zero]
      have c6_0 := cell_row (k := 0) hr6 (v := .int .u8 y.kind) rfl
      have c6_1 := cell_row (k := 1) hr6 (v := .int .u64 y.tok) rfl
      have c6_2 := cell_row (k := 2) hr6 (v := .int .u64 y.id) rfl
      have c6_3 := cell_row (k := 3) hr6 (v := .int .i64 0) rfl
      have c6_4 := cell_row (k := 4) hr6 (v := .int .i64 0) rfl
      have c6_5 := cell_row (k := 5) hr6 (v := .int .i64 0) rfl
      have c6_6 := cell_row (k := 6) hr6 (v := .bool false) rfl
      have c6_7 := cell_row (k := 7) hr6 (v := .int .u64 0) rfl
      have c6_8 := cell_row (k := 8) hr6 (v := .slice none 0 0) rfl
      have c7_0 := cell_row (k := 0) hr7 (v := .int .u8 y.kind) rfl
      have c7_1 := cell_row (k := 1) hr7 (v := .int .u64 y.tok) rfl
      have c7_2 := cell_row (k := 2) hr7 (v := .int .u64 y.id) rfl
      have c7_3 := cell_row (k := 3) hr7 (v := .int .i64 0) rfl
      have c7_4 := cell_row (k := 4) hr7 (v := .int .i64 0) rfl
      have c7_5 := cell_row (k := 5) hr7 (v := .int .i64 0) rfl
      have c7_6 := cell_row (k := 6) hr7 (v := .bool false) rfl
      have c7_7 := cell_row (k := 7) hr7 (v := .int .u64 0) rfl
      have c7_8 := cell_row (k := 8) hr7 (v := .slice none 0 0) rfl
      clear hr6 hr7 R R2 H H2
      have z1 := bne_self_eq_false y.kind
      have z2 := bne_self_eq_false y.tok
      have z3 := bne_self_eq_false y.id
      have hb2 := bTrans hb bU
      go_wp2
      go_roundw
      case rel => exact ⟨k + 1, by omega, by go_num, hb2⟩
      case measure => simp [intOf]; omega
    · have e1 : decide ((k : Int) < n) = false := decide_eq_false (by omega)
      go_wp2
      go_ret
      exact ⟨rfl, hb⟩
end Go.Proofs.Ytoiofdoipmdajaa.RcH
