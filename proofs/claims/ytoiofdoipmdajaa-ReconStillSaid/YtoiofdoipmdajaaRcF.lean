
/- What comes of what is told: the document's Events. -/
import Derived.Test.YtoiofdoipmdajaaKnw
import Derived.Deep.Cut
namespace Go.Proofs.Ytoiofdoipmdajaa.RcF
open Go.RowKit
open Go.ChangeShapes Go.WideShapes Go.ChangeAt
open Mem Arr Lst Rec Inst Grown Sums Fnd Opens St0 Tld Evs Push Knw
attribute [local go_sem] Oper.semAt_some
set_option linter.unusedVariables false
set_option linter.unusedSimpArgs false
def anyT (T : Nat → Td) (id : Int) : Nat → Bool
  | 0 => false
  | k + 1 => anyT T id k || ((T k).id == id)
theorem anyT_iff {T : Nat → Td} {id : Int} : ∀ n, anyT T id n = true ↔ ∃ k, k < n ∧ (T k).id = id := by
  intro n
  induction n with
  | zero => exact ⟨fun e => (by cases e), fun ⟨k, h, _⟩ => (by omega)⟩
  | succ n ih =>
    unfold anyT
    rw [Bool.or_eq_true, ih, beq_iff_eq]
    refine ⟨fun h => ?_, fun ⟨k, h1, h2⟩ => ?_⟩
    · rcases h with ⟨k, h1, h2⟩ | h
      · exact ⟨k, by omega, h2⟩
      · exact ⟨n, by omega, h⟩
    · by_cases e : k = n
      · subst e; exact .inr h2
      · exact .inl ⟨k, by omega, h2⟩
def upF (x : Td) : List Ev := if x.st = 2 then [⟨12, 0, x.id⟩] else []
noncomputable def refC (T : Nat → Td) (L : Nat → Ins) (m : Nat) (k : Nat) : List Ev := if fndB L m (T k).id = true then knownE (T k) (fndV L m (T k).id) else [Ev.mk 10 (T k).tok (T k).id] ++ upF (T k)
def refG (T : Nat → Td) (L : Nat → Ins) (n : Nat) (i : Nat) : List Ev := if anyT T (L i).id n = true then [] else [Ev.mk 15 0 (L i).id]
noncomputable def refEv (T : Nat → Td) (L : Nat → Ins) (n m : Nat) : List Ev := (List.range n).flatMap (refC T L m) ++ (List.range m).flatMap (refG T L n)
theorem flat_succ (f : Nat → List Ev) (k : Nat) : (List.range (k + 1)).flatMap f = (List.range k).flatMap f ++ f k := by
  rw [List.range_succ, List.flatMap_append]; simp
theorem flat_len (f : Nat → List Ev) (c : Nat) (h : ∀ k, (f k).length ≤ c) : ∀ k, ((List.range k).flatMap f).length ≤ c * k := by
  intro k
  induction k with
  | zero => exact Nat.zero_le _
  | succ k ih => rw [flat_succ, List.length_append, Nat.mul_succ]; exact Nat.add_le_add ih (h k)
theorem refC_len (T : Nat → Td) (L : Nat → Ins) (m : Nat) (k : Nat) : (refC T L m k).length ≤ 2 := by
  unfold refC
  split
  · unfold knownE; split <;> simp
  · unfold upF; split <;> simp
theorem refG_len (T : Nat → Td) (L : Nat → Ins) (n : Nat) (i : Nat) : (refG T L n i).length ≤ 1 := by
  unfold refG; split <;> simp
theorem one_recs (y : Ev) (W : World) : ∀ cs : Array Value, cs = y.cells → Recs (W.alloc (.cells cs 45)) (W.heap.size + 1) (some ⟨W.heap.size, 0, none⟩) 1 28 (evV [y]) := fun cs hcs => by
  subst hcs
  refine ⟨fun e => (by cases e), fun _ => ⟨W.heap.size, 0, rfl, by omega, fun i j hi hj => ?_⟩⟩
  obtain rfl : i = 0 := by omega
  rw [cell_of_row _ _ _ _ _ _ (heap_alloc_new W _), Nat.zero_mul, Nat.zero_add, Nat.zero_add]
  show y.cells[j]? = some ((y.cells[j]?).getD undef)
  rw [Array.getElem?_eq_getElem (show j < y.cells.size from hj)]
  rfl
theorem own_cat {w : World} {B : Nat} {v : Value} {E F : List Ev} (h : Row.Own w B 45 28 v (E.length + F.length) (fun i j => if i < E.length then evV E i j else evV F (i - E.length) j)) : OwnE w B v (E ++ F) := by
  unfold OwnE
  rw [List.length_append]
  refine h.congr (by omega) fun i j hi _ => ?_
  unfold evV
  by_cases hlt : i < E.length
  · rw [if_pos hlt, List.getD_eq_getElem?_getD, List.getD_eq_getElem?_getD, List.getElem?_append_left hlt]
  · rw [if_neg hlt, List.getD_eq_getElem?_getD, List.getD_eq_getElem?_getD, List.getElem?_append_right (by omega)]
theorem own_later {w w' : World} {B : Nat} {v : Value} {E : List Ev} (h : OwnE w B v E) (hb : Below w.heap.size w w') : OwnE w' B v E := Row.Own.later h hb (Nat.le_refl _)
theorem kept_at {w w1 : World} {g : Nat} {o : Obj} (hb : Below w.heap.size w w1) (h : w.heap[g]? = some o) : w1.heap[g]? = some o := (hb.block g (Array.getElem?_eq_some_iff.1 h).1).trans h
theorem refMayT_is (A : Option Addr) (n c : Nat) (T : Nat → Td) (v : Bool) (hv : mayT T n = v) (w : World) (h : Tolds w w.heap.size A n T) (hn : n ≤ 9223372036854775807) :
    Calls Try.prog 10 #[.slice A n c] w fun e w' => e = .returned (.bool v) ∧ Below w.heap.size w w' := by
  have := refMayT_any A n c T w h hn; rw [hv] at this; exact this
theorem refMayL_is (A : Option Addr) (n c : Nat) (L : Nat → Ins) (v : Bool) (hv : mayB L n = v) (w : World) (h : Insts w w.heap.size A n L) (hn : n ≤ 9223372036854775807) :
    Calls Try.prog 12 #[.slice A n c] w fun e w' => e = .returned (.bool v) ∧ Below w.heap.size w w' := by
  have := refMayL_any A n c L w h hn; rw [hv] at this; exact this
set_option maxHeartbeats 8000000 in
set_option maxRecDepth 100000 in
theorem refEvents_any (A : Option Addr) (n c : Nat) (T : Nat → Td) (C : Option Addr) (m d : Nat) (L : Nat → Ins) (w : World) (h : Tolds w w.heap.size A n T) (hL : Insts w w.heap.size C m L) (hn : n ≤ 100000) (hm : m ≤ 100000) :
    Calls Try.prog 8 #[.slice A n c, .slice C m d] w fun e w' => (∃ v, e = .returned (.tuple #[v, .int .i64 (if mayT T n && mayB L m then 0 else 2)]) ∧ Hid (OwnE w' w.heap.size v (if mayT T n && mayB L m then refEv T L n m else []))) ∧ Below w.heap.size w w' := by
  have HT := Lib.hid (fun p : Grown w => (show Tolds p.w1 p.w1.heap.size A n T from h.later p.below))
  have HL := Lib.hid (fun p : Grown w => (show Insts p.w1 p.w1.heap.size C m L from hL.later p.below))
  have hT0 := Lib.hid h
  have hL0 := Lib.hid hL
  clear h hL
  rcases hmt : mayT T n with _ | _
  · have M := Lib.hid (fun p : Grown w => refMayT_is A n c T false hmt p.w1 (HT.out p) (by omega))
    clear hmt
    go_enter Try.func8, Try.ntmps8
    go_wp2_with fail
    refine (M.out ⟨w, Below.refl _ _⟩).mono ?_
    rintro _ w1 ⟨rfl, b1⟩
    go_wp2
    go_ret2
    exact ⟨⟨_, rfl, Lib.hid (Row.own_nil _ _ _ _ _)⟩, b1⟩
  · rcases hml : mayB L m with _ | _
    · have M := Lib.hid (fun p : Grown w => refMayT_is A n c T true hmt p.w1 (HT.out p) (by omega))
      have N := Lib.hid (fun p : Grown w => refMayL_is C m d L false hml p.w1 (HL.out p) (by omega))
      clear hmt hml
      go_enter Try.func8, Try.ntmps8
      go_wp2_with fail
      refine (M.out ⟨w, Below.refl _ _⟩).mono ?_
      rintro _ w1 ⟨rfl, b1⟩
      go_wp2_with fail
      refine (N.out ⟨w1, b1⟩).mono ?_
      rintro _ w2 ⟨rfl, b2⟩
      go_wp2
      go_ret2
      exact ⟨⟨_, rfl, Lib.hid (Row.own_nil _ _ _ _ _)⟩, bTrans b1 b2⟩
    · have M := Lib.hid (fun p : Grown w => refMayT_is A n c T true hmt p.w1 (HT.out p) (by omega))
      have N := Lib.hid (fun p : Grown w => refMayL_is C m d L true hml p.w1 (HL.out p) (by omega))
      clear hmt hml
      simp only [Bool.and_self, if_true]
      obtain ⟨io, ho, hz0, hz1, hz2⟩ := info_parts infoEv
      go_enter Try.func8, Try.ntmps8
      go_wp2_with fail
      refine (M.out ⟨w, Below.refl _ _⟩).mono ?_
      rintro _ w1 ⟨rfl, b1⟩
      go_wp2_with fail
      refine (N.out ⟨w1, b1⟩).mono ?_
      rintro _ w2 ⟨rfl, b2⟩
      replace b2 := bTrans b1 b2
      go_wp2_with fail
      go_loopw [6, 7] (fun q i wr => ∃ (k : Nat) (v : Value), k ≤ n ∧ i = .int .i64 k ∧ q = v ∧ Hid (OwnE wr w.heap.size v ((List.range k).flatMap (refC T L m))) ∧ Below w.heap.size w wr) (fun _ i _ => n - (intOf i).toNat)
      case atStart => exact ⟨0, _, by omega, rfl, rfl, Lib.hid (Row.own_nil _ _ _ _ _), b2⟩
      clear M N b1 b2
      case round =>
        obtain ⟨k, v, hk, rfl, rfl, ow, hb⟩ := hrel
        have e0 : decide ((k : Int) < 0) = false := decide_eq_false (by omega)
        have wr2 : IntKind.i64.wrap ((k : Int) + 1) = (k : Int) + 1 := IntWalk.i64_in _ (by omega)
        by_cases hlt : k < n
        · have e1 : decide ((k : Int) < n) = true := decide_eq_true (by omega)
          obtain ⟨b, off, rfl⟩ := tolds_at hT0.out (by omega)
          obtain ⟨hbl, R⟩ := rec_td (Recs.below hT0.out hb) rfl hlt
          have LE := flat_len (refC T L m) 2 (refC_len T L m) k
          have FS := Lib.hid (flat_succ (refC T L m) k)
          obtain ⟨E, hE⟩ : ∃ l, (List.range k).flatMap (refC T L m) = l := ⟨_, rfl⟩
          rw [hE] at ow LE FS
          have Q0 := heap_alloc_new wr (.cells (T k).cells 47)
          have B1 := bAlloc hb (.cells (T k).cells 47)
          have p0 := cell_row Q0 (T k).f0
          have hown := own_lt ow.out
          have OW1 := Lib.hid (own_later ow.out (bAlloc (Below.refl _ wr) (.cells (T k).cells 47)))
          clear hE ow
          go_wp2_with (first | ((with_reducible refine Fnd.at_load 47 ?_); (refine load_td rfl _ rfl _ _ rfl (T k) R ?_)) | ((with_reducible refine Fnd.at_store 47 ?_); (refine store_td rfl _ _ rfl (T k) _ _ rfl rfl rfl ?_)))
          refine (refFind_any C m d L (T k).id _ (HL.out ⟨_, B1⟩) (by omega)).mono ?_
          rintro _ w3 ⟨rfl, b3⟩
          have Q1 := kept_at b3 Q0
          have OW3 := Lib.hid (own_later OW1.out b3)
          have B3 := bTrans B1 b3
          have Q9 := heap_alloc_new w3 (.cells (fndV L m (T k).id).cells 36)
          have b9 := bAlloc (Below.refl _ w3) (.cells (fndV L m (T k).id).cells 36)
          have Q8 := kept_at b9 Q1
          have OW9 := Lib.hid (own_later OW3.out b9)
          have B9 := bTrans B3 b9
          have z3 : wr.heap.size < w3.heap.size := by have := b3.size; simp at this; omega
          clear Q1 OW3 OW1 Q0 p0 R
          obtain ⟨fb, hfb⟩ : ∃ v, fndB L m (T k).id = v := ⟨_, rfl⟩
          rw [hfb]
          rcases fb with _ | _
          · have HC : refC T L m k = [Ev.mk 10 (T k).tok (T k).id] ++ upF (T k) := by unfold refC; rw [hfb]; rfl
            have c0 := cell_row Q8 (T k).f0
            have c1 := cell_row Q8 (T k).f1
            have K3 := build3
            have K2 := build2
            have KS := fun W => buildS (Ev.mk 10 (T k).tok (T k).id) W
            obtain ⟨W9, hW9⟩ : ∃ W9, w3.alloc (.cells (fndV L m (T k).id).cells 36) = W9 := ⟨_, rfl⟩
            rw [hW9] at Q9 b9 Q8 OW9 B9 c0 c1
            clear hfb b3 B3 b9 Q9
            go_upto_region 13 with (first | ((with_reducible refine Fnd.at_store 36 ?_); (refine store_ins rfl _ _ rfl (fndV L m (T k).id) _ _ rfl rfl rfl ?_)) | (at_builtin; refine Row.append_rows rfl _ _ 25 rfl w.heap.size 45 io noEv.val 28 272 (by omega) Try.underlying25 ho hz0 hz1 hz2 rfl _ E.length (evV E) (by rfl) (Row.Own.alloc OW9.out _) _ (some ⟨W9.heap.size, 0, none⟩) 1 1 (evV [Ev.mk 10 (T k).tok (T k).id]) (by rfl) (one_recs (Ev.mk 10 (T k).tok (T k).id) W9 _ (by kernel_rfl)) (fun i j _ hj => evV_one _ i j hj) (fun e => by cases e) (by unfold maxLen; omega) (by omega) (Nat.le_trans B9.size (bAlloc (Below.refl _ W9) _).size) ?_; intro v1 w5 own1 grow1))
            have hq := own_lt OW9.out
            have OW5 := Lib.hid (own_cat (F := [Ev.mk 10 (T k).tok (T k).id]) own1)
            have Q5 := grown_box grow1 (heap_under Q8) (fun e => by have := (hown _ e).2; omega)
            have B5 := (bAlloc B9 _).trans (below_own grow1 (bAlloc B9 _).size (fun q e => (hq q e).1))
            obtain ⟨EM, hEM⟩ : ∃ l, E ++ [Ev.mk 10 (T k).tok (T k).id] = l := ⟨_, rfl⟩
            have LM : EM.length ≤ 2 * k + 1 := by rw [← hEM, List.length_append, List.length_singleton]; omega
            rw [hEM] at OW5
            have s2 := cell_row Q5 (T k).f2
            have s0 := cell_row Q5 (T k).f0
            clear own1 grow1 OW9 B9 Q8 c0 c1 hq hW9
            by_cases hst : (T k).st = 2
            · have d2 : ((T k).st == 2) = true := by simp [hst]
              have HU : upF (T k) = [Ev.mk 12 0 (T k).id] := if_pos hst
              have KS := fun W => buildS (Ev.mk 12 0 (T k).id) W
              rw [HU] at HC
              replace HC := Lib.hid HC
              replace hEM := Lib.hid hEM
              clear hst HU K3
              go_wp2_with (at_builtin; refine Row.append_rows rfl _ _ 25 rfl w.heap.size 45 io noEv.val 28 272 (by omega) Try.underlying25 ho hz0 hz1 hz2 rfl _ EM.length (evV EM) (by rfl) (Row.Own.alloc OW5.out _) _ (some ⟨w5.heap.size, 0, none⟩) 1 1 (evV [Ev.mk 12 0 (T k).id]) (by rfl) (one_recs (Ev.mk 12 0 (T k).id) w5 _ (by kernel_rfl)) (fun i j _ hj => evV_one _ i j hj) (fun e => by cases e) (by unfold maxLen; omega) (by omega) (Nat.le_trans B5.size (bAlloc (Below.refl _ w5) _).size) ?_; intro v2 w6 own2 grow2)
              have hq := own_lt OW5.out
              have OW6 := Lib.hid (own_cat (F := [Ev.mk 12 0 (T k).id]) own2)
              have B6 := (bAlloc B5 _).trans (below_own grow2 (bAlloc B5 _).size (fun q e => (hq q e).1))
              go_roundw
              case rel => exact ⟨k + 1, v2, by omega, by go_num, rfl, Lib.hid (by rw [FS.out, HC.out, ← List.append_assoc, hEM.out]; exact OW6.out), B6⟩
              case measure => simp [intOf]; omega
            · have d2 : ((T k).st == 2) = false := by simp [hst]
              have HU : upF (T k) = [] := if_neg hst
              rw [HU] at HC
              replace HC := Lib.hid HC
              replace hEM := Lib.hid hEM
              clear hst HU K3
              go_wp2
              go_roundw
              case rel => exact ⟨k + 1, v1, by omega, by go_num, rfl, Lib.hid (by rw [FS.out, HC.out, List.append_nil, hEM.out]; exact OW5.out), B5⟩
              case measure => simp [intOf]; omega
          · have HC : refC T L m k = knownE (T k) (fndV L m (T k).id) := by unfold refC; rw [hfb]; rfl
            obtain ⟨F, hF⟩ : ∃ l, knownE (T k) (fndV L m (T k).id) = l := ⟨_, rfl⟩
            have LF : F.length ≤ 1 := by rw [← hF]; unfold knownE; split <;> simp
            have KN := Lib.hid (fun W => refKnown_any (T k) (fndV L m (T k).id) W)
            rw [hF] at HC
            rw [hF] at KN
            have R8 := range_row Q8
            have R9 := range_row Q9
            replace HC := Lib.hid HC
            clear hfb b3 B3 b9 Q9 hF Q8
            go_wp2_with (first | ((with_reducible refine Fnd.at_store 36 ?_); (refine store_ins rfl _ _ rfl (fndV L m (T k).id) _ _ rfl rfl rfl ?_)) | ((with_reducible refine Fnd.at_load 47 ?_); (refine load_td rfl _ rfl _ _ rfl (T k) R8 ?_)) | ((with_reducible refine Fnd.at_load 36 ?_); (refine load_ins rfl _ rfl _ _ rfl (fndV L m (T k).id) R9 ?_)))
            refine (KN.out _).mono ?_
            rintro _ w4 ⟨⟨more, rfl, om⟩, b4⟩
            obtain ⟨Am, km, rfl, lm, mm, zm, _⟩ := Row.Own.shape om.out
            have rm := Lib.hid (Row.Own.recs om.out)
            replace zm := Lib.hid zm
            have OW4 := Lib.hid (own_later OW9.out b4)
            have B4 := bTrans B9 b4
            clear OW9 B9 R8 R9 om KN
            go_wp2_with (at_builtin; refine Row.append_rows rfl _ _ 25 rfl w.heap.size 45 io noEv.val 28 272 (by omega) Try.underlying25 ho hz0 hz1 hz2 rfl _ E.length (evV E) (by rfl) (OW4.out) _ Am F.length km (evV F) (by rfl) (rm.out) (fun i j _ hj => evV_one _ i j hj) (fun e => (zm.out e).2) (by unfold maxLen; omega) (by omega) (B4.size) ?_; intro v1 w5 own1 grow1)
            have hq := own_lt OW4.out
            have OW5 := Lib.hid (own_cat (F := F) own1)
            have B5 := B4.trans (below_own grow1 B4.size (fun q e => (hq q e).1))
            go_roundw
            case rel => exact ⟨k + 1, v1, by omega, by go_num, rfl, Lib.hid (by rw [FS.out, HC.out]; exact OW5.out), B5⟩
            case measure => simp [intOf]; omega
        · have e1 : decide ((k : Int) < n) = false := decide_eq_false (by omega)
          obtain rfl : k = n := by omega
          have LE := flat_len (refC T L m) 2 (refC_len T L m) k
          have HR : Hid (∀ x, x = (List.range m).flatMap (refG T L k) → refEv T L k m = (List.range k).flatMap (refC T L m) ++ x) := Lib.hid (fun x e => by rw [e]; rfl)
          obtain ⟨E, hE⟩ : ∃ l, (List.range k).flatMap (refC T L m) = l := ⟨_, rfl⟩
          rw [hE] at ow LE HR
          clear hE
          go_wp2
          go_loopw [6, 12] (fun q i wr => ∃ (j : Nat) (v : Value), j ≤ m ∧ i = .int .i64 j ∧ q = v ∧ Hid (OwnE wr w.heap.size v (E ++ (List.range j).flatMap (refG T L k))) ∧ Below w.heap.size w wr) (fun _ i _ => m - (intOf i).toNat)
          case atStart => exact ⟨0, _, by omega, rfl, rfl, Lib.hid (by rw [List.range_zero, List.flatMap_nil, List.append_nil]; exact ow.out), hb⟩
          clear ow hb
          case round =>
            obtain ⟨i, v, hi, rfl, rfl, OWr, hb⟩ := hrel
            have f0 : decide ((i : Int) < 0) = false := decide_eq_false (by omega)
            have wr3 : IntKind.i64.wrap ((i : Int) + 1) = (i : Int) + 1 := IntWalk.i64_in _ (by omega)
            by_cases hlt2 : i < m
            · have f1 : decide ((i : Int) < m) = true := decide_eq_true (by omega)
              obtain ⟨b2, off2, rfl⟩ := insts_at hL0.out (by omega)
              obtain ⟨hb2, R2, d0⟩ := ins_cells hL0.out hb rfl hlt2
              have FS := Lib.hid (flat_succ (refG T L k) i)
              have LG := flat_len (refG T L k) 1 (refG_len T L k) i
              have hGl : (E ++ (List.range i).flatMap (refG T L k)).length ≤ 300000 := by rw [List.length_append]; omega
              obtain ⟨G, hG⟩ : ∃ l, E ++ (List.range i).flatMap (refG T L k) = l := ⟨_, rfl⟩
              rw [hG] at OWr hGl
              have FS2 : Hid (E ++ (List.range (i + 1)).flatMap (refG T L k) = G ++ refG T L k i) := Lib.hid (by rw [FS.out, ← hG, List.append_assoc])
              clear hG LG FS R2
              obtain ⟨wo, rfl⟩ : ∃ wo : World, wo = wr := ⟨_, rfl⟩
              go_wp2
              go_loopw [13, 14] (fun q j wr => ∃ (y : Nat), y ≤ k ∧ j = .int .i64 y ∧ q = .bool (anyT T (L i).id y) ∧ Below wo.heap.size wo wr) (fun _ j _ => k - (intOf j).toNat)
              case atStart => exact ⟨0, by omega, rfl, rfl, Below.refl _ _⟩
              case round =>
                obtain ⟨y, hy, rfl, rfl, bq⟩ := hrel
                have y0 : decide ((y : Int) < 0) = false := decide_eq_false (by omega)
                have wy : IntKind.i64.wrap ((y : Int) + 1) = (y : Int) + 1 := IntWalk.i64_in _ (by omega)
                obtain ⟨an, han⟩ : ∃ v, anyT T (L i).id y = v := ⟨_, rfl⟩
                rw [han]
                by_cases hyk : y < k
                · have y1 : decide ((y : Int) < k) = true := decide_eq_true (by omega)
                  have D2 := fun p : Grown wr => cell_in (Nat.lt_of_lt_of_le hb2 bq.size) (((bcell bq).1 _ _ hb2).trans d0) p
                  obtain ⟨b, off, rfl⟩ := tolds_at hT0.out (by omega)
                  obtain ⟨hbl, R⟩ := rec_td (Recs.below hT0.out hb) rfl hyk
                  have hbr : b < wo.heap.size := Nat.lt_of_lt_of_le hbl hb.size
                  have t0 := td_cell R (T y).f0
                  rw [Nat.add_zero] at t0
                  have D1 := fun p : Grown wr => cell_in (Nat.lt_of_lt_of_le hbr bq.size) (((bcell bq).1 _ _ hbr).trans t0) p
                  clear t0 R
                  rcases an with _ | _
                  · by_cases he : (T y).id = (L i).id
                    · have de : ((T y).id == (L i).id) = true := by simp [he]
                      have hnx : Hid (anyT T (L i).id (y + 1) = true) := Lib.hid (by unfold anyT; rw [han, de]; rfl)
                      clear han he
                      go_wp2
                      refine region_grown (by kernel_rfl) (by kernel_rfl) ?_
                      repeat ((with_reducible refine wpQuiet_step (fun K hK => ?_)); go_simp; (first | (refine hK _ ?_; clear hK K) | (apply Exists.intro; refine ⟨fun _ => ?_, hK _ ?_⟩; fail; clear hK K)))
                      (with_reducible refine wpQuiet_nil ?_)
                      rintro _ ⟨p, rfl⟩
                      go_wp2
                      go_roundw
                      case rel => exact ⟨y + 1, by omega, by go_num, by rw [hnx.out], bTrans bq p.below⟩
                      case measure => simp [intOf]; omega
                    · have de : ((T y).id == (L i).id) = false := by simp [he]
                      have hnx : Hid (anyT T (L i).id (y + 1) = false) := Lib.hid (by unfold anyT; rw [han, de]; rfl)
                      clear han he
                      go_wp2
                      refine region_grown (by kernel_rfl) (by kernel_rfl) ?_
                      repeat ((with_reducible refine wpQuiet_step (fun K hK => ?_)); go_simp; (first | (refine hK _ ?_; clear hK K) | (apply Exists.intro; refine ⟨fun _ => ?_, hK _ ?_⟩; fail; clear hK K)))
                      (with_reducible refine wpQuiet_nil ?_)
                      rintro _ ⟨p, rfl⟩
                      go_wp2
                      go_roundw
                      case rel => exact ⟨y + 1, by omega, by go_num, by rw [hnx.out], bTrans bq p.below⟩
                      case measure => simp [intOf]; omega
                  · have hnx : Hid (anyT T (L i).id (y + 1) = true) := Lib.hid (by unfold anyT; rw [han]; rfl)
                    clear han
                    go_wp2
                    refine region_grown (by kernel_rfl) (by kernel_rfl) ?_
                    repeat ((with_reducible refine wpQuiet_step (fun K hK => ?_)); go_simp; (first | (refine hK _ ?_; clear hK K) | (apply Exists.intro; refine ⟨fun _ => ?_, hK _ ?_⟩; fail; clear hK K)))
                    (with_reducible refine wpQuiet_nil ?_)
                    rintro _ ⟨p, rfl⟩
                    go_wp2
                    go_roundw
                    case rel => exact ⟨y + 1, by omega, by go_num, by rw [hnx.out], bTrans bq p.below⟩
                    case measure => simp [intOf]; omega
                · have y1 : decide ((y : Int) < k) = false := decide_eq_false (by omega)
                  obtain rfl : y = k := by omega
                  have OWq := Lib.hid (own_later OWr.out bq)
                  have Bq := hb.trans (bq.mono hb.size)
                  rcases an with _ | _
                  · have HG : refG T L y i = [Ev.mk 15 0 (L i).id] := by unfold refG; rw [han]; rfl
                    have K2 := build2
                    have KS := fun W => buildS (Ev.mk 15 0 (L i).id) W
                    have d9 := ((bcell bq).1 _ _ hb2).trans d0
                    replace HG := Lib.hid HG
                    clear han OWr
                    go_wp2_with (at_builtin; refine Row.append_rows rfl _ _ 25 rfl w.heap.size 45 io noEv.val 28 272 (by omega) Try.underlying25 ho hz0 hz1 hz2 rfl _ G.length (evV G) (by rfl) (Row.Own.alloc OWq.out _) _ (some ⟨wr.heap.size, 0, none⟩) 1 1 (evV [Ev.mk 15 0 (L i).id]) (by rfl) (one_recs (Ev.mk 15 0 (L i).id) wr _ (by kernel_rfl)) (fun i j _ hj => evV_one _ i j hj) (fun e => by cases e) (by unfold maxLen; omega) (by omega) (Nat.le_trans Bq.size (bAlloc (Below.refl _ wr) _).size) ?_; intro v1 w5 own1 grow1)
                    have hq := own_lt OWq.out
                    have OW5 := Lib.hid (own_cat (F := [Ev.mk 15 0 (L i).id]) own1)
                    have B5 := (bAlloc Bq _).trans (below_own grow1 (bAlloc Bq _).size (fun q e => (hq q e).1))
                    go_roundw
                    case rel => exact ⟨i + 1, v1, by omega, by go_num, rfl, Lib.hid (by rw [FS2.out, HG.out]; exact OW5.out), B5⟩
                    case measure => simp [intOf]; omega
                  · have HG : refG T L y i = [] := by unfold refG; rw [han]; rfl
                    replace HG := Lib.hid HG
                    clear han
                    go_wp2
                    go_roundw
                    case rel => exact ⟨i + 1, _, by omega, by go_num, rfl, Lib.hid (by rw [FS2.out, HG.out, List.append_nil]; exact OWq.out), Bq⟩
                    case measure => simp [intOf]; omega
            · have f1 : decide ((i : Int) < m) = false := decide_eq_false (by omega)
              obtain rfl : i = m := by omega
              have HR2 := Lib.hid (HR.out _ rfl)
              go_wp2
              go_ret2
              exact ⟨⟨_, rfl, Lib.hid (by rw [HR2.out]; exact OWr.out)⟩, hb⟩
end Go.Proofs.Ytoiofdoipmdajaa.RcF
