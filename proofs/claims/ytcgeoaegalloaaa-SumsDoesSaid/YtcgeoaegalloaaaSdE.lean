
/- What Add of the document answers, whatever is handed in. -/
import Derived.Test.YtcgeoaegalloaaaSdD
import Derived.Test.YtcgeoaegalloaaaSdC
import Derived.Deep.QuietTactic
import Derived.BigQuiet
namespace Go.Proofs.Ytcgeoaegalloaaa.Cat
open Go.ChangeShapes Go.WideShapes Go.ChangeAt Go.RowKit
open Mem Arr Lst Rec Inst Grown Sums St0 Fnd Flow
attribute [local go_sem] Oper.semAt_some
set_option linter.unusedSimpArgs false
set_option linter.unusedVariables false
theorem one_recs (y : Ins) (W : World) : ∀ cs : Array Value, cs = y.cells → Recs (W.alloc (.cells cs 36)) (W.heap.size + 1) (some ⟨W.heap.size, 0, none⟩) 1 12 (insV fun _ => y) := fun cs hcs => by
  subst hcs
  refine ⟨fun e => (by cases e), fun _ => ⟨W.heap.size, 0, rfl, by omega, fun i j hi hj => ?_⟩⟩
  obtain rfl : i = 0 := by omega
  rw [cell_of_row _ _ _ _ _ _ (heap_alloc_new W _), Nat.zero_mul, Nat.zero_add, Nat.zero_add]
  show y.cells[j]? = some ((y.cells[j]?).getD undef)
  rw [Array.getElem?_eq_getElem (show j < y.cells.size from hj)]
  rfl
theorem below_more {w W w1 : World} {B : Nat} {v : Value} {m : Nat} {V : Nat → Nat → Value} {cs : Array Value} (hb : Below w.heap.size w W) (own : Row.Own W B 36 12 v m V) (hB : w.heap.size < B) (hg : (W.alloc (.cells cs 36)).grownBy w1 v.ownBlock) : Below w.heap.size w w1 :=
  (bAlloc hb _).grown hg (bAlloc hb _).size fun q hq => Nat.le_trans (Nat.le_of_lt hB) (World.ownsRow.lt (own.alloc (.cells cs 36)) q hq).1
theorem heap_more {w W w1 : World} {B : Nat} {v : Value} {m : Nat} {V : Nat → Nat → Value} {cs : Array Value} {o : Obj} (hb : Below w.heap.size w W) (own : Row.Own W B 36 12 v m V) (hB : w.heap.size < B) (hg : (W.alloc (.cells cs 36)).grownBy w1 v.ownBlock) (h : W.heap[w.heap.size]? = some o) : w1.heap[w.heap.size]? = some o := by
  have h1 := heap_under (o := .cells cs 36) h
  have hlt := (Array.getElem?_eq_some_iff.1 h1).1
  obtain ⟨_, _, _, _, hblk⟩ := hg
  refine (hblk _ hlt fun e => ?_).trans h1
  have := (World.ownsRow.lt (own.alloc (.cells cs 36)) _ e.symm).1
  omega
theorem size_more {W w1 : World} {v : Value} {cs : Array Value} {B : Nat} (hB : B ≤ W.heap.size) (hg : (W.alloc (.cells cs 36)).grownBy w1 v.ownBlock) : B ≤ w1.heap.size := by
  obtain ⟨_, _, _, hs, _⟩ := hg
  rw [World.size_alloc] at hs
  omega
/-- one more behind a row -/
theorem own_more {w : World} {base : Nat} {v : Value} {m : Nat} {V U : Nat → Ins} {y : Ins} (h : Row.Own w base 36 12 v (m + 1) (fun i j => if i < m then insV V i j else insV (fun _ => y) (i - m) j)) (h1 : ∀ i, i < m → U i = V i) (h2 : U m = y) : Row.Own w base 36 12 v (m + 1) (insV U) :=
  h.congr (by omega) fun i j hi _ => by
    unfold insV
    by_cases e : i < m
    · rw [if_pos e, h1 i e]
    · rw [if_neg e, show i = m by omega, h2]
/-- where one belongs that is not there -/
theorem place_ex {L : Nat → Ins} {n : Nat} {id : Int} (hm : mayB L n = true) (hno : ∀ i, i < n → (L i).id ≠ id) : ∃ k, k ≤ n ∧ (∀ i, i < k → (L i).id < id) ∧ ∀ i, k ≤ i → i < n → id < (L i).id := by
  suffices H : ∀ m, m ≤ n → ∃ k, k ≤ m ∧ (∀ i, i < k → (L i).id < id) ∧ ∀ i, k ≤ i → i < m → id < (L i).id from H n (Nat.le_refl _)
  intro m
  induction m with
  | zero => intro _; exact ⟨0, Nat.le_refl _, fun i hi => by omega, fun i _ hi => by omega⟩
  | succ m ih =>
    intro hmn
    obtain ⟨k, hk, h1, h2⟩ := ih (by omega)
    have hne := hno m (by omega)
    by_cases hlt : (L m).id < id
    · refine ⟨m + 1, Nat.le_refl _, fun i hi => ?_, fun i h3 h4 => by omega⟩
      by_cases e : i = m
      · subst e; exact hlt
      · have := may_less hm m i (by omega) (by omega); omega
    · refine ⟨k, by omega, h1, fun i h3 h4 => ?_⟩
      by_cases e : i = m
      · subst e; omega
      · exact h2 i h3 (by omega)
set_option maxHeartbeats 8000000 in
theorem refAdd_all (A : Option Addr) (n c : Nat) (L : Nat → Ins) (x : Ins) (w : World) (h : Insts w w.heap.size A n L) (hn : n ≤ 9223372036854775807) (hnil : A = none → c = 0) : Calls Try.prog 15 #[.slice A n c, x.val] w fun e w' => ∃ v m V er, e = .returned (.tuple #[v, .int .i64 er]) ∧ Hid (Row.Own w' w.heap.size 36 12 v m (insV V)) ∧ Hid (AddR L n x m V er) ∧ Below w.heap.size w w' := by
  have H0 := heap_alloc_new w (.cells x.cells 36)
  have B0 := bAlloc (Below.refl _ w) (.cells x.cells 36)
  have MM : ∀ v, mayB L n = v → Hid (∀ p : Grown w, Calls Try.prog 11 #[.slice A n c] p.w1 fun e w' => e = .returned (.bool v) ∧ Below p.w1.heap.size p.w1 w') := fun v hv => Lib.hid (fun p => refMayL_is' A n c L v hv p.w1 (h.later p.below) hn)
  have HL := Lib.hid (fun p : Grown w => (show Insts p.w1 p.w1.heap.size A n L from h.later p.below))
  rcases hm : mayB L n with _ | _
  · have M := MM false hm
    have HR : Hid (AddR L n x 0 (fun _ => Inst.none_) 2) := Lib.hid (.inl ⟨.inl hm, rfl, rfl⟩)
    clear hm h MM
    go_enter Try.func15, Try.ntmps15
    go_wp2_with fail
    refine (M.out ⟨_, B0⟩).mono ?_
    rintro _ u ⟨rfl, bu⟩
    go_wp2
    go_ret2
    exact ⟨_, 0, _, 2, rfl, Lib.hid (Row.own_nil _ _ _ _ _), HR, bTrans B0 bu⟩
  have M := MM true hm
  clear MM
  rcases hx : okB x with _ | _
  · have HR : Hid (AddR L n x 0 (fun _ => Inst.none_) 2) := Lib.hid (.inl ⟨.inr hx, rfl, rfl⟩)
    have X := Lib.hid (fun W => refMay_is x false hx W)
    clear hm h hx
    go_enter Try.func15, Try.ntmps15
    go_wp2_with fail
    refine (M.out ⟨_, B0⟩).mono ?_
    rintro _ u ⟨rfl, bu⟩
    have HX := kept_lt bu H0
    go_wp2_with (refine load_whole rfl 36 _ rfl w.heap.size rfl _ x.cells _ _ HX Try.underlying36 rfl (sizeInst.trans rfl) ?_)
    refine (X.out _).mono ?_
    rintro _ u2 ⟨rfl, bu2⟩
    go_wp2
    go_ret2
    exact ⟨_, 0, _, 2, rfl, Lib.hid (Row.own_nil _ _ _ _ _), HR, bTrans (bTrans B0 bu) bu2⟩
  have X := Lib.hid (fun W => refMay_is x true hx W)
  have P := Lib.hid (fun p : Grown w => refPlace_any A n c L x.id p.w1 (h.later p.below) hn)
  have hn4 := may_len hm
  have HM := Lib.hid hm
  have HK := Lib.hid hx
  obtain ⟨io, ho, hz0, hz1, hz2⟩ := info_parts infoInst
  clear hm h hx hnil
  go_enter Try.func15, Try.ntmps15
  go_wp2_with fail
  refine (M.out ⟨_, B0⟩).mono ?_
  rintro _ u ⟨rfl, bu⟩
  have HX := kept_lt bu H0
  go_wp2_with (refine load_whole rfl 36 _ rfl w.heap.size rfl _ x.cells _ _ HX Try.underlying36 rfl (sizeInst.trans rfl) ?_)
  refine (X.out _).mono ?_
  rintro _ u2 ⟨rfl, bu2⟩
  have HX2 := kept_lt bu2 HX
  have cx := cell_row HX2 x.f0
  go_wp2_with fail
  refine (P.out ⟨u2, bTrans (bTrans B0 bu) bu2⟩).mono ?_
  rintro _ w3 ⟨⟨z, rfl, hz⟩, ew⟩
  obtain rfl : u2 = w3 := ew
  have B1 := bTrans (bTrans B0 bu) bu2
  clear cx HX bu bu2 H0 B0 M X P
  rcases hz with ⟨k, rfl, hk, he, _⟩ | ⟨rfl, hno⟩
  · have HR : Hid (AddR L n x 0 (fun _ => Inst.none_) 8) := Lib.hid (.inr (.inl ⟨HM.out, HK.out, ⟨k, hk, he⟩, rfl, rfl⟩))
    have d0 : decide ((0 : Int) ≤ k) = true := decide_eq_true (by omega)
    clear he
    go_wp2
    go_ret2
    exact ⟨_, 0, _, 8, rfl, Lib.hid (Row.own_nil _ _ _ _ _), HR, B1⟩
  by_cases hf : 4096 ≤ n
  · have d4 : decide ((4096 : Int) ≤ n) = true := decide_eq_true (by omega)
    have HR : Hid (AddR L n x 0 (fun _ => Inst.none_) 10) := Lib.hid (.inr (.inr (.inl ⟨HM.out, HK.out, hno, hf, rfl, rfl⟩)))
    clear hno
    go_wp2
    go_ret2
    exact ⟨_, 0, _, 10, rfl, Lib.hid (Row.own_nil _ _ _ _ _), HR, B1⟩
  have d4 : decide ((4096 : Int) ≤ n) = false := decide_eq_false (by omega)
  obtain ⟨k, hk, hlo, hhi⟩ := place_ex HM.out hno
  have HR : Hid (AddR L n x (n + 1) (addL L k x) 0) := Lib.hid (.inr (.inr (.inr ⟨HM.out, HK.out, by omega, k, hk, hlo, hhi, rfl, rfl, fun i _ => rfl⟩)))
  have HLO := Lib.hid hlo
  have HHI := Lib.hid hhi
  have hwx : w.heap.size < u2.heap.size := (Array.getElem?_eq_some_iff.1 HX2).1
  clear hno hlo hhi
  obtain ⟨B, eB⟩ : ∃ B, u2.heap.size = B := ⟨_, rfl⟩
  rw [eB] at hwx
  go_wp2
  go_loopw [6, 7, 8] (fun v t i wr => ∃ j : Nat, j ≤ n ∧ i = .int .i64 j ∧ t = .bool (decide (k < j)) ∧ Hid (Row.Own wr B 36 12 v (if k < j then j + 1 else j) (insV (addL L k x))) ∧ B ≤ wr.heap.size ∧ Below w.heap.size w wr ∧ wr.heap[w.heap.size]? = some (.cells x.cells 36 (0, 0))) (fun _ _ i _ => n - (intOf i).toNat)
  case atStart => exact ⟨0, by omega, rfl, rfl, by rw [if_neg (by omega)]; exact Lib.hid (Row.own_nil _ _ _ _ _), by omega, B1, HX2⟩
  case round =>
    obtain ⟨j, hj, rfl, rfl, own, hBs, hb, HX3⟩ := hrel
    have cx := cell_row HX3 x.f0
    have w1' : IntKind.i64.wrap ((j : Int) + 1) = (j : Int) + 1 := IntWalk.i64_in _ (by omega)
    by_cases hlt : j < n
    · have e1 : decide ((j : Int) < n) = true := decide_eq_true (by omega)
      have e0 : decide ((j : Int) < 0) = false := decide_eq_false (by omega)
      obtain ⟨b, off, rfl⟩ := insts_at (HL.out ⟨wr, hb⟩) (by omega)
      obtain ⟨hbl, R, c0⟩ := ins_cells (HL.out ⟨wr, hb⟩) (Below.refl _ _) rfl hlt
      have sz := (show (L j).cells.size = 12 from rfl)
      have szx := (show x.cells.size = 12 from rfl)
      rcases Nat.lt_trichotomy j k with hjk | hjk | hjk
      · have q1 : decide (k < j) = false := decide_eq_false (by omega)
        have q2 : decide (x.id < (L j).id) = false := decide_eq_false (by have := HLO.out j hjk; omega)
        rw [q1]
        rw [if_neg (by omega)] at own
        go_wp2_with fail
        go_quiet (fail)
        have ownq := own.out.drewN nq
        have hbq := bDrewN nq hb
        have hBq : B ≤ (wr.drewN nq).heap.size := hBs
        have HXq : (wr.drewN nq).heap[w.heap.size]? = some (.cells x.cells 36 (0, 0)) := HX3
        have Rq : (wr.drewN nq).rangeAt b (off + j * 12) (L j).cells.toList := R
        generalize wr.drewN nq = wq at ownq hbq HXq Rq hBq ⊢
        clear own hb HX3 R
        go_wp2_with (first | (refine load_ins rfl _ rfl _ _ rfl (L j) Rq ?_) | (at_builtin; refine Row.append_rows rfl _ _ 22 rfl B 36 io Inst.none_.val 12 72 (by omega) Try.underlying22 ho hz0 hz1 hz2 rfl _ (j) (insV (addL L k x)) (by rfl) (ownq.alloc _) (wq.heap.size + 1) (some ⟨wq.heap.size, 0, none⟩) 1 1 (insV fun _ => (L j)) rfl (one_recs (L j) wq _ (by kernel_rfl)) (fun a1 b1 _ hb1 => insV_one (fun _ => (L j)) a1 b1 hb1) (fun e => by cases e) (by unfold maxLen; omega) (by omega) (by simp; omega) ?_; intro v1 w1 own1 grow1))
        have own2 := own_more (U := addL L k x) own1 (fun i hi => rfl) (by unfold addL; rw [if_pos (by omega)])
        have b2 := below_more hbq ownq hwx grow1
        have HX4 := heap_more hbq ownq hwx grow1 HXq
        have hB4 := size_more hBq grow1
        replace own2 := Lib.hid own2
        clear own1 grow1 ownq
        go_roundw
        case rel => exact ⟨j + 1, by omega, by rw [Int.natCast_add]; rfl, by rw [decide_eq_false (by omega)], by rw [if_neg (by omega)]; exact own2, hB4, b2, HX4⟩
        case measure => simp [intOf]; omega
      · obtain rfl := hjk
        have q1 : decide (j < j) = false := decide_eq_false (by omega)
        have q2 : decide (x.id < (L j).id) = true := decide_eq_true (HHI.out j (by omega) hlt)
        rw [q1]
        rw [if_neg (by omega)] at own
        go_wp2_with fail
        go_quiet (fail)
        have ownq := own.out.drewN nq
        have hbq := bDrewN nq hb
        have hBq : B ≤ (wr.drewN nq).heap.size := hBs
        have HXq : (wr.drewN nq).heap[w.heap.size]? = some (.cells x.cells 36 (0, 0)) := HX3
        have Rq : (wr.drewN nq).rangeAt b (off + j * 12) (L j).cells.toList := R
        generalize wr.drewN nq = wq at ownq hbq HXq Rq hBq ⊢
        clear own hb HX3 R
        go_upto_region 15 with (first | (refine load_ins rfl _ rfl _ _ rfl x (range_row HXq) ?_) | (at_builtin; refine Row.append_rows rfl _ _ 22 rfl B 36 io Inst.none_.val 12 72 (by omega) Try.underlying22 ho hz0 hz1 hz2 rfl _ (j) (insV (addL L j x)) (by rfl) (ownq.alloc _) (wq.heap.size + 1) (some ⟨wq.heap.size, 0, none⟩) 1 1 (insV fun _ => x) rfl (one_recs x wq _ (by kernel_rfl)) (fun a1 b1 _ hb1 => insV_one (fun _ => x) a1 b1 hb1) (fun e => by cases e) (by unfold maxLen; omega) (by omega) (by simp; omega) ?_; intro v1 w1 own1 grow1))
        have own2 := own_more (U := addL L j x) own1 (fun i hi => rfl) (by unfold addL; rw [if_neg (by omega), if_pos rfl])
        have b2 := below_more hbq ownq hwx grow1
        have HX4 := heap_more hbq ownq hwx grow1 HXq
        obtain ⟨_, R2, _⟩ := ins_cells (HL.out ⟨w1, b2⟩) (Below.refl _ _) rfl hlt
        have hB4 := size_more hBq grow1
        clear own1 grow1 ownq
        go_wp2_with (first | (refine load_ins rfl _ rfl _ _ rfl (L j) R2 ?_) | (at_builtin; refine Row.append_rows rfl _ _ 22 rfl B 36 io Inst.none_.val 12 72 (by omega) Try.underlying22 ho hz0 hz1 hz2 rfl _ (j + 1) (insV (addL L j x)) (by rfl) (own2.alloc _) (w1.heap.size + 1) (some ⟨w1.heap.size, 0, none⟩) 1 1 (insV fun _ => (L j)) rfl (one_recs (L j) w1 _ (by kernel_rfl)) (fun a1 b1 _ hb1 => insV_one (fun _ => (L j)) a1 b1 hb1) (fun e => by cases e) (by unfold maxLen; omega) (by omega) (by simp; omega) ?_; intro v2 w2 own3 grow2))
        have own4 := own_more (U := addL L j x) own3 (fun i hi => rfl) (by unfold addL; rw [if_neg (by omega), if_neg (by omega), Nat.add_sub_cancel])
        have b3 := below_more b2 own2 hwx grow2
        have HX5 := heap_more b2 own2 hwx grow2 HX4
        have hB5 := size_more hB4 grow2
        replace own4 := Lib.hid own4
        clear own3 grow2 own2
        go_roundw
        case rel => exact ⟨j + 1, by omega, by rw [Int.natCast_add]; rfl, by rw [decide_eq_true (by omega)], by rw [if_pos (by omega)]; exact own4, hB5, b3, HX5⟩
        case measure => simp [intOf]; omega
      · have q1 : decide (k < j) = true := decide_eq_true (by omega)
        rw [q1]
        rw [if_pos (by omega)] at own
        go_wp2_with fail
        go_quiet (fail)
        have ownq := own.out.drewN nq
        have hbq := bDrewN nq hb
        have hBq : B ≤ (wr.drewN nq).heap.size := hBs
        have HXq : (wr.drewN nq).heap[w.heap.size]? = some (.cells x.cells 36 (0, 0)) := HX3
        have Rq : (wr.drewN nq).rangeAt b (off + j * 12) (L j).cells.toList := R
        generalize wr.drewN nq = wq at ownq hbq HXq Rq hBq ⊢
        clear own hb HX3 R
        go_wp2_with (first | (refine load_ins rfl _ rfl _ _ rfl (L j) Rq ?_) | (at_builtin; refine Row.append_rows rfl _ _ 22 rfl B 36 io Inst.none_.val 12 72 (by omega) Try.underlying22 ho hz0 hz1 hz2 rfl _ (j + 1) (insV (addL L k x)) (by rfl) (ownq.alloc _) (wq.heap.size + 1) (some ⟨wq.heap.size, 0, none⟩) 1 1 (insV fun _ => (L j)) rfl (one_recs (L j) wq _ (by kernel_rfl)) (fun a1 b1 _ hb1 => insV_one (fun _ => (L j)) a1 b1 hb1) (fun e => by cases e) (by unfold maxLen; omega) (by omega) (by simp; omega) ?_; intro v1 w1 own1 grow1))
        have own2 := own_more (U := addL L k x) own1 (fun i hi => rfl) (by unfold addL; rw [if_neg (by omega), if_neg (by omega), Nat.add_sub_cancel])
        have b2 := below_more hbq ownq hwx grow1
        have HX4 := heap_more hbq ownq hwx grow1 HXq
        have hB4 := size_more hBq grow1
        replace own2 := Lib.hid own2
        clear own1 grow1 ownq
        go_roundw
        case rel => exact ⟨j + 1, by omega, by rw [Int.natCast_add]; rfl, by rw [decide_eq_true (by omega)], by rw [if_pos (by omega)]; exact own2, hB4, b2, HX4⟩
        case measure => simp [intOf]; omega
    · obtain rfl : j = n := by omega
      have e1 : decide ((j : Int) < j) = false := decide_eq_false (by omega)
      by_cases hkn : k < j
      · have q1 : decide (k < j) = true := decide_eq_true hkn
        rw [q1]
        rw [if_pos hkn] at own
        go_wp2
        go_ret2
        exact ⟨_, _, _, 0, rfl, Lib.hid (own_lower own.out (by omega)), HR, hb⟩
      · obtain rfl : k = j := by omega
        have q1 : decide (k < k) = false := decide_eq_false (by omega)
        rw [q1]
        rw [if_neg hkn] at own
        replace own := own.out
        have szx := (show x.cells.size = 12 from rfl)
        go_wp2_with (first | (refine load_ins rfl _ rfl _ _ rfl x (range_row HX3) ?_) | (at_builtin; refine Row.append_rows rfl _ _ 22 rfl B 36 io Inst.none_.val 12 72 (by omega) Try.underlying22 ho hz0 hz1 hz2 rfl _ (k) (insV (addL L k x)) (by rfl) (own.alloc _) (wr.heap.size + 1) (some ⟨wr.heap.size, 0, none⟩) 1 1 (insV fun _ => x) rfl (one_recs x wr _ (by kernel_rfl)) (fun a1 b1 _ hb1 => insV_one (fun _ => x) a1 b1 hb1) (fun e => by cases e) (by unfold maxLen; omega) (by omega) (by simp; omega) ?_; intro v1 w1 own1 grow1))
        have own2 := own_more (U := addL L k x) own1 (fun i hi => rfl) (by unfold addL; rw [if_neg (by omega), if_pos rfl])
        have b2 := below_more hb own hwx grow1
        go_ret2
        exact ⟨_, _, _, 0, rfl, Lib.hid (own_lower own2 (by omega)), HR, b2⟩
end Go.Proofs.Ytcgeoaegalloaaa.Cat
