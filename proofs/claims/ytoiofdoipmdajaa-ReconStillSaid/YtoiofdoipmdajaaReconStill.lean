
/- What is known, told, and as it should be, comes to nothing: the law returns true. -/
import Derived.Test.YtoiofdoipmdajaaRcL
import Derived.Test.YtoiofdoipmdajaaRcG
import Derived.Test.YtoiofdoipmdajaaArgT
import Derived.Deep.Cut
namespace Go.Proofs.Ytoiofdoipmdajaa.reconStill
open Go.RowKit
open Go.ChangeShapes Go.WideShapes Go.ChangeAt
open Mem Arr Lst Rec Inst Grown Sums Fnd Opens St0 Tld Evs Push Knw RcE RcF RcG RcH RcL ArgT ArgI
set_option linter.unusedVariables false
set_option linter.unusedSimpArgs false
def stT (s : Int) : Int := if s = 1 ∨ s = 9 ∨ s = 7 then 1 else if s = 8 then 3 else 2
def tellT (L : Nat → Ins) (k : Nat) : Td := ⟨(L k).id, 1, stT (L k).st⟩
theorem still_may {L : Nat → Ins} {n : Nat} (h : mayB L n = true) : mayT (tellT L) n = true := decide_eq_true fun k hk => by
  have y := ok_yes (may_ok h hk)
  refine decide_eq_true ⟨y.1, y.2.1, by show (1 : Int) ≤ 1; omega, by show (1 : Int) ≤ _; omega, ?_, ?_, ?_⟩
  · show 1 ≤ stT _; unfold stT; split
    · omega
    · split <;> omega
  · show stT _ ≤ 3; unfold stT; split
    · omega
    · split <;> omega
  · by_cases e : k = 0
    · exact .inl e
    · exact .inr (may_less h k (k - 1) (by omega) hk)
theorem still_ev {L : Nat → Ins} {n : Nat} (h : mayB L n = true) : evA (tellT L) L n n = [] := by
  rw [ev_same (still_may h) h]
  unfold refEv
  have e1 : ∀ k, k < n → refC (tellT L) L n k = [] := fun k hk => by
    unfold refC
    obtain ⟨f1, f2⟩ := fnd_yes (id := (tellT L k).id) h hk rfl
    rw [f1, f2]
    show knownE (tellT L k) (L k) = []
    unfold knownE
    rw [(kn_no (x := tellT L k) (y := L k) (by
      show ¬ (stT _ = 2 ∧ _ ∨ stT _ = 3 ∧ _)
      unfold stT
      split
      · omega
      · split <;> omega)).2]
    rfl
  have e2 : ∀ k, k < n → refG (tellT L) L n k = [] := fun k hk => by
    unfold refG
    rw [if_pos ((anyT_iff (T := tellT L) (id := (L k).id) n).2 ⟨k, hk, rfl⟩)]
  rw [List.flatMap_eq_nil_iff.2 (fun k hk => e1 k (List.mem_range.1 hk)), List.flatMap_eq_nil_iff.2 (fun k hk => e2 k (List.mem_range.1 hk))]
  rfl
theorem one_recs (x : Td) (W : World) (cs : Array Value) (hcs : cs = x.cells) : Recs (W.alloc (.cells cs 47 (0, 0))) (W.heap.size + 1) (some ⟨W.heap.size, 0, none⟩) 1 3 (tdV fun _ => x) := by
  subst hcs
  refine ⟨fun e => (by cases e), fun _ => ⟨W.heap.size, 0, rfl, by omega, fun i j hi hj => ?_⟩⟩
  obtain rfl : i = 0 := by omega
  rw [cell_of_row _ _ _ _ _ _ (heap_alloc_new W _), Nat.zero_mul, Nat.zero_add, Nat.zero_add]
  show x.cells[j]? = some ((x.cells[j]?).getD undef)
  rw [Array.getElem?_eq_getElem (show j < x.cells.size from hj)]
  rfl
theorem buildTd (x : Td) (W : World) : (Instr.buildSlice 22 1 #[(0, x.val)]).run Try.prog W = .ok (.slice (some ⟨W.heap.size, 0, none⟩) 1 1) (W.alloc (.cells x.cells 47 (0, 0))) := by kernel_rfl
def OwnT (w : World) (base : Nat) (v : Value) (n : Nat) (T : Nat → Td) : Prop := Row.Own w base 47 3 v n (tdV T)
theorem own_next {w : World} {base : Nat} {v : Value} {n : Nat} {T : Nat → Td} (h : Row.Own w base 47 3 v (n + 1) (fun i j => if i < n then tdV T i j else tdV (fun _ => T n) (i - n) j)) : OwnT w base v (n + 1) T :=
  h.congr (by omega) fun i j hi _ => by
    unfold tdV
    by_cases e : i < n
    · rw [if_pos e]
    · rw [if_neg e, show i = n by omega]
theorem own_kept {w w' : World} {base : Nat} {v : Value} {n : Nat} {T : Nat → Td} (h : OwnT w base v n T) (he : ∀ k, k < w.heap.size → w'.heap[k]? = w.heap[k]?) : OwnT w' base v n T := by
  refine ⟨h.1, ?_⟩
  rcases h.2 with h' | ⟨g1, cap, cur, h', hbg, hg1, r⟩
  · exact .inl h'
  · exact .inr ⟨g1, cap, cur, h', hbg, (he g1 (Array.getElem?_eq_some_iff.1 hg1).1).trans hg1, r⟩
/-- a block that was just laid, one cell of it changed -/
theorem set_new (W : World) (x : Td) (s : Int) : ((W.alloc (.cells x.cells 47)).setCell ⟨W.heap.size, 2, none⟩ (.int .u8 s)).rangeAt W.heap.size 0 (Td.cells ⟨x.id, x.tok, s⟩).toList ∧ Below W.heap.size W ((W.alloc (.cells x.cells 47)).setCell ⟨W.heap.size, 2, none⟩ (.int .u8 s)) := by
  have h := heap_alloc_new W (.cells x.cells 47)
  refine ⟨range_row (t := 47) (fr := (0, 0)) ?_, bSet (bAlloc (Below.refl _ _) _) (Nat.le_refl _) _⟩
  rw [setCell_row h]; exact (row_at h).trans rfl
theorem refMay_is (A : Option Addr) (n c : Nat) (L : Nat → Ins) (v : Bool) (hv : mayB L n = v) (w : World) (h : Insts w w.heap.size A n L) (hn : n ≤ 9223372036854775807) :
    Calls Try.prog 12 #[.slice A n c] w fun e w' => e = .returned (.bool v) ∧ Below w.heap.size w w' := RcF.refMayL_is A n c L v hv w h hn
set_option maxHeartbeats 8000000 in
set_option maxRecDepth 100000 in
theorem walk (A : Option Addr) (n c : Nat) (L : Nat → Ins) (w : World) (b0 : Insts w w.heap.size A n L ∧ (∀ i, i < n → InsOk (L i)) ∧ (A = none → c = 0) ∧ n ≤ c ∧ c ≤ maxLen) :
    Calls Try.prog 5 #[.slice A n c] w fun e w' => e = .returned (.bool true) ∧ Below w.heap.size w w' := by
  have HL := Lib.hid (fun p : Grown w => (show Insts p.w1 p.w1.heap.size A n L from b0.1.later p.below))
  have hL0 := Lib.hid b0.1
  have hn : n ≤ 9223372036854775807 := by have h1 := b0.2.2.2.1; have h2 := b0.2.2.2.2; unfold maxLen at h2; omega
  clear b0
  by_cases g0 : 300 < n
  · have d0 : decide ((300 : Int) < (n : Int)) = true := decide_eq_true (by omega)
    go_enter Try.func5, Try.ntmps5
    go_wp2_with fail
    refine (lives_any _).mono ?_
    rintro _ u ⟨rfl, b⟩
    go_wp2
    go_ret
    exact ⟨rfl, b⟩
  · have d0 : decide ((300 : Int) < (n : Int)) = false := decide_eq_false (by omega)
    obtain ⟨mb, hmb⟩ : ∃ v, mayB L n = v := ⟨_, rfl⟩
    have M := Lib.hid (refMay_is A n c L mb hmb w hL0.out hn)
    rcases mb with _ | _
    · clear hmb
      go_enter Try.func5, Try.ntmps5
      go_wp2_with fail
      refine M.out.mono ?_
      rintro _ u0 ⟨rfl, b0⟩
      go_wp2_with fail
      refine (lives_any _).mono ?_
      rintro _ u ⟨rfl, b⟩
      go_wp2
      go_ret
      exact ⟨rfl, bTrans b0 b⟩
    · obtain ⟨io, ho, hz0, hz1, hz2⟩ := info_parts infoTd
      have SM := Lib.hid (still_may hmb)
      have SE := Lib.hid (still_ev hmb)
      have SB := Lib.hid hmb
      clear hmb
      go_enter Try.func5, Try.ntmps5
      go_wp2_with fail
      refine M.out.mono ?_
      rintro _ u0 ⟨rfl, b0⟩
      clear M
      go_wp2_with fail
      go_loopw [3, 4] (fun q i wr => ∃ (k : Nat) (v : Value), k ≤ n ∧ i = .int .i64 k ∧ q = v ∧ Hid (OwnT wr w.heap.size v k (tellT L)) ∧ Below w.heap.size w wr) (fun _ i _ => n - (intOf i).toNat)
      case atStart => exact ⟨0, _, by omega, rfl, rfl, Lib.hid (Row.own_nil _ _ _ _ _), b0⟩
      clear b0
      case round =>
        obtain ⟨k, v, hk, rfl, rfl, ow, hb⟩ := hrel
        by_cases hlt : k < n
        · have e1 : decide ((k : Int) < n) = true := decide_eq_true (by omega)
          have e0 : decide ((k : Int) < 0) = false := decide_eq_false (by omega)
          have wr2 : IntKind.i64.wrap ((k : Int) + 1) = (k : Int) + 1 := IntWalk.i64_in _ (by omega)
          obtain ⟨b, off, rfl⟩ := insts_at hL0.out (by omega)
          obtain ⟨hbl, R, c0⟩ := ins_cells hL0.out hb rfl hlt
          have c5 := R 5 _ (by simpa using (L k).f5)
          have KT : ∀ a x s W, (Instr.build 47 #[(0, .int .u64 a), (1, .int .u64 x), (2, .int .u8 s)]).run Try.prog W = .ok (Td.val ⟨a, x, s⟩) W := fun a x s W => by kernel_rfl
          have b9 := bAlloc (Below.refl _ wr) (.cells (Td.cells ⟨(L k).id, 1, 2⟩) 47)
          have c59 := ((bcell b9).1 _ _ hbl).trans c5
          have NR := Lib.hid (range_row (heap_alloc_new wr (.cells (Td.cells ⟨(L k).id, 1, 2⟩) 47)))
          by_cases a1 : (L k).st = 1
          · skip
            have t1 : ((L k).st == 1) = true := by simp; omega
            have t9 : ((L k).st == 9) = false := by simp; omega
            have t8 : ((L k).st == 8) = false := by simp; omega
            have t7 : ((L k).st == 7) = false := by simp; omega
            have BX := bAlloc (Below.refl _ wr) (.cells ((Td.cells ⟨(L k).id, 1, 2⟩).setIfInBounds 2 (.int .u8 1)) 47)
            have RN : (wr.alloc (.cells ((Td.cells ⟨(L k).id, 1, 2⟩).setIfInBounds 2 (.int .u8 1)) 47)).rangeAt wr.heap.size 0 (Td.cells ⟨(L k).id, 1, 1⟩).toList := range_row (heap_alloc_new wr _)
            have c5s := ((bcell BX).1 _ _ hbl).trans c5
            have HX : Hid (tellT L k = ⟨(L k).id, 1, 1⟩) := Lib.hid (by unfold tellT stT; first | rw [if_pos (by omega)] | rw [if_neg (by omega), if_pos (by omega)] | rw [if_neg (by omega), if_neg (by omega)])
            have KS := fun W => buildTd ⟨(L k).id, 1, 1⟩ W
            have SZ : (Td.cells ⟨(L k).id, 1, 1⟩).size = 3 := rfl
            have OWX := Lib.hid (own_kept ow.out (fun q hq => BX.block q hq))
            have BW := hb.trans (BX.mono hb.size)
            replace RN := Lib.hid RN
            replace BX := Lib.hid BX
            clear ow NR b9
            obtain ⟨Wc, hWc⟩ : ∃ Wc, wr.alloc (.cells ((Td.cells ⟨(L k).id, 1, 2⟩).setIfInBounds 2 (.int .u8 1)) 47) = Wc := ⟨_, rfl⟩
            rw [hWc] at RN OWX BW
            replace hWc := Lib.hid hWc
            go_upto_region 14 with ((with_reducible refine Fnd.at_store 47 ?_); (refine store_td rfl _ _ rfl ⟨(L k).id, 1, 2⟩ _ _ rfl rfl rfl ?_))
            rw [hWc.out]
            clear hWc BX
            go_wp2_with (first | ((with_reducible refine Fnd.at_load 47 ?_); (refine load_td rfl _ rfl _ _ rfl ⟨(L k).id, 1, 1⟩ RN.out ?_)) | (at_builtin; refine Row.append_rows rfl _ _ 22 rfl w.heap.size 47 io noTd.val 3 24 (by omega) Try.underlying22 ho hz0 hz1 hz2 rfl _ k (tdV (tellT L)) (by rfl) (Row.Own.alloc OWX.out _) _ (some ⟨Wc.heap.size, 0, none⟩) 1 1 (tdV fun _ => ⟨(L k).id, 1, 1⟩) (by rfl) (one_recs ⟨(L k).id, 1, 1⟩ Wc _ (by kernel_rfl)) (fun i j _ hj => tdV_one _ i j hj) (fun e => by cases e) (by unfold maxLen; omega) (by omega) (Nat.le_trans BW.size (bAlloc (Below.refl _ Wc) _).size) ?_; intro v1 w5 own1 grow1))
            have hq := own_lt OWX.out
            have own2 : OwnT w5 w.heap.size v1 (k + 1) (tellT L) := own_next (by rw [HX.out]; exact own1)
            have B5 := (bAlloc BW _).trans (below_own grow1 (bAlloc BW _).size (fun q e => (hq q e).1))
            go_roundw
            case rel => exact ⟨k + 1, v1, by omega, by go_num, rfl, Lib.hid own2, B5⟩
            case measure => simp [intOf]; omega
          · by_cases a9 : (L k).st = 9
            · skip
              have t1 : ((L k).st == 1) = false := by simp; omega
              have t9 : ((L k).st == 9) = true := by simp; omega
              have t8 : ((L k).st == 8) = false := by simp; omega
              have t7 : ((L k).st == 7) = false := by simp; omega
              have BX := bAlloc (Below.refl _ wr) (.cells ((Td.cells ⟨(L k).id, 1, 2⟩).setIfInBounds 2 (.int .u8 1)) 47)
              have RN : (wr.alloc (.cells ((Td.cells ⟨(L k).id, 1, 2⟩).setIfInBounds 2 (.int .u8 1)) 47)).rangeAt wr.heap.size 0 (Td.cells ⟨(L k).id, 1, 1⟩).toList := range_row (heap_alloc_new wr _)
              have c5s := ((bcell BX).1 _ _ hbl).trans c5
              have HX : Hid (tellT L k = ⟨(L k).id, 1, 1⟩) := Lib.hid (by unfold tellT stT; first | rw [if_pos (by omega)] | rw [if_neg (by omega), if_pos (by omega)] | rw [if_neg (by omega), if_neg (by omega)])
              have KS := fun W => buildTd ⟨(L k).id, 1, 1⟩ W
              have SZ : (Td.cells ⟨(L k).id, 1, 1⟩).size = 3 := rfl
              have OWX := Lib.hid (own_kept ow.out (fun q hq => BX.block q hq))
              have BW := hb.trans (BX.mono hb.size)
              replace RN := Lib.hid RN
              replace BX := Lib.hid BX
              clear ow NR b9
              obtain ⟨Wc, hWc⟩ : ∃ Wc, wr.alloc (.cells ((Td.cells ⟨(L k).id, 1, 2⟩).setIfInBounds 2 (.int .u8 1)) 47) = Wc := ⟨_, rfl⟩
              rw [hWc] at RN OWX BW
              replace hWc := Lib.hid hWc
              go_upto_region 14 with ((with_reducible refine Fnd.at_store 47 ?_); (refine store_td rfl _ _ rfl ⟨(L k).id, 1, 2⟩ _ _ rfl rfl rfl ?_))
              rw [hWc.out]
              clear hWc BX
              go_wp2_with (first | ((with_reducible refine Fnd.at_load 47 ?_); (refine load_td rfl _ rfl _ _ rfl ⟨(L k).id, 1, 1⟩ RN.out ?_)) | (at_builtin; refine Row.append_rows rfl _ _ 22 rfl w.heap.size 47 io noTd.val 3 24 (by omega) Try.underlying22 ho hz0 hz1 hz2 rfl _ k (tdV (tellT L)) (by rfl) (Row.Own.alloc OWX.out _) _ (some ⟨Wc.heap.size, 0, none⟩) 1 1 (tdV fun _ => ⟨(L k).id, 1, 1⟩) (by rfl) (one_recs ⟨(L k).id, 1, 1⟩ Wc _ (by kernel_rfl)) (fun i j _ hj => tdV_one _ i j hj) (fun e => by cases e) (by unfold maxLen; omega) (by omega) (Nat.le_trans BW.size (bAlloc (Below.refl _ Wc) _).size) ?_; intro v1 w5 own1 grow1))
              have hq := own_lt OWX.out
              have own2 : OwnT w5 w.heap.size v1 (k + 1) (tellT L) := own_next (by rw [HX.out]; exact own1)
              have B5 := (bAlloc BW _).trans (below_own grow1 (bAlloc BW _).size (fun q e => (hq q e).1))
              go_roundw
              case rel => exact ⟨k + 1, v1, by omega, by go_num, rfl, Lib.hid own2, B5⟩
              case measure => simp [intOf]; omega
            · by_cases a8 : (L k).st = 8
              · skip
                have t1 : ((L k).st == 1) = false := by simp; omega
                have t9 : ((L k).st == 9) = false := by simp; omega
                have t8 : ((L k).st == 8) = true := by simp; omega
                have t7 : ((L k).st == 7) = false := by simp; omega
                have BX := bAlloc (Below.refl _ wr) (.cells ((Td.cells ⟨(L k).id, 1, 2⟩).setIfInBounds 2 (.int .u8 3)) 47)
                have RN : (wr.alloc (.cells ((Td.cells ⟨(L k).id, 1, 2⟩).setIfInBounds 2 (.int .u8 3)) 47)).rangeAt wr.heap.size 0 (Td.cells ⟨(L k).id, 1, 3⟩).toList := range_row (heap_alloc_new wr _)
                have c5s := ((bcell BX).1 _ _ hbl).trans c5
                have HX : Hid (tellT L k = ⟨(L k).id, 1, 3⟩) := Lib.hid (by unfold tellT stT; first | rw [if_pos (by omega)] | rw [if_neg (by omega), if_pos (by omega)] | rw [if_neg (by omega), if_neg (by omega)])
                have KS := fun W => buildTd ⟨(L k).id, 1, 3⟩ W
                have SZ : (Td.cells ⟨(L k).id, 1, 3⟩).size = 3 := rfl
                have OWX := Lib.hid (own_kept ow.out (fun q hq => BX.block q hq))
                have BW := hb.trans (BX.mono hb.size)
                replace RN := Lib.hid RN
                replace BX := Lib.hid BX
                clear ow NR b9
                obtain ⟨Wc, hWc⟩ : ∃ Wc, wr.alloc (.cells ((Td.cells ⟨(L k).id, 1, 2⟩).setIfInBounds 2 (.int .u8 3)) 47) = Wc := ⟨_, rfl⟩
                rw [hWc] at RN OWX BW
                replace hWc := Lib.hid hWc
                go_upto_region 14 with ((with_reducible refine Fnd.at_store 47 ?_); (refine store_td rfl _ _ rfl ⟨(L k).id, 1, 2⟩ _ _ rfl rfl rfl ?_))
                rw [hWc.out]
                clear hWc BX
                go_wp2_with (first | ((with_reducible refine Fnd.at_load 47 ?_); (refine load_td rfl _ rfl _ _ rfl ⟨(L k).id, 1, 3⟩ RN.out ?_)) | (at_builtin; refine Row.append_rows rfl _ _ 22 rfl w.heap.size 47 io noTd.val 3 24 (by omega) Try.underlying22 ho hz0 hz1 hz2 rfl _ k (tdV (tellT L)) (by rfl) (Row.Own.alloc OWX.out _) _ (some ⟨Wc.heap.size, 0, none⟩) 1 1 (tdV fun _ => ⟨(L k).id, 1, 3⟩) (by rfl) (one_recs ⟨(L k).id, 1, 3⟩ Wc _ (by kernel_rfl)) (fun i j _ hj => tdV_one _ i j hj) (fun e => by cases e) (by unfold maxLen; omega) (by omega) (Nat.le_trans BW.size (bAlloc (Below.refl _ Wc) _).size) ?_; intro v1 w5 own1 grow1))
                have hq := own_lt OWX.out
                have own2 : OwnT w5 w.heap.size v1 (k + 1) (tellT L) := own_next (by rw [HX.out]; exact own1)
                have B5 := (bAlloc BW _).trans (below_own grow1 (bAlloc BW _).size (fun q e => (hq q e).1))
                go_roundw
                case rel => exact ⟨k + 1, v1, by omega, by go_num, rfl, Lib.hid own2, B5⟩
                case measure => simp [intOf]; omega
              · by_cases a7 : (L k).st = 7
                · skip
                  have t1 : ((L k).st == 1) = false := by simp; omega
                  have t9 : ((L k).st == 9) = false := by simp; omega
                  have t8 : ((L k).st == 8) = false := by simp; omega
                  have t7 : ((L k).st == 7) = true := by simp; omega
                  have BX := bAlloc (Below.refl _ wr) (.cells ((Td.cells ⟨(L k).id, 1, 2⟩).setIfInBounds 2 (.int .u8 1)) 47)
                  have RN : (wr.alloc (.cells ((Td.cells ⟨(L k).id, 1, 2⟩).setIfInBounds 2 (.int .u8 1)) 47)).rangeAt wr.heap.size 0 (Td.cells ⟨(L k).id, 1, 1⟩).toList := range_row (heap_alloc_new wr _)
                  have c5s := ((bcell BX).1 _ _ hbl).trans c5
                  have HX : Hid (tellT L k = ⟨(L k).id, 1, 1⟩) := Lib.hid (by unfold tellT stT; first | rw [if_pos (by omega)] | rw [if_neg (by omega), if_pos (by omega)] | rw [if_neg (by omega), if_neg (by omega)])
                  have KS := fun W => buildTd ⟨(L k).id, 1, 1⟩ W
                  have SZ : (Td.cells ⟨(L k).id, 1, 1⟩).size = 3 := rfl
                  have OWX := Lib.hid (own_kept ow.out (fun q hq => BX.block q hq))
                  have BW := hb.trans (BX.mono hb.size)
                  replace RN := Lib.hid RN
                  replace BX := Lib.hid BX
                  clear ow NR b9
                  obtain ⟨Wc, hWc⟩ : ∃ Wc, wr.alloc (.cells ((Td.cells ⟨(L k).id, 1, 2⟩).setIfInBounds 2 (.int .u8 1)) 47) = Wc := ⟨_, rfl⟩
                  rw [hWc] at RN OWX BW
                  replace hWc := Lib.hid hWc
                  go_upto_region 14 with ((with_reducible refine Fnd.at_store 47 ?_); (refine store_td rfl _ _ rfl ⟨(L k).id, 1, 2⟩ _ _ rfl rfl rfl ?_))
                  rw [hWc.out]
                  clear hWc BX
                  go_wp2_with (first | ((with_reducible refine Fnd.at_load 47 ?_); (refine load_td rfl _ rfl _ _ rfl ⟨(L k).id, 1, 1⟩ RN.out ?_)) | (at_builtin; refine Row.append_rows rfl _ _ 22 rfl w.heap.size 47 io noTd.val 3 24 (by omega) Try.underlying22 ho hz0 hz1 hz2 rfl _ k (tdV (tellT L)) (by rfl) (Row.Own.alloc OWX.out _) _ (some ⟨Wc.heap.size, 0, none⟩) 1 1 (tdV fun _ => ⟨(L k).id, 1, 1⟩) (by rfl) (one_recs ⟨(L k).id, 1, 1⟩ Wc _ (by kernel_rfl)) (fun i j _ hj => tdV_one _ i j hj) (fun e => by cases e) (by unfold maxLen; omega) (by omega) (Nat.le_trans BW.size (bAlloc (Below.refl _ Wc) _).size) ?_; intro v1 w5 own1 grow1))
                  have hq := own_lt OWX.out
                  have own2 : OwnT w5 w.heap.size v1 (k + 1) (tellT L) := own_next (by rw [HX.out]; exact own1)
                  have B5 := (bAlloc BW _).trans (below_own grow1 (bAlloc BW _).size (fun q e => (hq q e).1))
                  go_roundw
                  case rel => exact ⟨k + 1, v1, by omega, by go_num, rfl, Lib.hid own2, B5⟩
                  case measure => simp [intOf]; omega
                · skip
                  have t1 : ((L k).st == 1) = false := by simp; omega
                  have t9 : ((L k).st == 9) = false := by simp; omega
                  have t8 : ((L k).st == 8) = false := by simp; omega
                  have t7 : ((L k).st == 7) = false := by simp; omega
                  have BX := b9
                  have RN := NR.out
                  have HX : Hid (tellT L k = ⟨(L k).id, 1, 2⟩) := Lib.hid (by unfold tellT stT; first | rw [if_pos (by omega)] | rw [if_neg (by omega), if_pos (by omega)] | rw [if_neg (by omega), if_neg (by omega)])
                  have KS := fun W => buildTd ⟨(L k).id, 1, 2⟩ W
                  have SZ : (Td.cells ⟨(L k).id, 1, 2⟩).size = 3 := rfl
                  have OWX := Lib.hid (own_kept ow.out (fun q hq => BX.block q hq))
                  have BW := hb.trans (BX.mono hb.size)
                  replace RN := Lib.hid RN
                  replace BX := Lib.hid BX
                  clear ow NR b9
                  obtain ⟨Wc, hWc⟩ : ∃ Wc, wr.alloc (.cells (Td.cells ⟨(L k).id, 1, 2⟩) 47) = Wc := ⟨_, rfl⟩
                  rw [hWc] at RN OWX BW
                  replace hWc := Lib.hid hWc
                  go_upto_region 14 with ((with_reducible refine Fnd.at_store 47 ?_); (refine store_td rfl _ _ rfl ⟨(L k).id, 1, 2⟩ _ _ rfl rfl rfl ?_))
                  rw [hWc.out]
                  clear hWc BX
                  go_wp2_with (first | ((with_reducible refine Fnd.at_load 47 ?_); (refine load_td rfl _ rfl _ _ rfl ⟨(L k).id, 1, 2⟩ RN.out ?_)) | (at_builtin; refine Row.append_rows rfl _ _ 22 rfl w.heap.size 47 io noTd.val 3 24 (by omega) Try.underlying22 ho hz0 hz1 hz2 rfl _ k (tdV (tellT L)) (by rfl) (Row.Own.alloc OWX.out _) _ (some ⟨Wc.heap.size, 0, none⟩) 1 1 (tdV fun _ => ⟨(L k).id, 1, 2⟩) (by rfl) (one_recs ⟨(L k).id, 1, 2⟩ Wc _ (by kernel_rfl)) (fun i j _ hj => tdV_one _ i j hj) (fun e => by cases e) (by unfold maxLen; omega) (by omega) (Nat.le_trans BW.size (bAlloc (Below.refl _ Wc) _).size) ?_; intro v1 w5 own1 grow1))
                  have hq := own_lt OWX.out
                  have own2 : OwnT w5 w.heap.size v1 (k + 1) (tellT L) := own_next (by rw [HX.out]; exact own1)
                  have B5 := (bAlloc BW _).trans (below_own grow1 (bAlloc BW _).size (fun q e => (hq q e).1))
                  go_roundw
                  case rel => exact ⟨k + 1, v1, by omega, by go_num, rfl, Lib.hid own2, B5⟩
                  case measure => simp [intOf]; omega
        · have e1 : decide ((k : Int) < n) = false := decide_eq_false (by omega)
          obtain rfl : k = n := by omega
          obtain ⟨A1, c1, rfl, _⟩ := Row.Own.shape ow.out
          have RT := Row.Own.recs ow.out
          have EV := Lib.hid (events_is A1 k c1 (tellT L) A k c L [] wr RT (HL.out ⟨wr, hb⟩) (by omega) (by omega) SM.out SB.out SE.out)
          go_wp2_with fail
          refine EV.out.mono ?_
          rintro _ u1 ⟨⟨Aa, ca, rfl, oa⟩, b1⟩
          go_wp2_with fail
          refine (lives_any _).mono ?_
          rintro _ u2 ⟨rfl, b2⟩
          go_wp2
          go_ret
          exact ⟨rfl, hb.trans ((bTrans b1 b2).mono hb.size)⟩

/-! The row's step, by the frame. -/
theorem own : ownKnob Try.prog.godebug = none := by kernel_rfl
theorem laidOut : laidOutB Try.prog = true := by kernel_rfl
set_option maxRecDepth 100000 in
theorem lifted (os : Os) (started : os.Started) (H : Type) (enc : TypeId × Value → H) :
    ReturnsInHanded {} Try.checked os 5 .any (Rows.reconStillSpec.pre6 enc Try.prog Try.f5 Rows.reconStillRow.domain false) (Rows.reconStillSpec.post enc Try.prog Try.f5 false true false false) := by
  refine returnsInHanded_of_change_sized (C := Try.checked) own started (by kernel_rfl) Try.func5
    (ChangeSpec.witness6 (enc := enc) (C := Try.checked) false ⟨#[], #[.slice none 0 0], []⟩ 8 (by kernel_rfl) (by kernel_rfl) (by kernel_rfl) (by kernel_rfl)) ?_
  intro W base args ds gs before hval0 hW _ hsz0 _
  have hsz : (DataW.weightsEach Try.prog (Try.f5.params.toList ++ Rows.reconStillSpec.plain.varTypes Try.prog) (ds ++ gs)).all (· ≤ reachBytes) = true := hsz0
  have hval : ∀ (j : Nat) t v, Try.f5.params[j]? = some t → args[j]? = some v → Value.okWide Try.prog W .any base t v := hval0
  have hW' := hW
  obtain ⟨p, q, hA0, hV, rfl, hfz, hnd⟩ := hW
  have hA : DataW.TrodAll enc Try.prog W 0 (fun _ => true) true Try.f5.params.toList args.toList ds p := hA0
  rw [Try.params5] at hA hval hsz
  obtain ⟨v0, vs0, d0, ds0, p0, q0, hargs, rfl, rfl, h0, r0⟩ := trodAll_cons hA
  obtain ⟨rfl, rfl, rfl⟩ := trodAll_nil r0
  obtain rfl : args = #[v0] := by cases args; simp_all
  obtain ⟨rfl, rfl⟩ := trodVars_none hV
  obtain ⟨A0, n0, c0, rfl⟩ := okWide_slice Try.underlying23 (hval 0 23 v0 rfl rfl)
  have k0 := h0
  have lt0 : ∀ x ∈ p0, x.block < W.heap.size := by obtain ⟨m, hm⟩ := k0; exact DataW.trod_lt m _ _ _ hm
  obtain ⟨L0, b0⟩ := insts_arg h0
  clear hA0 hval0 hsz0
  refine (walk A0 n0 c0 L0 W b0).mono fun e W' ⟨he, bel⟩ => ?_
  subst he
  exact ⟨_, rfl, _, _, _, [], _, [], hW', trodAll_mk1 (shut_bool Try.underlying4 _), (trodAll_cons_mk (Below.trod laidOut (by kernel_rfl) (of_decide_eq_true (by kernel_rfl)) k0 bel lt0) trodAll_mk0), rfl, bel.frame _, fun h => by cases h⟩

/-- The statement. -/
theorem proved : Rows.ReconStillSaid :=
  OpenClaim.holds_of_wide 5 Try.f5 rfl rfl rfl rfl rfl rfl rfl ⟨rfl, rfl, rfl, rfl, rfl⟩ rfl rfl rfl rfl rfl (by kernel_rfl) Try.func5 (by kernel_rfl)
    (of_decide_eq_true (by kernel_rfl)) (by unfold Func.isWrapper; first | (rw [if_pos (by decide +kernel)]; kernel_rfl) | (rw [if_neg (by decide +kernel)]; exact ⟨rfl, rfl⟩))
    (fun os started H enc _ => lifted os started H enc)
end Go.Proofs.Ytoiofdoipmdajaa.reconStill
