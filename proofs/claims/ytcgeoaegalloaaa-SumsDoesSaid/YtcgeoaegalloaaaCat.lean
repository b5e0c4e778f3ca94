
/- Lists of instances laid one behind the other (slices.Concat, slices.Grow), and a copy of one (slices.Clone). -/
import Derived.Test.YtcgeoaegalloaaaFnd
import Derived.Lib.AppendZeros
import Derived.Deep.Cut
namespace Go.Proofs.Ytcgeoaegalloaaa.Cat
open Go.ChangeShapes Go.WideShapes Go.ChangeAt Go.RowKit
open Mem Arr Lst Rec Inst Grown Sums St0
/-- how many the first of them are together, and which -/
def catN (n : Nat → Nat) : Nat → Nat
  | 0 => 0
  | m + 1 => catN n m + n m
def catL (n : Nat → Nat) (L : Nat → Nat → Ins) : Nat → Nat → Ins
  | 0 => fun _ => Inst.none_
  | m + 1 => fun k => if k < catN n m then catL n L m k else L m (k - catN n m)
theorem catN_le {n : Nat → Nat} : ∀ {m k : Nat}, k ≤ m → catN n k ≤ catN n m := by
  intro m
  induction m with
  | zero => intro k h; obtain rfl : k = 0 := by omega
            exact Nat.le_refl _
  | succ m ih =>
    intro k h
    by_cases e : k = m + 1
    · subst e; exact Nat.le_refl _
    · exact Nat.le_trans (ih (by omega)) (Nat.le_add_right _ _)
set_option maxHeartbeats 1000000 in
theorem grow_any (N : Nat) (w : World) (hN : N ≤ 1000000) : Calls Try.prog 42 #[.slice none 0 0, .int .i64 N] w fun e w' => ∃ v, e = .returned v ∧ Hid (Row.Own w' w.heap.size 36 12 v 0 (insV fun _ => Inst.none_)) ∧ Below w.heap.size w w' := by
  have w0 : IntKind.i64.wrap (N : Int) = N := IntWalk.i64_in _ (by omega)
  have d0 : decide ((N : Int) < 0) = false := decide_eq_false (by omega)
  by_cases h : 0 < N
  · have d1 : decide ((0 : Int) < N) = true := decide_eq_true (by omega)
    obtain ⟨io, ho, hz0, hz1, hz2⟩ := info_parts infoInst
    have hr := Lib.run_append_nil_zeros (P := Try.prog) w 22 3 22 36 io Inst.none_.val .i64 .i64 Try.underlying22 Try.underlying3 ho hz0 N h (by rw [hz1]; omega) (by omega) (by rw [hz2]; omega)
    have hc := grownCap_ge w N 0 36
    have hm := grownCap_le_maxLen w N 0 36 (by unfold maxLen; omega)
    have hsz : (Builtin.zeroCells Inst.none_.val.cells N ++ Builtin.zeroCells Inst.none_.val.cells (grownCap w N 0 36 - N)).size = grownCap w N 0 36 * 12 := by
      rw [Array.size_append, size_zeroCells, size_zeroCells]
      show N * 12 + (_ - N) * 12 = _
      omega
    generalize grownCap w N 0 36 = cap at hr hc hm hsz
    generalize Builtin.zeroCells Inst.none_.val.cells N ++ Builtin.zeroCells Inst.none_.val.cells (cap - N) = cur at hr hsz
    have d2 : decide ((cap : Int) < 0) = false := decide_eq_false (by omega)
    go_enter Try.func42, Try.ntmps42
    go_wp2_with (at_builtin; (refine Lib.wpList_append_run w rfl _ _ 22 3 rfl _ _ rfl rfl _ _ hr ?_))
    go_ret
    refine ⟨_, rfl, Lib.hid ⟨by simp [Row.flat, vals], .inr ⟨w.heap.size, cap, cur, rfl, Nat.le_refl _, heap_alloc_new _ _, Nat.zero_le _, hm, hsz, by simp [Row.flat, vals]⟩⟩, bAlloc (bDrew (Below.refl _ _)) _⟩
  · obtain rfl : N = 0 := by omega
    go_enter Try.func42, Try.ntmps42
    go_wp2
    go_ret
    exact ⟨_, rfl, Lib.hid (Row.own_nil _ _ _ _ _), Below.refl _ _⟩
theorem catN_lt {n : Nat → Nat} {m k : Nat} (h : k < m) : catN n k + n k ≤ catN n m := catN_le (n := n) (k := k + 1) h
set_option maxHeartbeats 2000000 in
theorem concat_any (sb so m cap : Nat) (A : Nat → Option Addr) (n c : Nat → Nat) (L : Nat → Nat → Ins) (w : World) (hm : m ≤ 100) (hsb : sb < w.heap.size) (hs : ∀ i, i < m → w.cell? ⟨sb, so + i, none⟩ = some (.slice (A i) (n i) (c i)))
    (hL : ∀ i, i < m → Insts w w.heap.size (A i) (n i) (L i)) (hnil : ∀ i, i < m → A i = none → c i = 0) (hN : catN n m ≤ 100000) :
    Calls Try.prog 34 #[.slice (some ⟨sb, so, none⟩) m cap] w fun e w' => ∃ v, e = .returned v ∧ Hid (Row.Own w' w.heap.size 36 12 v (catN n m) (insV (catL n L m))) ∧ Below w.heap.size w w' := by
  obtain ⟨io, ho, hz0, hz1, hz2⟩ := info_parts infoInst
  have HS := Lib.hid hs
  have HL := Lib.hid hL
  have HN := Lib.hid hnil
  clear hs hL hnil
  have G := Lib.hid (fun W => grow_any (catN n m) W (by omega))
  go_enter Try.func34, Try.ntmps34
  go_wp2
  go_loopw [3, 11] (fun s i wr => ∃ k : Nat, k ≤ m ∧ s = .int .i64 (catN n k) ∧ i = .int .i64 k ∧ w = wr) (fun _ i _ => m - (intOf i).toNat)
  case atStart => exact ⟨0, by omega, rfl, rfl, rfl⟩
  case round =>
    obtain ⟨k, hk, rfl, rfl, rfl⟩ := hrel
    by_cases hlt : k < m
    · have c0 := HS.out k hlt
      have hc := catN_lt (n := n) hlt
      have d0 : decide ((k : Int) < 0) = false := decide_eq_false (by omega)
      have d1 : decide ((k : Int) < m) = true := decide_eq_true (by omega)
      have d2 : decide ((catN n k : Int) + (n k : Int) < 0) = false := decide_eq_false (by omega)
      have wr1 : IntKind.i64.wrap ((catN n k : Int) + (n k : Int)) = (catN n k : Int) + (n k : Int) := IntWalk.i64_in _ (by omega)
      have wr2 : IntKind.i64.wrap ((k : Int) + 1) = (k : Int) + 1 := IntWalk.i64_in _ (by omega)
      go_wp2
      go_roundw
      case rel => exact ⟨k + 1, by omega, by show Value.int IntKind.i64 _ = Value.int IntKind.i64 ((catN n k + n k : Nat) : Int); rw [Int.natCast_add], by rw [Int.natCast_add]; rfl, trivial⟩
      case measure => simp [intOf]; omega
    · obtain rfl : k = m := by omega
      have d1 : decide ((k : Int) < k) = false := decide_eq_false (by omega)
      go_wp2_with fail
      refine (G.out _).mono ?_
      rintro _ w1 ⟨v, rfl, own, hb⟩
      go_wp2
      go_loopw [6, 27] (fun v i wr => ∃ j : Nat, j ≤ k ∧ i = .int .i64 j ∧ Hid (Row.Own wr w.heap.size 36 12 v (catN n j) (insV (catL n L j))) ∧ Below w.heap.size w wr) (fun _ i _ => k - (intOf i).toNat)
      case atStart => exact ⟨0, by omega, rfl, own, hb⟩
      case round =>
        obtain ⟨j, hj, rfl, own, hb⟩ := hrel
        by_cases hlt : j < k
        · have hc := catN_lt (n := n) hlt
          have c0 := ((bcell hb).1 sb (so + j) hsb).trans (HS.out j hlt)
          have d0 : decide ((j : Int) < 0) = false := decide_eq_false (by omega)
          have d1 : decide ((j : Int) < k) = true := decide_eq_true (by omega)
          have wr2 : IntKind.i64.wrap ((j : Int) + 1) = (j : Int) + 1 := IntWalk.i64_in _ (by omega)
          have IA := Lib.hid ((HL.out j hlt).later hb)
          have IN := Lib.hid (HN.out j hlt)
          go_wp2_with (at_builtin; (refine Row.append_rows rfl _ _ 22 rfl w.heap.size 36 io Inst.none_.val 12 72 (by omega) Try.underlying22 ho hz0 hz1 hz2 rfl _ (catN n j) (insV (catL n L j)) (by rfl) own.out wr.heap.size (A j) (n j) (c j) (insV (L j)) rfl IA.out (fun i j' _ hj' => insV_one (L j) i j' hj') IN.out (by unfold maxLen; omega) (by omega) hb.size ?_; intro v1 w2 own2 grow2))
          have b2 := hb.grown grow2 hb.size fun q hq => (World.ownsRow.lt own.out q hq).1
          have own3 := own2.congr (U := insV (catL n L (j + 1))) (by omega) (fun a b ha hb' => by
            show (if a < catN n j then insV (catL n L j) a b else insV (L j) (a - catN n j) b) = insV (catL n L (j + 1)) a b
            unfold insV
            show _ = ((if a < catN n j then catL n L j a else L j (a - catN n j)).cells[b]?).getD undef
            split <;> rfl)
          replace own3 := Lib.hid own3
          clear own2 own grow2
          go_roundw
          case rel => exact ⟨j + 1, by omega, by rw [Int.natCast_add]; rfl, own3, b2⟩
          case measure => simp [intOf]; omega
        · obtain rfl : j = k := by omega
          have d1 : decide ((j : Int) < j) = false := decide_eq_false (by omega)
          go_wp2
          go_ret
          exact ⟨_, rfl, own, hb⟩
set_option maxHeartbeats 2000000 in
theorem clone_any (A : Option Addr) (n c : Nat) (L : Nat → Ins) (w : World) (h : Insts w w.heap.size A n L) (hnil : A = none → c = 0) (hn : n ≤ 100000) :
    Calls Try.prog 36 #[.slice A n c] w fun e w' => ∃ v, e = .returned v ∧ Hid (Row.Own w' w.heap.size 36 12 v n (insV L)) ∧ Below w.heap.size w w' := by
  obtain ⟨io, ho, hz0, hz1, hz2⟩ := info_parts infoInst
  rcases A with _ | ad
  · obtain rfl := hnil rfl
    obtain rfl := h.1 rfl
    clear h hnil
    have e1 := fun (W : World) => Lib.run_eql_slice_nil (P := Try.prog) W 22 36 none 0 0 0 0 Try.underlying22
    go_enter Try.func36, Try.ntmps36
    go_wp2
    go_ret
    exact ⟨_, rfl, Lib.hid (Row.own_nil _ _ _ _ _), Below.refl _ _⟩
  · have e1 := fun (W : World) => Lib.run_eql_slice_nil (P := Try.prog) W 22 36 (some ad) n c 0 0 Try.underlying22
    have h' : Insts (w.alloc (.cells #[] 36)) w.heap.size (some ad) n L := Recs.below h (bAlloc (Below.refl _ _) _)
    have HA := Lib.hid h'
    clear h h'
    go_enter Try.func36, Try.ntmps36
    go_wp2_with (at_builtin; refine Row.append_rows rfl _ _ 22 rfl w.heap.size 36 io Inst.none_.val 12 72 (by omega) Try.underlying22 ho hz0 hz1 hz2 rfl _ 0 (insV L) (by rfl) (Row.own_empty _ _ _ _ _ (Nat.le_refl _)) w.heap.size (some ad) n c (insV L) rfl HA.out (fun i j _ hj => insV_one L i j hj) (fun e => by cases e) (by unfold maxLen; omega) (by omega) (by simp) ?_; intro v' w' hown hgrow)
    go_ret
    refine ⟨_, rfl, Lib.hid ?_, ?_⟩
    · have := hown
      rw [Nat.zero_add] at this
      exact this.congr (by omega) (fun i j _ _ => by simp)
    · exact Row.below_grown (E := 36) (sz := 12) (V := insV L) (bAlloc (Below.refl _ _) _) (Row.own_empty _ _ _ _ _ (Nat.le_refl _)) hgrow
end Go.Proofs.Ytcgeoaegalloaaa.Cat
