
/- The document's open launches (cohortref17.launches). -/
import Derived.Test.YtcgeoaegalloaaaSumV
namespace Go.Proofs.Ytcgeoaegalloaaa.Thg
open Go.ChangeShapes Go.WideShapes Go.ChangeAt Go.RowKit
open Mem Arr Lst Rec Inst Grown Sums Opens St0
theorem infoOpn : (Try.prog.info? 49).map (fun i => (i.zero, i.size, i.bytes)) = some (some Opens.none_.val, 9, 64) := by kernel_rfl
def lauF (O : Nat → Opn) (k : Nat) (i : Nat) : Opn := ((lau O k)[i]?).getD Opens.none_
theorem lauF_on {O : Nat → Opn} {k : Nat} (E : lau O (k + 1) = lau O k ++ [O k]) (i j : Nat) (hi : i < (lau O k).length + 1) : (if i < (lau O k).length then opnV (lauF O k) i j else ((O k).cells[j]?).getD undef) = opnV (lauF O (k + 1)) i j := by
  unfold opnV lauF
  rw [E]
  by_cases h : i < (lau O k).length
  · rw [if_pos h, List.getElem?_append_left h]
  · obtain rfl : i = (lau O k).length := by omega
    rw [if_neg h, List.getElem?_append_right (Nat.le_refl _)]
    simp
theorem opnV_one (O : Nat → Opn) (i j : Nat) (hj : j < 9) : (opnV O i j).oneCell' = true := by
  unfold opnV
  have h : j < (O i).cells.size := hj
  rw [Array.getElem?_eq_getElem h]
  exact (Array.all_eq_true_iff_forall_mem.1 (O i).one) _ (Array.getElem_mem h)
theorem at_load' (T : TypeId) {P : Program} {ops : Array Oper} {rest : List Oper} {a : Act} {w : World} {Q : Exit → Act → World → Prop} {x : Operand} {dst : Option Tmp} {ty : TypeId} {pos : String} {after : Array Edge}
    (h : wpList P ops Q ({ dst, op := .load T x, type := ty, pos, after, guard := none } :: rest) a w) : wpList P ops Q ({ dst, op := .load T x, type := ty, pos, after, guard := none } :: rest) a w := h
set_option maxHeartbeats 4000000 in
set_option maxRecDepth 100000 in
theorem launches_any (C : Option Addr) (m d : Nat) (O : Nat → Opn) (w : World) (hO : Opns w w.heap.size C m O) (hmax : m ≤ 9223372036854775807) :
    Calls Try.prog 29 #[.slice C m d] w fun e w' => (∃ A c, e = .returned (.slice A (lau O m).length c) ∧ Hid (Row.Own w' w.heap.size 49 9 (.slice A (lau O m).length c) (lau O m).length (opnV (lauF O m)))) ∧ Below w.heap.size w w' := by
  obtain ⟨io, ho, hz0, hz1, hz2⟩ := info_parts infoOpn
  have HO := Lib.hid hO
  clear hO
  go_enter Try.func29, Try.ntmps29
  go_wp2
  go_loopw [3, 4] (fun v i wr => ∃ k : Nat, k ≤ m ∧ i = .int .i64 k ∧ Hid (Row.Own wr w.heap.size 49 9 v (lau O k).length (opnV (lauF O k))) ∧ Below w.heap.size w wr) (fun _ i _ => m - (intOf i).toNat)
  case atStart => exact ⟨0, by omega, rfl, Lib.hid (Row.own_nil _ _ _ _ _), Below.refl _ _⟩
  case round =>
    obtain ⟨k, hk, rfl, hown, hb⟩ := hrel
    obtain ⟨A', c', rfl, l1, m1, z1, -⟩ := hown.out.shape
    by_cases hlt : k < m
    · obtain ⟨b, off, rfl⟩ := opns_at HO.out (by omega)
      obtain ⟨hbl, R⟩ := opn_cells HO.out hb rfl hlt
      have c0 := range_cell R (O k).f0
      have c6 := range_cell R (O k).f6
      rw [Nat.add_zero] at c0
      have ll := lau_len O k
      by_cases q1 : (O k).kind = 1
      · have e1 : ((O k).kind == 1) = true := by simp [q1]
        by_cases q2 : 1 ≤ (O k).wt
        · have e2 := decide_eq_true q2
          by_cases q3 : (O k).wt ≤ 100
          · have e3 := decide_eq_true q3
            have hq : lauB (O k) = true := decide_eq_true ⟨q1, q2, q3⟩
            by_cases q4 : (lau O k).length < 4096
            · have E := lau_on hq q4
              have e4 : ((lau O k).length : Int) < 4096 := by omega
              have d4 := decide_eq_true e4
              have sz9 : (O k).cells.size = 9 := rfl
              have HR : Hid (∀ cs : Array Value, cs = (O k).cells → Recs (wr.alloc (.cells cs 49)) (wr.heap.size + 1) (some ⟨wr.heap.size, 0, none⟩) 1 9 (fun _ j => ((O k).cells[j]?).getD undef)) := Lib.hid (fun cs hcs => by
                subst hcs
                refine ⟨fun e => (by cases e), fun _ => ⟨wr.heap.size, 0, rfl, by omega, fun i j hi hj => ?_⟩⟩
                obtain rfl : i = 0 := by omega
                rw [cell_of_row _ _ _ _ _ _ (heap_alloc_new wr _), Nat.zero_mul, Nat.zero_add, Nat.zero_add]
                show (O k).cells[j]? = some (((O k).cells[j]?).getD undef)
                rw [Array.getElem?_eq_getElem (show j < (O k).cells.size from hj)]
                rfl)
              go_wp2_with (first | ((with_reducible refine at_load' 49 ?_); (refine load_opn rfl _ rfl _ _ rfl (O k) R ?_)) | (at_builtin; refine Row.append_rows rfl _ _ 23 rfl w.heap.size 49 io Opens.none_.val 9 64 (by omega) Try.underlying23 ho hz0 hz1 hz2 rfl _ (lau O k).length (opnV (lauF O k)) (by rfl) (hown.out.alloc _) (wr.heap.size + 1) (some ⟨wr.heap.size, 0, none⟩) 1 1 (fun _ j => ((O k).cells[j]?).getD undef) rfl (HR.out _ (by kernel_rfl)) (fun _ j _ hj => opnV_one O k j hj) (fun e => by cases e) (by unfold maxLen; omega) (by omega) (by simp; have := hb.size; omega) ?_; intro v1 w1 own1 grow1))
              have own2 := Lib.hid (own1.congr (U := opnV (lauF O (k + 1))) (by omega) (fun i j hi _ => lauF_on E i j hi))
              rw [show (lau O k).length + 1 = (lau O (k + 1)).length by rw [E]; simp] at own2
              have hb2 := Row.below_grown (bAlloc hb _) (hown.out.alloc _) grow1
              go_roundw
              case rel => exact ⟨k + 1, by omega, by go_num, own2, hb2⟩
              case measure => simp [intOf]; omega
            · have E : lau O (k + 1) = lau O k := lau_full (by omega) (k + 1) (by omega)
              have e4 : ¬ ((lau O k).length : Int) < 4096 := by omega
              have d4 := decide_eq_false e4
              go_wp2
              go_roundw
              case rel => exact ⟨k + 1, by omega, by go_num, by rw [E]; exact Lib.hid (hown.out.congr (by omega) (fun i j _ _ => by unfold lauF; rw [E])), hb⟩
              case measure => simp [intOf]; omega
          · have e3 := decide_eq_false q3
            have E := lau_off (O := O) (k := k) (decide_eq_false (by omega))
            go_wp2
            go_roundw
            case rel => exact ⟨k + 1, by omega, by go_num, by rw [E]; exact Lib.hid (hown.out.congr (by omega) (fun i j _ _ => by unfold lauF; rw [E])), hb⟩
            case measure => simp [intOf]; omega
        · have e2 := decide_eq_false q2
          have E := lau_off (O := O) (k := k) (decide_eq_false (by omega))
          go_wp2
          go_roundw
          case rel => exact ⟨k + 1, by omega, by go_num, by rw [E]; exact Lib.hid (hown.out.congr (by omega) (fun i j _ _ => by unfold lauF; rw [E])), hb⟩
          case measure => simp [intOf]; omega
      · have e1 : ((O k).kind == 1) = false := by simp [q1]
        have E := lau_off (O := O) (k := k) (decide_eq_false (by omega))
        go_wp2
        go_roundw
        case rel => exact ⟨k + 1, by omega, by go_num, by rw [E]; exact Lib.hid (hown.out.congr (by omega) (fun i j _ _ => by unfold lauF; rw [E])), hb⟩
        case measure => simp [intOf]; omega
    · obtain rfl : k = m := by omega
      go_wp2
      go_ret
      exact ⟨⟨_, _, rfl, hown⟩, hb⟩
end Go.Proofs.Ytcgeoaegalloaaa.Thg
