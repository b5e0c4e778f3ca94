
/- Whether two lists are the same, and a list whose instances are all made others. -/
import Derived.Test.YtcgeoaegalloaaaSdB
import Derived.Test.YtcgeoaegalloaaaEqI
import Derived.Deep.QuietTactic
import Derived.BigQuiet
namespace Go.Proofs.Ytcgeoaegalloaaa.Cat
open Go.ChangeShapes Go.WideShapes Go.ChangeAt Go.RowKit
open Mem Arr Lst Rec Inst Grown Sums St0 Fnd Flow
attribute [local go_sem] Oper.semAt_some
set_option linter.unusedSimpArgs false
set_option linter.unusedVariables false
section
attribute [local go_sem ↓] exec_ins Go.wp_at_zero Go.wp_at_succ
attribute [local go_sem ↓ high] run_eqIns run_neqIns run_guardIns
set_option maxHeartbeats 2000000 in
theorem same_yes (A B : Option Addr) (n c d : Nat) (L K : Nat → Ins) (w : World) (h : Insts w w.heap.size A n L) (h2 : Insts w w.heap.size B n K) (hn : n ≤ 1000000) (he : ∀ i, i < n → L i = K i) :
    Calls Try.prog 22 #[.slice A n c, .slice B n d] w fun e w' => e = .returned (.bool true) ∧ Below w.heap.size w w' := by
  have H := Lib.hid (fun p : Grown w => (show Insts p.w1 p.w1.heap.size A n L from h.later p.below))
  have H2 := Lib.hid (fun p : Grown w => (show Insts p.w1 p.w1.heap.size B n K from h2.later p.below))
  have HE := Lib.hid he
  clear h h2 he
  go_enter Try.func22, Try.ntmps22
  go_wp2
  go_loopw [5] (fun i wr => ∃ k : Nat, k ≤ n ∧ i = .int .i64 k ∧ Below w.heap.size w wr) (fun i _ => n - (intOf i).toNat)
  case atStart => exact ⟨0, by omega, rfl, Below.refl _ _⟩
  case round =>
    obtain ⟨k, hk, rfl, hb⟩ := hrel
    by_cases hlt : k < n
    · have e1 : decide ((k : Int) < n) = true := decide_eq_true (by omega)
      have e0 : decide ((k : Int) < 0) = false := decide_eq_false (by omega)
      have wr2 : IntKind.i64.wrap ((k : Int) + 1) = (k : Int) + 1 := IntWalk.i64_in _ (by omega)
      obtain ⟨b, off, rfl⟩ := insts_at (H.out ⟨wr, hb⟩) (by omega)
      obtain ⟨b2, off2, rfl⟩ := insts_at (H2.out ⟨wr, hb⟩) (by omega)
      have I1 := fun p : Grown wr => run_ins (ins_cells (H.out ⟨wr, hb⟩) p.below rfl hlt).2.1
      have I2 := fun p : Grown wr => run_ins (ins_cells (H2.out ⟨wr, hb⟩) p.below rfl hlt).2.1
      have eq := HE.out k hlt
      have dq : decide (L k = K k) = true := decide_eq_true eq
      clear eq
      go_wp2_with fail
      refine region_grown (by kernel_rfl) (by kernel_rfl) ?_
      repeat ((with_reducible refine wpQuiet_step (fun K hK => ?_)); go_simp; (first | (refine hK _ ?_; clear hK K) | (apply Exists.intro; refine ⟨fun _ => ?_, hK _ ?_⟩; fail; clear hK K)))
      (with_reducible refine wpQuiet_nil ?_)
      rintro _ ⟨p, rfl⟩
      go_wp2
      go_roundw
      case rel => exact ⟨k + 1, by omega, by rw [Int.natCast_add]; rfl, bTrans hb p.below⟩
      case measure => simp [intOf]; omega
    · have e1 : decide ((k : Int) < n) = false := decide_eq_false (by omega)
      go_wp2
      go_ret
      exact ⟨rfl, hb⟩
end
def bad : Ins := ⟨77, 0, 0, 0, false, 0, 0, false, 0, false, false, 0⟩
/-- k is no block of the value v -/
def NotOf (v : Value) (k : Nat) : Prop := ∀ g n cap, v = .slice (some ⟨g, 0, none⟩) n cap → k ≠ g
theorem own_else {w w' : World} {base : Nat} {E : TypeId} {sz : Nat} {v : Value} {n : Nat} {V : Nat → Nat → Value} (h : Row.Own w base E sz v n V) (he : ∀ g n cap, v = .slice (some ⟨g, 0, none⟩) n cap → base ≤ g → g < w.heap.size → w'.heap[g]? = w.heap[g]?) : Row.Own w' base E sz v n V := by
  refine ⟨h.1, ?_⟩
  rcases h.2 with h' | ⟨g1, cap, cur, h', hbg, hg1, hnc, hcm, hcs, ht⟩
  · exact .inl h'
  · have hlt : g1 < w.heap.size := by
      rcases Nat.lt_or_ge g1 w.heap.size with hlt | hge
      · exact hlt
      · rw [Array.getElem?_eq_none hge] at hg1; cases hg1
    exact .inr ⟨g1, cap, cur, h', hbg, (he g1 n cap h' hbg hlt).trans hg1, hnc, hcm, hcs, ht⟩
theorem store_else {w : World} {g i k : Nat} {vs : List Value} {C : Array Value} {t : TypeId} {fr : Nat × Nat} (hg : w.heap[g]? = some (.cells C t fr)) (hk : k ≠ g) : (w.setCells g i vs).heap[k]? = w.heap[k]? := by
  rw [setCells_row _ _ _ _ hg]; exact row_else (Ne.symm hk)
set_option maxHeartbeats 2000000 in
theorem spoil_any (v : Value) (n : Nat) (L : Nat → Ins) (base : Nat) (w : World) (h : Row.Own w base 36 12 v n (insV L)) (hn : n ≤ 1000000) :
    Calls Try.prog 23 #[v] w fun e w' => e = .returned (.tuple #[]) ∧ Hid (∀ w0 : World, Below w0.heap.size w0 w → w0.heap.size ≤ base → Below w0.heap.size w0 w') ∧ Hid (∀ k, NotOf v k → w'.heap[k]? = w.heap[k]?) := by
  obtain ⟨A, cap, rfl, _, _, hA, hA2⟩ := h.shape
  have H := Lib.hid h
  clear h
  go_enter Try.func23, Try.ntmps23
  go_wp2
  go_loopw [2] (fun i wr => ∃ (k : Nat) (V : Nat → Ins), k ≤ n ∧ i = .int .i64 k ∧ Hid (Row.Own wr base 36 12 (.slice A n cap) n (insV V)) ∧ Hid (∀ w0 : World, Below w0.heap.size w0 w → w0.heap.size ≤ base → Below w0.heap.size w0 wr) ∧ Hid (∀ k, NotOf (.slice A n cap) k → wr.heap[k]? = w.heap[k]?)) (fun i _ => n - (intOf i).toNat)
  case atStart => exact ⟨0, L, by omega, rfl, H, Lib.hid (fun _ h _ => h), Lib.hid (fun _ _ => rfl)⟩
  case round =>
    obtain ⟨k, V, hk, rfl, own, hb, he⟩ := hrel
    by_cases hlt : k < n
    · have e1 : decide ((k : Int) < n) = true := decide_eq_true (by omega)
      have e0 : decide ((k : Int) < 0) = false := decide_eq_false (by omega)
      have wr2 : IntKind.i64.wrap ((k : Int) + 1) = (k : Int) + 1 := IntWalk.i64_in _ (by omega)
      obtain ⟨g, cap', e, hg, _⟩ := Row.Own.form own.out (by omega)
      injection e with e2 e3 e4
      subst e2
      subst e4
      have st := own_store own.out (k := k) (x := bad)
      have hw : Hid (∃ cur : Array Value, wr.heap[g]? = some (.cells cur 36 (0, 0))) := Lib.hid (by
        rcases own.out.2 with ⟨e, h0⟩ | ⟨g', cap', cur, e, hbg, hg, hnc, hcm, hcs, ht⟩
        · cases e
        · injection e with e1 e2 e3
          injection e1 with e1
          injection e1 with e1
          subst e1
          exact ⟨cur, hg⟩)
      go_wp2_with ((with_reducible refine at_store 36 ?_); (refine wpList_store_mid rfl 36 _ _ rfl g (k * 12) bad.cells rfl rfl st.1 (sizeInst.trans rfl) bad.one ?_))
      have own2 := Lib.hid st.2.1
      have hb2 : Hid (∀ w0 : World, Below w0.heap.size w0 w → w0.heap.size ≤ base → Below w0.heap.size w0 (wr.setCells g (k * 12) bad.cells.toList)) := Lib.hid (fun w0 h1 h2 => st.2.2 w0 (hb.out w0 h1 h2) (by omega))
      have he2 : Hid (∀ j, NotOf (.slice (some ⟨g, 0, none⟩) n cap) j → (wr.setCells g (k * 12) bad.cells.toList).heap[j]? = w.heap[j]?) := Lib.hid (fun j hj => by
        obtain ⟨cur, hc⟩ := hw.out
        exact (store_else hc (hj g n cap rfl)).trans (he.out j hj))
      clear st own
      go_roundw
      case rel => exact ⟨k + 1, _, by omega, by rw [Int.natCast_add]; rfl, own2, hb2, he2⟩
      case measure => simp [intOf]; omega
    · have e1 : decide ((k : Int) < n) = false := decide_eq_false (by omega)
      go_wp2
      first | exact ⟨⟨rfl, hb, he⟩, rfl⟩ | exact bodyPost_ret (results_none rfl _ _ _) rfl ⟨rfl, hb, he⟩ | exact bodyPost_end (results_none rfl _ _ _) rfl ⟨rfl, hb, he⟩
end Go.Proofs.Ytcgeoaegalloaaa.Cat
