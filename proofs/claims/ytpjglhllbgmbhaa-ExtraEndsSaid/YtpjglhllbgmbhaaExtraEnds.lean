
/- A refresh in which all are of the Version has ended and nothing gives way for it; one in which something that serves is not has not: for every state the law returns true. No condition. -/
import Derived.Test.YtpjglhllbgmbhaaExtG
import Derived.Test.YtpjglhllbgmbhaaExtI
import Derived.Test.YtpjglhllbgmbhaaExtF
import Derived.Test.YtpjglhllbgmbhaaStA
import Derived.Lib.AppendZeros
namespace Go.Proofs.Ytpjglhllbgmbhaa.extraEnds
open Go.ChangeShapes Go.WideShapes Go.ChangeAt Go.RowKit
open NumM
open NumA hiding ret_bool
open Mem Arr Lst Rec Inst Grown Sums St Opens StA Extra
set_option linter.unusedVariables false
section
attribute [local go_sem ↓] exec_st exec_ins Go.wp_at_zero Go.wp_at_succ

theorem anyS_on {L : Nat → Ins} {k : Nat} (h : anyS L k = true) : anyS L (k + 1) = true := by unfold anyS; rw [h]; rfl
theorem anyS_is {L : Nat → Ins} {k : Nat} (h : anyS L k = false) : anyS L (k + 1) = decide ((L k).st = 3) := by
  show (anyS L k || decide ((L k).st = 3)) = _
  rw [h]; rfl
set_option maxHeartbeats 8000000 in
theorem walk {H : Type} {enc : TypeId × Value → H} (s : State) (a1 : Bool) (w : World) (b0 : StOk s ∧ CfgIn enc w s.c ∧ CfgIn enc w s.b ∧ (∃ d p, DataW.Trod enc Try.prog w 0 (fun _ => true) true 29 (.slice s.qA s.qN s.qC) d p) ∧ (∃ d p, DataW.Trod enc Try.prog w 0 (fun _ => true) true 30 (.slice s.iA s.iN s.iC) d p) ∧ (∃ d p, DataW.Trod enc Try.prog w 0 (fun _ => true) true 31 (.slice s.oA s.oN s.oC) d p) ∧ (∃ d p, DataW.Trod enc Try.prog w 0 (fun _ => true) true 34 (.slice s.nA s.nN s.nC) d p)) :
    Calls Try.prog 5 #[s.val, .bool a1] w fun e w' => e = .returned (.bool true) ∧ Below w.heap.size w w' := by
  obtain ⟨sk, _, _, _, hI, hO, _⟩ := b0
  obtain ⟨L, iL, iK, i0, i1, i2⟩ := insts_in hI
  obtain ⟨O, oL, oK, o0, o1, o2⟩ := opns_in hO
  have hn : s.iN ≤ 9223372036854775807 := by unfold maxLen at i2; omega
  have hn2 : s.oN ≤ 9223372036854775807 := by unfold maxLen at o2; omega
  clear hI hO
  have B1 := box_new w s.cells 36
  have R1 : (w.alloc (.cells s.cells 36)).rangeAt w.heap.size 0 s.cells.toList := B1 ⟨_, Below.refl _ _⟩
  have g46 := box_cell B1 s.f46
  have g42 := box_cell B1 s.f42
  have g8 := box_cell B1 s.f8
  rcases hg : greatB s with _ | _
  · have G := Lib.hid (great_is s false (Lib.hid hg))
    have ex := of_decide_eq_false hg
    have C3 := Lib.hid (fun p : Grown (w.alloc (.cells s.cells 36)) => refMayL_any s.iA s.iN s.iC L p.w1 (insts_box iL p) hn)
    rcases hm : mayB L s.iN with _ | _
    · rw [hm] at C3
      clear hm hg
      clear iL iK oL oK sk
      go_enter Try.func5, Try.ntmps5
      go_wp2_with (first | ((with_reducible refine at_loadg 36 ?_); (first | (refine load_st rfl _ rfl _ _ rfl s R1 ?_) | (refine load_st rfl _ rfl _ _ rfl s (B1 _) ?_))))
      refine (call_grown (p := (⟨(w.alloc (.cells s.cells 36)), Below.refl _ _⟩ : Grown (w.alloc (.cells s.cells 36)))) (G.out _)).mono ?_
      rintro _ _ ⟨rfl, p, rfl⟩
      go_wp2_with (first | ((with_reducible refine at_loadg 36 ?_); (first | (refine load_st rfl _ rfl _ _ rfl s R1 ?_) | (refine load_st rfl _ rfl _ _ rfl s (B1 _) ?_))))
      refine (call_grown (p := p) (C3.out p)).mono ?_
      rintro _ _ ⟨rfl, p, rfl⟩
      go_wp2_with fail
      refine (call_grown (p := p) (lives_any _)).mono ?_
      rintro _ _ ⟨rfl, p, rfl⟩
      go_wp2
      go_ret
      exact ⟨rfl, bTrans (bAlloc (Below.refl _ _) _) p.below⟩
    · rw [hm] at C3
      by_cases h1 : s.desired < 0
      · clear hm hg
        clear iL iK oL oK sk
        have d1 := decide_eq_true h1
        go_enter Try.func5, Try.ntmps5
        go_wp2_with (first | ((with_reducible refine at_loadg 36 ?_); (first | (refine load_st rfl _ rfl _ _ rfl s R1 ?_) | (refine load_st rfl _ rfl _ _ rfl s (B1 _) ?_))))
        refine (call_grown (p := (⟨(w.alloc (.cells s.cells 36)), Below.refl _ _⟩ : Grown (w.alloc (.cells s.cells 36)))) (G.out _)).mono ?_
        rintro _ _ ⟨rfl, p, rfl⟩
        go_wp2_with (first | ((with_reducible refine at_loadg 36 ?_); (first | (refine load_st rfl _ rfl _ _ rfl s R1 ?_) | (refine load_st rfl _ rfl _ _ rfl s (B1 _) ?_))))
        refine (call_grown (p := p) (C3.out p)).mono ?_
        rintro _ _ ⟨rfl, p, rfl⟩
        go_wp2_with fail
        refine (call_grown (p := p) (lives_any _)).mono ?_
        rintro _ _ ⟨rfl, p, rfl⟩
        go_wp2
        go_ret
        exact ⟨rfl, bTrans (bAlloc (Below.refl _ _) _) p.below⟩
      · have d1 := decide_eq_false h1
        by_cases h2 : 65536 < s.desired
        · clear hm hg
          clear iL iK oL oK sk
          have d2 := decide_eq_true h2
          go_enter Try.func5, Try.ntmps5
          go_wp2_with (first | ((with_reducible refine at_loadg 36 ?_); (first | (refine load_st rfl _ rfl _ _ rfl s R1 ?_) | (refine load_st rfl _ rfl _ _ rfl s (B1 _) ?_))))
          refine (call_grown (p := (⟨(w.alloc (.cells s.cells 36)), Below.refl _ _⟩ : Grown (w.alloc (.cells s.cells 36)))) (G.out _)).mono ?_
          rintro _ _ ⟨rfl, p, rfl⟩
          go_wp2_with (first | ((with_reducible refine at_loadg 36 ?_); (first | (refine load_st rfl _ rfl _ _ rfl s R1 ?_) | (refine load_st rfl _ rfl _ _ rfl s (B1 _) ?_))))
          refine (call_grown (p := p) (C3.out p)).mono ?_
          rintro _ _ ⟨rfl, p, rfl⟩
          go_wp2_with fail
          refine (call_grown (p := p) (lives_any _)).mono ?_
          rintro _ _ ⟨rfl, p, rfl⟩
          go_wp2
          go_ret
          exact ⟨rfl, bTrans (bAlloc (Below.refl _ _) _) p.below⟩
        · have d2 := decide_eq_false h2
          by_cases h3 : s.c.surge < 0
          · clear hm hg
            clear iL iK oL oK sk
            have d3 := decide_eq_true h3
            go_enter Try.func5, Try.ntmps5
            go_wp2_with (first | ((with_reducible refine at_loadg 36 ?_); (first | (refine load_st rfl _ rfl _ _ rfl s R1 ?_) | (refine load_st rfl _ rfl _ _ rfl s (B1 _) ?_))))
            refine (call_grown (p := (⟨(w.alloc (.cells s.cells 36)), Below.refl _ _⟩ : Grown (w.alloc (.cells s.cells 36)))) (G.out _)).mono ?_
            rintro _ _ ⟨rfl, p, rfl⟩
            go_wp2_with (first | ((with_reducible refine at_loadg 36 ?_); (first | (refine load_st rfl _ rfl _ _ rfl s R1 ?_) | (refine load_st rfl _ rfl _ _ rfl s (B1 _) ?_))))
            refine (call_grown (p := p) (C3.out p)).mono ?_
            rintro _ _ ⟨rfl, p, rfl⟩
            go_wp2_with fail
            refine (call_grown (p := p) (lives_any _)).mono ?_
            rintro _ _ ⟨rfl, p, rfl⟩
            go_wp2
            go_ret
            exact ⟨rfl, bTrans (bAlloc (Below.refl _ _) _) p.below⟩
          · have d3 := decide_eq_false h3
            by_cases h4 : 65536 < s.c.surge
            · clear hm hg
              clear iL iK oL oK sk
              have d4 := decide_eq_true h4
              go_enter Try.func5, Try.ntmps5
              go_wp2_with (first | ((with_reducible refine at_loadg 36 ?_); (first | (refine load_st rfl _ rfl _ _ rfl s R1 ?_) | (refine load_st rfl _ rfl _ _ rfl s (B1 _) ?_))))
              refine (call_grown (p := (⟨(w.alloc (.cells s.cells 36)), Below.refl _ _⟩ : Grown (w.alloc (.cells s.cells 36)))) (G.out _)).mono ?_
              rintro _ _ ⟨rfl, p, rfl⟩
              go_wp2_with (first | ((with_reducible refine at_loadg 36 ?_); (first | (refine load_st rfl _ rfl _ _ rfl s R1 ?_) | (refine load_st rfl _ rfl _ _ rfl s (B1 _) ?_))))
              refine (call_grown (p := p) (C3.out p)).mono ?_
              rintro _ _ ⟨rfl, p, rfl⟩
              go_wp2_with fail
              refine (call_grown (p := p) (lives_any _)).mono ?_
              rintro _ _ ⟨rfl, p, rfl⟩
              go_wp2
              go_ret
              exact ⟨rfl, bTrans (bAlloc (Below.refl _ _) _) p.below⟩
            · have d4 := decide_eq_false h4
              have HM := Lib.hid hm
              have HI := Lib.hid iL
              have HZ := Lib.hid i0
              obtain ⟨io, ho, hz0, hz1, hz2⟩ := info_parts infoInst
              have hn300 : s.iN ≤ 300 := by omega
              clear hm hg iL iK oL oK sk i0 ex
              go_enter Try.func5, Try.ntmps5
              go_wp2_with (first | ((with_reducible refine at_loadg 36 ?_); (first | (refine load_st rfl _ rfl _ _ rfl s R1 ?_) | (refine load_st rfl _ rfl _ _ rfl s (B1 _) ?_))))
              refine (call_grown (p := (⟨(w.alloc (.cells s.cells 36)), Below.refl _ _⟩ : Grown (w.alloc (.cells s.cells 36)))) (G.out _)).mono ?_
              rintro _ _ ⟨rfl, p, rfl⟩
              go_wp2_with (first | ((with_reducible refine at_loadg 36 ?_); (first | (refine load_st rfl _ rfl _ _ rfl s R1 ?_) | (refine load_st rfl _ rfl _ _ rfl s (B1 _) ?_))))
              refine (call_grown (p := p) (C3.out p)).mono ?_
              rintro _ _ ⟨rfl, p, rfl⟩
              have row0 := box_row p
              have e40 : (setA s.cells 48 [.bool true, .int .i64 0, .int .i64 100, .int .i64 0, .bool false, .bool false])[40]? = some (.int .u32 s.ver) := by kernel_rfl
              have e46 : (setA s.cells 48 [.bool true, .int .i64 0, .int .i64 100, .int .i64 0, .bool false, .bool false])[46]? = some (.slice s.iA s.iN s.iC) := by kernel_rfl
              have eM := mid_cells s
              generalize D0 : setA s.cells 48 [.bool true, .int .i64 0, .int .i64 100, .int .i64 0, .bool false, .bool false] = D1 at e40 e46 eM
              have row1 := row_at (cells := D1) row0
              have c40 := cell_row row1 e40
              have fr1 := free_row row1
              have c46 := cell_row row1 e46
              have rowA : ((p.w1.setRow w.heap.size D1).setCell ⟨w.heap.size, 40, none⟩ (.int .u32 2)).heap[w.heap.size]? = some (.cells (midS s).cells 36 (0, 0)) := by
                rw [setCell_row row1]; exact (row_at row1).trans (by rw [eM])
              have BA : Below w.heap.size w ((p.w1.setRow w.heap.size D1).setCell ⟨w.heap.size, 40, none⟩ (.int .u32 2)) := by
                rw [setCell_row row1]; exact below_row _ (below_row _ (bTrans (bAlloc (Below.refl _ _) _) p.below) (Nat.le_refl _)) (Nat.le_refl _)
              have IA := Lib.hid (HI.out.later BA)
              have BA := Lib.hid BA
              have rowA := Lib.hid rowA
              go_wp2_with (first | ((with_reducible refine at_store 33 ?_); (refine store_row rfl 33 _ _ rfl w.heap.size 48 #[.bool true, .int .i64 0, .int .i64 100, .int .i64 0, .bool false, .bool false] s.cells D1 _ row0 rfl rfl (sizeRefresh.trans rfl) (by simp [Value.oneCell']) (show 54 ≤ 55 by omega) D0 ?_)) | (at_builtin; generalize hA : (p.w1.setRow w.heap.size D1).setCell ⟨w.heap.size, 40, none⟩ (.int .u32 2) = wA at rowA BA IA ⊢; refine Row.append_rows rfl _ _ 30 rfl wA.heap.size 38 io Inst.none_.val 12 72 (by omega) Try.underlying30 ho hz0 hz1 hz2 rfl _ 0 (insV L) (by rfl) (Row.own_nil _ _ _ _ _) wA.heap.size s.iA s.iN s.iC (insV L) rfl IA.out (fun i j _ hj => insV_one L i j hj) HZ.out (by unfold maxLen; omega) (by omega) (Nat.le_refl _) ?_; intro v1 w1 own1 grow1))
              have b1 := Row.below_grown (Below.refl _ _) (Row.own_nil _ _ 38 12 (insV L)) grow1
              clear grow1 ho hz0 hz1 hz2 row0 row1 e40 e46 eM D0 c40 c46 fr1 hA
              have own1 := own1.congr (U := insV L) (by omega) (fun i j _ _ => by rw [if_neg (by omega)]; rfl)
              rw [Nat.zero_add] at own1
              have OW := Lib.hid own1
              obtain ⟨A1, k1, rfl, l1, m1, z1, -⟩ := own1.shape
              clear own1
              have hgA : w.heap.size < wA.heap.size := (Array.getElem?_eq_some_iff.1 rowA.out).1
              have b1 := Lib.hid b1
              go_loopw [5, 7] (fun v i wr => ∃ k : Nat, k ≤ s.iN ∧ i = .int .i64 k ∧ v = .bool (anyS L k) ∧ Hid (Row.Own wr wA.heap.size 38 12 (.slice A1 s.iN k1) s.iN (insV (fun i => if i < k then newI a1 (L i) else L i))) ∧ Below wA.heap.size wA wr) (fun _ i _ => s.iN - (intOf i).toNat)
              case atStart => exact ⟨0, by omega, rfl, rfl, Lib.hid (OW.out.congr (by omega) (fun i j _ _ => (insV_neg (by omega)).symm)), b1.out⟩
              case round =>
                obtain ⟨k, hk, rfl, rfl, HO, hb⟩ := hrel
                by_cases hlt : k < s.iN
                · obtain ⟨g, cap, e, hbg, hlg, _, _⟩ := HO.out.form (by omega)
                  injection e with e1 e2 e3
                  subst e1
                  subst e3
                  have o1 := HO.out
                  have c11 : wr.cell? ⟨g, k * 12 + 11, none⟩ = some (.int .u32 (L k).ver) := (o1.cell (i := k) (j := 11) hlt (by omega)).trans (congrArg some (insV_neg (by omega)))
                  have fr1 := fun k => o1.free k
                  have o2 := o1.stored (i := k) (j := 11) (.int .u32 (verN a1)) (by omega)
                  have o3 := o2.stored (i := k) (j := 9) (.bool false) (by omega)
                  have f2 := fun k => o2.free k
                  have f3 := fun k => o3.free k
                  have c9 : (wr.setCell ⟨g, k * 12 + 11, none⟩ (.int .u32 (verN a1))).cell? ⟨g, k * 12 + 9, none⟩ = some (.bool (L k).risk) :=
                    (o2.cell (i := k) (j := 9) hlt (by omega)).trans (congrArg some ((if_neg (by omega)).trans (insV_neg (by omega))))
                  have c5 : ((wr.setCell ⟨g, k * 12 + 11, none⟩ (.int .u32 (verN a1))).setCell ⟨g, k * 12 + 9, none⟩ (.bool false)).cell? ⟨g, k * 12 + 5, none⟩ = some (.int .u8 (L k).st) :=
                    (o3.cell (i := k) (j := 5) hlt (by omega)).trans (congrArg some ((if_neg (by omega)).trans ((if_neg (by omega)).trans (insV_neg (by omega)))))
                  have HN : Hid (Row.Own ((wr.setCell ⟨g, k * 12 + 11, none⟩ (.int .u32 (verN a1))).setCell ⟨g, k * 12 + 9, none⟩ (.bool false)) wA.heap.size 38 12 (.slice (some ⟨g, 0, none⟩) s.iN k1) s.iN (insV (fun i => if i < k + 1 then newI a1 (L i) else L i))) := Lib.hid (o3.congr (by omega) (fun i j hi hj => by
                    by_cases hik : i = k
                    · subst hik
                      refine Eq.trans ?_ (insV_pos (Nat.lt_succ_self i)).symm
                      by_cases h9 : j = 9
                      · subst h9; exact if_pos ⟨rfl, rfl⟩
                      · refine (if_neg (fun e => h9 e.2)).trans ?_
                        by_cases h11 : j = 11
                        · subst h11; exact if_pos ⟨rfl, rfl⟩
                        · refine (if_neg (fun e => h11 e.2)).trans ((insV_neg (Nat.lt_irrefl i)).trans ?_)
                          rcases (by omega : j = 0 ∨ j = 1 ∨ j = 2 ∨ j = 3 ∨ j = 4 ∨ j = 5 ∨ j = 6 ∨ j = 7 ∨ j = 8 ∨ j = 10) with rfl | rfl | rfl | rfl | rfl | rfl | rfl | rfl | rfl | rfl <;> rfl
                    · refine (if_neg (fun e => hik e.1)).trans ((if_neg (fun e => hik e.1)).trans ?_)
                      by_cases hlt2 : i < k
                      · exact (insV_pos hlt2).trans (insV_pos (L := L) (F := fun i => newI a1 (L i)) (k := k + 1) (Nat.lt_succ_of_lt hlt2)).symm
                      · exact (insV_neg hlt2).trans (insV_neg (k := k + 1) (by omega)).symm))
                  have HB := Lib.hid (bSet (bSet hb (p := ⟨g, k * 12 + 11, none⟩) hbg (.int .u32 (verN a1))) (p := ⟨g, k * 12 + 9, none⟩) hbg (.bool false))
                  clear o1 o2 o3 HO
                  rcases han : anyS L k with _ | _
                  · by_cases hst : (L k).st = 3
                    · have d5 : ((L k).st == 3) = true := by simp [hst]
                      have hA2 : Hid (anyS L (k + 1) = true) := Lib.hid (by rw [anyS_is han]; exact decide_eq_true hst)
                      clear han
                      cases a1
                      · simp only [verF] at c9 c5 HB HN f2 f3
                        go_wp2
                        go_roundw
                        case rel => exact ⟨k + 1, by omega, by go_num, by rw [hA2.out], HN, HB.out⟩
                        case measure => simp [intOf]; omega
                      · simp only [verT] at c9 c5 HB HN f2 f3
                        go_wp2
                        go_roundw
                        case rel => exact ⟨k + 1, by omega, by go_num, by rw [hA2.out], HN, HB.out⟩
                        case measure => simp [intOf]; omega
                    · have d5 : ((L k).st == 3) = false := by simp [hst]
                      have hA2 : Hid (anyS L (k + 1) = false) := Lib.hid (by rw [anyS_is han]; exact decide_eq_false hst)
                      clear han
                      cases a1
                      · simp only [verF] at c9 c5 HB HN f2 f3
                        go_wp2
                        go_roundw
                        case rel => exact ⟨k + 1, by omega, by go_num, by rw [hA2.out], HN, HB.out⟩
                        case measure => simp [intOf]; omega
                      · simp only [verT] at c9 c5 HB HN f2 f3
                        go_wp2
                        go_roundw
                        case rel => exact ⟨k + 1, by omega, by go_num, by rw [hA2.out], HN, HB.out⟩
                        case measure => simp [intOf]; omega
                  · have hA2 : Hid (anyS L (k + 1) = true) := Lib.hid (anyS_on han)
                    clear han
                    cases a1
                    · simp only [verF] at c9 c5 HB HN f2 f3
                      go_wp2
                      go_roundw
                      case rel => exact ⟨k + 1, by omega, by go_num, by rw [hA2.out], HN, HB.out⟩
                      case measure => simp [intOf]; omega
                    · simp only [verT] at c9 c5 HB HN f2 f3
                      go_wp2
                      go_roundw
                      case rel => exact ⟨k + 1, by omega, by go_num, by rw [hA2.out], HN, HB.out⟩
                      case measure => simp [intOf]; omega
                · obtain rfl : k = s.iN := by omega
                  have rowL : wr.heap[w.heap.size]? = some (.cells (midS s).cells 36 (0, 0)) := (hb.block _ hgA).trans rowA.out
                  have q46 := cell_row rowL (k := 46) (v := .slice s.iA s.iN s.iC) (by kernel_rfl)
                  have q47 := cell_row rowL (k := 47) (v := .slice s.oA s.oN s.oC) (by kernel_rfl)
                  have fq := free_row rowL
                  have rowM : (wr.setCell ⟨w.heap.size, 46, none⟩ (.slice A1 s.iN k1)).heap[w.heap.size]? = some (.cells ((midS s).cells.setIfInBounds 46 (.slice A1 s.iN k1)) 36 (0, 0)) := by rw [setCell_row rowL]; exact row_at rowL
                  have fq2 := free_row rowM
                  have rowN : ((wr.setCell ⟨w.heap.size, 46, none⟩ (.slice A1 s.iN k1)).setCell ⟨w.heap.size, 47, none⟩ (.slice none 0 0)).heap[w.heap.size]? = some (.cells (lastS s A1 k1).cells 36 (0, 0)) := by
                    rw [setCell_row rowM]; exact (row_at rowM).trans (by rw [last_cells])
                  have eW : (wr.setCell ⟨w.heap.size, 46, none⟩ (.slice A1 s.iN k1)).setCell ⟨w.heap.size, 47, none⟩ (.slice none 0 0) = (wr.setRow w.heap.size ((midS s).cells.setIfInBounds 46 (.slice A1 s.iN k1))).setRow w.heap.size (((midS s).cells.setIfInBounds 46 (.slice A1 s.iN k1)).setIfInBounds 47 (.slice none 0 0)) := by
                    rw [setCell_row rowM, setCell_row rowL]
                  have BN : Below w.heap.size w ((wr.setCell ⟨w.heap.size, 46, none⟩ (.slice A1 s.iN k1)).setCell ⟨w.heap.size, 47, none⟩ (.slice none 0 0)) := by
                    rw [eW]; exact below_row _ (below_row _ (bTrans BA.out hb) (Nat.le_refl _)) (Nat.le_refl _)
                  have ON := own_row (own_row HO.out hgA ((midS s).cells.setIfInBounds 46 (.slice A1 s.iN k1))) hgA (((midS s).cells.setIfInBounds 46 (.slice A1 s.iN k1)).setIfInBounds 47 (.slice none 0 0))
                  rw [← eW] at ON
                  clear eW rowL rowM
                  have IN : Insts ((wr.setCell ⟨w.heap.size, 46, none⟩ (.slice A1 s.iN k1)).setCell ⟨w.heap.size, 47, none⟩ (.slice none 0 0)) ((wr.setCell ⟨w.heap.size, 46, none⟩ (.slice A1 s.iN k1)).setCell ⟨w.heap.size, 47, none⟩ (.slice none 0 0)).heap.size A1 s.iN (fun i => newI a1 (L i)) := recs_like ON.recs (fun i j hi _ => insV_pos hi)
                  have RN := range_row rowN
                  have hgN : w.heap.size < ((wr.setCell ⟨w.heap.size, 46, none⟩ (.slice A1 s.iN k1)).setCell ⟨w.heap.size, 47, none⟩ (.slice none 0 0)).heap.size := (Array.getElem?_eq_some_iff.1 rowN).1
                  have BR := fun p : Grown ((wr.setCell ⟨w.heap.size, 46, none⟩ (.slice A1 s.iN k1)).setCell ⟨w.heap.size, 47, none⟩ (.slice none 0 0)) => range_in hgN RN p
                  have hO : ∀ p : Grown ((wr.setCell ⟨w.heap.size, 46, none⟩ (.slice A1 s.iN k1)).setCell ⟨w.heap.size, 47, none⟩ (.slice none 0 0)), Opns p.w1 p.w1.heap.size (lastS s A1 k1).oA (lastS s A1 k1).oN (fun _ => Opens.none_) := fun p => ⟨fun _ => rfl, fun h => absurd h (by show ¬ 0 < 0; omega)⟩
                  have hn0 : (lastS s A1 k1).oN ≤ 9223372036854775807 := by show 0 ≤ _; omega
                  have HB := Lib.hid (fun p : Grown ((wr.setCell ⟨w.heap.size, 46, none⟩ (.slice A1 s.iN k1)).setCell ⟨w.heap.size, 47, none⟩ (.slice none 0 0)) => bTrans BN p.below)
                  have CL := Lib.hid (fun p : Grown ((wr.setCell ⟨w.heap.size, 46, none⟩ (.slice A1 s.iN k1)).setCell ⟨w.heap.size, 47, none⟩ (.slice none 0 0)) => lives_any p.w1)
                  clear rowN ON BN
                  cases a1
                  · rcases han : anyS L s.iN with _ | _
                    · clear IN hO RN BR
                      go_wp2_with fail
                      refine (call_grown (p := (⟨((wr.setCell ⟨w.heap.size, 46, none⟩ (.slice A1 s.iN k1)).setCell ⟨w.heap.size, 47, none⟩ (.slice none 0 0)), Below.refl _ _⟩ : Grown ((wr.setCell ⟨w.heap.size, 46, none⟩ (.slice A1 s.iN k1)).setCell ⟨w.heap.size, 47, none⟩ (.slice none 0 0)))) (CL.out _)).mono ?_
                      rintro _ _ ⟨rfl, p, rfl⟩
                      go_wp2
                      go_ret
                      exact ⟨rfl, HB.out p⟩
                    · obtain ⟨r1, r2⟩ := last_some (s := s) (L := L) (A := A1) (c := k1) (fun _ => Opens.none_) HM.out (by omega) (by omega) (by omega) (by omega) han
                      have EN := Lib.hid (fun p : Grown ((wr.setCell ⟨w.heap.size, 46, none⟩ (.slice A1 s.iN k1)).setCell ⟨w.heap.size, 47, none⟩ (.slice none 0 0)) => ends_is (lastS s A1 k1) _ (fun _ => Opens.none_) false r1 p.w1 (IN.later p.below) (hO p) hn hn0)
                      obtain ⟨v, hv⟩ : ∃ v, ofV (lastS s A1 k1) (fun i => newI false (L i)) = v := ⟨_, rfl⟩
                      rw [hv] at r2
                      have d7 : decide (0 < v) = true := decide_eq_true r2
                      have OF := Lib.hid (fun p : Grown ((wr.setCell ⟨w.heap.size, 46, none⟩ (.slice A1 s.iN k1)).setCell ⟨w.heap.size, 47, none⟩ (.slice none 0 0)) => of_is (lastS s A1 k1) _ v hv p.w1 (IN.later p.below) hn)
                      clear IN hO r1 hv han
                      go_wp2_with (first | ((with_reducible refine at_loadg 36 ?_); (first | (refine load_st rfl _ rfl _ _ rfl (lastS s A1 k1) RN ?_) | (refine load_st rfl _ rfl _ _ rfl (lastS s A1 k1) (BR _) ?_))))
                      refine (call_grown (p := (⟨((wr.setCell ⟨w.heap.size, 46, none⟩ (.slice A1 s.iN k1)).setCell ⟨w.heap.size, 47, none⟩ (.slice none 0 0)), Below.refl _ _⟩ : Grown ((wr.setCell ⟨w.heap.size, 46, none⟩ (.slice A1 s.iN k1)).setCell ⟨w.heap.size, 47, none⟩ (.slice none 0 0)))) (EN.out _)).mono ?_
                      rintro _ _ ⟨rfl, p, rfl⟩
                      go_wp2_with (first | ((with_reducible refine at_loadg 36 ?_); (first | (refine load_st rfl _ rfl _ _ rfl (lastS s A1 k1) RN ?_) | (refine load_st rfl _ rfl _ _ rfl (lastS s A1 k1) (BR _) ?_))))
                      refine (call_grown (p := p) (OF.out p)).mono ?_
                      rintro _ _ ⟨rfl, p, rfl⟩
                      go_wp2_with (first | ((with_reducible refine at_loadg 36 ?_); (first | (refine load_st rfl _ rfl _ _ rfl (lastS s A1 k1) RN ?_) | (refine load_st rfl _ rfl _ _ rfl (lastS s A1 k1) (BR _) ?_))))
                      refine (call_grown (p := p) (CL.out p)).mono ?_
                      rintro _ _ ⟨rfl, p, rfl⟩
                      go_wp2
                      go_ret
                      exact ⟨rfl, HB.out p⟩
                  · obtain ⟨r1, r2⟩ := last_all (s := s) (L := L) (A := A1) (c := k1) (fun _ => Opens.none_) HM.out (by omega) (by omega) (by omega) (by omega)
                    have EN := Lib.hid (fun p : Grown ((wr.setCell ⟨w.heap.size, 46, none⟩ (.slice A1 s.iN k1)).setCell ⟨w.heap.size, 47, none⟩ (.slice none 0 0)) => ends_is (lastS s A1 k1) _ (fun _ => Opens.none_) true r1 p.w1 (IN.later p.below) (hO p) hn hn0)
                    have OF := Lib.hid (fun p : Grown ((wr.setCell ⟨w.heap.size, 46, none⟩ (.slice A1 s.iN k1)).setCell ⟨w.heap.size, 47, none⟩ (.slice none 0 0)) => of_is (lastS s A1 k1) _ 0 r2 p.w1 (IN.later p.below) hn)
                    clear IN hO r1 r2
                    go_wp2_with (first | ((with_reducible refine at_loadg 36 ?_); (first | (refine load_st rfl _ rfl _ _ rfl (lastS s A1 k1) RN ?_) | (refine load_st rfl _ rfl _ _ rfl (lastS s A1 k1) (BR _) ?_))))
                    refine (call_grown (p := (⟨((wr.setCell ⟨w.heap.size, 46, none⟩ (.slice A1 s.iN k1)).setCell ⟨w.heap.size, 47, none⟩ (.slice none 0 0)), Below.refl _ _⟩ : Grown ((wr.setCell ⟨w.heap.size, 46, none⟩ (.slice A1 s.iN k1)).setCell ⟨w.heap.size, 47, none⟩ (.slice none 0 0)))) (EN.out _)).mono ?_
                    rintro _ _ ⟨rfl, p, rfl⟩
                    go_wp2_with (first | ((with_reducible refine at_loadg 36 ?_); (first | (refine load_st rfl _ rfl _ _ rfl (lastS s A1 k1) RN ?_) | (refine load_st rfl _ rfl _ _ rfl (lastS s A1 k1) (BR _) ?_))))
                    refine (call_grown (p := p) (OF.out p)).mono ?_
                    rintro _ _ ⟨rfl, p, rfl⟩
                    go_wp2_with (first | ((with_reducible refine at_loadg 36 ?_); (first | (refine load_st rfl _ rfl _ _ rfl (lastS s A1 k1) RN ?_) | (refine load_st rfl _ rfl _ _ rfl (lastS s A1 k1) (BR _) ?_))))
                    refine (call_grown (p := p) (CL.out p)).mono ?_
                    rintro _ _ ⟨rfl, p, rfl⟩
                    go_wp2
                    go_ret
                    exact ⟨rfl, HB.out p⟩
  · have G := Lib.hid (great_is s true (Lib.hid hg))
    clear hg
    clear iL iK oL oK sk
    go_enter Try.func5, Try.ntmps5
    go_wp2_with (first | ((with_reducible refine at_loadg 36 ?_); (first | (refine load_st rfl _ rfl _ _ rfl s R1 ?_) | (refine load_st rfl _ rfl _ _ rfl s (B1 _) ?_))))
    refine (call_grown (p := (⟨(w.alloc (.cells s.cells 36)), Below.refl _ _⟩ : Grown (w.alloc (.cells s.cells 36)))) (G.out _)).mono ?_
    rintro _ _ ⟨rfl, p, rfl⟩
    go_wp2_with fail
    refine (call_grown (p := p) (lives_any _)).mono ?_
    rintro _ _ ⟨rfl, p, rfl⟩
    go_wp2
    go_ret
    exact ⟨rfl, bTrans (bAlloc (Below.refl _ _) _) p.below⟩
end

/-! The row's step, by the frame. -/
theorem own : ownKnob Try.prog.godebug = none := by kernel_rfl
theorem laidOut : laidOutB Try.prog = true := by kernel_rfl
set_option maxRecDepth 100000 in
theorem lifted (os : Os) (started : os.Started) (H : Type) (enc : TypeId × Value → H) :
    ReturnsInHanded {} Try.checked os 5 .any (Rows.extraEndsSpec.pre6 enc Try.prog Try.f5 Rows.extraEndsRow.domain false) (Rows.extraEndsSpec.post enc Try.prog Try.f5 false true false false) := by
  refine returnsInHanded_of_change_sized (C := Try.checked) own started (by kernel_rfl) Try.func5
    (ChangeSpec.witness6 (enc := enc) (C := Try.checked) false ⟨#[], #[St.state0.val, .bool false], []⟩ 8 (by kernel_rfl) (by kernel_rfl) (by kernel_rfl) (by kernel_rfl)) ?_
  intro W base args ds gs before hval0 hW _ hsz0 _
  have hsz : (DataW.weightsEach Try.prog (Try.f5.params.toList ++ Rows.extraEndsSpec.plain.varTypes Try.prog) (ds ++ gs)).all (· ≤ reachBytes) = true := hsz0
  have hval : ∀ (j : Nat) t v, Try.f5.params[j]? = some t → args[j]? = some v → Value.okWide Try.prog W .any base t v := hval0
  have hW' := hW
  obtain ⟨p, q, hA0, hV, rfl, hfz, hnd⟩ := hW
  have hA : DataW.TrodAll enc Try.prog W 0 (fun _ => true) true Try.f5.params.toList args.toList ds p := hA0
  rw [Try.params5] at hA hval hsz
  obtain ⟨v0, vs0, d0, ds0, p0, q0, hargs, rfl, rfl, h0, r0⟩ := trodAll_cons hA
  obtain ⟨v1, vs1, d1, ds1, p1, q1, rfl, rfl, rfl, h1, r1⟩ := trodAll_cons r0
  obtain ⟨rfl, rfl, rfl⟩ := trodAll_nil r1
  obtain rfl : args = #[v0, v1] := by cases args; simp_all
  obtain ⟨rfl, rfl⟩ := trodVars_none hV
  have k0 := h0
  have lt0 : ∀ x ∈ p0, x.block < W.heap.size := by obtain ⟨m, hm⟩ := k0; exact DataW.trod_lt m _ _ _ hm
  obtain ⟨s0, rfl, b0⟩ := state_arg (hval 0 36 v0 rfl rfl) h0
  obtain ⟨a1, rfl, rfl, rfl⟩ := open_bool Try.underlying4 (hval 1 4 v1 rfl rfl) h1
  clear hA0 hval0 hsz0
  refine (walk s0 a1 W b0).mono fun e W' ⟨he, bel⟩ => ?_
  subst he
  exact ⟨_, rfl, _, _, _, [], _, [], hW', trodAll_mk1 (shut_bool Try.underlying4 _), (trodAll_cons_mk (Below.trod laidOut (by kernel_rfl) (of_decide_eq_true (by kernel_rfl)) k0 bel lt0) (trodAll_cons_mk (shut_bool Try.underlying4 a1) trodAll_mk0)), rfl, bel.frame _, fun h => by cases h⟩

/-- The statement. -/
theorem proved : Rows.ExtraEndsSaid :=
  OpenClaim.holds_of_wide 5 Try.f5 rfl rfl rfl rfl rfl rfl rfl ⟨rfl, rfl, rfl, rfl, rfl⟩ rfl rfl rfl rfl rfl (by kernel_rfl) Try.func5 (by kernel_rfl)
    (of_decide_eq_true (by kernel_rfl)) (by unfold Func.isWrapper; first | (rw [if_pos (by decide +kernel)]; kernel_rfl) | (rw [if_neg (by decide +kernel)]; exact ⟨rfl, rfl⟩))
    (fun os started H enc _ => lifted os started H enc)
end Go.Proofs.Ytpjglhllbgmbhaa.extraEnds
