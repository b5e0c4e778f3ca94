
/- What is drawn stands by for that market and is not old; what is too much stands by; where there is too little it is old; gone, it leaves not too little, or was old: for every state and market the law returns true. No condition. -/
import Derived.Test.YtflnamahaclidaaWrmE
import Derived.Test.YtflnamahaclidaaWrmF
import Derived.Test.YtflnamahaclidaaStA
import Derived.Lib.AppendZeros
namespace Go.Proofs.Ytflnamahaclidaa.warmMuch
open Go.ChangeShapes Go.WideShapes Go.ChangeAt Go.RowKit
open Mem Arr Lst Rec Inst Grown Sums St Opens StA Extra Wrm
open Thg (ofS)
open Fnd (fndV fndB cutL)
set_option linter.unusedVariables false
section
attribute [local go_sem ↓] exec_st exec_ins Go.wp_at_zero Go.wp_at_succ

theorem own_cell {w : World} {base : Nat} {E : TypeId} {sz : Nat} {v : Value} {n : Nat} {V : Nat → Nat → Value} (h : Row.Own w base E sz v n V) {g : Nat} (hg : g < base) (k : Nat) (u : Value) : Row.Own (w.setCell ⟨g, k, none⟩ u) base E sz v n V := by
  rw [show w.setCell ⟨g, k, none⟩ u = w.setCell ⟨g, k, none⟩ u from rfl]
  refine ⟨h.1, ?_⟩
  rcases h.2 with h' | ⟨g1, cap, cur, h', hbg, hg1, hnc, hcm, hcs, ht⟩
  · exact .inl h'
  · exact .inr ⟨g1, cap, cur, h', hbg, (by
      unfold World.setCell
      simp [Array.getElem?_modify, show ¬ g = g1 by omega]
      exact hg1), hnc, hcm, hcs, ht⟩
set_option maxHeartbeats 8000000 in
theorem walk {H : Type} {enc : TypeId × Value → H} (s : State) (a1 : Bool) (w : World) (b0 : StOk s ∧ CfgIn enc w s.c ∧ CfgIn enc w s.b ∧ (∃ d p, DataW.Trod enc Try.prog w 0 (fun _ => true) true 29 (.slice s.qA s.qN s.qC) d p) ∧ (∃ d p, DataW.Trod enc Try.prog w 0 (fun _ => true) true 30 (.slice s.iA s.iN s.iC) d p) ∧ (∃ d p, DataW.Trod enc Try.prog w 0 (fun _ => true) true 31 (.slice s.oA s.oN s.oC) d p) ∧ (∃ d p, DataW.Trod enc Try.prog w 0 (fun _ => true) true 34 (.slice s.nA s.nN s.nC) d p)) :
    Calls Try.prog 4 #[s.val, .bool a1] w fun e w' => e = .returned (.bool true) ∧ Below w.heap.size w w' := by
  obtain ⟨sk, _, _, _, hI, hO, _⟩ := b0
  obtain ⟨L, iL, iK, i0, i1, i2⟩ := insts_in hI
  obtain ⟨O, oL, oK, o0, o1, o2⟩ := opns_in hO
  have hn : s.iN ≤ 9223372036854775807 := by unfold maxLen at i2; omega
  have hn2 : s.oN ≤ 9223372036854775807 := by unfold maxLen at o2; omega
  have HH : Sta s L O w := ⟨iL, oL, hn, hn2, (bounds_u32 sk.ver).1⟩
  clear hI hO
  have hcap : s.iC ≤ 9223372036854775807 := by unfold maxLen at i2; omega
  have B1 := box_new w s.cells 36
  have R1 : (w.alloc (.cells s.cells 36)).rangeAt w.heap.size 0 s.cells.toList := B1 ⟨_, Below.refl _ _⟩
  have g46 := box_cell B1 s.f46
  rcases hg : Wrm.greatB s with _ | _
  · have G := Lib.hid (Wrm.great_is s false (Lib.hid hg))
    have HS := Lib.hid (fun p : Grown (w.alloc (.cells s.cells 36)) => HH.box p)
    have BB := Lib.hid (fun p : Grown (w.alloc (.cells s.cells 36)) => bTrans (bAlloc (Below.refl _ w) (.cells s.cells 36)) p.below)
    have CL := Lib.hid (fun p : Grown (w.alloc (.cells s.cells 36)) => lives_any p.w1)
    have CF := Lib.hid (fun (p : Grown (w.alloc (.cells s.cells 36))) (id : Int) => Fnd.refFind_any s.iA s.iN s.iC L id p.w1 (HS.out p).i hn)
    have CO := Lib.hid (fun (x : Ins) (q : Bool) (e : oldB s x = q) => refOld_is s x q (Lib.hid e))
    have CT := Lib.hid (fun (p : Grown (w.alloc (.cells s.cells 36))) (q : Bool) (e : littleB s L O = q) => little_is s L O q e p.w1 (HS.out p))
    have HW := Lib.hid HH
    clear HH iL oL iK oK sk hg
    have rowlt := fun p : Grown (w.alloc (.cells s.cells 36)) => (Array.getElem?_eq_some_iff.1 (box_row p)).1
    rcases hdr : drawO s L a1 with _ | k
    · have CR := Lib.hid (fun p : Grown (w.alloc (.cells s.cells 36)) => draw_is s L O a1 none 0 false hdr rfl rfl p.w1 (HS.out p))
      obtain ⟨xz, hxz⟩ : ∃ x, fndV L s.iN 0 = x := ⟨_, rfl⟩
      obtain ⟨bz, hbz⟩ : ∃ x, fndB L s.iN 0 = x := ⟨_, rfl⟩
      clear hdr
      go_enter Try.func4, Try.ntmps4
      go_wp2_with (first | ((with_reducible refine St.at_loadg 36 ?_); (first | (refine load_st rfl _ rfl _ _ rfl s R1 ?_) | (refine load_st rfl _ rfl _ _ rfl s RS ?_) | (refine load_st rfl _ rfl _ _ rfl s (B1 _) ?_))) | ((with_reducible refine St.at_store 44 ?_); (first | (refine store_inp rfl _ _ rfl xx _ _ rfl rfl rfl ?_))) | ((with_reducible refine St.at_loadg 44 ?_); (first | (refine load_in rfl _ rfl _ _ rfl xx RX ?_) | (refine load_in rfl _ rfl _ _ rfl xx (RY _) ?_))))
      refine (call_grown (p := (⟨(w.alloc (.cells s.cells 36)), Below.refl _ _⟩ : Grown (w.alloc (.cells s.cells 36)))) (G.out _)).mono ?_
      rintro _ _ ⟨rfl, p, rfl⟩
      go_wp2_with (first | ((with_reducible refine St.at_loadg 36 ?_); (first | (refine load_st rfl _ rfl _ _ rfl s R1 ?_) | (refine load_st rfl _ rfl _ _ rfl s RS ?_) | (refine load_st rfl _ rfl _ _ rfl s (B1 _) ?_))) | ((with_reducible refine St.at_store 44 ?_); (first | (refine store_inp rfl _ _ rfl xx _ _ rfl rfl rfl ?_))) | ((with_reducible refine St.at_loadg 44 ?_); (first | (refine load_in rfl _ rfl _ _ rfl xx RX ?_) | (refine load_in rfl _ rfl _ _ rfl xx (RY _) ?_))))
      refine (call_grown (p := p) (CR.out p)).mono ?_
      rintro _ _ ⟨rfl, p, rfl⟩
      have gp := g46 p
      have CFz := CF.out p 0
      rw [hxz, hbz] at CFz
      replace CFz := Lib.hid CFz
      clear gp
      have gp := g46 p
      go_wp2_with (fail)
      refine (call_grown (p := p) (CFz.out)).mono ?_
      rintro _ _ ⟨rfl, p, rfl⟩
      have RS : (p.w1.alloc (.cells (Ins.cells xz) 44)).rangeAt w.heap.size 0 s.cells.toList := World.rangeAt_alloc (B1 p) _
      have RX : (p.w1.alloc (.cells (Ins.cells xz) 44)).rangeAt p.w1.heap.size 0 (Ins.cells xz).toList := range_new p.w1 _ _
      have RY := box_new p.w1 (Ins.cells xz) 44
      have z5 := fun q => box_cell RY (Ins.f5 xz) q
      have z4 := fun q => box_cell RY (Ins.f4 xz) q
      have z5' := z5 ⟨_, Below.refl _ _⟩
      have z4' := z4 ⟨_, Below.refl _ _⟩
      have gg := g46 ⟨p.w1.alloc (.cells (Ins.cells xz) 44), bAlloc p.below _⟩
      have PV : Hid (Below (w.alloc (.cells s.cells 36)).heap.size (w.alloc (.cells s.cells 36)) (p.w1.alloc (.cells (Ins.cells xz) 44))) := Lib.hid (bAlloc p.below _)
      rcases hmu : muchO s L O with _ | j
      · have CM := Lib.hid (fun p : Grown (w.alloc (.cells s.cells 36)) => much_is s L O none 0 false hmu rfl rfl p.w1 (HS.out p))
        clear hmu
        go_wp2_with (first | ((with_reducible refine St.at_loadg 36 ?_); (first | (refine load_st rfl _ rfl _ _ rfl s R1 ?_) | (refine load_st rfl _ rfl _ _ rfl s RS ?_) | (refine load_st rfl _ rfl _ _ rfl s (B1 _) ?_))) | ((with_reducible refine St.at_store 44 ?_); (first | (refine store_inp rfl _ _ rfl xz _ _ rfl rfl rfl ?_))) | ((with_reducible refine St.at_loadg 44 ?_); (first | (refine load_in rfl _ rfl _ _ rfl xz RX ?_) | (refine load_in rfl _ rfl _ _ rfl xz (RY _) ?_))))
        refine (call_grown (p := (⟨_, PV.out⟩ : Grown (w.alloc (.cells s.cells 36)))) (CM.out _)).mono ?_
        rintro _ _ ⟨rfl, p, rfl⟩
        go_wp2_with (fail)
        refine (call_grown (p := p) (CL.out p)).mono ?_
        rintro _ _ ⟨rfl, p, rfl⟩
        go_wp2
        go_ret
        exact ⟨rfl, BB.out p⟩
      · obtain ⟨hmy, hj, h8, hor⟩ := much_some hmu
        have CM := Lib.hid (fun p : Grown (w.alloc (.cells s.cells 36)) => much_is s L O (some j) (L j).id true hmu rfl rfl p.w1 (HS.out p))
        have HF := Lib.hid (Fnd.fnd_yes (id := (L j).id) (mayW_yes hmy).1 hj rfl)
        have d8 : ((L j).st != 8) = false := by simp [h8]
        clear hmu
        rcases hor with ho | ⟨ho, hroom⟩
        · have COj := Lib.hid (CO.out (L j) _ ho)
          clear ho hmy
          rcases hl : littleB s L O with _ | _
          · have CLT := Lib.hid (fun p : Grown (w.alloc (.cells s.cells 36)) => CT.out p _ hl)
            clear hl
            go_wp2_with (first | ((with_reducible refine St.at_loadg 36 ?_); (first | (refine load_st rfl _ rfl _ _ rfl s R1 ?_) | (refine load_st rfl _ rfl _ _ rfl s RS ?_) | (refine load_st rfl _ rfl _ _ rfl s (B1 _) ?_))) | ((with_reducible refine St.at_store 44 ?_); (first | (refine store_inp rfl _ _ rfl xz _ _ rfl rfl rfl ?_))) | ((with_reducible refine St.at_loadg 44 ?_); (first | (refine load_in rfl _ rfl _ _ rfl xz RX ?_) | (refine load_in rfl _ rfl _ _ rfl xz (RY _) ?_))))
            refine (call_grown (p := (⟨_, PV.out⟩ : Grown (w.alloc (.cells s.cells 36)))) (CM.out _)).mono ?_
            rintro _ _ ⟨rfl, p, rfl⟩
            have CFj := CF.out p (L j).id
            rw [HF.out.1, HF.out.2] at CFj
            replace CFj := Lib.hid CFj
            go_wp2_with (fail)
            refine (call_grown (p := p) (CFj.out)).mono ?_
            rintro _ _ ⟨rfl, p, rfl⟩
            have gp := g46 p
            have RS : (p.w1.alloc (.cells (Ins.cells (L j)) 44)).rangeAt w.heap.size 0 s.cells.toList := World.rangeAt_alloc (B1 p) _
            have RX : (p.w1.alloc (.cells (Ins.cells (L j)) 44)).rangeAt p.w1.heap.size 0 (Ins.cells (L j)).toList := range_new p.w1 _ _
            have RY := box_new p.w1 (Ins.cells (L j)) 44
            have z5 := fun q => box_cell RY (Ins.f5 (L j)) q
            have z4 := fun q => box_cell RY (Ins.f4 (L j)) q
            have z5' := z5 ⟨_, Below.refl _ _⟩
            have z4' := z4 ⟨_, Below.refl _ _⟩
            have gg := g46 ⟨p.w1.alloc (.cells (Ins.cells (L j)) 44), bAlloc p.below _⟩
            have PV : Hid (Below (w.alloc (.cells s.cells 36)).heap.size (w.alloc (.cells s.cells 36)) (p.w1.alloc (.cells (Ins.cells (L j)) 44))) := Lib.hid (bAlloc p.below _)
            go_wp2_with (first | ((with_reducible refine St.at_loadg 36 ?_); (first | (refine load_st rfl _ rfl _ _ rfl s R1 ?_) | (refine load_st rfl _ rfl _ _ rfl s RS ?_) | (refine load_st rfl _ rfl _ _ rfl s (B1 _) ?_))) | ((with_reducible refine St.at_store 44 ?_); (first | (refine store_inp rfl _ _ rfl (L j) _ _ rfl rfl rfl ?_))) | ((with_reducible refine St.at_loadg 44 ?_); (first | (refine load_in rfl _ rfl _ _ rfl (L j) RX ?_) | (refine load_in rfl _ rfl _ _ rfl (L j) (RY _) ?_))))
            refine (call_grown (p := (⟨_, Below.refl _ _⟩ : Grown (p.w1.alloc (.cells (Ins.cells (L j)) 44)))) (CLT.out ⟨_, PV.out⟩)).mono ?_
            rintro _ _ ⟨rfl, q, rfl⟩
            have BS : ∀ q : Grown (p.w1.alloc (.cells (Ins.cells (L j)) 44)), q.w1.rangeAt w.heap.size 0 s.cells.toList := fun q => B1 ⟨q.w1, bTrans PV.out q.below⟩
            go_wp2_with (first | ((with_reducible refine St.at_loadg 36 ?_); (first | (refine load_st rfl _ rfl _ _ rfl s R1 ?_) | (refine load_st rfl _ rfl _ _ rfl s RS ?_) | (refine load_st rfl _ rfl _ _ rfl s (BS _) ?_))) | ((with_reducible refine St.at_store 44 ?_); (first | (refine store_inp rfl _ _ rfl (L j) _ _ rfl rfl rfl ?_))) | ((with_reducible refine St.at_loadg 44 ?_); (first | (refine load_in rfl _ rfl _ _ rfl (L j) RX ?_) | (refine load_in rfl _ rfl _ _ rfl (L j) (RY _) ?_))))
            refine (call_grown (p := q) (COj.out _)).mono ?_
            rintro _ _ ⟨rfl, q, rfl⟩
            have bq := bTrans PV.out q.below
            obtain ⟨p, hp⟩ := grown_of bq
            rw [hp]
            clear CFj BS PV
            clear RS RX RY z5 z4 z5' z4' gg
            clear bq hp q
            go_wp2_with (fail)
            refine (call_grown (p := p) (CL.out p)).mono ?_
            rintro _ _ ⟨rfl, p, rfl⟩
            go_wp2
            go_ret
            exact ⟨rfl, BB.out p⟩
          · have CLT := Lib.hid (fun p : Grown (w.alloc (.cells s.cells 36)) => CT.out p _ hl)
            clear hl
            go_wp2_with (first | ((with_reducible refine St.at_loadg 36 ?_); (first | (refine load_st rfl _ rfl _ _ rfl s R1 ?_) | (refine load_st rfl _ rfl _ _ rfl s RS ?_) | (refine load_st rfl _ rfl _ _ rfl s (B1 _) ?_))) | ((with_reducible refine St.at_store 44 ?_); (first | (refine store_inp rfl _ _ rfl xz _ _ rfl rfl rfl ?_))) | ((with_reducible refine St.at_loadg 44 ?_); (first | (refine load_in rfl _ rfl _ _ rfl xz RX ?_) | (refine load_in rfl _ rfl _ _ rfl xz (RY _) ?_))))
            refine (call_grown (p := (⟨_, PV.out⟩ : Grown (w.alloc (.cells s.cells 36)))) (CM.out _)).mono ?_
            rintro _ _ ⟨rfl, p, rfl⟩
            have CFj := CF.out p (L j).id
            rw [HF.out.1, HF.out.2] at CFj
            replace CFj := Lib.hid CFj
            go_wp2_with (fail)
            refine (call_grown (p := p) (CFj.out)).mono ?_
            rintro _ _ ⟨rfl, p, rfl⟩
            have gp := g46 p
            have RS : (p.w1.alloc (.cells (Ins.cells (L j)) 44)).rangeAt w.heap.size 0 s.cells.toList := World.rangeAt_alloc (B1 p) _
            have RX : (p.w1.alloc (.cells (Ins.cells (L j)) 44)).rangeAt p.w1.heap.size 0 (Ins.cells (L j)).toList := range_new p.w1 _ _
            have RY := box_new p.w1 (Ins.cells (L j)) 44
            have z5 := fun q => box_cell RY (Ins.f5 (L j)) q
            have z4 := fun q => box_cell RY (Ins.f4 (L j)) q
            have z5' := z5 ⟨_, Below.refl _ _⟩
            have z4' := z4 ⟨_, Below.refl _ _⟩
            have gg := g46 ⟨p.w1.alloc (.cells (Ins.cells (L j)) 44), bAlloc p.below _⟩
            have PV : Hid (Below (w.alloc (.cells s.cells 36)).heap.size (w.alloc (.cells s.cells 36)) (p.w1.alloc (.cells (Ins.cells (L j)) 44))) := Lib.hid (bAlloc p.below _)
            go_wp2_with (first | ((with_reducible refine St.at_loadg 36 ?_); (first | (refine load_st rfl _ rfl _ _ rfl s R1 ?_) | (refine load_st rfl _ rfl _ _ rfl s RS ?_) | (refine load_st rfl _ rfl _ _ rfl s (B1 _) ?_))) | ((with_reducible refine St.at_store 44 ?_); (first | (refine store_inp rfl _ _ rfl (L j) _ _ rfl rfl rfl ?_))) | ((with_reducible refine St.at_loadg 44 ?_); (first | (refine load_in rfl _ rfl _ _ rfl (L j) RX ?_) | (refine load_in rfl _ rfl _ _ rfl (L j) (RY _) ?_))))
            refine (call_grown (p := (⟨_, Below.refl _ _⟩ : Grown (p.w1.alloc (.cells (Ins.cells (L j)) 44)))) (CLT.out ⟨_, PV.out⟩)).mono ?_
            rintro _ _ ⟨rfl, q, rfl⟩
            have BS : ∀ q : Grown (p.w1.alloc (.cells (Ins.cells (L j)) 44)), q.w1.rangeAt w.heap.size 0 s.cells.toList := fun q => B1 ⟨q.w1, bTrans PV.out q.below⟩
            go_wp2_with (first | ((with_reducible refine St.at_loadg 36 ?_); (first | (refine load_st rfl _ rfl _ _ rfl s R1 ?_) | (refine load_st rfl _ rfl _ _ rfl s RS ?_) | (refine load_st rfl _ rfl _ _ rfl s (BS _) ?_))) | ((with_reducible refine St.at_store 44 ?_); (first | (refine store_inp rfl _ _ rfl (L j) _ _ rfl rfl rfl ?_))) | ((with_reducible refine St.at_loadg 44 ?_); (first | (refine load_in rfl _ rfl _ _ rfl (L j) RX ?_) | (refine load_in rfl _ rfl _ _ rfl (L j) (RY _) ?_))))
            refine (call_grown (p := q) (COj.out _)).mono ?_
            rintro _ _ ⟨rfl, q, rfl⟩
            go_wp2_with (first | ((with_reducible refine St.at_loadg 36 ?_); (first | (refine load_st rfl _ rfl _ _ rfl s R1 ?_) | (refine load_st rfl _ rfl _ _ rfl s RS ?_) | (refine load_st rfl _ rfl _ _ rfl s (BS _) ?_))) | ((with_reducible refine St.at_store 44 ?_); (first | (refine store_inp rfl _ _ rfl (L j) _ _ rfl rfl rfl ?_))) | ((with_reducible refine St.at_loadg 44 ?_); (first | (refine load_in rfl _ rfl _ _ rfl (L j) RX ?_) | (refine load_in rfl _ rfl _ _ rfl (L j) (RY _) ?_))))
            refine (call_grown (p := q) (COj.out _)).mono ?_
            rintro _ _ ⟨rfl, q, rfl⟩
            have bq := bTrans PV.out q.below
            obtain ⟨p, hp⟩ := grown_of bq
            rw [hp]
            clear CFj BS PV
            clear RS RX RY z5 z4 z5' z4' gg
            clear bq hp q
            go_wp2_with (fail)
            refine (call_grown (p := p) (CL.out p)).mono ?_
            rintro _ _ ⟨rfl, p, rfl⟩
            go_wp2
            go_ret
            exact ⟨rfl, BB.out p⟩
        · have COj := Lib.hid (CO.out (L j) _ ho)
          have CLT := Lib.hid (fun p : Grown (w.alloc (.cells s.cells 36)) => CT.out p _ (not_little hmy hj hroom))
          have HD := Lib.hid (fun (A : Option Addr) (c : Nat) => drop_little A c hmy hj h8 ho hroom)
          have CD := Lib.hid (fun p : Grown (w.alloc (.cells s.cells 36)) => Fnd.refDrop_yes s.iA s.iN s.iC L (L j).id j p.w1 (HS.out p).i (mayW_yes hmy).1 hj rfl i1 hcap)
          clear ho hmy hroom
          go_wp2_with (first | ((with_reducible refine St.at_loadg 36 ?_); (first | (refine load_st rfl _ rfl _ _ rfl s R1 ?_) | (refine load_st rfl _ rfl _ _ rfl s RS ?_) | (refine load_st rfl _ rfl _ _ rfl s (B1 _) ?_))) | ((with_reducible refine St.at_store 44 ?_); (first | (refine store_inp rfl _ _ rfl xz _ _ rfl rfl rfl ?_))) | ((with_reducible refine St.at_loadg 44 ?_); (first | (refine load_in rfl _ rfl _ _ rfl xz RX ?_) | (refine load_in rfl _ rfl _ _ rfl xz (RY _) ?_))))
          refine (call_grown (p := (⟨_, PV.out⟩ : Grown (w.alloc (.cells s.cells 36)))) (CM.out _)).mono ?_
          rintro _ _ ⟨rfl, p, rfl⟩
          have CFj := CF.out p (L j).id
          rw [HF.out.1, HF.out.2] at CFj
          replace CFj := Lib.hid CFj
          go_wp2_with (fail)
          refine (call_grown (p := p) (CFj.out)).mono ?_
          rintro _ _ ⟨rfl, p, rfl⟩
          have gp := g46 p
          have RS : (p.w1.alloc (.cells (Ins.cells (L j)) 44)).rangeAt w.heap.size 0 s.cells.toList := World.rangeAt_alloc (B1 p) _
          have RX : (p.w1.alloc (.cells (Ins.cells (L j)) 44)).rangeAt p.w1.heap.size 0 (Ins.cells (L j)).toList := range_new p.w1 _ _
          have RY := box_new p.w1 (Ins.cells (L j)) 44
          have z5 := fun q => box_cell RY (Ins.f5 (L j)) q
          have z4 := fun q => box_cell RY (Ins.f4 (L j)) q
          have z5' := z5 ⟨_, Below.refl _ _⟩
          have z4' := z4 ⟨_, Below.refl _ _⟩
          have gg := g46 ⟨p.w1.alloc (.cells (Ins.cells (L j)) 44), bAlloc p.below _⟩
          have PV : Hid (Below (w.alloc (.cells s.cells 36)).heap.size (w.alloc (.cells s.cells 36)) (p.w1.alloc (.cells (Ins.cells (L j)) 44))) := Lib.hid (bAlloc p.below _)
          go_wp2_with (first | ((with_reducible refine St.at_loadg 36 ?_); (first | (refine load_st rfl _ rfl _ _ rfl s R1 ?_) | (refine load_st rfl _ rfl _ _ rfl s RS ?_) | (refine load_st rfl _ rfl _ _ rfl s (B1 _) ?_))) | ((with_reducible refine St.at_store 44 ?_); (first | (refine store_inp rfl _ _ rfl (L j) _ _ rfl rfl rfl ?_))) | ((with_reducible refine St.at_loadg 44 ?_); (first | (refine load_in rfl _ rfl _ _ rfl (L j) RX ?_) | (refine load_in rfl _ rfl _ _ rfl (L j) (RY _) ?_))))
          refine (call_grown (p := (⟨_, Below.refl _ _⟩ : Grown (p.w1.alloc (.cells (Ins.cells (L j)) 44)))) (CLT.out ⟨_, PV.out⟩)).mono ?_
          rintro _ _ ⟨rfl, q, rfl⟩
          have BS : ∀ q : Grown (p.w1.alloc (.cells (Ins.cells (L j)) 44)), q.w1.rangeAt w.heap.size 0 s.cells.toList := fun q => B1 ⟨q.w1, bTrans PV.out q.below⟩
          go_wp2_with (first | ((with_reducible refine St.at_loadg 36 ?_); (first | (refine load_st rfl _ rfl _ _ rfl s R1 ?_) | (refine load_st rfl _ rfl _ _ rfl s RS ?_) | (refine load_st rfl _ rfl _ _ rfl s (BS _) ?_))) | ((with_reducible refine St.at_store 44 ?_); (first | (refine store_inp rfl _ _ rfl (L j) _ _ rfl rfl rfl ?_))) | ((with_reducible refine St.at_loadg 44 ?_); (first | (refine load_in rfl _ rfl _ _ rfl (L j) RX ?_) | (refine load_in rfl _ rfl _ _ rfl (L j) (RY _) ?_))))
          refine (call_grown (p := q) (COj.out _)).mono ?_
          rintro _ _ ⟨rfl, q, rfl⟩
          have bq := bTrans PV.out q.below
          obtain ⟨p, hp⟩ := grown_of bq
          rw [hp]
          clear CFj BS PV
          clear RS RX RY z5 z4 z5' z4' gg
          clear bq hp q
          have gp := g46 p
          go_wp2_with fail
          refine (CD.out p).mono ?_
          rintro _ u ⟨⟨A9, c9, rfl, ⟨B9, hB9, own9⟩, l9, m9⟩, bu⟩
          have hlt := rowlt p
          have rowS : u.heap[w.heap.size]? = some (.cells s.cells 36 (0, 0)) := box_row (⟨u, bTrans p.below bu⟩ : Grown (w.alloc (.cells s.cells 36)))
          have c46 : u.cell? ⟨w.heap.size, 46, none⟩ = some (.slice s.iA s.iN s.iC) := cell_row' rowS s.f46
          have fr : ∀ k, u.frozen? ⟨w.heap.size, k, none⟩ = false := St0.free_row rowS
          have rowT : (u.setCell ⟨w.heap.size, 46, none⟩ (.slice A9 (s.iN - 1) c9)).heap[w.heap.size]? = some (.cells (dropS s A9 c9).cells 36 (0, 0)) := by
            rw [St0.setCell_row rowS, drop_cells]; exact St0.row_at rowS
          have RT := St0.range_row rowT
          have BT : Below w.heap.size w (u.setCell ⟨w.heap.size, 46, none⟩ (.slice A9 (s.iN - 1) c9)) := bSet (BB.out ⟨u, bTrans p.below bu⟩) (p := ⟨w.heap.size, 46, none⟩) (Nat.le_refl _) (.slice A9 (s.iN - 1) c9)
          have own10 := own_cell own9.out (Nat.lt_of_lt_of_le hlt hB9) 46 (.slice A9 (s.iN - 1) c9)
          have ST : Sta (dropS s A9 c9) (cutL L j) O (u.setCell ⟨w.heap.size, 46, none⟩ (.slice A9 (s.iN - 1) c9)) := ⟨own10.recs, HW.out.o.later BT, by show s.iN - 1 ≤ _; omega, hn2, HW.out.hv⟩
          have CZ := Lib.hid (little_is (dropS s A9 c9) (cutL L j) O false (HD.out A9 c9) _ ST)
          replace BT := Lib.hid BT
          clear own9 own10 ST rowS rowT l9 m9 bu hB9 hlt
          go_wp2_with (((with_reducible refine St.at_loadg 36 ?_); (first | (refine load_st rfl _ rfl _ _ rfl (dropS s A9 c9) RT ?_))))
          refine CZ.out.mono ?_
          rintro _ u2 ⟨rfl, b2⟩
          go_wp2_with fail
          refine (lives_any _).mono ?_
          rintro _ u3 ⟨rfl, b3⟩
          go_wp2
          go_ret
          exact ⟨rfl, bTrans (bTrans BT.out b2) b3⟩
    · obtain ⟨hmy0, hk0, k8, ksp, kold⟩ := draw_some hdr
      have CR := Lib.hid (fun p : Grown (w.alloc (.cells s.cells 36)) => draw_is s L O a1 (some k) (L k).id true hdr rfl rfl p.w1 (HS.out p))
      have HF0 := Lib.hid (Fnd.fnd_yes (id := (L k).id) (mayW_yes hmy0).1 hk0 rfl)
      have e8 : ((L k).st != 8) = false := by simp [k8]
      have e4 : ((L k).spot != a1) = false := by simp [ksp]
      have COk := Lib.hid (CO.out (L k) _ kold)
      clear hdr hmy0 kold
      go_enter Try.func4, Try.ntmps4
      go_wp2_with (first | ((with_reducible refine St.at_loadg 36 ?_); (first | (refine load_st rfl _ rfl _ _ rfl s R1 ?_) | (refine load_st rfl _ rfl _ _ rfl s RS ?_) | (refine load_st rfl _ rfl _ _ rfl s (B1 _) ?_))) | ((with_reducible refine St.at_store 44 ?_); (first | (refine store_inp rfl _ _ rfl xx _ _ rfl rfl rfl ?_))) | ((with_reducible refine St.at_loadg 44 ?_); (first | (refine load_in rfl _ rfl _ _ rfl xx RX ?_) | (refine load_in rfl _ rfl _ _ rfl xx (RY _) ?_))))
      refine (call_grown (p := (⟨(w.alloc (.cells s.cells 36)), Below.refl _ _⟩ : Grown (w.alloc (.cells s.cells 36)))) (G.out _)).mono ?_
      rintro _ _ ⟨rfl, p, rfl⟩
      go_wp2_with (first | ((with_reducible refine St.at_loadg 36 ?_); (first | (refine load_st rfl _ rfl _ _ rfl s R1 ?_) | (refine load_st rfl _ rfl _ _ rfl s RS ?_) | (refine load_st rfl _ rfl _ _ rfl s (B1 _) ?_))) | ((with_reducible refine St.at_store 44 ?_); (first | (refine store_inp rfl _ _ rfl xx _ _ rfl rfl rfl ?_))) | ((with_reducible refine St.at_loadg 44 ?_); (first | (refine load_in rfl _ rfl _ _ rfl xx RX ?_) | (refine load_in rfl _ rfl _ _ rfl xx (RY _) ?_))))
      refine (call_grown (p := p) (CR.out p)).mono ?_
      rintro _ _ ⟨rfl, p, rfl⟩
      have gp := g46 p
      have CFz := CF.out p (L k).id
      rw [HF0.out.1, HF0.out.2] at CFz
      replace CFz := Lib.hid CFz
      clear gp
      have gp := g46 p
      go_wp2_with (fail)
      refine (call_grown (p := p) (CFz.out)).mono ?_
      rintro _ _ ⟨rfl, p, rfl⟩
      have RS : (p.w1.alloc (.cells (Ins.cells (L k)) 44)).rangeAt w.heap.size 0 s.cells.toList := World.rangeAt_alloc (B1 p) _
      have RX : (p.w1.alloc (.cells (Ins.cells (L k)) 44)).rangeAt p.w1.heap.size 0 (Ins.cells (L k)).toList := range_new p.w1 _ _
      have RY := box_new p.w1 (Ins.cells (L k)) 44
      have z5 := fun q => box_cell RY (Ins.f5 (L k)) q
      have z4 := fun q => box_cell RY (Ins.f4 (L k)) q
      have z5' := z5 ⟨_, Below.refl _ _⟩
      have z4' := z4 ⟨_, Below.refl _ _⟩
      have gg := g46 ⟨p.w1.alloc (.cells (Ins.cells (L k)) 44), bAlloc p.below _⟩
      have PV : Hid (Below (w.alloc (.cells s.cells 36)).heap.size (w.alloc (.cells s.cells 36)) (p.w1.alloc (.cells (Ins.cells (L k)) 44))) := Lib.hid (bAlloc p.below _)
      go_wp2_with (first | ((with_reducible refine St.at_loadg 36 ?_); (first | (refine load_st rfl _ rfl _ _ rfl s R1 ?_) | (refine load_st rfl _ rfl _ _ rfl s RS ?_) | (refine load_st rfl _ rfl _ _ rfl s (B1 _) ?_))) | ((with_reducible refine St.at_store 44 ?_); (first | (refine store_inp rfl _ _ rfl (L k) _ _ rfl rfl rfl ?_))) | ((with_reducible refine St.at_loadg 44 ?_); (first | (refine load_in rfl _ rfl _ _ rfl (L k) RX ?_) | (refine load_in rfl _ rfl _ _ rfl (L k) (RY _) ?_))))
      refine (call_grown (p := (⟨_, PV.out⟩ : Grown (w.alloc (.cells s.cells 36)))) (COk.out _)).mono ?_
      rintro _ _ ⟨rfl, p, rfl⟩
      clear RS RX RY z5 z4 z5' z4' gg
      rcases hmu : muchO s L O with _ | j
      · have CM := Lib.hid (fun p : Grown (w.alloc (.cells s.cells 36)) => much_is s L O none 0 false hmu rfl rfl p.w1 (HS.out p))
        clear hmu
        go_wp2_with (first | ((with_reducible refine St.at_loadg 36 ?_); (first | (refine load_st rfl _ rfl _ _ rfl s R1 ?_) | (refine load_st rfl _ rfl _ _ rfl s RS ?_) | (refine load_st rfl _ rfl _ _ rfl s (B1 _) ?_))) | ((with_reducible refine St.at_store 44 ?_); (first | (refine store_inp rfl _ _ rfl (L k) _ _ rfl rfl rfl ?_))) | ((with_reducible refine St.at_loadg 44 ?_); (first | (refine load_in rfl _ rfl _ _ rfl (L k) RX ?_) | (refine load_in rfl _ rfl _ _ rfl (L k) (RY _) ?_))))
        refine (call_grown (p := p) (CM.out _)).mono ?_
        rintro _ _ ⟨rfl, p, rfl⟩
        go_wp2_with (fail)
        refine (call_grown (p := p) (CL.out p)).mono ?_
        rintro _ _ ⟨rfl, p, rfl⟩
        go_wp2
        go_ret
        exact ⟨rfl, BB.out p⟩
      · obtain ⟨hmy, hj, h8, hor⟩ := much_some hmu
        have CM := Lib.hid (fun p : Grown (w.alloc (.cells s.cells 36)) => much_is s L O (some j) (L j).id true hmu rfl rfl p.w1 (HS.out p))
        have HF := Lib.hid (Fnd.fnd_yes (id := (L j).id) (mayW_yes hmy).1 hj rfl)
        have d8 : ((L j).st != 8) = false := by simp [h8]
        clear hmu
        rcases hor with ho | ⟨ho, hroom⟩
        · have COj := Lib.hid (CO.out (L j) _ ho)
          clear ho hmy
          rcases hl : littleB s L O with _ | _
          · have CLT := Lib.hid (fun p : Grown (w.alloc (.cells s.cells 36)) => CT.out p _ hl)
            clear hl
            go_wp2_with (first | ((with_reducible refine St.at_loadg 36 ?_); (first | (refine load_st rfl _ rfl _ _ rfl s R1 ?_) | (refine load_st rfl _ rfl _ _ rfl s RS ?_) | (refine load_st rfl _ rfl _ _ rfl s (B1 _) ?_))) | ((with_reducible refine St.at_store 44 ?_); (first | (refine store_inp rfl _ _ rfl (L k) _ _ rfl rfl rfl ?_))) | ((with_reducible refine St.at_loadg 44 ?_); (first | (refine load_in rfl _ rfl _ _ rfl (L k) RX ?_) | (refine load_in rfl _ rfl _ _ rfl (L k) (RY _) ?_))))
            refine (call_grown (p := p) (CM.out _)).mono ?_
            rintro _ _ ⟨rfl, p, rfl⟩
            have CFj := CF.out p (L j).id
            rw [HF.out.1, HF.out.2] at CFj
            replace CFj := Lib.hid CFj
            go_wp2_with (fail)
            refine (call_grown (p := p) (CFj.out)).mono ?_
            rintro _ _ ⟨rfl, p, rfl⟩
            have gp := g46 p
            have RS : (p.w1.alloc (.cells (Ins.cells (L j)) 44)).rangeAt w.heap.size 0 s.cells.toList := World.rangeAt_alloc (B1 p) _
            have RX : (p.w1.alloc (.cells (Ins.cells (L j)) 44)).rangeAt p.w1.heap.size 0 (Ins.cells (L j)).toList := range_new p.w1 _ _
            have RY := box_new p.w1 (Ins.cells (L j)) 44
            have z5 := fun q => box_cell RY (Ins.f5 (L j)) q
            have z4 := fun q => box_cell RY (Ins.f4 (L j)) q
            have z5' := z5 ⟨_, Below.refl _ _⟩
            have z4' := z4 ⟨_, Below.refl _ _⟩
            have gg := g46 ⟨p.w1.alloc (.cells (Ins.cells (L j)) 44), bAlloc p.below _⟩
            have PV : Hid (Below (w.alloc (.cells s.cells 36)).heap.size (w.alloc (.cells s.cells 36)) (p.w1.alloc (.cells (Ins.cells (L j)) 44))) := Lib.hid (bAlloc p.below _)
            go_wp2_with (first | ((with_reducible refine St.at_loadg 36 ?_); (first | (refine load_st rfl _ rfl _ _ rfl s R1 ?_) | (refine load_st rfl _ rfl _ _ rfl s RS ?_) | (refine load_st rfl _ rfl _ _ rfl s (B1 _) ?_))) | ((with_reducible refine St.at_store 44 ?_); (first | (refine store_inp rfl _ _ rfl (L j) _ _ rfl rfl rfl ?_))) | ((with_reducible refine St.at_loadg 44 ?_); (first | (refine load_in rfl _ rfl _ _ rfl (L j) RX ?_) | (refine load_in rfl _ rfl _ _ rfl (L j) (RY _) ?_))))
            refine (call_grown (p := (⟨_, Below.refl _ _⟩ : Grown (p.w1.alloc (.cells (Ins.cells (L j)) 44)))) (CLT.out ⟨_, PV.out⟩)).mono ?_
            rintro _ _ ⟨rfl, q, rfl⟩
            have BS : ∀ q : Grown (p.w1.alloc (.cells (Ins.cells (L j)) 44)), q.w1.rangeAt w.heap.size 0 s.cells.toList := fun q => B1 ⟨q.w1, bTrans PV.out q.below⟩
            go_wp2_with (first | ((with_reducible refine St.at_loadg 36 ?_); (first | (refine load_st rfl _ rfl _ _ rfl s R1 ?_) | (refine load_st rfl _ rfl _ _ rfl s RS ?_) | (refine load_st rfl _ rfl _ _ rfl s (BS _) ?_))) | ((with_reducible refine St.at_store 44 ?_); (first | (refine store_inp rfl _ _ rfl (L j) _ _ rfl rfl rfl ?_))) | ((with_reducible refine St.at_loadg 44 ?_); (first | (refine load_in rfl _ rfl _ _ rfl (L j) RX ?_) | (refine load_in rfl _ rfl _ _ rfl (L j) (RY _) ?_))))
            refine (call_grown (p := q) (COj.out _)).mono ?_
            rintro _ _ ⟨rfl, q, rfl⟩
            have bq := bTrans PV.out q.below
            obtain ⟨p, hp⟩ := grown_of bq
            rw [hp]
            clear CFj BS PV
            clear RS RX RY z5 z4 z5' z4' gg
            clear bq hp q
            go_wp2_with (fail)
            refine (call_grown (p := p) (CL.out p)).mono ?_
            rintro _ _ ⟨rfl, p, rfl⟩
            go_wp2
            go_ret
            exact ⟨rfl, BB.out p⟩
          · have CLT := Lib.hid (fun p : Grown (w.alloc (.cells s.cells 36)) => CT.out p _ hl)
            clear hl
            go_wp2_with (first | ((with_reducible refine St.at_loadg 36 ?_); (first | (refine load_st rfl _ rfl _ _ rfl s R1 ?_) | (refine load_st rfl _ rfl _ _ rfl s RS ?_) | (refine load_st rfl _ rfl _ _ rfl s (B1 _) ?_))) | ((with_reducible refine St.at_store 44 ?_); (first | (refine store_inp rfl _ _ rfl (L k) _ _ rfl rfl rfl ?_))) | ((with_reducible refine St.at_loadg 44 ?_); (first | (refine load_in rfl _ rfl _ _ rfl (L k) RX ?_) | (refine load_in rfl _ rfl _ _ rfl (L k) (RY _) ?_))))
            refine (call_grown (p := p) (CM.out _)).mono ?_
            rintro _ _ ⟨rfl, p, rfl⟩
            have CFj := CF.out p (L j).id
            rw [HF.out.1, HF.out.2] at CFj
            replace CFj := Lib.hid CFj
            go_wp2_with (fail)
            refine (call_grown (p := p) (CFj.out)).mono ?_
            rintro _ _ ⟨rfl, p, rfl⟩
            have gp := g46 p
            have RS : (p.w1.alloc (.cells (Ins.cells (L j)) 44)).rangeAt w.heap.size 0 s.cells.toList := World.rangeAt_alloc (B1 p) _
            have RX : (p.w1.alloc (.cells (Ins.cells (L j)) 44)).rangeAt p.w1.heap.size 0 (Ins.cells (L j)).toList := range_new p.w1 _ _
            have RY := box_new p.w1 (Ins.cells (L j)) 44
            have z5 := fun q => box_cell RY (Ins.f5 (L j)) q
            have z4 := fun q => box_cell RY (Ins.f4 (L j)) q
            have z5' := z5 ⟨_, Below.refl _ _⟩
            have z4' := z4 ⟨_, Below.refl _ _⟩
            have gg := g46 ⟨p.w1.alloc (.cells (Ins.cells (L j)) 44), bAlloc p.below _⟩
            have PV : Hid (Below (w.alloc (.cells s.cells 36)).heap.size (w.alloc (.cells s.cells 36)) (p.w1.alloc (.cells (Ins.cells (L j)) 44))) := Lib.hid (bAlloc p.below _)
            go_wp2_with (first | ((with_reducible refine St.at_loadg 36 ?_); (first | (refine load_st rfl _ rfl _ _ rfl s R1 ?_) | (refine load_st rfl _ rfl _ _ rfl s RS ?_) | (refine load_st rfl _ rfl _ _ rfl s (B1 _) ?_))) | ((with_reducible refine St.at_store 44 ?_); (first | (refine store_inp rfl _ _ rfl (L j) _ _ rfl rfl rfl ?_))) | ((with_reducible refine St.at_loadg 44 ?_); (first | (refine load_in rfl _ rfl _ _ rfl (L j) RX ?_) | (refine load_in rfl _ rfl _ _ rfl (L j) (RY _) ?_))))
            refine (call_grown (p := (⟨_, Below.refl _ _⟩ : Grown (p.w1.alloc (.cells (Ins.cells (L j)) 44)))) (CLT.out ⟨_, PV.out⟩)).mono ?_
            rintro _ _ ⟨rfl, q, rfl⟩
            have BS : ∀ q : Grown (p.w1.alloc (.cells (Ins.cells (L j)) 44)), q.w1.rangeAt w.heap.size 0 s.cells.toList := fun q => B1 ⟨q.w1, bTrans PV.out q.below⟩
            go_wp2_with (first | ((with_reducible refine St.at_loadg 36 ?_); (first | (refine load_st rfl _ rfl _ _ rfl s R1 ?_) | (refine load_st rfl _ rfl _ _ rfl s RS ?_) | (refine load_st rfl _ rfl _ _ rfl s (BS _) ?_))) | ((with_reducible refine St.at_store 44 ?_); (first | (refine store_inp rfl _ _ rfl (L j) _ _ rfl rfl rfl ?_))) | ((with_reducible refine St.at_loadg 44 ?_); (first | (refine load_in rfl _ rfl _ _ rfl (L j) RX ?_) | (refine load_in rfl _ rfl _ _ rfl (L j) (RY _) ?_))))
            refine (call_grown (p := q) (COj.out _)).mono ?_
            rintro _ _ ⟨rfl, q, rfl⟩
            go_wp2_with (first | ((with_reducible refine St.at_loadg 36 ?_); (first | (refine load_st rfl _ rfl _ _ rfl s R1 ?_) | (refine load_st rfl _ rfl _ _ rfl s RS ?_) | (refine load_st rfl _ rfl _ _ rfl s (BS _) ?_))) | ((with_reducible refine St.at_store 44 ?_); (first | (refine store_inp rfl _ _ rfl (L j) _ _ rfl rfl rfl ?_))) | ((with_reducible refine St.at_loadg 44 ?_); (first | (refine load_in rfl _ rfl _ _ rfl (L j) RX ?_) | (refine load_in rfl _ rfl _ _ rfl (L j) (RY _) ?_))))
            refine (call_grown (p := q) (COj.out _)).mono ?_
            rintro _ _ ⟨rfl, q, rfl⟩
            have bq := bTrans PV.out q.below
            obtain ⟨p, hp⟩ := grown_of bq
            rw [hp]
            clear CFj BS PV
            clear RS RX RY z5 z4 z5' z4' gg
            clear bq hp q
            go_wp2_with (fail)
            refine (call_grown (p := p) (CL.out p)).mono ?_
            rintro _ _ ⟨rfl, p, rfl⟩
            go_wp2
            go_ret
            exact ⟨rfl, BB.out p⟩
        · have COj := Lib.hid (CO.out (L j) _ ho)
          have CLT := Lib.hid (fun p : Grown (w.alloc (.cells s.cells 36)) => CT.out p _ (not_little hmy hj hroom))
          have HD := Lib.hid (fun (A : Option Addr) (c : Nat) => drop_little A c hmy hj h8 ho hroom)
          have CD := Lib.hid (fun p : Grown (w.alloc (.cells s.cells 36)) => Fnd.refDrop_yes s.iA s.iN s.iC L (L j).id j p.w1 (HS.out p).i (mayW_yes hmy).1 hj rfl i1 hcap)
          clear ho hmy hroom
          go_wp2_with (first | ((with_reducible refine St.at_loadg 36 ?_); (first | (refine load_st rfl _ rfl _ _ rfl s R1 ?_) | (refine load_st rfl _ rfl _ _ rfl s RS ?_) | (refine load_st rfl _ rfl _ _ rfl s (B1 _) ?_))) | ((with_reducible refine St.at_store 44 ?_); (first | (refine store_inp rfl _ _ rfl (L k) _ _ rfl rfl rfl ?_))) | ((with_reducible refine St.at_loadg 44 ?_); (first | (refine load_in rfl _ rfl _ _ rfl (L k) RX ?_) | (refine load_in rfl _ rfl _ _ rfl (L k) (RY _) ?_))))
          refine (call_grown (p := p) (CM.out _)).mono ?_
          rintro _ _ ⟨rfl, p, rfl⟩
          have CFj := CF.out p (L j).id
          rw [HF.out.1, HF.out.2] at CFj
          replace CFj := Lib.hid CFj
          go_wp2_with (fail)
          refine (call_grown (p := p) (CFj.out)).mono ?_
          rintro _ _ ⟨rfl, p, rfl⟩
          have gp := g46 p
          have RS : (p.w1.alloc (.cells (Ins.cells (L j)) 44)).rangeAt w.heap.size 0 s.cells.toList := World.rangeAt_alloc (B1 p) _
          have RX : (p.w1.alloc (.cells (Ins.cells (L j)) 44)).rangeAt p.w1.heap.size 0 (Ins.cells (L j)).toList := range_new p.w1 _ _
          have RY := box_new p.w1 (Ins.cells (L j)) 44
          have z5 := fun q => box_cell RY (Ins.f5 (L j)) q
          have z4 := fun q => box_cell RY (Ins.f4 (L j)) q
          have z5' := z5 ⟨_, Below.refl _ _⟩
          have z4' := z4 ⟨_, Below.refl _ _⟩
          have gg := g46 ⟨p.w1.alloc (.cells (Ins.cells (L j)) 44), bAlloc p.below _⟩
          have PV : Hid (Below (w.alloc (.cells s.cells 36)).heap.size (w.alloc (.cells s.cells 36)) (p.w1.alloc (.cells (Ins.cells (L j)) 44))) := Lib.hid (bAlloc p.below _)
          go_wp2_with (first | ((with_reducible refine St.at_loadg 36 ?_); (first | (refine load_st rfl _ rfl _ _ rfl s R1 ?_) | (refine load_st rfl _ rfl _ _ rfl s RS ?_) | (refine load_st rfl _ rfl _ _ rfl s (B1 _) ?_))) | ((with_reducible refine St.at_store 44 ?_); (first | (refine store_inp rfl _ _ rfl (L j) _ _ rfl rfl rfl ?_))) | ((with_reducible refine St.at_loadg 44 ?_); (first | (refine load_in rfl _ rfl _ _ rfl (L j) RX ?_) | (refine load_in rfl _ rfl _ _ rfl (L j) (RY _) ?_))))
          refine (call_grown (p := (⟨_, Below.refl _ _⟩ : Grown (p.w1.alloc (.cells (Ins.cells (L j)) 44)))) (CLT.out ⟨_, PV.out⟩)).mono ?_
          rintro _ _ ⟨rfl, q, rfl⟩
          have BS : ∀ q : Grown (p.w1.alloc (.cells (Ins.cells (L j)) 44)), q.w1.rangeAt w.heap.size 0 s.cells.toList := fun q => B1 ⟨q.w1, bTrans PV.out q.below⟩
          go_wp2_with (first | ((with_reducible refine St.at_loadg 36 ?_); (first | (refine load_st rfl _ rfl _ _ rfl s R1 ?_) | (refine load_st rfl _ rfl _ _ rfl s RS ?_) | (refine load_st rfl _ rfl _ _ rfl s (BS _) ?_))) | ((with_reducible refine St.at_store 44 ?_); (first | (refine store_inp rfl _ _ rfl (L j) _ _ rfl rfl rfl ?_))) | ((with_reducible refine St.at_loadg 44 ?_); (first | (refine load_in rfl _ rfl _ _ rfl (L j) RX ?_) | (refine load_in rfl _ rfl _ _ rfl (L j) (RY _) ?_))))
          refine (call_grown (p := q) (COj.out _)).mono ?_
          rintro _ _ ⟨rfl, q, rfl⟩
          have bq := bTrans PV.out q.below
          obtain ⟨p, hp⟩ := grown_of bq
          rw [hp]
          clear CFj BS PV
          clear RS RX RY z5 z4 z5' z4' gg
          clear bq hp q
          have gp := g46 p
          go_wp2_with fail
          refine (CD.out p).mono ?_
          rintro _ u ⟨⟨A9, c9, rfl, ⟨B9, hB9, own9⟩, l9, m9⟩, bu⟩
          have hlt := rowlt p
          have rowS : u.heap[w.heap.size]? = some (.cells s.cells 36 (0, 0)) := box_row (⟨u, bTrans p.below bu⟩ : Grown (w.alloc (.cells s.cells 36)))
          have c46 : u.cell? ⟨w.heap.size, 46, none⟩ = some (.slice s.iA s.iN s.iC) := cell_row' rowS s.f46
          have fr : ∀ k, u.frozen? ⟨w.heap.size, k, none⟩ = false := St0.free_row rowS
          have rowT : (u.setCell ⟨w.heap.size, 46, none⟩ (.slice A9 (s.iN - 1) c9)).heap[w.heap.size]? = some (.cells (dropS s A9 c9).cells 36 (0, 0)) := by
            rw [St0.setCell_row rowS, drop_cells]; exact St0.row_at rowS
          have RT := St0.range_row rowT
          have BT : Below w.heap.size w (u.setCell ⟨w.heap.size, 46, none⟩ (.slice A9 (s.iN - 1) c9)) := bSet (BB.out ⟨u, bTrans p.below bu⟩) (p := ⟨w.heap.size, 46, none⟩) (Nat.le_refl _) (.slice A9 (s.iN - 1) c9)
          have own10 := own_cell own9.out (Nat.lt_of_lt_of_le hlt hB9) 46 (.slice A9 (s.iN - 1) c9)
          have ST : Sta (dropS s A9 c9) (cutL L j) O (u.setCell ⟨w.heap.size, 46, none⟩ (.slice A9 (s.iN - 1) c9)) := ⟨own10.recs, HW.out.o.later BT, by show s.iN - 1 ≤ _; omega, hn2, HW.out.hv⟩
          have CZ := Lib.hid (little_is (dropS s A9 c9) (cutL L j) O false (HD.out A9 c9) _ ST)
          replace BT := Lib.hid BT
          clear own9 own10 ST rowS rowT l9 m9 bu hB9 hlt
          go_wp2_with (((with_reducible refine St.at_loadg 36 ?_); (first | (refine load_st rfl _ rfl _ _ rfl (dropS s A9 c9) RT ?_))))
          refine CZ.out.mono ?_
          rintro _ u2 ⟨rfl, b2⟩
          go_wp2_with fail
          refine (lives_any _).mono ?_
          rintro _ u3 ⟨rfl, b3⟩
          go_wp2
          go_ret
          exact ⟨rfl, bTrans (bTrans BT.out b2) b3⟩
  · have G := Lib.hid (Wrm.great_is s true (Lib.hid hg))
    clear hg HH iL oL iK oK sk
    go_enter Try.func4, Try.ntmps4
    go_wp2_with (first | ((with_reducible refine St.at_loadg 36 ?_); (first | (refine load_st rfl _ rfl _ _ rfl s R1 ?_) | (refine load_st rfl _ rfl _ _ rfl s (B1 _) ?_))))
    refine (call_grown (p := (⟨(w.alloc (.cells s.cells 36)), Below.refl _ _⟩ : Grown (w.alloc (.cells s.cells 36)))) (G.out _)).mono ?_
    rintro _ _ ⟨rfl, p, rfl⟩
    go_wp2_with fail
    refine (call_grown (p := p) (lives_any _)).mono ?_
    rintro _ _ ⟨rfl, p, rfl⟩
    go_wp2
    go_ret
    exact ⟨rfl, bTrans (bAlloc (Below.refl _ _) _) p.below⟩
end

/-! The row's step, by the frame. -/
theorem own : ownKnob Try.prog.godebug = none := by kernel_rfl
theorem laidOut : laidOutB Try.prog = true := by kernel_rfl
set_option maxRecDepth 100000 in
theorem lifted (os : Os) (started : os.Started) (H : Type) (enc : TypeId × Value → H) :
    ReturnsInHanded {} Try.checked os 4 .any (Rows.warmMuchSpec.pre6 enc Try.prog Try.f4 Rows.warmMuchRow.domain false) (Rows.warmMuchSpec.post enc Try.prog Try.f4 false true false false) := by
  refine returnsInHanded_of_change_sized (C := Try.checked) own started (by kernel_rfl) Try.func4
    (ChangeSpec.witness6 (enc := enc) (C := Try.checked) false ⟨#[], #[St.state0.val, .bool false], []⟩ 8 (by kernel_rfl) (by kernel_rfl) (by kernel_rfl) (by kernel_rfl)) ?_
  intro W base args ds gs before hval0 hW _ hsz0 _
  have hsz : (DataW.weightsEach Try.prog (Try.f4.params.toList ++ Rows.warmMuchSpec.plain.varTypes Try.prog) (ds ++ gs)).all (· ≤ reachBytes) = true := hsz0
  have hval : ∀ (j : Nat) t v, Try.f4.params[j]? = some t → args[j]? = some v → Value.okWide Try.prog W .any base t v := hval0
  have hW' := hW
  obtain ⟨p, q, hA0, hV, rfl, hfz, hnd⟩ := hW
  have hA : DataW.TrodAll enc Try.prog W 0 (fun _ => true) true Try.f4.params.toList args.toList ds p := hA0
  rw [Try.params4] at hA hval hsz
  obtain ⟨v0, vs0, d0, ds0, p0, q0, hargs, rfl, rfl, h0, r0⟩ := trodAll_cons hA
  obtain ⟨v1, vs1, d1, ds1, p1, q1, rfl, rfl, rfl, h1, r1⟩ := trodAll_cons r0
  obtain ⟨rfl, rfl, rfl⟩ := trodAll_nil r1
  obtain rfl : args = #[v0, v1] := by cases args; simp_all
  obtain ⟨rfl, rfl⟩ := trodVars_none hV
  have k0 := h0
  have lt0 : ∀ x ∈ p0, x.block < W.heap.size := by obtain ⟨m, hm⟩ := k0; exact DataW.trod_lt m _ _ _ hm
  obtain ⟨s0, rfl, b0⟩ := state_arg (hval 0 36 v0 rfl rfl) h0
  obtain ⟨a1, rfl, rfl, rfl⟩ := open_bool Try.underlying4 (hval 1 4 v1 rfl rfl) h1
  clear hA0 hval0 hsz0
  refine (walk s0 a1 W b0).mono fun e W' ⟨he, bel⟩ => ?_
  subst he
  exact ⟨_, rfl, _, _, _, [], _, [], hW', trodAll_mk1 (shut_bool Try.underlying4 _), (trodAll_cons_mk (Below.trod laidOut (by kernel_rfl) (of_decide_eq_true (by kernel_rfl)) k0 bel lt0) (trodAll_cons_mk (shut_bool Try.underlying4 a1) trodAll_mk0)), rfl, bel.frame _, fun h => by cases h⟩

/-- The statement. -/
theorem proved : Rows.WarmMuchSaid :=
  OpenClaim.holds_of_wide 4 Try.f4 rfl rfl rfl rfl rfl rfl rfl ⟨rfl, rfl, rfl, rfl, rfl⟩ rfl rfl rfl rfl rfl (by kernel_rfl) Try.func4 (by kernel_rfl)
    (of_decide_eq_true (by kernel_rfl)) (by unfold Func.isWrapper; first | (rw [if_pos (by decide +kernel)]; kernel_rfl) | (rw [if_neg (by decide +kernel)]; exact ⟨rfl, rfl⟩))
    (fun os started H enc _ => lifted os started H enc)
end Go.Proofs.Ytflnamahaclidaa.warmMuch
