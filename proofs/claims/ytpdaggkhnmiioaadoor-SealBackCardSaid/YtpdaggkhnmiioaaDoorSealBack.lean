
/- Whatever is sealed says its number and its body, and with any byte changed it is refused: for every number, body, place and change the law returns true, where the table crc.halves holds what the program's text lays in it (the card ties it). -/
import Derived.Test.YtpdaggkhnmiioaaDoorCrcW
import Derived.Test.YtpdaggkhnmiioaaDoorSealJ
namespace Go.Proofs.YtpdaggkhnmiioaaDoor.sealBack
open Go.ChangeShapes Go.WideShapes Go.ChangeAt Go.RowKit Go.Deep
open Mem Rec Crc Blk Ref00 Seal
set_option linter.unusedVariables false

theorem pB_ok {n : Int} (h0 : 0 ≤ n) (m : Nat) {bs : List Int} (hl : bs.length = m) (hb : ∀ i, 0 ≤ bs.getD i 0 ∧ bs.getD i 0 ≤ 255) : okL (pB n m bs) := by
  unfold pB
  split
  · rename_i h
    refine pL_ok h0 ?_ hb
    unfold pE at h
    split at h
    · omega
    · split at h
      · omega
      · omega
  · exact zs_ok
theorem xor_same {c d : Int} (h0 : 0 ≤ c) (h1 : c ≤ 255) (h2 : 0 ≤ d) (h3 : d ≤ 255) (h : bits .xor .u8 c d = c) : d = 0 := by
  rw [u8_xor c d h0 (by omega) h2 (by omega)] at h
  have h4 : c.toNat ^^^ d.toNat = c.toNat := by omega
  have h5 := congrArg (fun y => c.toNat ^^^ y) h4
  simp only [← Nat.xor_assoc, Nat.xor_self, Nat.zero_xor] at h5
  omega
theorem xor_zero {c : Int} (h0 : 0 ≤ c) (h1 : c ≤ 255) : bits .xor .u8 c 0 = c := by
  rw [u8_xor c 0 h0 (by omega) (by omega) (by omega)]
  simp
  omega
theorem xor_range {c d : Int} (h0 : 0 ≤ c) (h1 : c ≤ 255) (h2 : 0 ≤ d) (h3 : d ≤ 255) : 0 ≤ bits .xor .u8 c d ∧ bits .xor .u8 c d ≤ 255 := by
  rw [u8_xor c d h0 (by omega) h2 (by omega)]
  have hlt : c.toNat ^^^ d.toNat < 2 ^ 8 := Nat.xor_lt_two_pow (by omega) (by omega)
  omega
theorem set_row {L : List Int} {k : Nat} (v : Int) : (blkC L).setIfInBounds k (.int .u8 v) = blkC (L.set k v) := by
  unfold blkC bytesV
  rw [List.setIfInBounds_toArray, List.map_set]
/-- what Get tells of a sealed block -/
theorem get_pL {n : Int} (n0 : 1 ≤ n) (n1 : n ≤ 18446744073709551615) {bs : List Int} (hl : bs.length ≤ 44) (hok : okL (pL n bs)) (W : World) (L : Laid W) :
    Calls Tryd.prog 13 #[blkV (pL n bs)] W fun e w' => ∃ A c, e = .returned (.tuple #[.int .u64 n, .slice A 44 c, .int .i64 0]) ∧ Rd w' w'.heap.size A 44 (gB (pL n bs)) ∧ Below W.heap.size W w' := by
  refine (get_any _ W hok L).mono ?_
  rintro e w' ⟨A, m, c, rfl, _, r, b⟩
  have hm : m = 44 := by rw [← r.1, gB_pL_len n0 n1 hl]
  subst hm
  exact ⟨A, c, by rw [gN_pL n0 n1 hl, gE_pL n0 n1 hl], r, b⟩
/-- what it tells of one with a changed byte -/
theorem get_set {n : Int} (n0 : 1 ≤ n) (n1 : n ≤ 18446744073709551615) {bs : List Int} (hl : bs.length ≤ 44) (hok : okL (pL n bs)) {K : Nat} (hK : K < 64) {d : Int} (d0 : 0 ≤ d) (d1 : d ≤ 255) (W : World) (L : Laid W) :
    Calls Tryd.prog 13 #[blkV ((pL n bs).set K (bits .xor .u8 ((pL n bs).getD K 0) d))] W fun e w' => ∃ x A m c E, e = .returned (.tuple #[.int .u64 x, .slice A m c, .int .i64 E]) ∧ ((E == 0) = (d == 0)) ∧ Below W.heap.size W w' := by
  have hb := hok.2 K
  have hl' := hok.1
  refine (get_any _ W (set_ok hok hK (xor_range hb.1 hb.2 d0 d1)) L).mono ?_
  rintro e w' ⟨A, m, c, rfl, _, r, b⟩
  refine ⟨_, A, m, c, _, rfl, ?_, b⟩
  by_cases hd : d = 0
  · subst hd
    have e : (pL n bs).set K (bits .xor .u8 ((pL n bs).getD K 0) 0) = pL n bs := by
      rw [xor_zero hb.1 hb.2]
      have : (pL n bs).getD K 0 = (pL n bs)[K]'(by omega) := by simp [List.getD, show K < (pL n bs).length by omega]
      rw [this, List.set_getElem_self]
    rw [e, gE_pL n0 n1 hl]
  · have e := gE_set hok (gE_pL n0 n1 hl) hK (xor_range hb.1 hb.2 d0 d1) (fun h => hd (xor_same hb.1 hb.2 d0 d1 h))
    rw [beq_eq_false_iff_ne.2 e, beq_eq_false_iff_ne.2 hd]
set_option maxRecDepth 100000 in
set_option maxHeartbeats 4000000 in
theorem walk (n : Int) (A : Option Addr) (m c : Nat) (bs : List Int) (a by_ : Int) (w : World) (w0 : (Lit.int .u64 n).wf = true) (h : ByteArg w A m c bs) (w2 : (Lit.int .u8 a).wf = true) (w3 : (Lit.int .u8 by_).wf = true) (L : Laid w) :
    Calls Tryd.prog 5 #[.int .u64 n, .slice A m c, .int .u8 a, .int .u8 by_] w fun e w' => e = .returned (.bool true) ∧ Below w.heap.size w w' := by
  obtain ⟨n0, n1⟩ := bounds_u64 w0
  obtain ⟨a0, a1⟩ := bounds_u8 w2
  obtain ⟨d0, d1⟩ := bounds_u8 w3
  have hm : m ≤ 140737488351232 := by have := h.le; have := h.reach; omega
  have HH := Lib.hid h
  have HL := Lib.hid L
  have C1 := Lib.hid (put_any n A m c bs w n0 n1 (by omega) h.rd h.byte L)
  have hok := pB_ok n0 m h.rd.1 h.byte
  have hbl := h.rd.1
  clear h L w0 w2 w3
  by_cases hn : n = 0
  · subst hn
    have hq : ∀ W : World, (Op.equalIn 10000 26 (.agg (blkC (pB 0 m bs))) (.agg (blkC (zs 64)))).run Tryd.prog W = .ok true W := fun W => eql_blk W hok zs_ok true (by rw [show pB 0 m bs = zs 64 from rfl]; simp)
    have HZ := Lib.hid hok.1
    rw [show pE 0 m = 2 from rfl] at C1
    generalize pB 0 m bs = Z at *
    clear hok
    go_enter Tryd.func5, Tryd.ntmps5
    go_wp2_with fail
    refine C1.out.mono ?_
    rintro e W2 ⟨rfl, b2⟩
    have HN2 : Hid ((W2.alloc (.cells (blkC (zs 64)) 26)).heap[W2.heap.size]? = some (.cells (blkC (zs 64)) 26 (0, 0))) := Lib.hid (heap_alloc_new _ _)
    have HX2 : Hid (((W2.alloc (.cells (blkC (zs 64)) 26)).setRow W2.heap.size (blkC Z)).heap[W2.heap.size]? = some (.cells (blkC Z) 26 (0, 0))) := Lib.hid (row_at HN2.out)
    have HB2 : Hid (Below w.heap.size w ((W2.alloc (.cells (blkC (zs 64)) 26)).setRow W2.heap.size (blkC Z))) := Lib.hid (below_row _ (bAlloc b2 _) b2.size)
    clear b2
    go_wp2_with (first | (refine alloc_blk rfl rfl ?_) | (refine store_blk rfl (.tmp 9) _ rfl W2.heap.size Z (zs 64) _ rfl rfl HN2.out HZ.out zs_64 ?_) | (refine load_blk rfl (.tmp 9) rfl W2.heap.size rfl Z _ _ HX2.out HZ.out ?_) | (refine build_blk rfl rfl ?_))
    refine (lives_any _ (HL.out.below HB2.out)).mono ?_
    rintro e w2 ⟨rfl, hb2⟩
    go_wp2
    go_ret
    exact ⟨rfl, bTrans HB2.out hb2⟩

  by_cases hm44 : 44 < m
  · have p1 : pE n m = 3 := by unfold pE; rw [if_neg hn, if_pos hm44]
    have p2 : pB n m bs = zs 64 := by unfold pB; rw [if_neg (by omega)]
    have hq : ∀ W : World, (Op.equalIn 10000 26 (.agg (blkC (pB n m bs))) (.agg (blkC (zs 64)))).run Tryd.prog W = .ok true W := fun W => eql_blk W hok zs_ok true (by rw [p2]; simp)
    have HZ := Lib.hid hok.1
    rw [p1] at C1
    clear p1 p2
    generalize pB n m bs = Z at *
    clear hok
    have hn1 : 0 < n := by omega
    have hm1 : ¬ (m : Int) ≤ 44 := by omega
    go_enter Tryd.func5, Tryd.ntmps5
    go_wp2_with fail
    refine C1.out.mono ?_
    rintro e W2 ⟨rfl, b2⟩
    have HN2 : Hid ((W2.alloc (.cells (blkC (zs 64)) 26)).heap[W2.heap.size]? = some (.cells (blkC (zs 64)) 26 (0, 0))) := Lib.hid (heap_alloc_new _ _)
    have HX2 : Hid (((W2.alloc (.cells (blkC (zs 64)) 26)).setRow W2.heap.size (blkC Z)).heap[W2.heap.size]? = some (.cells (blkC Z) 26 (0, 0))) := Lib.hid (row_at HN2.out)
    have HB2 : Hid (Below w.heap.size w ((W2.alloc (.cells (blkC (zs 64)) 26)).setRow W2.heap.size (blkC Z))) := Lib.hid (below_row _ (bAlloc b2 _) b2.size)
    clear b2
    go_wp2_with (first | (refine alloc_blk rfl rfl ?_) | (refine store_blk rfl (.tmp 9) _ rfl W2.heap.size Z (zs 64) _ rfl rfl HN2.out HZ.out zs_64 ?_) | (refine load_blk rfl (.tmp 9) rfl W2.heap.size rfl Z _ _ HX2.out HZ.out ?_) | (refine build_blk rfl rfl ?_))
    refine (lives_any _ (HL.out.below HB2.out)).mono ?_
    rintro e w2 ⟨rfl, hb2⟩
    go_wp2
    go_ret
    exact ⟨rfl, bTrans HB2.out hb2⟩

  have p1 : pE n m = 0 := by unfold pE; rw [if_neg hn, if_neg hm44]
  have p2 : pB n m bs = pL n bs := by unfold pB; rw [if_pos p1]
  rw [p1, p2] at C1
  rw [p2] at hok
  have hn1 : 0 < n := by omega
  have hm0 : m ≤ 44 := by omega
  have hm1 : (m : Int) ≤ 44 := by omega
  have hl : bs.length ≤ 44 := by omega
  have CG := Lib.hid (fun W => get_pL (by omega) n1 hl hok W)
  have GB := Lib.hid (fun i (hi : i < 44) => gB_pL (n := n) (by omega) n1 hl hi)
  obtain ⟨K, hK⟩ := Int.eq_ofNat_of_zero_le (show (0 : Int) ≤ a % 64 by omega)
  have hK64 : K < 64 := by omega
  have CS := Lib.hid (fun W => get_set (by omega) n1 hl hok hK64 d0 d1 W)
  have tK : Int.tmod a 64 = (K : Int) := by rw [Int.tmod_eq_emod_of_nonneg a0]; exact hK
  have xr := xor_range (hok.2 K).1 (hok.2 K).2 d0 d1
  have xS := sums_pL n hl
  clear p1 p2 hn hm44
  have OK := Lib.hid hok
  have HP := Lib.hid hok.1
  have kb := hok.2 K
  generalize pL n bs = P at *
  clear hok
  go_enter Tryd.func5, Tryd.ntmps5
  go_wp2_with fail
  refine C1.out.mono ?_
  rintro e W2 ⟨rfl, b2⟩
  have HN2 : Hid ((W2.alloc (.cells (blkC (zs 64)) 26)).heap[W2.heap.size]? = some (.cells (blkC (zs 64)) 26 (0, 0))) := Lib.hid (heap_alloc_new _ _)
  have HX2 : Hid (((W2.alloc (.cells (blkC (zs 64)) 26)).setRow W2.heap.size (blkC P)).heap[W2.heap.size]? = some (.cells (blkC P) 26 (0, 0))) := Lib.hid (row_at HN2.out)
  have HB2 : Hid (Below w.heap.size w ((W2.alloc (.cells (blkC (zs 64)) 26)).setRow W2.heap.size (blkC P))) := Lib.hid (below_row _ (bAlloc b2 _) b2.size)
  have hW2 := b2.size
  clear b2
  go_wp2_with (first | (refine alloc_blk rfl rfl ?_) | (refine store_blk rfl (.tmp 9) _ rfl W2.heap.size P (zs 64) _ rfl rfl HN2.out HP.out zs_64 ?_) | (refine load_blk rfl (.tmp 9) rfl W2.heap.size rfl P _ _ HX2.out HP.out ?_))
  refine (CG.out _ (HL.out.below HB2.out)).mono ?_
  rintro e W3 ⟨A1, c1, rfl, r1, b3⟩
  have HX3 := Lib.hid (kept_at' b3 HX2.out)
  have HB3 := Lib.hid (bTrans HB2.out b3)
  have HR1 := Lib.hid r1
  have r64 : Rd W3 W3.heap.size (some ⟨W2.heap.size, 0, none⟩) 64 P := by
    have := blk_rd HX3.out 0 64 (by rw [HP.out]; omega)
    rwa [List.drop_zero, List.take_of_length_le (by rw [HP.out]; omega)] at this
  have F1 := NumA.refGet_all _ (some ⟨W2.heap.size, 0, none⟩) 64 64 P (0 : Nat) 4 W3 r64 OK.out.2 (by omega) (by omega) (by omega)
  rw [get_4 P 0 (by omega)] at F1
  change Calls _ _ _ _ (fun e w' => e = .returned (.tuple #[.int .u64 (sA P), .int .i64 (NumA.getE 64 (0 : Nat) 4)]) ∧ _ = w') at F1
  have F4 := rof_any (some ⟨W2.heap.size, 4, none⟩) 60 60 _ W3 _ (blk_rd HX3.out 4 60 (by rw [HP.out]; omega)) (part_bytes OK.out.2 4 60) (by omega)
  change Calls _ _ _ _ (fun e w' => e = .returned (.int .u32 (sB P)) ∧ _ = w') at F4
  have s0 : 0 ≤ sB P := CrcM.num_lo _
  have s1 : sB P ≤ 4294967295 := CrcM.num_hi _
  rw [xS] at F1
  generalize sB P = s at F1 F4 s0 s1
  have F1 := Lib.hid F1
  have F4 := Lib.hid F4
  clear b3 r1 r64 xS
  go_wp2_with fail
  refine F1.out.mono ?_
  rintro e w2 ⟨rfl, rfl⟩
  go_wp2_with fail
  refine F4.out.mono ?_
  rintro e w2 ⟨rfl, rfl⟩
  go_wp2_with fail
  go_loopw [15] (fun i wr => ∃ k : Nat, k ≤ 44 ∧ i = .int .i64 k ∧ Below W3.heap.size W3 wr) (fun i _ => 44 - (intOf i).toNat)
  case atStart => exact ⟨0, by omega, rfl, by first | exact Below.refl _ _ | exact bDrew (Below.refl _ _)⟩
  case round =>
    obtain ⟨k, hk, rfl, hb⟩ := hrel
    by_cases hlt : k < 44
    · obtain ⟨g1, o1, rfl, _, hc1⟩ := (HR1.out.below hb).2.2 (by omega)
      have cA := hc1 k hlt
      rw [GB.out k hlt] at cA
      by_cases hkm : k < m
      · obtain ⟨g2, o2, rfl, _, hc2⟩ := (HH.out.rd.below (bTrans HB3.out hb)).2.2 (by omega)
        have cB := hc2 k hkm
        rw [if_pos (by omega)] at cA
        generalize bs.getD k 0 = v at cA cB
        have HBr := Lib.hid hb
        have i1 : decide (k < m) = true := decide_eq_true hkm
        have i2 : decide (m ≤ k) = false := decide_eq_false (by omega)
        clear hc1 hc2 hb
        go_wp2_with fail
        go_quiet (fail)
        go_wp2_with fail
        go_roundw
        case rel => exact ⟨k + 1, by omega, by go_num, bDrewN _ HBr.out⟩
        case measure => simp [intOf]; omega
      · rw [if_neg (by omega)] at cA
        have HBr := Lib.hid hb
        have i1 : decide (k < m) = false := decide_eq_false hkm
        have i2 : decide (m ≤ k) = true := decide_eq_true (by omega)
        clear hc1 hb
        go_wp2_with fail
        go_quiet (fail)
        go_wp2_with fail
        go_roundw
        case rel => exact ⟨k + 1, by omega, by go_num, bDrewN _ HBr.out⟩
        case measure => simp [intOf]; omega
    · have HB4 := Lib.hid (bTrans HB3.out hb)
      have hx := kept_at' hb HX3.out
      have f0 := frozen_of_row wr W2.heap.size K _ _ hx
      have c0 : wr.cell? ⟨W2.heap.size, K, none⟩ = some (.int .u8 (P.getD K 0)) := by
        rw [cell_of_row _ _ _ _ _ _ hx, blkC_get (by rw [HP.out]; exact hK64)]
      have HX5 : Hid (∀ v, (wr.setCell ⟨W2.heap.size, K, none⟩ (.int .u8 v)).heap[W2.heap.size]? = some (.cells (blkC (P.set K v)) 26 (0, 0))) := Lib.hid (fun v => by
        rw [heap_setCell_same wr _ K _ _ _ hx, set_row])
      have HB5 : Hid (∀ v : Value, Below w.heap.size w (wr.setCell ⟨W2.heap.size, K, none⟩ v)) := Lib.hid (fun v => bSet HB4.out (p := ⟨W2.heap.size, K, none⟩) hW2 v)
      have hSL : Hid (∀ v, (P.set K v).length = 64) := Lib.hid (fun v => by rw [List.length_set]; exact HP.out)
      clear hx hb
      go_wp2_with (first | (refine load_blk rfl (.tmp 9) rfl W2.heap.size rfl (P.set K (bits .xor .u8 (P.getD K 0) by_)) _ _ (HX5.out _) (hSL.out _) ?_))
      refine (CS.out _ (HL.out.below (HB5.out _))).mono ?_
      rintro e W6 ⟨x6, A6, m6, c6, E6, rfl, hE6, b6⟩
      have HB6 := Lib.hid (bTrans (HB5.out _) b6)
      clear b6
      go_wp2_with fail
      refine (lives_any _ (HL.out.below HB6.out)).mono ?_
      rintro e w2 ⟨rfl, hb2⟩
      go_wp2
      go_ret
      exact ⟨rfl, bTrans HB6.out hb2⟩

/-! The row's step, by the frame; the card. -/
theorem own : ownKnob Tryd.prog.godebug = none := by kernel_rfl
theorem laidOut : laidOutB Tryd.prog = true := by kernel_rfl
theorem laid_met (os : Os) : laidMet Tryd.prog Rows.sealBackRow.laid ((doorWorld os).forCall (fun _ _ => 0) ⟨#[], #[.int .u64 0, .slice none 0 0, .int .u8 0, .int .u8 0], []⟩).memory :=
  laidMet_of_run' 8 (by kernel_rfl) (by kernel_rfl)
theorem reads (os : Os) {H : Type} (enc : TypeId × Value → H) : ∃ places, DataW.whole enc Tryd.prog ((doorWorld os).forCall (fun _ _ => 0) ⟨#[], #[.int .u64 0, .slice none 0 0, .int .u8 0, .int .u8 0], []⟩).memory Tryd.f5.params.toList Rows.sealBackSpec.vars false (#[.int .u64 0, .slice none 0 0, .int .u8 0, .int .u8 0] : Array Value).toList 8 = some ([.lit (.int .u64 0), .nil, .lit (.int .u8 0), .lit (.int .u8 0)], [], places) :=
  ⟨[], by kernel_rfl⟩
set_option maxRecDepth 100000 in
theorem lifted (os : Os) (started : os.Started) (H : Type) (enc : TypeId × Value → H) (F : Stop.Interp) :
    ReturnsInHanded {} Tryd.checked os 5 .any ((OpenSpec.ofChange Rows.sealBackSpec).preRow enc Tryd.prog Tryd.f5 Rows.sealBackRow.domain false Rows.sealBackRow.laid) (((OpenSpec.ofChange Rows.sealBackSpec).at F).post enc Tryd.prog Tryd.f5 false true false false) := by
  obtain ⟨places, hx⟩ := reads os enc
  refine returnsInHanded_of_row (C := Tryd.checked) (s := OpenSpec.ofChange Rows.sealBackSpec) own started (by kernel_rfl) Tryd.func5
    (witness_row_at (enc := enc) (C := Tryd.checked) false (doorWorld os) #[.int .u64 0, .slice none 0 0, .int .u8 0, .int .u8 0] rfl (by kernel_rfl) (by kernel_rfl) (by kernel_rfl)
      (OpenSpec.preRow_of_cond 8 hx (by kernel_rfl) (fun k hk => by cases hk) (by kernel_rfl) (laid_met os))) ?_
  intro W base args ds gs before hval0 hW _ hk1 hsz0 hL _ _
  have hsz : (DataW.weightsEach Tryd.prog (Tryd.f5.params.toList ++ Rows.sealBackSpec.plain.varTypes Tryd.prog) (ds ++ gs)).all (· ≤ reachBytes) = true := hsz0
  have hval : ∀ (j : Nat) t v, Tryd.f5.params[j]? = some t → args[j]? = some v → Value.okWide Tryd.prog W .any base t v := hval0
  have hW' := hW
  obtain ⟨p, q, hA0, hV, rfl, hfz, hnd⟩ := hW
  have hA : DataW.TrodAll enc Tryd.prog W 0 (fun _ => true) true Tryd.f5.params.toList args.toList ds p := hA0
  rw [Tryd.params5] at hA hval hsz
  obtain ⟨v0, vs0, d0, ds0, p0, q0, hargs, rfl, rfl, h0, r0⟩ := trodAll_cons hA
  obtain ⟨v1, vs1, d1, ds1, p1, q1, rfl, rfl, rfl, h1, r1⟩ := trodAll_cons r0
  obtain ⟨v2, vs2, d2, ds2, p2, q2, rfl, rfl, rfl, h2, r2⟩ := trodAll_cons r1
  obtain ⟨v3, vs3, d3, ds3, p3, q3, rfl, rfl, rfl, h3, r3⟩ := trodAll_cons r2
  obtain ⟨rfl, rfl, rfl⟩ := trodAll_nil r3
  obtain rfl : args = #[v0, v1, v2, v3] := by cases args; simp_all
  obtain ⟨rfl, rfl⟩ := trodVars_none hV
  obtain ⟨a0, rfl, rfl, rfl, w0⟩ := open_int Tryd.underlying22 (hval 0 22 v0 rfl rfl) h0
  obtain ⟨A1, n1, c1, rfl⟩ := okWide_slice Tryd.underlying23 (hval 1 23 v1 rfl rfl)
  have k1 := h1
  have lt1 : ∀ x ∈ p1, x.block < W.heap.size := by obtain ⟨m, hm⟩ := k1; exact DataW.trod_lt m _ _ _ hm
  obtain ⟨b1, w1, u1⟩ := byteArg_of Tryd.underlying23 Tryd.underlying5 (by kernel_rfl) (by kernel_rfl) h1 hsz (j := 1) rfl rfl
  obtain ⟨a2, rfl, rfl, rfl, w2⟩ := open_int Tryd.underlying5 (hval 2 5 v2 rfl rfl) h2
  obtain ⟨a3, rfl, rfl, rfl, w3⟩ := open_int Tryd.underlying5 (hval 3 5 v3 rfl rfl) h3
  clear hA0 hval0 hsz0
  refine (walk a0 A1 n1 c1 b1 a2 a3 W w0 w1 w2 w3 (laid_of hL)).mono fun e W' ⟨he, bel⟩ => ?_
  subst he
  exact ⟨_, rfl, _, _, _, [], _, [], hW', trodAll_mk1 (shut_bool Tryd.underlying4 _), (trodAll_cons_mk (shut_int Tryd.underlying22 w0) (trodAll_cons_mk (Below.trod laidOut (by kernel_rfl) (of_decide_eq_true (by kernel_rfl)) k1 bel lt1) (trodAll_cons_mk (shut_int Tryd.underlying5 w2) (trodAll_cons_mk (shut_int Tryd.underlying5 w3) trodAll_mk0)))), rfl, bel.frame _, fun h => by cases h⟩

theorem said : Rows.SealBackSaid :=
  OpenClaim.holds_of_cond 5 Tryd.f5 rfl rfl rfl rfl rfl rfl rfl ⟨rfl, rfl, rfl, rfl, rfl⟩ rfl rfl rfl rfl rfl (by kernel_rfl) Tryd.func5 (by kernel_rfl)
    (of_decide_eq_true (by kernel_rfl)) (by unfold Func.isWrapper; first | (rw [if_pos (by decide +kernel)]; kernel_rfl) | (rw [if_neg (by decide +kernel)]; exact ⟨rfl, rfl⟩))
    (fun os started H enc _ F => by rw [OpenClaim.pre_eq_preRow]; exact lifted os started H enc F)
theorem plain (f : FuncId) (fn : Func) (hf : Tryd.pinned.checked.prog.funcNamed "cohort/cohortlaw07.SealBack" = some f) (hfn : Tryd.pinned.checked.prog.funcs[f]? = some fn) :
    false = Tryd.pinned.checked.prog.looks [] ∧ ∀ (j : Nat) t, fn.params[j]? = some t → Tryd.pinned.checked.prog.wantsStandIn t = false := by
  obtain rfl : f = 5 := Option.some.inj ((show Tryd.prog.funcNamed "cohort/cohortlaw07.SealBack" = some 5 by kernel_rfl).symm.trans hf) |>.symm
  obtain rfl : fn = Tryd.f5 := (Option.some.inj (Tryd.func5.symm.trans hfn)).symm
  refine ⟨by kernel_rfl, fun j t ht => ?_⟩
  rw [Tryd.params5] at ht
  have hm : t ∈ [22, 23, 5, 5] := by simpa using Array.mem_of_getElem? ht
  have hall : ([22, 23, 5, 5].all fun u => !Tryd.prog.wantsStandIn u) = true := by kernel_rfl
  exact (show Tryd.prog.wantsStandIn t = false by simpa using List.all_eq_true.1 hall t hm)
/-- The card. -/
theorem proved : Rows.SealBackCardSaid :=
  Claim7.holds_tied_plain_at .later [] _ _ _ _ said (fun _ h => by cases h) (by kernel_rfl) (fun _ h => by cases h) sealBack_row_tie rfl ⟨rfl, rfl⟩ (by kernel_rfl) rfl plain (by kernel_rfl)
end Go.Proofs.YtpdaggkhnmiioaaDoor.sealBack
