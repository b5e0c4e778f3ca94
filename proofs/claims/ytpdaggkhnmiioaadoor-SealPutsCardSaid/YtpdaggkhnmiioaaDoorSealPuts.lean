
/- Whatever number, and body, is sealed as the document says, or refused; the body that is handed in stays: for every number and every body the law returns true, where the table crc.halves holds what the program's text lays in it (the card ties it). -/
import Derived.Test.YtpdaggkhnmiioaaDoorCrcW
import Derived.Test.YtpdaggkhnmiioaaDoorSealI
namespace Go.Proofs.YtpdaggkhnmiioaaDoor.sealPuts
open Go.ChangeShapes Go.WideShapes Go.ChangeAt Go.RowKit Go.Deep
open Mem Rec Crc Blk Ref00 Seal
set_option linter.unusedVariables false

theorem pB_ok {n : Int} (h0 : 0 ≤ n) (m : Nat) {bs : List Int} (hl : bs.length = m) (hb : ∀ i, 0 ≤ bs.getD i 0 ∧ bs.getD i 0 ≤ 255) : okL (pB n m bs) := by
  unfold pB
  split
  · rename_i h
    refine pL_ok h0 ?_ hb
    unfold pE at h
    split at h
    · omega
    · split at h
      · omega
      · omega
  · exact zs_ok
set_option maxHeartbeats 4000000 in
theorem walk (n : Int) (A : Option Addr) (m c : Nat) (bs : List Int) (w : World) (w0 : (Lit.int .u64 n).wf = true) (h : ByteArg w A m c bs) (L : Laid w) :
    Calls Tryd.prog 3 #[.int .u64 n, .slice A m c] w fun e w' => e = .returned (.bool true) ∧ Below w.heap.size w w' := by
  obtain ⟨n0, n1⟩ := bounds_u64 w0
  have hm : m ≤ 140737488351232 := by have := h.le; have := h.reach; omega
  have HH := Lib.hid h
  have HL := Lib.hid L
  have hok := pB_ok n0 m h.rd.1 h.byte
  have HP := Lib.hid hok.1
  have hq : ∀ W : World, (Op.equalIn 10000 26 (.agg (blkC (pB n m bs))) (.agg (blkC (pB n m bs)))).run Tryd.prog W = .ok true W := fun W => eql_blk W hok hok true (by simp)
  clear h L w0
  go_enter Tryd.func3, Tryd.ntmps3
  go_wp2_with fail
  refine (wide_any A m c bs w HH.out.rd HH.out.nil_ hm).mono ?_
  rintro e W1 ⟨g, c', rfl, hcap, hcm, hg, hrd, hb1⟩
  have HR := Lib.hid hrd
  have HV : Hid (Rd W1 W1.heap.size (some ⟨g, 0, none⟩) m bs) := Lib.hid (by
    have := hrd.ahead (m := m) (by omega)
    rwa [List.take_left' HH.out.rd.1] at this)
  have HB1 := Lib.hid hb1
  clear hrd hb1
  go_wp2_with fail
  refine (put_any n (some ⟨g, 0, none⟩) m c' bs W1 n0 n1 (by omega) HV.out HH.out.byte (HL.out.below HB1.out)).mono ?_
  rintro e W2 ⟨rfl, b2⟩
  have HN2 : Hid ((W2.alloc (.cells (blkC (zs 64)) 26)).heap[W2.heap.size]? = some (.cells (blkC (zs 64)) 26 (0, 0))) := Lib.hid (heap_alloc_new _ _)
  have b12 : Below W1.heap.size W1 ((W2.alloc (.cells (blkC (zs 64)) 26)).setRow W2.heap.size (blkC (pB n m bs))) := below_row _ (bAlloc b2 _) b2.size
  have HX2 : Hid (((W2.alloc (.cells (blkC (zs 64)) 26)).setRow W2.heap.size (blkC (pB n m bs))).heap[W2.heap.size]? = some (.cells (blkC (pB n m bs)) 26 (0, 0))) := Lib.hid (row_at HN2.out)
  have B2 := bTrans HB1.out b12
  have C2 := Lib.hid (rput_any n A m c bs _ n0 n1 (by omega) ((HH.out.rd.below B2).more B2.size) HH.out.nil_ HH.out.byte)
  have HB12 := Lib.hid b12
  clear b2 b12 B2
  go_wp2_with (first | (refine alloc_blk rfl rfl ?_) | (refine store_blk rfl (.tmp 6) _ rfl W2.heap.size (pB n m bs) (zs 64) _ rfl rfl HN2.out HP.out zs_64 ?_))
  refine C2.out.mono ?_
  rintro e W3 ⟨rfl, b3⟩
  have HN3 : Hid ((W3.alloc (.cells (blkC (zs 64)) 26)).heap[W3.heap.size]? = some (.cells (blkC (zs 64)) 26 (0, 0))) := Lib.hid (heap_alloc_new _ _)
  have hne : W2.heap.size ≠ W3.heap.size := by have := b3.size; simp at this; omega
  have HX3 : Hid (((W3.alloc (.cells (blkC (zs 64)) 26)).setRow W3.heap.size (blkC (pB n m bs))).heap[W2.heap.size]? = some (.cells (blkC (pB n m bs)) 26 (0, 0))) := Lib.hid ((row_else' hne).trans (kept_at (kept_at' b3 HX2.out)))
  have b13 := bTrans HB12.out b3
  have B13 : Below W1.heap.size W1 ((W3.alloc (.cells (blkC (zs 64)) 26)).setRow W3.heap.size (blkC (pB n m bs))) := below_row _ (bAlloc b13 _) b13.size
  have HB13 := Lib.hid B13
  have HA3 : Hid (Rd ((W3.alloc (.cells (blkC (zs 64)) 26)).setRow W3.heap.size (blkC (pB n m bs))) w.heap.size A m bs) := Lib.hid (HH.out.rd.below (bTrans HB1.out B13))
  have HR3 := Lib.hid (HR.out.below B13)
  have L3 := Lib.hid (HL.out.below (bTrans HB1.out B13))
  clear b3 b13 B13 hne C2
  go_wp2_with (first | (refine alloc_blk rfl rfl ?_) | (refine store_blk rfl (.tmp 8) _ rfl W3.heap.size (pB n m bs) (zs 64) _ rfl rfl HN3.out HP.out zs_64 ?_) | (refine load_blk rfl (.tmp 6) rfl W2.heap.size rfl (pB n m bs) _ _ HX3.out HP.out ?_) | (refine load_blk rfl (.tmp 8) rfl W3.heap.size rfl (pB n m bs) _ _ (row_at HN3.out) HP.out ?_))
  refine (left_true g m c' A c bs _ _ _ HR3.out hcap HA3.out hm).mono ?_
  rintro e w2 ⟨rfl, rfl⟩
  go_wp2_with fail
  refine (lives_any _ L3.out).mono ?_
  rintro e w2 ⟨rfl, hb2⟩
  go_wp2
  go_ret
  exact ⟨rfl, bTrans (bTrans HB1.out HB13.out) hb2⟩

/-! The row's step, by the frame; the card. -/
theorem own : ownKnob Tryd.prog.godebug = none := by kernel_rfl
theorem laidOut : laidOutB Tryd.prog = true := by kernel_rfl
theorem laid_met (os : Os) : laidMet Tryd.prog Rows.sealPutsRow.laid ((doorWorld os).forCall (fun _ _ => 0) ⟨#[], #[.int .u64 0, .slice none 0 0], []⟩).memory :=
  laidMet_of_run' 8 (by kernel_rfl) (by kernel_rfl)
theorem reads (os : Os) {H : Type} (enc : TypeId × Value → H) : ∃ places, DataW.whole enc Tryd.prog ((doorWorld os).forCall (fun _ _ => 0) ⟨#[], #[.int .u64 0, .slice none 0 0], []⟩).memory Tryd.f3.params.toList Rows.sealPutsSpec.vars false (#[.int .u64 0, .slice none 0 0] : Array Value).toList 8 = some ([.lit (.int .u64 0), .nil], [], places) :=
  ⟨[], by kernel_rfl⟩
set_option maxRecDepth 100000 in
theorem lifted (os : Os) (started : os.Started) (H : Type) (enc : TypeId × Value → H) (F : Stop.Interp) :
    ReturnsInHanded {} Tryd.checked os 3 .any ((OpenSpec.ofChange Rows.sealPutsSpec).preRow enc Tryd.prog Tryd.f3 Rows.sealPutsRow.domain false Rows.sealPutsRow.laid) (((OpenSpec.ofChange Rows.sealPutsSpec).at F).post enc Tryd.prog Tryd.f3 false true false false) := by
  obtain ⟨places, hx⟩ := reads os enc
  refine returnsInHanded_of_row (C := Tryd.checked) (s := OpenSpec.ofChange Rows.sealPutsSpec) own started (by kernel_rfl) Tryd.func3
    (witness_row_at (enc := enc) (C := Tryd.checked) false (doorWorld os) #[.int .u64 0, .slice none 0 0] rfl (by kernel_rfl) (by kernel_rfl) (by kernel_rfl)
      (OpenSpec.preRow_of_cond 8 hx (by kernel_rfl) (fun k hk => by cases hk) (by kernel_rfl) (laid_met os))) ?_
  intro W base args ds gs before hval0 hW _ hk1 hsz0 hL _ _
  have hsz : (DataW.weightsEach Tryd.prog (Tryd.f3.params.toList ++ Rows.sealPutsSpec.plain.varTypes Tryd.prog) (ds ++ gs)).all (· ≤ reachBytes) = true := hsz0
  have hval : ∀ (j : Nat) t v, Tryd.f3.params[j]? = some t → args[j]? = some v → Value.okWide Tryd.prog W .any base t v := hval0
  have hW' := hW
  obtain ⟨p, q, hA0, hV, rfl, hfz, hnd⟩ := hW
  have hA : DataW.TrodAll enc Tryd.prog W 0 (fun _ => true) true Tryd.f3.params.toList args.toList ds p := hA0
  rw [Tryd.params3] at hA hval hsz
  obtain ⟨v0, vs0, d0, ds0, p0, q0, hargs, rfl, rfl, h0, r0⟩ := trodAll_cons hA
  obtain ⟨v1, vs1, d1, ds1, p1, q1, rfl, rfl, rfl, h1, r1⟩ := trodAll_cons r0
  obtain ⟨rfl, rfl, rfl⟩ := trodAll_nil r1
  obtain rfl : args = #[v0, v1] := by cases args; simp_all
  obtain ⟨rfl, rfl⟩ := trodVars_none hV
  obtain ⟨a0, rfl, rfl, rfl, w0⟩ := open_int Tryd.underlying22 (hval 0 22 v0 rfl rfl) h0
  obtain ⟨A1, n1, c1, rfl⟩ := okWide_slice Tryd.underlying23 (hval 1 23 v1 rfl rfl)
  have k1 := h1
  have lt1 : ∀ x ∈ p1, x.block < W.heap.size := by obtain ⟨m, hm⟩ := k1; exact DataW.trod_lt m _ _ _ hm
  obtain ⟨b1, w1, u1⟩ := byteArg_of Tryd.underlying23 Tryd.underlying5 (by kernel_rfl) (by kernel_rfl) h1 hsz (j := 1) rfl rfl
  clear hA0 hval0 hsz0
  refine (walk a0 A1 n1 c1 b1 W w0 w1 (laid_of hL)).mono fun e W' ⟨he, bel⟩ => ?_
  subst he
  exact ⟨_, rfl, _, _, _, [], _, [], hW', trodAll_mk1 (shut_bool Tryd.underlying4 _), (trodAll_cons_mk (shut_int Tryd.underlying22 w0) (trodAll_cons_mk (Below.trod laidOut (by kernel_rfl) (of_decide_eq_true (by kernel_rfl)) k1 bel lt1) trodAll_mk0)), rfl, bel.frame _, fun h => by cases h⟩

theorem said : Rows.SealPutsSaid :=
  OpenClaim.holds_of_cond 3 Tryd.f3 rfl rfl rfl rfl rfl rfl rfl ⟨rfl, rfl, rfl, rfl, rfl⟩ rfl rfl rfl rfl rfl (by kernel_rfl) Tryd.func3 (by kernel_rfl)
    (of_decide_eq_true (by kernel_rfl)) (by unfold Func.isWrapper; first | (rw [if_pos (by decide +kernel)]; kernel_rfl) | (rw [if_neg (by decide +kernel)]; exact ⟨rfl, rfl⟩))
    (fun os started H enc _ F => by rw [OpenClaim.pre_eq_preRow]; exact lifted os started H enc F)
theorem plain (f : FuncId) (fn : Func) (hf : Tryd.pinned.checked.prog.funcNamed "cohort/cohortlaw07.SealPuts" = some f) (hfn : Tryd.pinned.checked.prog.funcs[f]? = some fn) :
    false = Tryd.pinned.checked.prog.looks [] ∧ ∀ (j : Nat) t, fn.params[j]? = some t → Tryd.pinned.checked.prog.wantsStandIn t = false := by
  obtain rfl : f = 3 := Option.some.inj ((show Tryd.prog.funcNamed "cohort/cohortlaw07.SealPuts" = some 3 by kernel_rfl).symm.trans hf) |>.symm
  obtain rfl : fn = Tryd.f3 := (Option.some.inj (Tryd.func3.symm.trans hfn)).symm
  refine ⟨by kernel_rfl, fun j t ht => ?_⟩
  rw [Tryd.params3] at ht
  have hm : t ∈ [22, 23] := by simpa using Array.mem_of_getElem? ht
  have hall : ([22, 23].all fun u => !Tryd.prog.wantsStandIn u) = true := by kernel_rfl
  exact (show Tryd.prog.wantsStandIn t = false by simpa using List.all_eq_true.1 hall t hm)
/-- The card. -/
theorem proved : Rows.SealPutsCardSaid :=
  Claim7.holds_tied_plain_at .later [] _ _ _ _ said (fun _ h => by cases h) (by kernel_rfl) (fun _ h => by cases h) sealPuts_row_tie rfl ⟨rfl, rfl⟩ (by kernel_rfl) rfl plain (by kernel_rfl)
end Go.Proofs.YtpdaggkhnmiioaaDoor.sealPuts
