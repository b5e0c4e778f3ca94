
/- Bytes with their sum behind them, the highest byte first, have the sum 0: for every list of bytes the law returns true, where the table crc.halves holds what the program's text lays in it (the card ties it). -/
import Derived.Test.YtpbapcjgaeifjaaDoorCrcW
import Derived.Test.YtpbapcjgaeifjaaDoorRef00
namespace Go.Proofs.YtpbapcjgaeifjaaDoor.crcBehind
open Go.ChangeShapes Go.WideShapes Go.ChangeAt Go.RowKit
open Mem CrcM Crc Ref00
set_option linter.unusedVariables false

theorem step4_of {x : BitVec 32} (h : x &&& 0x0FFFFFFF#32 = x) : step4 x = x <<< 4 := by rw [← h, step4_low, h]
theorem m24 : ∀ i, i < 32 → i < 24 → (0x00FFFFFF#32).getLsbD i = true := by decide +kernel
theorem m24' : ∀ i, i < 32 → 24 ≤ i → (0x00FFFFFF#32).getLsbD i = false := by decide +kernel
theorem low_a (x : BitVec 32) : (x &&& 0x00FFFFFF#32) &&& 0x0FFFFFFF#32 = x &&& 0x00FFFFFF#32 := by
  rw [BitVec.and_assoc, show (0x00FFFFFF#32 &&& 0x0FFFFFFF#32) = 0x00FFFFFF#32 by decide]
theorem low_b (x : BitVec 32) : ((x &&& 0x00FFFFFF#32) <<< 4) &&& 0x0FFFFFFF#32 = (x &&& 0x00FFFFFF#32) <<< 4 := by
  rw [BitVec.shiftLeft_and_distrib, BitVec.and_assoc, show (0x00FFFFFF#32 <<< 4 &&& 0x0FFFFFFF#32) = 0x00FFFFFF#32 <<< 4 by decide]
theorem step8_low (x : BitVec 32) : step8 (x &&& 0x00FFFFFF#32) = (x &&& 0x00FFFFFF#32) <<< 8 := by
  unfold step8
  rw [step4_of (low_a x), step4_of (low_b x), ← BitVec.shiftLeft_add]
theorem cut (x : BitVec 32) : x ^^^ ((x >>> 24) <<< 24) = x &&& 0x00FFFFFF#32 := by
  apply BitVec.eq_of_getLsbD_eq
  intro i hi
  rw [BitVec.getLsbD_xor, BitVec.getLsbD_and, BitVec.getLsbD_shiftLeft, BitVec.getLsbD_ushiftRight]
  by_cases h : i < 24
  · rw [m24 i hi h]; simp [h]
  · rw [m24' i hi (by omega), show 24 + (i - 24) = i by omega]; simp [h, hi]
theorem shift_low (x : BitVec 32) : (x &&& 0x00FFFFFF#32) <<< 8 = x <<< 8 := by
  apply BitVec.eq_of_getLsbD_eq
  intro i hi
  rw [BitVec.getLsbD_shiftLeft, BitVec.getLsbD_shiftLeft, BitVec.getLsbD_and]
  by_cases h : i < 8
  · simp [h]
  · rw [m24 (i - 8) (by omega) (by omega)]; simp
theorem byte_num (x : BitVec 32) : byteB (num x) = x := by
  unfold byteB num
  rw [BitVec.ofInt_natCast]
  simp
theorem take_own (x : BitVec 32) : takeB x (num (x >>> 24)) = x <<< 8 := by
  unfold takeB
  rw [byte_num, cut, step8_low, shift_low]
theorem b0 (x : BitVec 32) : num x / (16777216 : Int) = num (x >>> 24) := by
  unfold num
  rw [BitVec.toNat_ushiftRight, Nat.shiftRight_eq_div_pow]; rfl
theorem b1 (x : BitVec 32) : num x / (65536 : Int) % (256 : Int) = num ((x <<< 8) >>> 24) := by
  unfold num
  rw [BitVec.toNat_ushiftRight, Nat.shiftRight_eq_div_pow, BitVec.toNat_shiftLeft, Nat.shiftLeft_eq]
  have := x.isLt
  omega
theorem b2 (x : BitVec 32) : num x / (256 : Int) % (256 : Int) = num ((x <<< 16) >>> 24) := by
  unfold num
  rw [BitVec.toNat_ushiftRight, Nat.shiftRight_eq_div_pow, BitVec.toNat_shiftLeft, Nat.shiftLeft_eq]
  have := x.isLt
  omega
theorem b3 (x : BitVec 32) : num x % (256 : Int) = num ((x <<< 24) >>> 24) := by
  unfold num
  rw [BitVec.toNat_ushiftRight, Nat.shiftRight_eq_div_pow, BitVec.toNat_shiftLeft, Nat.shiftLeft_eq]
  have := x.isLt
  omega
def tail (x : Int) : List Int := [x / 16777216, x / 65536 % 256, x / 256 % 256, x % 256]
theorem sum_tail (x : BitVec 32) : sumB x (tail (num x)) = 0#32 := by
  unfold tail
  rw [b0, b1, b2, b3]
  show takeB (takeB (takeB (takeB x (num (x >>> 24))) (num ((x <<< 8) >>> 24))) (num ((x <<< 16) >>> 24))) (num ((x <<< 24) >>> 24)) = 0#32
  rw [take_own, take_own, show x <<< 8 <<< 8 = x <<< 16 by rw [← BitVec.shiftLeft_add], take_own, show x <<< 16 <<< 8 = x <<< 24 by rw [← BitVec.shiftLeft_add], take_own, show x <<< 24 <<< 8 = x <<< 32 by rw [← BitVec.shiftLeft_add]]
  apply BitVec.eq_of_getLsbD_eq
  intro i hi
  rw [BitVec.getLsbD_shiftLeft]
  simp [hi]
theorem tail_bytes (x : BitVec 32) : ∀ i, 0 ≤ (tail (num x)).getD i 0 ∧ (tail (num x)).getD i 0 ≤ 255 := by
  intro i
  have h0 := num_lo x
  have h1 := num_hi x
  rcases (by omega : i = 0 ∨ i = 1 ∨ i = 2 ∨ i = 3 ∨ 4 ≤ i) with rfl | rfl | rfl | rfl | h
  · show 0 ≤ num x / 16777216 ∧ num x / 16777216 ≤ 255; omega
  · show 0 ≤ num x / 65536 % 256 ∧ num x / 65536 % 256 ≤ 255; omega
  · show 0 ≤ num x / 256 % 256 ∧ num x / 256 % 256 ≤ 255; omega
  · show 0 ≤ num x % 256 ∧ num x % 256 ≤ 255; omega
  · have : (tail (num x)).getD i 0 = 0 := by simp [List.getD, List.getElem?_eq_none (show (tail (num x)).length ≤ i from h)]
    rw [this]; omega
theorem both_bytes {a b : List Int} (ha : ∀ i, 0 ≤ a.getD i 0 ∧ a.getD i 0 ≤ 255) (hb : ∀ i, 0 ≤ b.getD i 0 ∧ b.getD i 0 ≤ 255) : ∀ i, 0 ≤ (a ++ b).getD i 0 ∧ (a ++ b).getD i 0 ≤ 255 := by
  intro i
  rcases Nat.lt_or_ge i a.length with h | h
  · have : (a ++ b).getD i 0 = a.getD i 0 := by simp [List.getD, List.getElem?_append_left h]
    rw [this]; exact ha i
  · have : (a ++ b).getD i 0 = b.getD (i - a.length) 0 := by simp [List.getD, List.getElem?_append_right h]
    rw [this]; exact hb _
theorem rd_tail (w : World) (x : Int) (T : TypeId) : Rd (w.alloc (.cells #[.int .u8 (x / 16777216), .int .u8 (x / 65536 % 256), .int .u8 (x / 256 % 256), .int .u8 (x % 256)] T)) (w.heap.size + 1) (some ⟨w.heap.size, 0, none⟩) 4 (tail x) := by
  refine ⟨rfl, fun e => (by cases e), fun _ => ⟨w.heap.size, 0, rfl, by omega, fun i hi => ?_⟩⟩
  rw [Nat.zero_add]
  have := new_cells w (tail x) T i (.int .u8 ((tail x).getD i 0)) (bytesV_at (by simpa [tail] using hi))
  have e : (⟨w.heap.size, 0, none⟩ : Addr).add i = ⟨w.heap.size, i, none⟩ := by unfold Addr.add; split <;> simp_all
  rw [e] at this
  exact this

set_option maxHeartbeats 4000000 in
theorem walk (A : Option Addr) (n cap : Nat) (bs : List Int) (w : World) (h : ByteArg w A n cap bs) (L : Laid w) :
    Calls Tryd.prog 6 #[.slice A n cap] w fun e w' => e = .returned (.bool true) ∧ Below w.heap.size w w' := by
  have hm : n ≤ 140737488351232 := by have := h.le; have := h.reach; omega
  have HH := Lib.hid h
  have HL := Lib.hid L
  obtain ⟨i0, hi, hz0, hz1, hz2⟩ := info_parts infoByte
  clear h L
  go_enter Tryd.func6, Tryd.ntmps6
  go_wp2_with fail
  refine (of_any A n cap bs w _ HL.out HH.out.rd HH.out.byte (by omega)).mono ?_
  rintro e w2 ⟨rfl, rfl⟩
  have HS : Hid (sumB (sumB 0xffffffff#32 bs) (tail (num (sumB 0xffffffff#32 bs))) = 0#32) := Lib.hid (sum_tail _)
  have HT := Lib.hid (tail_bytes (sumB 0xffffffff#32 bs))
  rw [← sum_append] at HS
  generalize hx : sumB 0xffffffff#32 bs = x at HS HT ⊢
  clear hx
  have h0 := num_lo x
  have h1 := num_hi x
  go_wp2_with fail
  refine (copy_any A n cap bs w HH.out.rd HH.out.nil_ hm).mono ?_
  rintro e W1 ⟨v, rfl, hown, hb1⟩
  have h2 : num x / 16777216 ≤ 255 := by omega
  have h3 : 0 ≤ num x / 16777216 := by omega
  have h4 : 0 ≤ num x / 65536 := by omega
  have h5 : 0 ≤ num x / 256 := by omega
  go_wp2_with (at_builtin; refine append_bytes rfl _ _ 23 rfl w.heap.size 5 i0 Tryd.underlying23 hi hz0 hz1 hz2 _ n bs rfl (hown.alloc _) (W1.heap.size + 1) (some ⟨W1.heap.size, 0, none⟩) 4 4 (tail (num x)) rfl (rd_tail W1 (num x) _) (fun e => (by cases e)) (by omega) (by have := hb1.size; simp; omega) ?_; intro v2 W2 hown2 hgrow)
  have hb2 : Below w.heap.size w W2 := (hb1.alloc hb1.size _).grown hgrow (by have := hb1.size; simp; omega) (fun k hk => (hown.lt k hk).1)
  obtain ⟨g, cap2, rfl, hg1, hg2, hcap, hcm⟩ := own_form hown2 (by omega)
  have HR := Lib.hid (Rd.of_own hown2)
  have HB := Lib.hid hb2
  have L2 := Lib.hid (HL.out.below hb2)
  have HBY := Lib.hid (both_bytes HH.out.byte HT.out)
  clear hown hown2 hgrow hb1 hb2
  have C := of_any (some ⟨g, 0, none⟩) (n + 4) cap2 _ W2 _ L2.out HR.out HBY.out (by omega)
  rw [HS.out, show num 0#32 = 0 by decide] at C
  have C := Lib.hid C
  go_wp2_with fail
  refine C.out.mono ?_
  rintro e w2 ⟨rfl, rfl⟩
  go_wp2_with fail
  refine (lives_any W2 L2.out).mono ?_
  rintro e w2 ⟨rfl, hb2⟩
  go_wp2
  go_ret
  exact ⟨rfl, bTrans HB.out hb2⟩

/-! The row's step, by the frame; the card. -/
theorem own : ownKnob Tryd.prog.godebug = none := by kernel_rfl
theorem laidOut : laidOutB Tryd.prog = true := by kernel_rfl
theorem laid_met (os : Os) : laidMet Tryd.prog Rows.crcBehindRow.laid ((doorWorld os).forCall (fun _ _ => 0) ⟨#[], #[.slice none 0 0], []⟩).memory :=
  laidMet_of_run' 8 (by kernel_rfl) (by kernel_rfl)
theorem reads (os : Os) {H : Type} (enc : TypeId × Value → H) : ∃ places, DataW.whole enc Tryd.prog ((doorWorld os).forCall (fun _ _ => 0) ⟨#[], #[.slice none 0 0], []⟩).memory Tryd.f6.params.toList Rows.crcBehindSpec.vars false (#[.slice none 0 0] : Array Value).toList 8 = some ([.nil], [], places) :=
  ⟨[], by kernel_rfl⟩
set_option maxRecDepth 100000 in
theorem lifted (os : Os) (started : os.Started) (H : Type) (enc : TypeId × Value → H) (F : Stop.Interp) :
    ReturnsInHanded {} Tryd.checked os 6 .any ((OpenSpec.ofChange Rows.crcBehindSpec).preRow enc Tryd.prog Tryd.f6 Rows.crcBehindRow.domain false Rows.crcBehindRow.laid) (((OpenSpec.ofChange Rows.crcBehindSpec).at F).post enc Tryd.prog Tryd.f6 false true false false) := by
  obtain ⟨places, hx⟩ := reads os enc
  refine returnsInHanded_of_row (C := Tryd.checked) (s := OpenSpec.ofChange Rows.crcBehindSpec) own started (by kernel_rfl) Tryd.func6
    (witness_row_at (enc := enc) (C := Tryd.checked) false (doorWorld os) #[.slice none 0 0] rfl (by kernel_rfl) (by kernel_rfl) (by kernel_rfl)
      (OpenSpec.preRow_of_cond 8 hx (by kernel_rfl) (fun k hk => by cases hk) (by kernel_rfl) (laid_met os))) ?_
  intro W base args ds gs before hval0 hW _ hk1 hsz0 hL _ _
  have hsz : (DataW.weightsEach Tryd.prog (Tryd.f6.params.toList ++ Rows.crcBehindSpec.plain.varTypes Tryd.prog) (ds ++ gs)).all (· ≤ reachBytes) = true := hsz0
  have hval : ∀ (j : Nat) t v, Tryd.f6.params[j]? = some t → args[j]? = some v → Value.okWide Tryd.prog W .any base t v := hval0
  have hW' := hW
  obtain ⟨p, q, hA0, hV, rfl, hfz, hnd⟩ := hW
  have hA : DataW.TrodAll enc Tryd.prog W 0 (fun _ => true) true Tryd.f6.params.toList args.toList ds p := hA0
  rw [Tryd.params6] at hA hval hsz
  obtain ⟨v0, vs0, d0, ds0, p0, q0, hargs, rfl, rfl, h0, r0⟩ := trodAll_cons hA
  obtain ⟨rfl, rfl, rfl⟩ := trodAll_nil r0
  obtain rfl : args = #[v0] := by cases args; simp_all
  obtain ⟨rfl, rfl⟩ := trodVars_none hV
  obtain ⟨A0, n0, c0, rfl⟩ := okWide_slice Tryd.underlying23 (hval 0 23 v0 rfl rfl)
  have k0 := h0
  have lt0 : ∀ x ∈ p0, x.block < W.heap.size := by obtain ⟨m, hm⟩ := k0; exact DataW.trod_lt m _ _ _ hm
  obtain ⟨b0, w0, u0⟩ := byteArg_of Tryd.underlying23 Tryd.underlying5 (by kernel_rfl) (by kernel_rfl) h0 hsz (j := 0) rfl rfl
  clear hA0 hval0 hsz0
  refine (walk A0 n0 c0 b0 W w0 (laid_of hL)).mono fun e W' ⟨he, bel⟩ => ?_
  subst he
  exact ⟨_, rfl, _, _, _, [], _, [], hW', trodAll_mk1 (shut_bool Tryd.underlying4 _), (trodAll_cons_mk (Below.trod laidOut (by kernel_rfl) (of_decide_eq_true (by kernel_rfl)) k0 bel lt0) trodAll_mk0), rfl, bel.frame _, fun h => by cases h⟩

theorem said : Rows.CrcBehindSaid :=
  OpenClaim.holds_of_cond 6 Tryd.f6 rfl rfl rfl rfl rfl rfl rfl ⟨rfl, rfl, rfl, rfl, rfl⟩ rfl rfl rfl rfl rfl (by kernel_rfl) Tryd.func6 (by kernel_rfl)
    (of_decide_eq_true (by kernel_rfl)) (by unfold Func.isWrapper; first | (rw [if_pos (by decide +kernel)]; kernel_rfl) | (rw [if_neg (by decide +kernel)]; exact ⟨rfl, rfl⟩))
    (fun os started H enc _ F => by rw [OpenClaim.pre_eq_preRow]; exact lifted os started H enc F)
theorem plain (f : FuncId) (fn : Func) (hf : Tryd.pinned.checked.prog.funcNamed "cohort/cohortlaw03.CrcBehind" = some f) (hfn : Tryd.pinned.checked.prog.funcs[f]? = some fn) :
    false = Tryd.pinned.checked.prog.looks [] ∧ ∀ (j : Nat) t, fn.params[j]? = some t → Tryd.pinned.checked.prog.wantsStandIn t = false := by
  obtain rfl : f = 6 := Option.some.inj ((show Tryd.prog.funcNamed "cohort/cohortlaw03.CrcBehind" = some 6 by kernel_rfl).symm.trans hf) |>.symm
  obtain rfl : fn = Tryd.f6 := (Option.some.inj (Tryd.func6.symm.trans hfn)).symm
  refine ⟨by kernel_rfl, fun j t ht => ?_⟩
  rw [Tryd.params6] at ht
  have hm : t ∈ [23] := by simpa using Array.mem_of_getElem? ht
  have hall : ([23].all fun u => !Tryd.prog.wantsStandIn u) = true := by kernel_rfl
  exact (show Tryd.prog.wantsStandIn t = false by simpa using List.all_eq_true.1 hall t hm)
/-- The card. -/
theorem proved : Rows.CrcBehindCardSaid :=
  Claim7.holds_tied_plain_at .later [] _ _ _ _ said (fun _ h => by cases h) (by kernel_rfl) (fun _ h => by cases h) crcBehind_row_tie rfl ⟨rfl, rfl⟩ (by kernel_rfl) rfl plain (by kernel_rfl)
end Go.Proofs.YtpbapcjgaeifjaaDoor.crcBehind
