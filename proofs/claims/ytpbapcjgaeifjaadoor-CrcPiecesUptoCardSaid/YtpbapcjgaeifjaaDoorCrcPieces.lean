
/- Of of pieces is More of the first ones' sum and the last one: for every list of pieces of bulk at most 1048576 the law returns true, where the table crc.halves holds what the program's text lays in it (the card ties it). The second form. -/
import Derived.Test.YtpbapcjgaeifjaaDoorCrcW
import Derived.Test.YtpbapcjgaeifjaaDoorRef00
import Derived.Test.YtpbapcjgaeifjaaDoorMat
namespace Go.Proofs.YtpbapcjgaeifjaaDoor.crcPieces
open Go.ChangeShapes Go.WideShapes Go.ChangeAt Go.RowKit
open Mem CrcM Crc Ref00 Arr Lst Mat Upto
set_option linter.unusedVariables false

theorem own_any {w : World} {base : Nat} {e : TypeId} {v : Value} {n : Nat} {bs : List Int} (h : w.ownsRow base e 1 v n (bytesV bs)) : ∃ A cap, v = .slice A n cap ∧ Rd w w.heap.size A n bs := by
  rcases Nat.lt_or_ge 0 n with h0 | h0
  · obtain ⟨g, cap, rfl, _⟩ := own_form h h0
    exact ⟨_, _, rfl, Rd.of_own h⟩
  · obtain rfl : n = 0 := by omega
    have hl : bs.length = 0 := by have := h.1; rw [bytesV_length] at this; omega
    obtain rfl := List.eq_nil_of_length_eq_zero hl
    rcases h.2 with ⟨h', _⟩ | ⟨g, cap, cur, h', _⟩
    · exact ⟨_, _, h', rfl, fun _ => rfl, fun h => absurd h (by omega)⟩
    · exact ⟨_, _, h', rfl, fun _ => rfl, fun h => absurd h (by omega)⟩
theorem grown_below {W w w' : World} {E : TypeId} {v : Value} {n : Nat} {xs : List Value} (hb : Below W.heap.size W w) (h : w.ownsRow W.heap.size E 1 v n xs) (hg : w.grownBy w' v.ownBlock) : Below W.heap.size W w' :=
  hb.grown hg hb.size (fun k hk => (h.lt k hk).1)

set_option maxHeartbeats 4000000 in
theorem walk (A : Option Addr) (n cap : Nat) (R : Nat → Option Addr) (L C : Nat → Nat) (Z : Nat → List Int) (w : World) (h : MatArg w A n R L C Z) (Ld : Laid w) :
    Calls Tryd.prog 4 #[.slice A n cap] w fun e w' => e = .returned (.bool true) ∧ Below w.heap.size w w' := by
  have hbk := h.bulk
  have hn : n ≤ 1048576 := by omega
  have HH := Lib.hid h
  have HL := Lib.hid Ld
  have HC := Lib.hid (fun k (hk : k ≤ n) => cat_le (Z := Z) hk)
  have HBy := Lib.hid (cat_bytes h.byte)
  obtain ⟨i0, hi, hz0, hz1, hz2⟩ := info_parts infoByte
  clear h Ld
  have C1 := of_any none 0 0 [] w w.heap.size HL.out (Rd.nil_ _ _) (fun i => by simp) (by omega)
  have C1 := Lib.hid C1
  go_enter Tryd.func4, Tryd.ntmps4
  go_wp2_with fail
  refine C1.out.mono ?_
  rintro e w1 ⟨rfl, rfl⟩
  go_wp2_with fail
  go_loopw [3, 4, 5] (fun v s i wr => ∃ k : Nat, k ≤ n ∧ i = .int .i64 k ∧ s = .int .u32 (num (sumB 0xffffffff#32 (cat Z k))) ∧ wr.ownsRow w.heap.size 5 1 v (cat Z k).length (bytesV (cat Z k)) ∧ Below w.heap.size w wr) (fun _ _ i _ => n - (intOf i).toNat)
  case atStart => exact ⟨0, by omega, rfl, rfl, World.ownsRow_nil _ _ _ _, Below.refl _ _⟩
  case round =>
    obtain ⟨k, hk, rfl, rfl, hown, hb⟩ := hrel
    by_cases hlt : k < n
    · have hR := HH.out.each k hlt
      have hl := hR.1
      have hle := HC.out (k + 1) (by omega)
      simp only [cat, List.length_append] at hle
      have hx : (cat Z k).length + L k ≤ 1048576 := by omega
      obtain ⟨b, off, rfl, hbl⟩ := reads_form HH.out.rd (by omega)
      obtain ⟨_, c0⟩ := reads_at HH.out.rd hb rfl hlt
      have cl1 : (k : Int) < (n : Int) := by omega
      have cl2 : (0 : Int) ≤ (k : Int) := by omega
      have HR := Lib.hid (hR.below hb)
      have HZ : Hid (R k = none → C k = 0) := Lib.hid (HH.out.none_ k hlt)
      have HO := Lib.hid hown
      have HB := Lib.hid hb
      clear hR hl hle hown hb
      go_wp2_with (at_builtin; refine append_bytes rfl (.tmp 13) (.tmp 17) 23 rfl w.heap.size 5 i0 Tryd.underlying23 hi hz0 hz1 hz2 _ (cat Z k).length (cat Z k) rfl HO.out _ (R k) (L k) (C k) (Z k) rfl HR.out HZ.out (by omega) HB.out.size ?_; intro v2 W2 hown2 hgrow; have hb2 := grown_below HB.out HO.out hgrow; have c0 : W2.cell? ⟨b, off + k, none⟩ = some (.slice (R k) (L k) (C k)) := (reads_at HH.out.rd hb2 rfl hlt).2)
      have L2 := Lib.hid (HL.out.below hb2)
      have C2 := Lib.hid (more_any (sumB 0xffffffff#32 (cat Z k)) (R k) (L k) (C k) (Z k) W2 _ L2.out ((HH.out.each k hlt).below hb2) (HH.out.byte k hlt) (by omega))
      have HO2 := Lib.hid hown2
      have HB2 := Lib.hid hb2
      have HN : Hid (L k = (Z k).length) := Lib.hid (HH.out.each k hlt).1.symm
      clear hown2 hb2 hgrow HO HB HR
      go_wp2_with fail
      refine C2.out.mono ?_
      rintro e w3 ⟨rfl, rfl⟩
      go_wp2_with fail
      go_roundw
      case rel => exact ⟨k + 1, by omega, by go_num, by rw [← sum_append]; rfl, by have := HO2.out; rw [HN.out] at this; simpa [cat] using this, HB2.out⟩
      case measure => simp [intOf]; omega
    · obtain rfl : k = n := by omega
      obtain ⟨A2, c2, rfl, hR⟩ := own_any hown
      have L2 := Lib.hid (HL.out.below hb)
      have C2 := Lib.hid (of_any A2 (cat Z k).length c2 (cat Z k) wr _ L2.out hR (HBy.out k (Nat.le_refl _)) (by omega))
      have HB := Lib.hid hb
      clear hR hown hb
      go_wp2_with fail
      refine C2.out.mono ?_
      rintro e w3 ⟨rfl, rfl⟩
      go_wp2_with fail
      refine (lives_any wr L2.out).mono ?_
      rintro e w3 ⟨rfl, hb2⟩
      go_wp2
      go_ret
      exact ⟨rfl, bTrans HB.out hb2⟩

/-! The row's step, by the frame; the card. -/
theorem own : ownKnob Tryd.prog.godebug = none := by kernel_rfl
theorem laidOut : laidOutB Tryd.prog = true := by kernel_rfl
theorem laid_met (os : Os) : laidMet Tryd.prog Rows.crcPiecesUptoRow.laid ((doorWorld os).forCall (fun _ _ => 0) ⟨#[], #[.slice none 0 0], []⟩).memory :=
  laidMet_of_run' 8 (by kernel_rfl) (by kernel_rfl)
theorem reads (os : Os) {H : Type} (enc : TypeId × Value → H) : ∃ places, DataW.whole enc Tryd.prog ((doorWorld os).forCall (fun _ _ => 0) ⟨#[], #[.slice none 0 0], []⟩).memory Tryd.f4.params.toList Rows.crcPiecesSpec.vars false (#[.slice none 0 0] : Array Value).toList 8 = some ([.nil], [], places) :=
  ⟨[], by kernel_rfl⟩
set_option maxRecDepth 100000 in
theorem lifted (os : Os) (started : os.Started) (H : Type) (enc : TypeId × Value → H) (F : Stop.Interp) :
    ReturnsInHanded {} Tryd.checked os 4 .any ((Rows.OpenSpec.upto Rows.crcPiecesSpec).preRow enc Tryd.prog Tryd.f4 Rows.crcPiecesUptoRow.domain false Rows.crcPiecesUptoRow.laid) (((Rows.OpenSpec.upto Rows.crcPiecesSpec).at F).post enc Tryd.prog Tryd.f4 false true false false) := by
  obtain ⟨places, hx⟩ := reads os enc
  refine returnsInHanded_of_row (C := Tryd.checked) (s := Rows.OpenSpec.upto Rows.crcPiecesSpec) own started (by kernel_rfl) Tryd.func4
    (witness_row_at (enc := enc) (C := Tryd.checked) false (doorWorld os) #[.slice none 0 0] rfl (by kernel_rfl) (by kernel_rfl) (by kernel_rfl)
      (OpenSpec.preRow_of_cond 8 hx (by kernel_rfl) (fun k hk => by cases hk; kernel_rfl) (by kernel_rfl) (laid_met os))) ?_
  intro W base args ds gs before hval0 hW _ hk1 hsz0 hL _ _
  have hsz : (DataW.weightsEach Tryd.prog (Tryd.f4.params.toList ++ Rows.crcPiecesSpec.plain.varTypes Tryd.prog) (ds ++ gs)).all (· ≤ reachBytes) = true := hsz0
  have hval : ∀ (j : Nat) t v, Tryd.f4.params[j]? = some t → args[j]? = some v → Value.okWide Tryd.prog W .any base t v := hval0
  have hW' := hW
  obtain ⟨p, q, hA0, hV, rfl, hfz, hnd⟩ := hW
  have hA : DataW.TrodAll enc Tryd.prog W 0 (fun _ => true) true Tryd.f4.params.toList args.toList ds p := hA0
  rw [Tryd.params4] at hA hval hsz
  obtain ⟨v0, vs0, d0, ds0, p0, q0, hargs, rfl, rfl, h0, r0⟩ := trodAll_cons hA
  obtain ⟨rfl, rfl, rfl⟩ := trodAll_nil r0
  obtain rfl : args = #[v0] := by cases args; simp_all
  obtain ⟨rfl, rfl⟩ := trodVars_none hV
  have hk0 := hk1 _ rfl
  obtain ⟨A0, n0, c0, rfl⟩ := okWide_slice Tryd.underlying32 (hval 0 32 v0 rfl rfl)
  have k0 := h0
  have lt0 : ∀ x ∈ p0, x.block < W.heap.size := by obtain ⟨m, hm⟩ := k0; exact DataW.trod_lt m _ _ _ hm
  obtain ⟨R0, L0, C0, Z0, b0⟩ := mat_arg hk0 (j := 0) rfl h0
  clear hA0 hval0 hsz0
  refine (walk A0 n0 c0 R0 L0 C0 Z0 W b0 (laid_of hL)).mono fun e W' ⟨he, bel⟩ => ?_
  subst he
  exact ⟨_, rfl, _, _, _, [], _, [], hW', trodAll_mk1 (shut_bool Tryd.underlying4 _), (trodAll_cons_mk (Below.trod laidOut (by kernel_rfl) (of_decide_eq_true (by kernel_rfl)) k0 bel lt0) trodAll_mk0), rfl, bel.frame _, fun h => by cases h⟩

theorem said : Rows.CrcPiecesUptoSaid :=
  OpenClaim.holds_of_cond 4 Tryd.f4 rfl rfl rfl rfl rfl rfl rfl ⟨rfl, rfl, rfl, rfl, rfl⟩ rfl rfl rfl rfl rfl (by kernel_rfl) Tryd.func4 (by kernel_rfl)
    (of_decide_eq_true (by kernel_rfl)) (by unfold Func.isWrapper; first | (rw [if_pos (by decide +kernel)]; kernel_rfl) | (rw [if_neg (by decide +kernel)]; exact ⟨rfl, rfl⟩))
    (fun os started H enc _ F => by rw [OpenClaim.pre_eq_preRow]; exact lifted os started H enc F)
theorem plain (f : FuncId) (fn : Func) (hf : Tryd.pinned.checked.prog.funcNamed "cohort/cohortlaw03.CrcPieces" = some f) (hfn : Tryd.pinned.checked.prog.funcs[f]? = some fn) :
    false = Tryd.pinned.checked.prog.looks [] ∧ ∀ (j : Nat) t, fn.params[j]? = some t → Tryd.pinned.checked.prog.wantsStandIn t = false := by
  obtain rfl : f = 4 := Option.some.inj ((show Tryd.prog.funcNamed "cohort/cohortlaw03.CrcPieces" = some 4 by kernel_rfl).symm.trans hf) |>.symm
  obtain rfl : fn = Tryd.f4 := (Option.some.inj (Tryd.func4.symm.trans hfn)).symm
  refine ⟨by kernel_rfl, fun j t ht => ?_⟩
  rw [Tryd.params4] at ht
  have hm : t ∈ [32] := by simpa using Array.mem_of_getElem? ht
  have hall : ([32].all fun u => !Tryd.prog.wantsStandIn u) = true := by kernel_rfl
  exact (show Tryd.prog.wantsStandIn t = false by simpa using List.all_eq_true.1 hall t hm)
/-- The card. -/
theorem proved : Rows.CrcPiecesUptoCardSaid :=
  Claim7.holds_tied_plain_at .later [] _ _ _ _ said (fun _ h => by cases h) (by kernel_rfl) (fun _ h => by cases h) crcPiecesUpto_row_tie rfl ⟨rfl, rfl⟩ (by kernel_rfl) rfl plain (by kernel_rfl)
end Go.Proofs.YtpbapcjgaeifjaaDoor.crcPieces
