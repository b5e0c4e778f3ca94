/- Whatever number's bytes, and whatever bytes' number, the program tells are the document's, or its error, and what is handed in stays: for every input the law returns true. No condition. -/
import Derived.Test.YteglmjongdpagaaNumQ
import Derived.Test.YteglmjongdpagaaNumW
namespace Go.Proofs.Yteglmjongdpagaa.numBytes
open Go.ChangeShapes Go.WideShapes Go.ChangeAt Go.RowKit
open NumM NumA Mem Ref00
set_option linter.unusedVariables false

theorem walk (n : Int) (s : Int) (A : Option Addr) (m c : Nat) (bs : List Int) (at_ : Int) (w : World) (w0 : (Lit.int .u64 n).wf = true) (w1 : (Lit.int .i64 s).wf = true) (r : ByteArg w A m c bs) (w3 : (Lit.int .i64 at_).wf = true) :
    Calls Try.prog 4 #[.int .u64 n, .int .i64 s, .slice A m c, .int .i64 at_] w fun e w' => e = .returned (.bool true) ∧ Below w.heap.size w w' := by
  obtain ⟨n0, n1⟩ := bounds_u64 w0
  clear w0 w1 w3
  have hm : m ≤ 140737488351232 := by have := r.le; have := r.reach; omega
  have R := Lib.hid r
  clear r
  go_enter Try.func4, Try.ntmps4
  go_wp2_with fail
  refine (wide_any A m c bs w R.out.rd R.out.nil_ hm).mono ?_
  rintro e W1 ⟨g, cap, rfl, hcap, hcm, hg, hrd, hb1⟩
  have HR1 := Lib.hid hrd
  have HB1 := Lib.hid hb1
  clear hrd hb1
  go_wp2_with fail
  refine (put_all n s W1 n0 n1).mono ?_
  rintro e W2 ⟨A2, c2, rfl, hA2, hl2, hl2', hr2, hb2⟩
  have HR2 := Lib.hid hr2
  have HB2 := Lib.hid hb2
  clear hA2 hl2 hl2' hr2 hb2
  go_wp2_with fail
  refine (refPut_all n s W2 n0 n1).mono ?_
  rintro e W3 ⟨A3, c3, rfl, hA3, hl3, hl3', hr3, hb3⟩
  have HR3 := Lib.hid hr3
  have HB3 := Lib.hid hb3
  clear hA3 hl3 hl3' hr3 hb3
  -- what is read in the last world
  have z1 := HB1.out.size
  have z2 := HB2.out.size
  have z3 := HB3.out.size
  have B13 : Below W1.heap.size W1 W3 := HB2.out.trans (HB3.out.mono z2)
  have B03 : Below w.heap.size w W3 := HB1.out.trans (B13.mono z1)
  have V3 := HR1.out.below B13
  have X3 := HR2.out.below HB3.out
  have Y3 := HR3.out
  have R3 := R.out.rd.below B03
  have V3' : Mem.Rd W3 W1.heap.size (some ⟨g, 0, none⟩) m bs := by
    have := V3.ahead (m := m) (by omega)
    rwa [List.take_left' R.out.rd.1] at this
  have G1 := Lib.hid (get_all W1.heap.size (some ⟨g, 0, none⟩) m cap bs at_ s W3 V3' R.out.byte (by omega) hm hcm)
  have G2 := Lib.hid (refGet_all w.heap.size A m c bs at_ s W3 R3 R.out.byte R.out.le hm (by have := R.out.reach; omega))
  have SM := Lib.hid (Ref00.same_true A2 A3 (putL n s).length (putL n s).length c2 c3 (putL n s) W3 W2.heap.size W3.heap.size X3 Y3)
  have LF := Lib.hid (left_true g m cap A c bs W3 W1.heap.size w.heap.size V3 hcap R3 hm)
  have LV := Lib.hid (lives_below W3)
  have BB := Lib.hid B03
  clear B13 B03 V3 X3 Y3 R3 V3' z1 z2 z3 HR1 HR2 HR3 HB1 HB2 HB3
  go_wp2_with (first
    | (go_at_call 22; refine G1.out.mono ?_; rintro e w' ⟨rfl, rfl⟩)
    | (go_at_call 23; refine G2.out.mono ?_; rintro e w' ⟨rfl, rfl⟩)
    | (go_at_call 24; refine SM.out.mono ?_; rintro e w' ⟨rfl, rfl⟩)
    | (go_at_call 25; refine LF.out.mono ?_; rintro e w' ⟨rfl, rfl⟩)
    | (go_at_call 18; refine LV.out.mono ?_; rintro e w' ⟨rfl, hb4⟩))
  go_ret
  exact ⟨rfl, BB.out.trans (Below.mono (by assumption) BB.out.size)⟩

/-! The row's step, by the frame. -/
theorem own : ownKnob Try.prog.godebug = none := by kernel_rfl
theorem laidOut : laidOutB Try.prog = true := by kernel_rfl
set_option maxRecDepth 100000 in
theorem lifted (os : Os) (started : os.Started) (H : Type) (enc : TypeId × Value → H) :
    ReturnsInHanded {} Try.checked os 4 .any (Rows.numBytesSpec.pre6 enc Try.prog Try.f4 Rows.numBytesRow.domain false) (Rows.numBytesSpec.post enc Try.prog Try.f4 false true false false) := by
  refine returnsInHanded_of_change_sized (C := Try.checked) own started (by kernel_rfl) Try.func4
    (ChangeSpec.witness6 (enc := enc) (C := Try.checked) false ⟨#[], #[.int .u64 0, .int .i64 0, .slice none 0 0, .int .i64 0], []⟩ 8 (by kernel_rfl) (by kernel_rfl) (by kernel_rfl) (by kernel_rfl)) ?_
  intro W base args ds gs before hval0 hW _ hsz0 _
  have hsz : (DataW.weightsEach Try.prog (Try.f4.params.toList ++ Rows.numBytesSpec.plain.varTypes Try.prog) (ds ++ gs)).all (· ≤ reachBytes) = true := hsz0
  have hval : ∀ (j : Nat) t v, Try.f4.params[j]? = some t → args[j]? = some v → Value.okWide Try.prog W .any base t v := hval0
  have hW' := hW
  obtain ⟨p, q, hA0, hV, rfl, hfz, hnd⟩ := hW
  have hA : DataW.TrodAll enc Try.prog W 0 (fun _ => true) true Try.f4.params.toList args.toList ds p := hA0
  rw [Try.params4] at hA hval hsz
  obtain ⟨v0, vs0, d0, ds0, p0, q0, hargs, rfl, rfl, h0, r0⟩ := trodAll_cons hA
  obtain ⟨v1, vs1, d1, ds1, p1, q1, rfl, rfl, rfl, h1, r1⟩ := trodAll_cons r0
  obtain ⟨v2, vs2, d2, ds2, p2, q2, rfl, rfl, rfl, h2, r2⟩ := trodAll_cons r1
  obtain ⟨v3, vs3, d3, ds3, p3, q3, rfl, rfl, rfl, h3, r3⟩ := trodAll_cons r2
  obtain ⟨rfl, rfl, rfl⟩ := trodAll_nil r3
  obtain rfl : args = #[v0, v1, v2, v3] := by cases args; simp_all
  obtain ⟨rfl, rfl⟩ := trodVars_none hV
  obtain ⟨a0, rfl, rfl, rfl, w0⟩ := open_int Try.underlying28 (hval 0 28 v0 rfl rfl) h0
  obtain ⟨a1, rfl, rfl, rfl, w1⟩ := open_int Try.underlying3 (hval 1 3 v1 rfl rfl) h1
  obtain ⟨A2, n2, c2, rfl⟩ := okWide_slice Try.underlying29 (hval 2 29 v2 rfl rfl)
  have k2 := h2
  have lt2 : ∀ x ∈ p2, x.block < W.heap.size := by obtain ⟨m, hm⟩ := k2; exact DataW.trod_lt m _ _ _ hm
  obtain ⟨b2, w2, u2⟩ := byteArg_of Try.underlying29 Try.underlying5 (by kernel_rfl) (by kernel_rfl) h2 hsz (j := 2) rfl rfl
  obtain ⟨a3, rfl, rfl, rfl, w3⟩ := open_int Try.underlying3 (hval 3 3 v3 rfl rfl) h3
  clear hA0 hval0 hsz0
  refine (walk a0 a1 A2 n2 c2 b2 a3 W w0 w1 w2 w3).mono fun e W' ⟨he, bel⟩ => ?_
  subst he
  exact ⟨_, rfl, _, _, _, [], _, [], hW', trodAll_mk1 (shut_bool Try.underlying4 _), (trodAll_cons_mk (shut_int Try.underlying28 w0) (trodAll_cons_mk (shut_int Try.underlying3 w1) (trodAll_cons_mk (Below.trod laidOut (by kernel_rfl) (of_decide_eq_true (by kernel_rfl)) k2 bel lt2) (trodAll_cons_mk (shut_int Try.underlying3 w3) trodAll_mk0)))), rfl, bel.frame _, fun h => by cases h⟩

/-- The statement. -/
theorem proved : Rows.NumBytesSaid :=
  OpenClaim.holds_of_wide 4 Try.f4 rfl rfl rfl rfl rfl rfl rfl ⟨rfl, rfl, rfl, rfl, rfl⟩ rfl rfl rfl rfl rfl (by kernel_rfl) Try.func4 (by kernel_rfl)
    (of_decide_eq_true (by kernel_rfl)) (by unfold Func.isWrapper; first | (rw [if_pos (by decide +kernel)]; kernel_rfl) | (rw [if_neg (by decide +kernel)]; exact ⟨rfl, rfl⟩))
    (fun os started H enc _ => lifted os started H enc)
end Go.Proofs.Yteglmjongdpagaa.numBytes
