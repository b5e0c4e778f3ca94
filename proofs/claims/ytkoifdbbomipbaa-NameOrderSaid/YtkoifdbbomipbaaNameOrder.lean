
/- Compare is an order of all texts: it tells -1, 0 or 1, the other way round the negative, 0 of the same texts alone, and it is transitive: for every three texts the law returns true. No condition on the input. -/
import Derived.Test.YtkoifdbbomipbaaNameL
import Derived.ChangeMaps5
namespace Go.Proofs.Ytkoifdbbomipbaa.nameOrder
open Go.ChangeShapes Go.WideShapes Go.ChangeAt Go.RowKit
open Mem Arr Lst Name
open Go.ChangeMaps (open_string shut_string)
set_option linter.unusedVariables false
set_option linter.unusedSimpArgs false

set_option maxHeartbeats 4000000 in
theorem walk (a0 a1 a2 : ByteArray) (w : World) (s0 : a0.size ≤ 140737488351232) (s1 : a1.size ≤ 140737488351232) (s2 : a2.size ≤ 140737488351232) :
    Calls Try.prog 5 #[.string a0, .string a1, .string a2] w fun e w' => e = .returned (.bool true) ∧ Below w.heap.size w w' := by
  obtain ⟨x, hx⟩ : ∃ x, cmpV a0 a1 = x := ⟨_, rfl⟩
  obtain ⟨y, hy⟩ : ∃ y, cmpV a1 a2 = y := ⟨_, rfl⟩
  obtain ⟨z, hz⟩ : ∃ z, cmpV a0 a2 = z := ⟨_, rfl⟩
  have bx := cmpV_bd a0 a1
  have bz := cmpV_bd a0 a2
  have by_ := cmpV_bd a1 a2
  rw [hx] at bx
  rw [hy] at by_
  rw [hz] at bz
  have ht : x ≤ 0 → y ≤ 0 → z ≤ 0 ∧ (x < 0 → z < 0) := fun h1 h2 => by
    have := cmpV_trans (a := a0) (b := a1) (c := a2) (by omega) (by omega)
    rw [hx, hz] at this; exact this
  have hs : cmpV a1 a0 = -x := by rw [cmpV_swap a0 a1, hx]
  have he : (a0.toList == a1.toList) = (x == 0) := by
    rw [Bool.eq_iff_iff, beq_iff_eq, beq_iff_eq, ← hx]
    exact cmpV_zero.symm
  have X := Lib.hid hx
  have Y := Lib.hid hy
  have Z := Lib.hid hz
  have V := Lib.hid hs
  clear hx hy hz hs
  rcases bx with rfl | rfl | rfl <;> rcases by_ with rfl | rfl | rfl <;> rcases bz with rfl | rfl | rfl
  all_goals first
    | (exfalso; have := ht (by omega) (by omega); omega)
    | (clear ht
       have E : (a0.toList == a1.toList) = _ := he.trans rfl
       clear he
       go_enter Try.func5, Try.ntmps5
       go_wp2_with fail
       refine (compare_is _ _ _ _ X).mono ?_; rintro e w1 ⟨rfl, rfl⟩
       go_wp2_with fail
       refine (compare_is _ _ _ _ Y).mono ?_; rintro e w1 ⟨rfl, rfl⟩
       go_wp2_with fail
       refine (compare_is _ _ _ _ Z).mono ?_; rintro e w1 ⟨rfl, rfl⟩
       go_wp2_with fail
       refine (compare_is _ _ _ _ V).mono ?_; rintro e w1 ⟨rfl, rfl⟩
       go_wp2_with fail
       refine (lives_any _).mono ?_; rintro e w4 ⟨rfl, b4⟩
       go_wp2
       go_ret
       exact ⟨rfl, b4⟩)

/-! The row's step, by the frame. -/
theorem own : ownKnob Try.prog.godebug = none := by kernel_rfl
theorem laidOut : laidOutB Try.prog = true := by kernel_rfl
set_option maxRecDepth 100000 in
theorem lifted (os : Os) (started : os.Started) (H : Type) (enc : TypeId × Value → H) :
    ReturnsInHanded {} Try.checked os 5 .any (Rows.nameOrderSpec.pre6 enc Try.prog Try.f5 Rows.nameOrderRow.domain false) (Rows.nameOrderSpec.post enc Try.prog Try.f5 false true false false) := by
  refine returnsInHanded_of_change_sized (C := Try.checked) own started (by kernel_rfl) Try.func5
    (ChangeSpec.witness6 (enc := enc) (C := Try.checked) false ⟨#[], #[.string .empty, .string .empty, .string .empty], []⟩ 8 (by kernel_rfl) (by kernel_rfl) (by kernel_rfl) (by kernel_rfl)) ?_
  intro W base args ds gs before hval0 hW _ hsz0 _
  have hsz : (DataW.weightsEach Try.prog (Try.f5.params.toList ++ Rows.nameOrderSpec.plain.varTypes Try.prog) (ds ++ gs)).all (· ≤ reachBytes) = true := hsz0
  have hval : ∀ (j : Nat) t v, Try.f5.params[j]? = some t → args[j]? = some v → Value.okWide Try.prog W .any base t v := hval0
  have hW' := hW
  obtain ⟨p, q, hA0, hV, rfl, hfz, hnd⟩ := hW
  have hA : DataW.TrodAll enc Try.prog W 0 (fun _ => true) true Try.f5.params.toList args.toList ds p := hA0
  rw [Try.params5] at hA hval hsz
  obtain ⟨v0, vs0, d0, ds0, p0, q0, hargs, rfl, rfl, h0, r0⟩ := trodAll_cons hA
  obtain ⟨v1, vs1, d1, ds1, p1, q1, rfl, rfl, rfl, h1, r1⟩ := trodAll_cons r0
  obtain ⟨v2, vs2, d2, ds2, p2, q2, rfl, rfl, rfl, h2, r2⟩ := trodAll_cons r1
  obtain ⟨rfl, rfl, rfl⟩ := trodAll_nil r2
  obtain rfl : args = #[v0, v1, v2] := by cases args; simp_all
  obtain ⟨rfl, rfl⟩ := trodVars_none hV
  obtain ⟨a0, rfl, rfl, rfl, w0⟩ := open_string Try.underlying9 (hval 0 9 v0 rfl rfl) h0
  have s0 : a0.size ≤ 140737488351232 := by have := sized_string hsz (j := 0) rfl rfl; rw [Array.length_toList] at this; exact this
  obtain ⟨a1, rfl, rfl, rfl, w1⟩ := open_string Try.underlying9 (hval 1 9 v1 rfl rfl) h1
  have s1 : a1.size ≤ 140737488351232 := by have := sized_string hsz (j := 1) rfl rfl; rw [Array.length_toList] at this; exact this
  obtain ⟨a2, rfl, rfl, rfl, w2⟩ := open_string Try.underlying9 (hval 2 9 v2 rfl rfl) h2
  have s2 : a2.size ≤ 140737488351232 := by have := sized_string hsz (j := 2) rfl rfl; rw [Array.length_toList] at this; exact this
  clear hA0 hval0 hsz0
  refine (walk a0 a1 a2 W s0 s1 s2).mono fun e W' ⟨he, bel⟩ => ?_
  subst he
  exact ⟨_, rfl, _, _, _, [], _, [], hW', trodAll_mk1 (shut_bool Try.underlying4 _), (trodAll_cons_mk (shut_string Try.underlying9 w0) (trodAll_cons_mk (shut_string Try.underlying9 w1) (trodAll_cons_mk (shut_string Try.underlying9 w2) trodAll_mk0))), rfl, bel.frame _, fun h => by cases h⟩

/-- The statement. -/
theorem proved : Rows.NameOrderSaid :=
  OpenClaim.holds_of_wide 5 Try.f5 rfl rfl rfl rfl rfl rfl rfl ⟨rfl, rfl, rfl, rfl, rfl⟩ rfl rfl rfl rfl rfl (by kernel_rfl) Try.func5 (by kernel_rfl)
    (of_decide_eq_true (by kernel_rfl)) (by unfold Func.isWrapper; first | (rw [if_pos (by decide +kernel)]; kernel_rfl) | (rw [if_neg (by decide +kernel)]; exact ⟨rfl, rfl⟩))
    (fun os started H enc _ => lifted os started H enc)
end Go.Proofs.Ytkoifdbbomipbaa.nameOrder
