
/- Layer 14: the example of the laws holds. -/
import Derived.Test.YtgaeelhbdgpobaaBlackJ
namespace Go.Proofs.Ytgaeelhbdgpobaa.Black
open Go.ChangeShapes Go.WideShapes Go.ChangeAt Go.RowKit
open Mem Arr Lst Rec

def P5 : Nat → Int := fun _ => 5
def U0 : Nat → Int := fun _ => 0
def M1 : Nat → Bool := fun i => i == 1
def UR : Nat → Int := refU 2 U0 1 9 10
theorem cv1 : openB 2 P5 U0 1 9 = true := by decide
theorem cv2 : openB 2 P5 UR 1 18 = false := by decide
theorem cv3 : openB 2 P5 UR 1 19 = true := by decide
theorem cv4 : openB 2 P5 U0 7 9 = false := by decide
theorem cv5 : classV 2 2 P5 UR M1 true true 9 = (false, true) := by decide
theorem cv6 : nx UR 9 2 = (19, true) := by decide
theorem cv7 : (opens 2 2 P5 UR M1 true 9).length = 0 := by decide
theorem cv8 : UR 1 = 19 := by decide
set_option maxHeartbeats 1000000 in
theorem lives_any (w : World) : Calls Try.prog 6 #[] w fun e w' => e = .returned (.bool true) ∧ Below w.heap.size w w' := by
  have H1 := Lib.hid (Cfg.one (twoC (w.heap.size + 1)))
  go_enter Try.func6, Try.ntmps6
  go_wp2_with (first | (go_at_call 21; refine (two_any w).mono ?_; rintro e w1 ⟨rfl, hP, hQ, hb1⟩) | (refine store_new rfl 27 _ _ rfl (twoC (w.heap.size + 1)).cells _ _ rfl rfl (infoCfg.trans rfl) rfl H1.out ?_))
  have hb2 := bAlloc hb1 (.cells (twoC (w.heap.size + 1)).cells 27)
  have KB : (w1.alloc (.cells (twoC (w.heap.size + 1)).cells 27)).heap[w1.heap.size]? = some (.cells (twoC (w.heap.size + 1)).cells 27 (0, 0)) := heap_alloc_new _ _
  have hPP := hP.later (bAlloc (Below.refl _ _) (.cells (twoC (w.heap.size + 1)).cells 27))
  have hQQ := Recs.later hQ (bAlloc (Below.refl _ _) (.cells (twoC (w.heap.size + 1)).cells 27))
  refine (refuse_own _ 2 2 P5 P5 U0 1 9 10 _ hQQ (fun e => (by cases e)) (by omega) (by omega) (by omega)).mono ?_
  rintro e w3 ⟨v3, rfl, own3, hb3⟩
  obtain ⟨g, cap, rfl, hg1, hg2, hg3, hg4⟩ := own3.form (by omega)
  have KB3 := kept_box hb3 KB
  have hP3 := hPP.later hb3
  have hQ3 := Recs.later hQQ hb3
  have hR3 : Quotes w3 w3.heap.size (some ⟨g, 0, none⟩) 2 P5 P5 UR := own3.recs
  have hb4 := bTrans hb2 hb3
  clear own3 hb3 hQQ hPP KB hb2 hb1 hP hQ
  have e5 : classV 2 (twoC (w.heap.size + 1)).pN P5 UR M1 (twoC (w.heap.size + 1)).fallback true 9 = (false, true) := cv5
  have C5 := class_any (twoC (w.heap.size + 1)) (some ⟨g, 0, none⟩) 2 cap P5 P5 UR M1 true 9 w3 hR3 hP3 (by omega)
  rw [e5] at C5
  have C5 := Lib.hid C5
  go_wp2_with (first | (refine load_cfg rfl _ rfl _ rfl (twoC (w.heap.size + 1)) _ _ KB3 ?_))
  refine C5.out.mono ?_
  rintro e w5 ⟨rfl, hb5⟩
  have C6 := next_any (some ⟨g, 0, none⟩) 2 cap P5 P5 UR 9 w5 (Recs.later hR3 hb5) (by omega)
  rw [cv6] at C6
  have C6 := Lib.hid C6
  go_wp2_with fail
  refine C6.out.mono ?_
  rintro e w6 ⟨rfl, hb6⟩
  have hb7 := bTrans hb5 hb6
  have HR := Lib.hid (Recs.later hR3 hb7)
  have HQ := Lib.hid (Recs.later hQ3 hb7)
  have HP := Lib.hid (hP3.later hb7)
  have HB := Lib.hid (bTrans hb4 hb7)
  have KB6 := kept_box hb7 KB3
  clear hR3 hQ3 hP3 hb4 hb5 hb6 hb7 C5 C6 KB3
  have O1 := Lib.hid (open_is _ 2 2 P5 P5 U0 1 9 true w6 HQ.out (by omega) (Lib.hid cv1))
  have O2 := Lib.hid (open_is _ 2 cap P5 P5 UR 1 18 false w6 HR.out (by omega) (Lib.hid cv2))
  have O3 := Lib.hid (open_is _ 2 cap P5 P5 UR 1 19 true w6 HR.out (by omega) (Lib.hid cv3))
  have O4 := Lib.hid (opens_any (twoC (w.heap.size + 1)) _ 2 cap P5 P5 UR M1 true 9 w6 HR.out HP.out (by omega))
  obtain ⟨hgl, r0, r1, r2⟩ := quote_cells HR.out (Below.refl _ _) rfl (by omega : 1 < 2)
  rw [cv8] at r2
  simp only [Nat.zero_add, Nat.one_mul] at r2
  go_wp2_with fail
  refine O1.out.mono ?_
  rintro e w7 ⟨rfl, rfl⟩
  go_wp2_with fail
  refine O2.out.mono ?_
  rintro e w7 ⟨rfl, rfl⟩
  go_wp2_with fail
  refine O3.out.mono ?_
  rintro e w7 ⟨rfl, rfl⟩
  go_wp2_with (first | (refine load_cfg rfl _ rfl _ rfl (twoC (w.heap.size + 1)) _ _ KB6 ?_))
  refine O4.out.mono ?_
  rintro e w8 ⟨v8, rfl, own8, hb8⟩
  obtain ⟨A8, cap8, rfl, -, -, -, -⟩ := own8.shape
  have hl : (opens 2 (twoC (w.heap.size + 1)).pN P5 UR M1 true 9).length = 0 := cv7
  rw [hl]
  have O5 := Lib.hid (open_is _ 2 2 P5 P5 U0 7 9 false w8 (Recs.later HQ.out hb8) (by omega) (Lib.hid cv4))
  go_wp2_with fail
  refine O5.out.mono ?_
  rintro e w9 ⟨rfl, rfl⟩
  go_wp2
  go_ret
  exact ⟨rfl, bTrans HB.out hb8⟩
end Go.Proofs.Ytgaeelhbdgpobaa.Black
