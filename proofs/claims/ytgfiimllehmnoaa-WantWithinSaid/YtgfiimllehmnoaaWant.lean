
/- Contracts of layer 24: how a capacity follows, and what it comes to. -/
import Derived.Test.YtgfiimllehmnoaaCfgA
import Derived.Test.YtgfiimllehmnoaaTrack
import Derived.Test.YtgfiimllehmnoaaStairC
namespace Go.Proofs.Ytgfiimllehmnoaa.Want
open Go.ChangeShapes Go.WideShapes Go.ChangeAt Go.RowKit
open NumM NumA Mem Arr Rec

theorem box_cell {w wr : World} {c : Cfg} {t : TypeId} (hb : Below (w.alloc (.cells c.cells t)).heap.size (w.alloc (.cells c.cells t)) wr) (k : Nat) : wr.cell? ⟨w.heap.size, k, none⟩ = c.cells[k]? := by
  rw [hb.cell (p := ⟨w.heap.size, k, none⟩) (by simp), cell_of_row _ _ _ _ _ _ (heap_alloc_new w _)]
theorem later1 {w : World} (o : Obj) : Below w.heap.size w (w.alloc o) := bAlloc (Below.refl _ _) o

theorem within_is (n low high : Int) (t : Bool) (ht : Hid (decide (low ≤ n ∧ n ≤ high) = t)) (w : World) :
    Calls Try.prog 10 #[.int .i64 n, .int .i64 low, .int .i64 high] w fun e w' => e = .returned (.bool t) ∧ w = w' := by
  by_cases h1 : low ≤ n
  · have HV : Hid (decide (n ≤ high) = t) := Lib.hid (by rw [← ht.out]; by_cases h : n ≤ high <;> simp [h, h1])
    clear ht
    go_enter Try.func10, Try.ntmps10
    go_wp2
    go_ret
    exact ⟨ret_bool HV.out, rfl⟩
  · have HV : Hid (false = t) := Lib.hid (by rw [← ht.out]; simp [h1])
    clear ht
    go_enter Try.func10, Try.ntmps10
    go_wp2
    go_ret
    exact ⟨ret_bool HV.out, rfl⟩

open Classical in
noncomputable def folV (F G : Nat → Int) (c : Cfg) (n m : Int) : Int := if c.bN = 0 then Track.trackV n m c.target else Stair.wantV F G c.bN n m c.target
open Classical in
noncomputable def folE (F G : Nat → Int) (c : Cfg) (n m : Int) : Int := if c.bN = 0 then Track.trackE n m c.target else Stair.wantE F G c.bN n m c.target

theorem follow_any (c : Cfg) (F G : Nat → Int) (n m : Int) (w : World) (h : Stair.Bands w w.heap.size c.bA c.bN F G) (hb : c.bN ≤ 9223372036854775807) (hn : n ≤ 9223372036854775807) (hm : m ≤ 9223372036854775807) :
    Calls Try.prog 12 #[c.val, .int .i64 n, .int .i64 m] w fun e w' => e = .returned (.tuple #[.int .i64 (folV F G c n m), .int .i64 (folE F G c n m)]) ∧ Below w.heap.size w w' := by
  have f17 := c.f17
  have f18 := c.f18
  have H := Lib.hid (h.later (later1 (.cells c.cells 27)))
  clear h
  by_cases hz : c.bN = 0
  · have HV : Hid (folV F G c n m = Track.trackV n m c.target ∧ folE F G c n m = Track.trackE n m c.target) := Lib.hid ⟨if_pos hz, if_pos hz⟩
    have z : ¬ 0 < c.bN := by omega
    have z' : c.bN ≤ 0 := by omega
    clear hz
    go_enter Try.func12, Try.ntmps12
    go_wp2_with (first | (go_at_call 15; refine (Track.want_any _ _ _ _ hn hm).mono ?_; rintro e w1 ⟨rfl, rfl⟩))
    go_ret2
    exact ⟨ret_two HV.out.1.symm HV.out.2.symm, bAlloc (Below.refl _ _) _⟩
  · have HV : Hid (folV F G c n m = Stair.wantV F G c.bN n m c.target ∧ folE F G c n m = Stair.wantE F G c.bN n m c.target) := Lib.hid ⟨if_neg hz, if_neg hz⟩
    have z : 0 < c.bN := by omega
    clear hz
    go_enter Try.func12, Try.ntmps12
    go_wp2_with (first | (go_at_call 14; refine (Stair.want_any _ _ _ _ _ _ _ _ _ H.out hb).mono ?_; rintro e w1 ⟨rfl, hb1⟩))
    go_ret2
    exact ⟨ret_two HV.out.1.symm HV.out.2.symm, bTrans (bAlloc (Below.refl _ _) _) hb1⟩
theorem follow_is (c : Cfg) (F G : Nat → Int) (n m v f : Int) (w : World) (h : Stair.Bands w w.heap.size c.bA c.bN F G) (hb : c.bN ≤ 9223372036854775807) (hn : n ≤ 9223372036854775807) (hm : m ≤ 9223372036854775807) (hv : Hid (folV F G c n m = v ∧ folE F G c n m = f)) :
    Calls Try.prog 12 #[c.val, .int .i64 n, .int .i64 m] w fun e w' => e = .returned (.tuple #[.int .i64 v, .int .i64 f]) ∧ Below w.heap.size w w' := by
  have := follow_any c F G n m w h hb hn hm
  rw [hv.out.1, hv.out.2] at this; exact this

theorem goes_stays (c : Cfg) (n m : Int) (w : World) :
    Calls Try.prog 11 #[c.val, .int .i64 0, .int .i64 n, .int .i64 m] w fun e w' => e = .returned (.tuple #[.int .i64 n, .int .i64 0]) ∧ Below w.heap.size w w' := by
  go_enter Try.func11, Try.ntmps11
  go_wp2
  go_ret2
  exact ⟨rfl, bAlloc (Below.refl _ _) _⟩
theorem goes_told (c : Cfg) (n m : Int) (w : World) :
    Calls Try.prog 11 #[c.val, .int .i64 2, .int .i64 n, .int .i64 m] w fun e w' => e = .returned (.tuple #[.int .i64 (clampV n c.min c.max), .int .i64 0]) ∧ Below w.heap.size w w' := by
  have f4 := c.f4
  have f5 := c.f5
  go_enter Try.func11, Try.ntmps11
  go_wp2_with (first | (go_at_call 13; refine (clamp_any _ _ _ _).mono ?_; rintro e w1 ⟨rfl, rfl⟩))
  go_ret2
  exact ⟨rfl, bAlloc (Below.refl _ _) _⟩
theorem goes_follows (c : Cfg) (F G : Nat → Int) (n m : Int) (w : World) (h : Stair.Bands w w.heap.size c.bA c.bN F G) (hb : c.bN ≤ 9223372036854775807) (hn : n ≤ 9223372036854775807) (hm : m ≤ 9223372036854775807) :
    Calls Try.prog 11 #[c.val, .int .i64 1, .int .i64 n, .int .i64 m] w fun e w' => e = .returned (.tuple #[.int .i64 (if folE F G c n m = 0 then clampV (folV F G c n m) c.min c.max else 0), .int .i64 (folE F G c n m)]) ∧ Below w.heap.size w w' := by
  have f4 := c.f4
  have f5 := c.f5
  have H := Lib.hid (h.later (later1 (.cells c.cells 27)))
  clear h
  generalize hv : folV F G c n m = v
  by_cases hz : folE F G c n m = 0
  · have FV : Hid (folV F G c n m = v ∧ folE F G c n m = 0) := Lib.hid ⟨hv, hz⟩
    rw [if_pos hz, hz]
    clear hz hv
    go_enter Try.func11, Try.ntmps11
    go_wp2_with (first | (refine load_cfg rfl _ rfl _ rfl c _ _ (heap_alloc_new _ _) ?_) | (go_at_call 12; refine (follow_is _ _ _ _ _ _ _ _ H.out hb hn hm FV).mono ?_; rintro e w1 ⟨rfl, hb1⟩; have g4 := (box_cell hb1 4).trans c.f4; have g5 := (box_cell hb1 5).trans c.f5) | (go_at_call 13; refine (clamp_any _ _ _ _).mono ?_; rintro e w2 ⟨rfl, rfl⟩))
    go_ret2
    exact ⟨rfl, bTrans (bAlloc (Below.refl _ _) _) hb1⟩
  · rw [if_neg hz]
    generalize hf : folE F G c n m = f at hz ⊢
    have FV : Hid (folV F G c n m = v ∧ folE F G c n m = f) := Lib.hid ⟨hv, hf⟩
    have z : (f != 0) = true := by simpa using hz
    clear hz hv hf
    go_enter Try.func11, Try.ntmps11
    go_wp2_with (first | (refine load_cfg rfl _ rfl _ rfl c _ _ (heap_alloc_new _ _) ?_) | (go_at_call 12; refine (follow_is _ _ _ _ _ _ _ _ H.out hb hn hm FV).mono ?_; rintro e w1 ⟨rfl, hb1⟩))
    go_ret2
    exact ⟨rfl, bTrans (bAlloc (Below.refl _ _) _) hb1⟩
end Go.Proofs.Ytgfiimllehmnoaa.Want
