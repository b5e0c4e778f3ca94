
/- Layer 14: of which market is asked. -/
import Derived.Test.YtgaeelhbdgpobaaBlackH
namespace Go.Proofs.Ytgaeelhbdgpobaa.Black
open Go.ChangeShapes Go.WideShapes Go.ChangeAt Go.RowKit
open Mem Arr Lst

theorem ret_bb {a b p q : Bool} (h : a = b) (h' : p = q) : Ending.returned (.tuple #[.bool a, .bool p]) = .returned (.tuple #[.bool b, .bool q]) := by rw [h, h']
def someB (n m : Nat) (P U : Nat → Int) (M : Nat → Bool) (spot : Bool) (now : Int) : Bool := decide (0 < (opens n m P U M spot now).length)
def classV (n m : Nat) (P U : Nat → Int) (M : Nat → Bool) (fb spot : Bool) (now : Int) : Bool × Bool := if someB n m P U M spot now = true then (spot, true) else (false, spot && (fb && someB n m P U M false now))
theorem class_any (cf : Cfg) (A : Option Addr) (n c : Nat) (P S U : Nat → Int) (M : Nat → Bool) (spot : Bool) (now : Int) (w : World) (h : Quotes w w.heap.size A n P S U) (h' : Pools w w.heap.size cf.pA cf.pN M) (hn : n ≤ 200) :
    Calls Try.prog 12 #[cf.val, .slice A n c, .bool spot, .int .u64 now] w fun e w' => e = .returned (.tuple #[.bool (classV n cf.pN P U M cf.fallback spot now).1, .bool (classV n cf.pN P U M cf.fallback spot now).2]) ∧ Below w.heap.size w w' := by
  have C1 := Lib.hid (fun W (hW : Below w.heap.size w W) => opens_any cf A n c P S U M spot now W (h.later hW) (h'.later hW) hn)
  have C2 := Lib.hid (fun W (hW : Below w.heap.size w W) => opens_any cf A n c P S U M false now W (h.later hW) (h'.later hW) hn)
  clear h h'
  by_cases h1 : 0 < (opens n cf.pN P U M spot now).length
  · have HV : Hid (classV n cf.pN P U M cf.fallback spot now = (spot, true)) := Lib.hid (by unfold classV someB; rw [if_pos (decide_eq_true h1)])
    have h1' : (0 : Int) < ((opens n cf.pN P U M spot now).length : Int) := by omega
    go_enter Try.func12, Try.ntmps12
    go_wp2_with (first | (refine load_cfg rfl _ rfl _ rfl cf _ _ (heap_alloc_new _ _) ?_))
    go_at_call 19; refine (C1.out _ (bAlloc (Below.refl _ _) _)).mono ?_; rintro e w1 ⟨v1, rfl, own1, hb1⟩
    obtain ⟨A1, cap1, rfl, -, -, -, -⟩ := own1.shape
    have g3 := (box_at hb1 3).trans cf.f3
    have KB := kept_box hb1 (heap_alloc_new _ _)
    go_wp2
    go_ret2
    exact ⟨ret_bb (by rw [HV.out]) (by rw [HV.out]), below_box hb1⟩
  · have hV : classV n cf.pN P U M cf.fallback spot now = (false, spot && (cf.fallback && someB n cf.pN P U M false now)) := by unfold classV; rw [if_neg (by unfold someB; simpa using h1)]
    have z1 : ((opens n cf.pN P U M spot now).length : Int) = 0 := by omega
    cases spot with
    | false =>
      have HV : Hid (classV n cf.pN P U M cf.fallback false now = (false, false)) := Lib.hid (by rw [hV]; rfl)
      clear hV h1
      go_enter Try.func12, Try.ntmps12
      go_wp2_with (first | (refine load_cfg rfl _ rfl _ rfl cf _ _ (heap_alloc_new _ _) ?_))
      go_at_call 19; refine (C1.out _ (bAlloc (Below.refl _ _) _)).mono ?_; rintro e w1 ⟨v1, rfl, own1, hb1⟩
      obtain ⟨A1, cap1, rfl, -, -, -, -⟩ := own1.shape
      have g3 := (box_at hb1 3).trans cf.f3
      have KB := kept_box hb1 (heap_alloc_new _ _)
      go_wp2
      go_ret2
      exact ⟨ret_bb (by rw [HV.out]) (by rw [HV.out]), below_box hb1⟩
    | true =>
      cases hf : cf.fallback with
      | false =>
        have HV : Hid (classV n cf.pN P U M false true now = (false, false)) := Lib.hid (by rw [hf] at hV; rw [hV]; rfl)
        clear hV h1
        go_enter Try.func12, Try.ntmps12
        go_wp2_with (first | (refine load_cfg rfl _ rfl _ rfl cf _ _ (heap_alloc_new _ _) ?_))
        go_at_call 19; refine (C1.out _ (bAlloc (Below.refl _ _) _)).mono ?_; rintro e w1 ⟨v1, rfl, own1, hb1⟩
        obtain ⟨A1, cap1, rfl, -, -, -, -⟩ := own1.shape
        have g3 := (box_at hb1 3).trans cf.f3
        have KB := kept_box hb1 (heap_alloc_new _ _)
        rw [hf] at g3
        go_wp2
        go_ret2
        exact ⟨ret_bb (by rw [HV.out]) (by rw [HV.out]), below_box hb1⟩
      | true =>
        have HV : Hid (classV n cf.pN P U M true true now = (false, someB n cf.pN P U M false now)) := Lib.hid (by rw [hf] at hV; rw [hV]; simp)
        clear hV h1
        by_cases h2 : 0 < (opens n cf.pN P U M false now).length
        · have HS : Hid (someB n cf.pN P U M false now = true) := Lib.hid (decide_eq_true h2)
          have h2' : (0 : Int) < ((opens n cf.pN P U M false now).length : Int) := by omega
          go_enter Try.func12, Try.ntmps12
          go_wp2_with (first | (refine load_cfg rfl _ rfl _ rfl cf _ _ (heap_alloc_new _ _) ?_))
          go_at_call 19; refine (C1.out _ (bAlloc (Below.refl _ _) _)).mono ?_; rintro e w1 ⟨v1, rfl, own1, hb1⟩
          obtain ⟨A1, cap1, rfl, -, -, -, -⟩ := own1.shape
          have g3 := (box_at hb1 3).trans cf.f3
          have KB := kept_box hb1 (heap_alloc_new _ _)
          rw [hf] at g3
          go_wp2_with (first | (refine load_cfg rfl _ rfl _ rfl cf _ _ KB ?_))
          go_at_call 19; refine (C2.out _ (below_box hb1)).mono ?_; rintro e w2 ⟨v2, rfl, own2, hb2⟩
          obtain ⟨A2, cap2, rfl, -, -, -, -⟩ := own2.shape
          go_wp2
          go_ret2
          exact ⟨ret_bb (by rw [HV.out]) (by rw [HV.out, HS.out]), bTrans (below_box hb1) hb2⟩
        · have HS : Hid (someB n cf.pN P U M false now = false) := Lib.hid (decide_eq_false h2)
          have h2' : ((opens n cf.pN P U M false now).length : Int) = 0 := by omega
          go_enter Try.func12, Try.ntmps12
          go_wp2_with (first | (refine load_cfg rfl _ rfl _ rfl cf _ _ (heap_alloc_new _ _) ?_))
          go_at_call 19; refine (C1.out _ (bAlloc (Below.refl _ _) _)).mono ?_; rintro e w1 ⟨v1, rfl, own1, hb1⟩
          obtain ⟨A1, cap1, rfl, -, -, -, -⟩ := own1.shape
          have g3 := (box_at hb1 3).trans cf.f3
          have KB := kept_box hb1 (heap_alloc_new _ _)
          rw [hf] at g3
          go_wp2_with (first | (refine load_cfg rfl _ rfl _ rfl cf _ _ KB ?_))
          go_at_call 19; refine (C2.out _ (below_box hb1)).mono ?_; rintro e w2 ⟨v2, rfl, own2, hb2⟩
          obtain ⟨A2, cap2, rfl, -, -, -, -⟩ := own2.shape
          go_wp2
          go_ret2
          exact ⟨ret_bb (by rw [HV.out]) (by rw [HV.out, HS.out]), bTrans (below_box hb1) hb2⟩
theorem refClass_any (cf : Cfg) (A : Option Addr) (n c : Nat) (P S U : Nat → Int) (M : Nat → Bool) (spot : Bool) (now : Int) (w : World) (h : Quotes w w.heap.size A n P S U) (h' : Pools w w.heap.size cf.pA cf.pN M) (hn : n ≤ 200) :
    Calls Try.prog 13 #[cf.val, .slice A n c, .bool spot, .int .u64 now] w fun e w' => e = .returned (.tuple #[.bool (classV n cf.pN P U M cf.fallback spot now).1, .bool (classV n cf.pN P U M cf.fallback spot now).2]) ∧ Below w.heap.size w w' := by
  have C1 := Lib.hid (fun W (hW : Below w.heap.size w W) => refOpens_any cf A n c P S U M spot now W (h.later hW) (h'.later hW) hn)
  have C2 := Lib.hid (fun W (hW : Below w.heap.size w W) => refOpens_any cf A n c P S U M false now W (h.later hW) (h'.later hW) hn)
  clear h h'
  by_cases h1 : 0 < (opens n cf.pN P U M spot now).length
  · have HV : Hid (classV n cf.pN P U M cf.fallback spot now = (spot, true)) := Lib.hid (by unfold classV someB; rw [if_pos (decide_eq_true h1)])
    have h1' : (0 : Int) < ((opens n cf.pN P U M spot now).length : Int) := by omega
    go_enter Try.func13, Try.ntmps13
    go_wp2_with (first | (refine load_cfg rfl _ rfl _ rfl cf _ _ (heap_alloc_new _ _) ?_))
    go_at_call 20; refine (C1.out _ (bAlloc (Below.refl _ _) _)).mono ?_; rintro e w1 ⟨v1, rfl, own1, hb1⟩
    obtain ⟨A1, cap1, rfl, -, -, -, -⟩ := own1.shape
    have g3 := (box_at hb1 3).trans cf.f3
    have KB := kept_box hb1 (heap_alloc_new _ _)
    go_wp2
    go_ret2
    exact ⟨ret_bb (by rw [HV.out]) (by rw [HV.out]), below_box hb1⟩
  · have hV : classV n cf.pN P U M cf.fallback spot now = (false, spot && (cf.fallback && someB n cf.pN P U M false now)) := by unfold classV; rw [if_neg (by unfold someB; simpa using h1)]
    have z1 : ((opens n cf.pN P U M spot now).length : Int) = 0 := by omega
    cases spot with
    | false =>
      have HV : Hid (classV n cf.pN P U M cf.fallback false now = (false, false)) := Lib.hid (by rw [hV]; rfl)
      clear hV h1
      go_enter Try.func13, Try.ntmps13
      go_wp2_with (first | (refine load_cfg rfl _ rfl _ rfl cf _ _ (heap_alloc_new _ _) ?_))
      go_at_call 20; refine (C1.out _ (bAlloc (Below.refl _ _) _)).mono ?_; rintro e w1 ⟨v1, rfl, own1, hb1⟩
      obtain ⟨A1, cap1, rfl, -, -, -, -⟩ := own1.shape
      have g3 := (box_at hb1 3).trans cf.f3
      have KB := kept_box hb1 (heap_alloc_new _ _)
      go_wp2
      go_ret2
      exact ⟨ret_bb (by rw [HV.out]) (by rw [HV.out]), below_box hb1⟩
    | true =>
      cases hf : cf.fallback with
      | false =>
        have HV : Hid (classV n cf.pN P U M false true now = (false, false)) := Lib.hid (by rw [hf] at hV; rw [hV]; rfl)
        clear hV h1
        go_enter Try.func13, Try.ntmps13
        go_wp2_with (first | (refine load_cfg rfl _ rfl _ rfl cf _ _ (heap_alloc_new _ _) ?_))
        go_at_call 20; refine (C1.out _ (bAlloc (Below.refl _ _) _)).mono ?_; rintro e w1 ⟨v1, rfl, own1, hb1⟩
        obtain ⟨A1, cap1, rfl, -, -, -, -⟩ := own1.shape
        have g3 := (box_at hb1 3).trans cf.f3
        have KB := kept_box hb1 (heap_alloc_new _ _)
        rw [hf] at g3
        go_wp2
        go_ret2
        exact ⟨ret_bb (by rw [HV.out]) (by rw [HV.out]), below_box hb1⟩
      | true =>
        have HV : Hid (classV n cf.pN P U M true true now = (false, someB n cf.pN P U M false now)) := Lib.hid (by rw [hf] at hV; rw [hV]; simp)
        clear hV h1
        by_cases h2 : 0 < (opens n cf.pN P U M false now).length
        · have HS : Hid (someB n cf.pN P U M false now = true) := Lib.hid (decide_eq_true h2)
          have h2' : (0 : Int) < ((opens n cf.pN P U M false now).length : Int) := by omega
          go_enter Try.func13, Try.ntmps13
          go_wp2_with (first | (refine load_cfg rfl _ rfl _ rfl cf _ _ (heap_alloc_new _ _) ?_))
          go_at_call 20; refine (C1.out _ (bAlloc (Below.refl _ _) _)).mono ?_; rintro e w1 ⟨v1, rfl, own1, hb1⟩
          obtain ⟨A1, cap1, rfl, -, -, -, -⟩ := own1.shape
          have g3 := (box_at hb1 3).trans cf.f3
          have KB := kept_box hb1 (heap_alloc_new _ _)
          rw [hf] at g3
          go_wp2_with (first | (refine load_cfg rfl _ rfl _ rfl cf _ _ KB ?_))
          go_at_call 20; refine (C2.out _ (below_box hb1)).mono ?_; rintro e w2 ⟨v2, rfl, own2, hb2⟩
          obtain ⟨A2, cap2, rfl, -, -, -, -⟩ := own2.shape
          go_wp2
          go_ret2
          exact ⟨ret_bb (by rw [HV.out]) (by rw [HV.out, HS.out]), bTrans (below_box hb1) hb2⟩
        · have HS : Hid (someB n cf.pN P U M false now = false) := Lib.hid (decide_eq_false h2)
          have h2' : ((opens n cf.pN P U M false now).length : Int) = 0 := by omega
          go_enter Try.func13, Try.ntmps13
          go_wp2_with (first | (refine load_cfg rfl _ rfl _ rfl cf _ _ (heap_alloc_new _ _) ?_))
          go_at_call 20; refine (C1.out _ (bAlloc (Below.refl _ _) _)).mono ?_; rintro e w1 ⟨v1, rfl, own1, hb1⟩
          obtain ⟨A1, cap1, rfl, -, -, -, -⟩ := own1.shape
          have g3 := (box_at hb1 3).trans cf.f3
          have KB := kept_box hb1 (heap_alloc_new _ _)
          rw [hf] at g3
          go_wp2_with (first | (refine load_cfg rfl _ rfl _ rfl cf _ _ KB ?_))
          go_at_call 20; refine (C2.out _ (below_box hb1)).mono ?_; rintro e w2 ⟨v2, rfl, own2, hb2⟩
          obtain ⟨A2, cap2, rfl, -, -, -, -⟩ := own2.shape
          go_wp2
          go_ret2
          exact ⟨ret_bb (by rw [HV.out]) (by rw [HV.out, HS.out]), bTrans (below_box hb1) hb2⟩
end Go.Proofs.Ytgaeelhbdgpobaa.Black
