
/- Layer 27: what is asked of an instance; Draw, Much of the program. -/
import Derived.Test.YtflnamahaclidaaWrmB
namespace Go.Proofs.Ytflnamahaclidaa.Wrm
open Go.ChangeShapes Go.WideShapes Go.ChangeAt Go.RowKit
open Mem Arr Lst Rec Inst Grown Sums St Opens Extra
open Thg (ofS)
def freshB (s : State) (x : Ins) : Bool := !x.ntd && !oldB s x
def roomB (s : State) (th : Int) (x : Ins) : Bool := decide (s.c.warm ≤ IntKind.i64.wrap (th - x.wt))
def ans (L : Nat → Ins) (r : Option Nat) : Value := .tuple #[.int .u64 (idO L r), .bool r.isSome]
def drawO (s : State) (L : Nat → Ins) (sp : Bool) : Option Nat := if mayW s L = true then fstO (fun x => decide (x.st = 8) && (x.spot == sp) && freshB s x) L s.iN else none
def oldO (s : State) (L : Nat → Ins) : Option Nat := fstO (fun x => decide (x.st = 8) && oldB s x) L s.iN
def roomO (s : State) (L : Nat → Ins) (th : Int) : Option Nat := fstO (fun x => decide (x.st = 8) && roomB s th x) L s.iN
def muchO (s : State) (L : Nat → Ins) (O : Nat → Opn) : Option Nat := if mayW s L = true then (if (oldO s L).isSome = true then oldO s L else roomO s L (wtW s L O)) else none
theorem draw1_any (x : Ins) (sp : Bool) (g : Nat) (w : World) (hg : w.cell? ⟨g, 0, none⟩ = some (.bool sp)) : Calls Try.prog 19 #[x.val, .pointer (some ⟨g, 0, none⟩)] w fun e w' => e = .returned (.bool (x.spot == sp)) ∧ Below w.heap.size w w' := by
  have hlt : g < w.heap.size := by
    rcases Nat.lt_or_ge g w.heap.size with hlt | hge
    · exact hlt
    · simp [World.cell?, Array.getElem?_eq_none hge] at hg
  have h1 : (w.alloc (.cells x.cells 44)).cell? ⟨g, 0, none⟩ = some (.bool sp) := ((bcell (bAlloc (Below.refl _ w) (.cells x.cells 44))).1 _ _ hlt).trans hg
  have f4 := x.f4
  clear hg
  rcases sp with _ | _ <;> rcases hs : x.spot with _ | _ <;> rw [hs] at f4 <;>
  · go_enter Try.func19, Try.ntmps19
    go_wp2
    go_ret
    exact ⟨by first | rfl | (rw [hs]; rfl), bAlloc (Below.refl _ _) _⟩
theorem draw2_any (s : State) (x : Ins) (g : Nat) (w : World) (hg : w.rangeAt g 0 s.cells.toList) : Calls Try.prog 20 #[x.val, .pointer (some ⟨g, 0, none⟩)] w fun e w' => e = .returned (.bool (freshB s x)) ∧ Below w.heap.size w w' := by
  have R1 : (w.alloc (.cells x.cells 44)).rangeAt g 0 s.cells.toList := World.rangeAt_alloc hg _
  have R2 : (w.alloc (.cells x.cells 44)).rangeAt w.heap.size 0 x.cells.toList := range_new w x.cells 44
  have f7 := x.f7
  clear hg
  rcases hn : x.ntd with _ | _
  · rw [hn] at f7
    rcases ho : oldB s x with _ | _
    · have C := Lib.hid (old_is s x false (Lib.hid ho))
      have HV : Hid (freshB s x = true) := Lib.hid (by unfold freshB; rw [hn, ho]; rfl)
      clear ho hn
      go_enter Try.func20, Try.ntmps20
      go_wp2_with (first | ((with_reducible refine St.at_loadg 36 ?_); (first | (refine load_st rfl _ rfl _ _ rfl s R1 ?_) | (refine load_st rfl _ rfl _ _ rfl s (B1 _) ?_))) | ((with_reducible refine St.at_loadg 44 ?_); (first | (refine load_in rfl _ rfl _ _ rfl x R2 ?_) | (refine load_in rfl _ rfl _ _ rfl x (B2 _) ?_))))
      refine (C.out _).mono ?_
      rintro _ w1 ⟨rfl, b1⟩
      go_wp2
      go_ret
      exact ⟨ret_bool HV.out.symm, bTrans (bAlloc (Below.refl _ _) _) b1⟩
    · have C := Lib.hid (old_is s x true (Lib.hid ho))
      have HV : Hid (freshB s x = false) := Lib.hid (by unfold freshB; rw [hn, ho]; rfl)
      clear ho hn
      go_enter Try.func20, Try.ntmps20
      go_wp2_with (first | ((with_reducible refine St.at_loadg 36 ?_); (first | (refine load_st rfl _ rfl _ _ rfl s R1 ?_) | (refine load_st rfl _ rfl _ _ rfl s (B1 _) ?_))) | ((with_reducible refine St.at_loadg 44 ?_); (first | (refine load_in rfl _ rfl _ _ rfl x R2 ?_) | (refine load_in rfl _ rfl _ _ rfl x (B2 _) ?_))))
      refine (C.out _).mono ?_
      rintro _ w1 ⟨rfl, b1⟩
      go_wp2
      go_ret
      exact ⟨ret_bool HV.out.symm, bTrans (bAlloc (Below.refl _ _) _) b1⟩
  · rw [hn] at f7
    have HV : Hid (freshB s x = false) := Lib.hid (by unfold freshB; rw [hn]; rfl)
    clear hn
    go_enter Try.func20, Try.ntmps20
    go_wp2
    go_ret
    exact ⟨ret_bool HV.out.symm, bAlloc (Below.refl _ _) _⟩
theorem much1_any (s : State) (x : Ins) (g : Nat) (w : World) (hg : w.rangeAt g 0 s.cells.toList) : Calls Try.prog 23 #[x.val, .pointer (some ⟨g, 0, none⟩)] w fun e w' => e = .returned (.bool (oldB s x)) ∧ Below w.heap.size w w' := by
  have R1 : (w.alloc (.cells x.cells 44)).rangeAt g 0 s.cells.toList := World.rangeAt_alloc hg _
  have R2 : (w.alloc (.cells x.cells 44)).rangeAt w.heap.size 0 x.cells.toList := range_new w x.cells 44
  have C := Lib.hid (old_any s x)
  have HV : Hid (oldB s x = oldB s x) := Lib.hid rfl
  clear hg
  go_enter Try.func23, Try.ntmps23
  go_wp2_with (first | ((with_reducible refine St.at_loadg 36 ?_); (first | (refine load_st rfl _ rfl _ _ rfl s R1 ?_) | (refine load_st rfl _ rfl _ _ rfl s (B1 _) ?_))) | ((with_reducible refine St.at_loadg 44 ?_); (first | (refine load_in rfl _ rfl _ _ rfl x R2 ?_) | (refine load_in rfl _ rfl _ _ rfl x (B2 _) ?_))))
  refine (C.out _).mono ?_
  rintro _ w1 ⟨rfl, b1⟩
  go_wp2
  go_ret
  exact ⟨rfl, bTrans (bAlloc (Below.refl _ _) _) b1⟩
theorem much2_any (s : State) (x : Ins) (th : Int) (gt g : Nat) (w : World) (ht : w.cell? ⟨gt, 0, none⟩ = some (.int .i64 th)) (hg : w.rangeAt g 0 s.cells.toList) : Calls Try.prog 25 #[x.val, .pointer (some ⟨gt, 0, none⟩), .pointer (some ⟨g, 0, none⟩)] w fun e w' => e = .returned (.bool (roomB s th x)) ∧ Below w.heap.size w w' := by
  have hlt : gt < w.heap.size := by
    rcases Nat.lt_or_ge gt w.heap.size with hlt | hge
    · exact hlt
    · simp [World.cell?, Array.getElem?_eq_none hge] at ht
  have h1 : (w.alloc (.cells x.cells 44)).cell? ⟨gt, 0, none⟩ = some (.int .i64 th) := ((bcell (bAlloc (Below.refl _ w) (.cells x.cells 44))).1 _ _ hlt).trans ht
  have h9 : (w.alloc (.cells x.cells 44)).cell? ⟨g, 9, none⟩ = some (.int .i64 s.c.warm) := by have := World.rangeAt_alloc hg (.cells x.cells 44) 9 _ (by simpa using s.f9); simpa using this
  have f3 := x.f3
  obtain ⟨z, hz⟩ : ∃ z, IntKind.i64.wrap (th - x.wt) = z := ⟨_, rfl⟩
  have HV : Hid (roomB s th x = decide (s.c.warm ≤ z)) := Lib.hid (by unfold roomB; rw [hz])
  clear hg ht hlt
  go_enter Try.func25, Try.ntmps25
  go_wp2
  go_ret
  exact ⟨ret_bool HV.out.symm, bAlloc (Below.refl _ _) _⟩
set_option maxHeartbeats 2000000 in
theorem draw_any (s : State) (L : Nat → Ins) (O : Nat → Opn) (sp : Bool) (w : World) (h : Sta s L O w) :
    Calls Try.prog 7 #[s.val, .bool sp] w fun e w' => e = .returned (ans L (drawO s L sp)) ∧ Below w.heap.size w w' := by
  have b0 := fun p : Grown ((w.alloc (.cells s.cells 36)).alloc (.cells #[.bool sp] 4)) => bTrans (bAlloc (bAlloc (Below.refl _ w) (.cells s.cells 36)) (.cells #[.bool sp] 4)) p.below
  have B1 : ∀ p : Grown ((w.alloc (.cells s.cells 36)).alloc (.cells #[.bool sp] 4)), p.w1.rangeAt w.heap.size 0 s.cells.toList := fun p => range_in (by simp; omega) (World.rangeAt_alloc (range_new w s.cells 36) _) p
  have R1 : ((w.alloc (.cells s.cells 36)).alloc (.cells #[.bool sp] 4)).rangeAt w.heap.size 0 s.cells.toList := B1 ⟨_, Below.refl _ _⟩
  have G1 : ∀ p : Grown ((w.alloc (.cells s.cells 36)).alloc (.cells #[.bool sp] 4)), p.w1.cell? ⟨w.heap.size + 1, 0, none⟩ = some (.bool sp) := fun p => by
    have := box_row p
    rw [World.size_alloc] at this
    exact cell_row' this rfl
  have HS := Lib.hid (fun p : Grown ((w.alloc (.cells s.cells 36)).alloc (.cells #[.bool sp] 4)) => h.later (b0 p))
  have BB := Lib.hid b0
  clear b0
  rcases hm : mayW s L with _ | _
  · have HV : Hid (drawO s L sp = none) := Lib.hid (by unfold drawO; rw [hm]; rfl)
    have M := Lib.hid (fun p : Grown ((w.alloc (.cells s.cells 36)).alloc (.cells #[.bool sp] 4)) => may_is s L O false hm p.w1 (HS.out p))
    clear hm h G1
    go_enter Try.func7, Try.ntmps7
    go_wp2_with (first | ((with_reducible refine St.at_loadg 36 ?_); (first | (refine load_st rfl _ rfl _ _ rfl s R1 ?_) | (refine load_st rfl _ rfl _ _ rfl s (B1 _) ?_) | (refine load_st rfl _ rfl _ _ rfl s RS ?_))))
    refine (call_grown (p := (⟨_, Below.refl _ _⟩ : Grown ((w.alloc (.cells s.cells 36)).alloc (.cells #[.bool sp] 4)))) (M.out _)).mono ?_
    rintro _ _ ⟨rfl, p, rfl⟩
    go_wp2
    go_ret2
    exact ⟨by rw [HV.out]; rfl, BB.out p⟩
  · have HV : Hid (drawO s L sp = fstO (fun x => decide (x.st = 8) && (x.spot == sp) && freshB s x) L s.iN) := Lib.hid (by unfold drawO; rw [hm]; rfl)
    have M := Lib.hid (fun p : Grown ((w.alloc (.cells s.cells 36)).alloc (.cells #[.bool sp] 4)) => may_is s L O true hm p.w1 (HS.out p))
    have G1 := Lib.hid G1
    clear hm h
    go_enter Try.func7, Try.ntmps7
    go_wp2_with (first | ((with_reducible refine St.at_loadg 36 ?_); (first | (refine load_st rfl _ rfl _ _ rfl s R1 ?_) | (refine load_st rfl _ rfl _ _ rfl s (B1 _) ?_) | (refine load_st rfl _ rfl _ _ rfl s RS ?_))))
    refine (call_grown (p := (⟨_, Below.refl _ _⟩ : Grown ((w.alloc (.cells s.cells 36)).alloc (.cells #[.bool sp] 4)))) (M.out _)).mono ?_
    rintro _ _ ⟨rfl, p, rfl⟩
    have F := firstDraw s L p.w1.heap.size (w.heap.size + 1) w.heap.size (fun x => x.spot == sp) (freshB s) (p.w1.alloc (.cells #[.func (.func 19) #[] #[.pointer (some ⟨w.heap.size + 1, 0, none⟩)], .func (.func 20) #[] #[.pointer (some ⟨w.heap.size, 0, none⟩)]] 53)) ((HS.out p).later (bAlloc (Below.refl _ _) _)).i (HS.out p).hn
      (cell_row' (heap_alloc_new _ _) rfl) (fun x wr hb => draw1_any x sp (w.heap.size + 1) wr (G1.out ⟨wr, bTrans p.below (bTrans (bAlloc (Below.refl _ _) _) hb)⟩))
      (cell_row' (heap_alloc_new _ _) rfl) (fun x wr hb => draw2_any s x w.heap.size wr (B1 ⟨wr, bTrans p.below (bTrans (bAlloc (Below.refl _ _) _) hb)⟩))
    replace F := Lib.hid F
    go_wp2_with (first | ((with_reducible refine St.at_loadg 36 ?_); (first | (refine load_st rfl _ rfl _ _ rfl s R1 ?_) | (refine load_st rfl _ rfl _ _ rfl s (B1 _) ?_) | (refine load_st rfl _ rfl _ _ rfl s RS ?_))))
    refine F.out.mono ?_
    rintro _ w2 ⟨rfl, b2⟩
    go_wp2
    go_ret2
    exact ⟨by rw [HV.out]; rfl, bTrans (BB.out p) (bTrans (bAlloc (Below.refl _ _) _) b2)⟩
set_option maxHeartbeats 2000000 in
theorem much_any (s : State) (L : Nat → Ins) (O : Nat → Opn) (w : World) (h : Sta s L O w) :
    Calls Try.prog 9 #[s.val] w fun e w' => e = .returned (ans L (muchO s L O)) ∧ Below w.heap.size w w' := by
  have B1 := box_new w s.cells 36
  have R1 : (w.alloc (.cells s.cells 36)).rangeAt w.heap.size 0 s.cells.toList := B1 ⟨_, Below.refl _ _⟩
  have HS := Lib.hid (fun p : Grown (w.alloc (.cells s.cells 36)) => h.box p)
  have BB := Lib.hid (fun p : Grown (w.alloc (.cells s.cells 36)) => bTrans (bAlloc (Below.refl _ w) (.cells s.cells 36)) p.below)
  rcases hm : mayW s L with _ | _
  · have HV : Hid (muchO s L O = none) := Lib.hid (by unfold muchO; rw [hm]; rfl)
    have M := Lib.hid (fun p : Grown (w.alloc (.cells s.cells 36)) => may_is s L O false hm p.w1 (HS.out p))
    clear hm h
    go_enter Try.func9, Try.ntmps9
    go_wp2_with (first | ((with_reducible refine St.at_loadg 36 ?_); (first | (refine load_st rfl _ rfl _ _ rfl s R1 ?_) | (refine load_st rfl _ rfl _ _ rfl s (B1 _) ?_) | (refine load_st rfl _ rfl _ _ rfl s RS ?_))))
    refine (call_grown (p := (⟨_, Below.refl _ _⟩ : Grown (w.alloc (.cells s.cells 36)))) (M.out _)).mono ?_
    rintro _ _ ⟨rfl, p, rfl⟩
    go_wp2
    go_ret2
    exact ⟨by rw [HV.out]; rfl, BB.out p⟩
  · have M := Lib.hid (fun p : Grown (w.alloc (.cells s.cells 36)) => may_is s L O true hm p.w1 (HS.out p))
    have WTC := Lib.hid (fun p : Grown (w.alloc (.cells s.cells 36)) => weight_any s L O p.w1 (HS.out p))
    have HM := Lib.hid hm
    clear hm h
    go_enter Try.func9, Try.ntmps9
    go_wp2_with (first | ((with_reducible refine St.at_loadg 36 ?_); (first | (refine load_st rfl _ rfl _ _ rfl s R1 ?_) | (refine load_st rfl _ rfl _ _ rfl s (B1 _) ?_) | (refine load_st rfl _ rfl _ _ rfl s RS ?_))))
    refine (call_grown (p := (⟨_, Below.refl _ _⟩ : Grown (w.alloc (.cells s.cells 36)))) (M.out _)).mono ?_
    rintro _ _ ⟨rfl, p, rfl⟩
    have F := firstOld s L p.w1.heap.size w.heap.size (oldB s) (p.w1.alloc (.cells #[.func (.func 23) #[] #[.pointer (some ⟨w.heap.size, 0, none⟩)]] 53)) ((HS.out p).later (bAlloc (Below.refl _ _) _)).i (HS.out p).hn
      (cell_row' (heap_alloc_new _ _) rfl) (fun x wr hb => much1_any s x w.heap.size wr (B1 ⟨wr, bTrans p.below (bTrans (bAlloc (Below.refl _ _) _) hb)⟩))
    replace F : Hid (Calls Try.prog 18 #[s.val, .slice (some ⟨p.w1.heap.size, 0, none⟩) 1 1] (p.w1.alloc (.cells #[.func (.func 23) #[] #[.pointer (some ⟨w.heap.size, 0, none⟩)]] 53)) fun e w' => e = .returned (ans L (oldO s L)) ∧ Below (p.w1.alloc (.cells #[.func (.func 23) #[] #[.pointer (some ⟨w.heap.size, 0, none⟩)]] 53)).heap.size (p.w1.alloc (.cells #[.func (.func 23) #[] #[.pointer (some ⟨w.heap.size, 0, none⟩)]] 53)) w') := Lib.hid F
    go_wp2_with (first | ((with_reducible refine St.at_loadg 36 ?_); (first | (refine load_st rfl _ rfl _ _ rfl s R1 ?_) | (refine load_st rfl _ rfl _ _ rfl s (B1 _) ?_) | (refine load_st rfl _ rfl _ _ rfl s RS ?_))))
    refine F.out.mono ?_
    rintro _ w2 ⟨rfl, b2⟩
    have b3 := bTrans (bTrans p.below (bAlloc (Below.refl _ _) _)) b2
    obtain ⟨p, rfl⟩ := grown_of b3
    clear b3 b2 F
    rcases ho : oldO s L with _ | k
    · have HV : Hid (muchO s L O = roomO s L (wtW s L O)) := Lib.hid (by unfold muchO; rw [if_pos HM.out, ho]; rfl)
      clear ho
      unfold ans
      go_wp2_with (first | ((with_reducible refine St.at_loadg 36 ?_); (first | (refine load_st rfl _ rfl _ _ rfl s R1 ?_) | (refine load_st rfl _ rfl _ _ rfl s (B1 _) ?_) | (refine load_st rfl _ rfl _ _ rfl s RS ?_))))
      refine (call_grown (p := p) (WTC.out p)).mono ?_
      rintro _ _ ⟨rfl, p, rfl⟩
      have RS : (p.w1.alloc (.cells #[.int .i64 (wtW s L O)] 2)).rangeAt w.heap.size 0 s.cells.toList := World.rangeAt_alloc (B1 p) _
      have F := firstMuch s L (p.w1.alloc (.cells #[.int .i64 (wtW s L O)] 2)).heap.size p.w1.heap.size w.heap.size (roomB s (wtW s L O)) ((p.w1.alloc (.cells #[.int .i64 (wtW s L O)] 2)).alloc (.cells #[.func (.func 25) #[] #[.pointer (some ⟨p.w1.heap.size, 0, none⟩), .pointer (some ⟨w.heap.size, 0, none⟩)]] 53)) ((HS.out p).later (bAlloc (bAlloc (Below.refl _ _) _) _)).i (HS.out p).hn
        (cell_row' (heap_alloc_new _ _) rfl) (fun x wr hb => much2_any s x (wtW s L O) p.w1.heap.size w.heap.size wr (by
          have b5 := bTrans (bAlloc (Below.refl _ (p.w1.alloc (.cells #[.int .i64 (wtW s L O)] 2))) (.cells #[.func (.func 25) #[] #[.pointer (some ⟨p.w1.heap.size, 0, none⟩), .pointer (some ⟨w.heap.size, 0, none⟩)]] 53)) hb
          exact ((bcell b5).1 _ _ (by simp)).trans (cell_row' (heap_alloc_new _ _) rfl)) (B1 ⟨wr, bTrans p.below (bTrans (bAlloc (bAlloc (Below.refl _ _) _) _) hb)⟩))
      replace F : Hid (Calls Try.prog 18 #[s.val, .slice (some ⟨p.w1.heap.size + 1, 0, none⟩) 1 1] ((p.w1.alloc (.cells #[.int .i64 (wtW s L O)] 2)).alloc (.cells #[.func (.func 25) #[] #[.pointer (some ⟨p.w1.heap.size, 0, none⟩), .pointer (some ⟨w.heap.size, 0, none⟩)]] 53)) fun e w' => e = .returned (ans L (roomO s L (wtW s L O))) ∧ Below ((p.w1.alloc (.cells #[.int .i64 (wtW s L O)] 2)).alloc (.cells #[.func (.func 25) #[] #[.pointer (some ⟨p.w1.heap.size, 0, none⟩), .pointer (some ⟨w.heap.size, 0, none⟩)]] 53)).heap.size ((p.w1.alloc (.cells #[.int .i64 (wtW s L O)] 2)).alloc (.cells #[.func (.func 25) #[] #[.pointer (some ⟨p.w1.heap.size, 0, none⟩), .pointer (some ⟨w.heap.size, 0, none⟩)]] 53)) w') := Lib.hid (by rw [World.size_alloc] at F; exact F)
      go_wp2_with (first | ((with_reducible refine St.at_loadg 36 ?_); (first | (refine load_st rfl _ rfl _ _ rfl s R1 ?_) | (refine load_st rfl _ rfl _ _ rfl s (B1 _) ?_) | (refine load_st rfl _ rfl _ _ rfl s RS ?_))))
      refine F.out.mono ?_
      rintro _ w2 ⟨rfl, b2⟩
      unfold ans
      go_wp2
      go_ret2
      exact ⟨by rw [HV.out]; rfl, bTrans (BB.out p) (bTrans (bAlloc (bAlloc (Below.refl _ _) _) _) b2)⟩
    · have HV : Hid (muchO s L O = some k) := Lib.hid (by unfold muchO; rw [if_pos HM.out, ho]; rfl)
      clear ho
      unfold ans
      go_wp2
      go_ret2
      exact ⟨by rw [HV.out]; rfl, BB.out p⟩
end Go.Proofs.Ytflnamahaclidaa.Wrm
