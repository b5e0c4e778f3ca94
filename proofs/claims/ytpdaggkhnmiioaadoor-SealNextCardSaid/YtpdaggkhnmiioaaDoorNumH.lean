
/- Get over a slice of bytes that reads as a list, whatever the place and the size: the program's and the document's alike. -/
import Derived.Test.YtpdaggkhnmiioaaDoorNumG
namespace Go.Proofs.YtpdaggkhnmiioaaDoor.NumA
open Go.ChangeShapes Go.WideShapes Go.ChangeAt Go.RowKit
open NumM Mem
set_option linter.unusedVariables false

/-- is it a size? -/
def sizeB (s : Int) : Bool := decide (s = 1 ∨ s = 2 ∨ s = 4 ∨ s = 8)
theorem sizeB_of {s : Int} (h : sizeB s = true) : s = 1 ∨ s = 2 ∨ s = 4 ∨ s = 8 := of_decide_eq_true h
theorem sizeB_not {s : Int} (h : ¬ (s = 1 ∨ s = 2 ∨ s = 4 ∨ s = 8)) : sizeB s = false := decide_eq_false h
theorem isSize_is (s : Int) (t : Bool) (w : World) (h : Hid (sizeB s = t)) :
    Calls Tryd.prog 37 #[.int .i64 s] w fun e w' => e = .returned (.bool t) ∧ w = w' := by
  rw [← h.out]; exact isSize_any s w
theorem size_is (s : Int) (t : Bool) (w : World) (h : Hid (sizeB s = t)) :
    Calls Tryd.prog 30 #[.int .i64 s] w fun e w' => e = .returned (.bool t) ∧ w = w' := by
  rw [← h.out]; exact size_any s w

/-- the byte at a place -/
def bt (bs : List Int) (i : Nat) : Int := bs.getD i 0
/-- the number that stands in so many bytes -/
def num (bs : List Int) (k : Nat) (s : Int) : Int :=
  if s = 1 then bt bs k
  else if s = 2 then bt bs k + bt bs (k + 1) * 256
  else if s = 4 then bt bs k + bt bs (k + 1) * 256 + bt bs (k + 2) * 65536 + bt bs (k + 3) * 16777216
  else bt bs k + bt bs (k + 1) * 256 + bt bs (k + 2) * 65536 + bt bs (k + 3) * 16777216 + bt bs (k + 4) * 4294967296 + bt bs (k + 5) * 1099511627776 + bt bs (k + 6) * 281474976710656 + bt bs (k + 7) * 72057594037927936
def getE (n : Nat) (at_ s : Int) : Int := if sizeB s = false ∨ at_ < 0 ∨ (n : Int) < at_ then 2 else if (n : Int) - at_ < s then 4 else 0
def getV (n : Nat) (bs : List Int) (at_ s : Int) : Int := if getE n at_ s = 0 then num bs at_.toNat s else 0

theorem get_bad (A : Option Addr) (n cap : Nat) (at_ s : Int) (w : World) (hn : n ≤ 140737488351232) (h : sizeB s = false ∨ at_ < 0 ∨ (n : Int) < at_) :
    Calls Tryd.prog 35 #[.slice A n cap, .int .i64 at_, .int .i64 s] w fun e w' => e = .returned (.tuple #[.int .u64 0, .int .i64 2]) ∧ w = w' := by
  rcases hs : sizeB s with _ | _
  · have H := Lib.hid hs
    clear hs h
    go_enter Tryd.func35, Tryd.ntmps35
    go_wp2_with (first | (go_at_call 37; refine (isSize_is _ false _ H).mono ?_; rintro e w' ⟨rfl, rfl⟩))
    go_ret2
    exact ⟨rfl, rfl⟩
  · rw [hs] at h
    have H := Lib.hid hs
    clear hs
    by_cases h1 : at_ < 0
    · clear h
      go_enter Tryd.func35, Tryd.ntmps35
      go_wp2_with (first | (go_at_call 37; refine (isSize_is _ true _ H).mono ?_; rintro e w' ⟨rfl, rfl⟩))
      go_ret2
      exact ⟨rfl, rfl⟩
    · have h2 : (n : Int) < at_ := by
        rcases h with h | h | h
        · exact absurd h (by simp)
        · exact absurd h h1
        · exact h
      clear h
      go_enter Tryd.func35, Tryd.ntmps35
      go_wp2_with (first | (go_at_call 37; refine (isSize_is _ true _ H).mono ?_; rintro e w' ⟨rfl, rfl⟩))
      go_ret2
      exact ⟨rfl, rfl⟩
theorem get_short (A : Option Addr) (n cap : Nat) (at_ s : Int) (w : World) (hn : n ≤ 140737488351232) (hs : sizeB s = true) (h0 : 0 ≤ at_) (h1 : at_ ≤ (n : Int)) (h : (n : Int) - at_ < s) :
    Calls Tryd.prog 35 #[.slice A n cap, .int .i64 at_, .int .i64 s] w fun e w' => e = .returned (.tuple #[.int .u64 0, .int .i64 4]) ∧ w = w' := by
  have H := Lib.hid hs
  clear hs
  go_enter Tryd.func35, Tryd.ntmps35
  go_wp2_with (first | (go_at_call 37; refine (isSize_is _ true _ H).mono ?_; rintro e w' ⟨rfl, rfl⟩))
  go_ret2
  exact ⟨rfl, rfl⟩
theorem get_all (B : Nat) (A : Option Addr) (n cap : Nat) (bs : List Int) (at_ s : Int) (w : World) (hr : Rd w B A n bs) (hb : ∀ i, 0 ≤ bs.getD i 0 ∧ bs.getD i 0 ≤ 255) (hcap : n ≤ cap) (hn : n ≤ 140737488351232) (hm' : cap ≤ 9223372036854775807) :
    Calls Tryd.prog 35 #[.slice A n cap, .int .i64 at_, .int .i64 s] w fun e w' => e = .returned (.tuple #[.int .u64 (getV n bs at_ s), .int .i64 (getE n at_ s)]) ∧ w = w' := by
  by_cases h : sizeB s = false ∨ at_ < 0 ∨ (n : Int) < at_
  · have e : getE n at_ s = 2 := by unfold getE; rw [if_pos h]
    have v : getV n bs at_ s = 0 := by unfold getV; rw [e]; rfl
    rw [e, v]; exact get_bad A n cap at_ s w hn h
  · have hs : sizeB s = true := by
      rcases hs : sizeB s with _ | _
      · exact absurd (.inl hs) h
      · rfl
    by_cases h2 : (n : Int) - at_ < s
    · have e : getE n at_ s = 4 := by unfold getE; rw [if_neg h, if_pos h2]
      have v : getV n bs at_ s = 0 := by unfold getV; rw [e]; rfl
      rw [e, v]; exact get_short A n cap at_ s w hn hs (by omega) (by omega) h2
    · have e : getE n at_ s = 0 := by unfold getE; rw [if_neg h, if_neg h2]
      have v : getV n bs at_ s = num bs at_.toNat s := by unfold getV; rw [e]; rfl
      rw [e, v]
      obtain ⟨k, rfl⟩ := Int.eq_ofNat_of_zero_le (show 0 ≤ at_ by omega)
      have h3 : ¬ (n : Int) < k := fun g => h (.inr (.inr g))
      clear h e v
      simp only [Int.toNat_natCast]
      obtain ⟨b, off, rfl, _, hc⟩ := hr.2.2 (by rcases sizeB_of hs with g | g | g | g <;> omega)
      rcases sizeB_of hs with rfl | rfl | rfl | rfl
      · exact get1 b off k n cap _ w (by omega) hcap hn hm' (hc k (by omega)) (hb k).1 (hb k).2
      · exact get2 b off k n cap _ _ w (by omega) hcap hn hm' (hc k (by omega)) (by rw [Nat.add_assoc]; exact hc (k + 1) (by omega)) (hb k).1 (hb k).2 (hb (k + 1)).1 (hb (k + 1)).2
      · exact get4 b off k n cap _ _ _ _ w (by omega) hcap hn hm' (hc k (by omega)) (by rw [Nat.add_assoc]; exact hc (k + 1) (by omega)) (by rw [Nat.add_assoc]; exact hc (k + 2) (by omega)) (by rw [Nat.add_assoc]; exact hc (k + 3) (by omega)) (hb k).1 (hb k).2 (hb (k + 1)).1 (hb (k + 1)).2 (hb (k + 2)).1 (hb (k + 2)).2 (hb (k + 3)).1 (hb (k + 3)).2
      · exact get8 b off k n cap _ _ _ _ _ _ _ _ w (by omega) hcap hn hm' (hc k (by omega)) (by rw [Nat.add_assoc]; exact hc (k + 1) (by omega)) (by rw [Nat.add_assoc]; exact hc (k + 2) (by omega)) (by rw [Nat.add_assoc]; exact hc (k + 3) (by omega)) (by rw [Nat.add_assoc]; exact hc (k + 4) (by omega)) (by rw [Nat.add_assoc]; exact hc (k + 5) (by omega)) (by rw [Nat.add_assoc]; exact hc (k + 6) (by omega)) (by rw [Nat.add_assoc]; exact hc (k + 7) (by omega)) (hb k).1 (hb k).2 (hb (k + 1)).1 (hb (k + 1)).2 (hb (k + 2)).1 (hb (k + 2)).2 (hb (k + 3)).1 (hb (k + 3)).2 (hb (k + 4)).1 (hb (k + 4)).2 (hb (k + 5)).1 (hb (k + 5)).2 (hb (k + 6)).1 (hb (k + 6)).2 (hb (k + 7)).1 (hb (k + 7)).2
theorem refGet_bad (A : Option Addr) (n cap : Nat) (at_ s : Int) (w : World) (hn : n ≤ 140737488351232) (h : sizeB s = false ∨ at_ < 0 ∨ (n : Int) < at_) :
    Calls Tryd.prog 20 #[.slice A n cap, .int .i64 at_, .int .i64 s] w fun e w' => e = .returned (.tuple #[.int .u64 0, .int .i64 2]) ∧ w = w' := by
  rcases hs : sizeB s with _ | _
  · have H := Lib.hid hs
    clear hs h
    go_enter Tryd.func20, Tryd.ntmps20
    go_wp2_with (first | (go_at_call 30; refine (size_is _ false _ H).mono ?_; rintro e w' ⟨rfl, rfl⟩))
    go_ret2
    exact ⟨rfl, rfl⟩
  · rw [hs] at h
    have H := Lib.hid hs
    clear hs
    by_cases h1 : at_ < 0
    · clear h
      go_enter Tryd.func20, Tryd.ntmps20
      go_wp2_with (first | (go_at_call 30; refine (size_is _ true _ H).mono ?_; rintro e w' ⟨rfl, rfl⟩))
      go_ret2
      exact ⟨rfl, rfl⟩
    · have h2 : (n : Int) < at_ := by
        rcases h with h | h | h
        · exact absurd h (by simp)
        · exact absurd h h1
        · exact h
      clear h
      go_enter Tryd.func20, Tryd.ntmps20
      go_wp2_with (first | (go_at_call 30; refine (size_is _ true _ H).mono ?_; rintro e w' ⟨rfl, rfl⟩))
      go_ret2
      exact ⟨rfl, rfl⟩
theorem refGet_short (A : Option Addr) (n cap : Nat) (at_ s : Int) (w : World) (hn : n ≤ 140737488351232) (hs : sizeB s = true) (h0 : 0 ≤ at_) (h1 : at_ ≤ (n : Int)) (h : (n : Int) - at_ < s) :
    Calls Tryd.prog 20 #[.slice A n cap, .int .i64 at_, .int .i64 s] w fun e w' => e = .returned (.tuple #[.int .u64 0, .int .i64 4]) ∧ w = w' := by
  have H := Lib.hid hs
  clear hs
  go_enter Tryd.func20, Tryd.ntmps20
  go_wp2_with (first | (go_at_call 30; refine (size_is _ true _ H).mono ?_; rintro e w' ⟨rfl, rfl⟩))
  go_ret2
  exact ⟨rfl, rfl⟩
theorem refGet_all (B : Nat) (A : Option Addr) (n cap : Nat) (bs : List Int) (at_ s : Int) (w : World) (hr : Rd w B A n bs) (hb : ∀ i, 0 ≤ bs.getD i 0 ∧ bs.getD i 0 ≤ 255) (hcap : n ≤ cap) (hn : n ≤ 140737488351232) (hm' : cap ≤ 9223372036854775807) :
    Calls Tryd.prog 20 #[.slice A n cap, .int .i64 at_, .int .i64 s] w fun e w' => e = .returned (.tuple #[.int .u64 (getV n bs at_ s), .int .i64 (getE n at_ s)]) ∧ w = w' := by
  by_cases h : sizeB s = false ∨ at_ < 0 ∨ (n : Int) < at_
  · have e : getE n at_ s = 2 := by unfold getE; rw [if_pos h]
    have v : getV n bs at_ s = 0 := by unfold getV; rw [e]; rfl
    rw [e, v]; exact refGet_bad A n cap at_ s w hn h
  · have hs : sizeB s = true := by
      rcases hs : sizeB s with _ | _
      · exact absurd (.inl hs) h
      · rfl
    by_cases h2 : (n : Int) - at_ < s
    · have e : getE n at_ s = 4 := by unfold getE; rw [if_neg h, if_pos h2]
      have v : getV n bs at_ s = 0 := by unfold getV; rw [e]; rfl
      rw [e, v]; exact refGet_short A n cap at_ s w hn hs (by omega) (by omega) h2
    · have e : getE n at_ s = 0 := by unfold getE; rw [if_neg h, if_neg h2]
      have v : getV n bs at_ s = num bs at_.toNat s := by unfold getV; rw [e]; rfl
      rw [e, v]
      obtain ⟨k, rfl⟩ := Int.eq_ofNat_of_zero_le (show 0 ≤ at_ by omega)
      have h3 : ¬ (n : Int) < k := fun g => h (.inr (.inr g))
      clear h e v
      simp only [Int.toNat_natCast]
      obtain ⟨b, off, rfl, _, hc⟩ := hr.2.2 (by rcases sizeB_of hs with g | g | g | g <;> omega)
      rcases sizeB_of hs with rfl | rfl | rfl | rfl
      · exact refGet1 b off k n cap _ w (by omega) hcap hn hm' (hc k (by omega)) (hb k).1 (hb k).2
      · exact refGet2 b off k n cap _ _ w (by omega) hcap hn hm' (hc k (by omega)) (hc (k + 1) (by omega)) (hb k).1 (hb k).2 (hb (k + 1)).1 (hb (k + 1)).2
      · exact refGet4 b off k n cap _ _ _ _ w (by omega) hcap hn hm' (hc k (by omega)) (hc (k + 1) (by omega)) (hc (k + 2) (by omega)) (hc (k + 3) (by omega)) (hb k).1 (hb k).2 (hb (k + 1)).1 (hb (k + 1)).2 (hb (k + 2)).1 (hb (k + 2)).2 (hb (k + 3)).1 (hb (k + 3)).2
      · exact refGet8 b off k n cap _ _ _ _ _ _ _ _ w (by omega) hcap hn hm' (hc k (by omega)) (hc (k + 1) (by omega)) (hc (k + 2) (by omega)) (hc (k + 3) (by omega)) (hc (k + 4) (by omega)) (hc (k + 5) (by omega)) (hc (k + 6) (by omega)) (hc (k + 7) (by omega)) (hb k).1 (hb k).2 (hb (k + 1)).1 (hb (k + 1)).2 (hb (k + 2)).1 (hb (k + 2)).2 (hb (k + 3)).1 (hb (k + 3)).2 (hb (k + 4)).1 (hb (k + 4)).2 (hb (k + 5)).1 (hb (k + 5)).2 (hb (k + 6)).1 (hb (k + 6)).2 (hb (k + 7)).1 (hb (k + 7)).2
end Go.Proofs.YtpdaggkhnmiioaaDoor.NumA
