
/- Contracts of layer 22: bands, and the capacity that comes of a metric; the program's and the document's. -/
import Derived.Test.YtgfiimllehmnoaaStairB
namespace Go.Proofs.Ytgfiimllehmnoaa.Stair
open Go.ChangeShapes Go.WideShapes Go.ChangeAt Go.RowKit
open NumM NumA Mem Arr

/-- how many bands begin at most at the deviation: the place behind the last of them -/
def cnt (F : Nat → Int) (dev : Int) : Nat → Nat
  | 0 => 0
  | n + 1 => if F n ≤ dev then n + 1 else cnt F dev n
theorem cnt_bd (F : Nat → Int) (dev : Int) (n : Nat) : cnt F dev n ≤ n := by
  induction n with
  | zero => exact Nat.le_refl _
  | succ n ih => unfold cnt; split <;> omega
theorem cnt_at (F : Nat → Int) (dev : Int) (n : Nat) : 0 < cnt F dev n → F (cnt F dev n - 1) ≤ dev := by
  induction n with
  | zero => intro h; exact absurd h (by unfold cnt; omega)
  | succ n ih =>
    unfold cnt
    split
    · intro _; simpa using ‹F n ≤ dev›
    · exact ih
theorem cnt_behind (F : Nat → Int) (dev : Int) (n : Nat) : ∀ i, cnt F dev n ≤ i → i < n → dev < F i := by
  induction n with
  | zero => intro i _ h; omega
  | succ n ih =>
    intro i h1 h2
    unfold cnt at h1
    split at h1
    · omega
    · rcases Nat.lt_succ_iff_lt_or_eq.1 h2 with h | rfl
      · exact ih i h1 h
      · omega
theorem may_yes {F G : Nat → Int} {n : Nat} (h : mayB F G n = true) : n ≤ 8 ∧ ∀ i, i < n → -1048576 ≤ F i ∧ F i ≤ 1048576 ∧ -65536 ≤ G i ∧ G i ≤ 65536 ∧ (0 < i → F (i - 1) < F i) := by
  have := of_decide_eq_true h
  exact ⟨this.1, fun i hi => of_decide_eq_true (this.2 i hi)⟩
theorem rises {F G : Nat → Int} {n : Nat} (h : mayB F G n = true) : ∀ j, j < n → ∀ i, i ≤ j → F i ≤ F j := by
  intro j
  induction j with
  | zero => intro _ i hi; obtain rfl : i = 0 := by omega
            exact Int.le_refl _
  | succ j ih =>
    intro hj i hi
    rcases Nat.lt_or_ge j i with h1 | h1
    · obtain rfl : i = j + 1 := by omega
      exact Int.le_refl _
    · have a := ih (by omega) i h1
      have b := ((may_yes h).2 (j + 1) hj).2.2.2.2 (by omega)
      simp at b
      omega
theorem cnt_only {F G : Nat → Int} {n k : Nat} {dev : Int} (h : mayB F G n = true) (hk : k ≤ n) (h1 : 0 < k → F (k - 1) ≤ dev) (h2 : k < n → dev < F k) : k = cnt F dev n := by
  have b0 := cnt_bd F dev n
  have b1 := cnt_at F dev n
  have b2 := cnt_behind F dev n
  rcases Nat.lt_trichotomy k (cnt F dev n) with hlt | he | hgt
  · have a := b1 (by omega)
    have b := h2 (by omega)
    have c := rises h (cnt F dev n - 1) (by omega) k (by omega)
    omega
  · exact he
  · have a := h1 (by omega)
    have b := b2 (k - 1) (by omega) (by omega)
    omega

def bandK (F G : Nat → Int) (n : Nat) (dev : Int) : Nat := if mayB F G n = true then cnt F dev n else 0
def bandI (F G : Nat → Int) (n : Nat) (dev : Int) : Int := if bandK F G n dev = 0 then 0 else (bandK F G n dev : Int) - 1
def bandB (F G : Nat → Int) (n : Nat) (dev : Int) : Bool := decide (bandK F G n dev ≠ 0)
theorem ret_ib {k : IntKind} {a b : Int} {p q : Bool} (h : a = b) (h' : p = q) : Ending.returned (.tuple #[.int k a, .bool p]) = .returned (.tuple #[.int k b, .bool q]) := by rw [h, h']

theorem may_is (A : Option Addr) (n c : Nat) (F G : Nat → Int) (t : Bool) (w : World) (h : Bands w w.heap.size A n F G) (hn : n ≤ 9223372036854775807) (ht : Hid (mayB F G n = t)) :
    Calls Try.prog 16 #[.slice A n c] w fun e w' => e = .returned (.bool t) ∧ Below w.heap.size w w' := by
  have := may_any A n c F G w h hn
  rw [ht.out] at this; exact this

theorem band_any (A : Option Addr) (n c : Nat) (F G : Nat → Int) (dev : Int) (w : World) (h : Bands w w.heap.size A n F G) (hn : n ≤ 9223372036854775807) :
    Calls Try.prog 18 #[.slice A n c, .int .i64 dev] w fun e w' => e = .returned (.tuple #[.int .i64 (bandI F G n dev), .bool (bandB F G n dev)]) ∧ Below w.heap.size w w' := by
  have h' : Bands ((w.alloc (.cells #[.slice A n c] 24)).alloc (.cells #[.int .i64 dev] 2)) ((w.alloc (.cells #[.slice A n c] 24)).alloc (.cells #[.int .i64 dev] 2)).heap.size A n F G := h.later (bAlloc (bAlloc (Below.refl _ _) _) _)
  have H := Lib.hid h'
  rcases hm : mayB F G n with _ | _
  · have HV : Hid (bandI F G n dev = 0 ∧ bandB F G n dev = false) := Lib.hid (by
      have e : bandK F G n dev = 0 := by unfold bandK; rw [hm]; rfl
      exact ⟨by unfold bandI; rw [if_pos e], by unfold bandB; rw [e]; rfl⟩)
    have M := Lib.hid hm
    clear h h' hm
    go_enter Try.func18, Try.ntmps18
    go_wp2_with (first | (go_at_call 16; refine (may_is _ _ _ _ _ _ _ H.out hn M).mono ?_; rintro e w1 ⟨rfl, hb⟩))
    go_ret2
    exact ⟨ret_ib HV.out.1.symm HV.out.2.symm, bTrans (bAlloc (bAlloc (Below.refl _ _) _) _) hb⟩
  · have M := Lib.hid hm
    have h8 := (may_yes hm).1
    clear h h' hm
    go_enter Try.func18, Try.ntmps18
    go_wp2_with (first | (go_at_call 16; refine (may_is _ _ _ _ _ _ _ H.out hn M).mono ?_; rintro e w1 ⟨rfl, hb⟩; obtain ⟨hc, hf⟩ := bcell hb))
    have hp : w1.cell? ⟨w.heap.size, 0, none⟩ = some (.slice A n c) := by go_simp
    have hq : w1.cell? ⟨w.heap.size + 1, 0, none⟩ = some (.int .i64 dev) := by go_simp
    have HS := Lib.hid (search_any A n c F G dev w.heap.size (w.heap.size + 1) w1 (H.out.later hb) h8 hp hq)
    clear hc hf
    go_wp2_with fail
    refine HS.out.mono ?_
    rintro e w2 ⟨k, rfl, hk, k1, k2, m, rfl⟩
    have ek := Lib.hid (cnt_only M.out hk k1 k2)
    have eb : Hid (bandK F G n dev = k) := Lib.hid (by unfold bandK; rw [if_pos M.out]; exact ek.out.symm)
    clear k1 k2 HS
    have hB := bDrewN m (bTrans (bAlloc (bAlloc (Below.refl w.heap.size w) (.cells #[.slice A n c] 24)) (.cells #[.int .i64 dev] 2)) hb)
    have HB := Lib.hid hB
    clear hB hb hp hq
    by_cases hz : k = 0
    · have z1 : ((k : Int) == 0) = true := by simpa using hz
      have HV : Hid (bandI F G n dev = 0 ∧ bandB F G n dev = false) := Lib.hid (by
        rw [hz] at eb
        exact ⟨by unfold bandI; rw [if_pos eb.out], by unfold bandB; rw [eb.out]; rfl⟩)
      clear hz
      go_wp2
      go_ret2
      exact ⟨ret_ib HV.out.1.symm HV.out.2.symm, HB.out⟩
    · have z1 : ((k : Int) == 0) = false := by simpa using hz
      have z2 : (1 : Int) ≤ (k : Int) := by omega
      have HV : Hid (bandI F G n dev = (k : Int) - 1 ∧ bandB F G n dev = true) := Lib.hid (by
        have e := eb.out
        refine ⟨?_, ?_⟩
        · unfold bandI; rw [e, if_neg hz]
        · unfold bandB; rw [e]; exact decide_eq_true hz)
      clear hz
      go_wp2
      go_ret2
      exact ⟨ret_ib HV.out.1.symm HV.out.2.symm, HB.out⟩

def outW (d m t : Int) : Prop := d < 0 ∨ 65536 < d ∨ m < 0 ∨ 1048576 < m ∨ t < 0 ∨ 1048576 < t
def sumW (F G : Nat → Int) (n : Nat) (d m t : Int) : Int := if bandK F G n (m - t) = 0 then d else if 0 ≤ d + G (bandK F G n (m - t) - 1) then d + G (bandK F G n (m - t) - 1) else 0
open Classical in
noncomputable def wantV (F G : Nat → Int) (n : Nat) (d m t : Int) : Int := if mayB F G n = false ∨ outW d m t then 0 else sumW F G n d m t
open Classical in
noncomputable def wantE (F G : Nat → Int) (n : Nat) (d m t : Int) : Int := if mayB F G n = false ∨ outW d m t then 2 else 0
theorem band_is (A : Option Addr) (n c : Nat) (F G : Nat → Int) (dev i : Int) (t : Bool) (w : World) (h : Bands w w.heap.size A n F G) (hn : n ≤ 9223372036854775807) (ht : Hid (bandI F G n dev = i ∧ bandB F G n dev = t)) :
    Calls Try.prog 18 #[.slice A n c, .int .i64 dev] w fun e w' => e = .returned (.tuple #[.int .i64 i, .bool t]) ∧ Below w.heap.size w w' := by
  have := band_any A n c F G dev w h hn
  rw [ht.out.1, ht.out.2] at this; exact this
theorem add_is (a b v f : Int) (w : World) (ha : -9223372036854775808 ≤ a) (ha' : a ≤ 9223372036854775807) (hb : -9223372036854775808 ≤ b) (hb' : b ≤ 9223372036854775807) (hv : Hid (val (a + b) = v ∧ err (a + b) = f)) :
    Calls Try.prog 19 #[.int .i64 a, .int .i64 b] w fun e w' => e = .returned (.tuple #[.int .i64 v, .int .i64 f]) ∧ w = w' := by
  have h := add_any a b w ha ha' hb hb'
  rw [hv.out.1, hv.out.2] at h; exact h

set_option maxHeartbeats 2000000 in
theorem want_any (A : Option Addr) (n c : Nat) (F G : Nat → Int) (d m t : Int) (w : World) (h : Bands w w.heap.size A n F G) (hn : n ≤ 9223372036854775807) :
    Calls Try.prog 14 #[.slice A n c, .int .i64 d, .int .i64 m, .int .i64 t] w fun e w' => e = .returned (.tuple #[.int .i64 (wantV F G n d m t), .int .i64 (wantE F G n d m t)]) ∧ Below w.heap.size w w' := by
  have H := Lib.hid h
  clear h
  rcases hm : mayB F G n with _ | _
  · have HV : Hid (wantV F G n d m t = 0 ∧ wantE F G n d m t = 2) := Lib.hid ⟨if_pos (.inl hm), if_pos (.inl hm)⟩
    have M := Lib.hid hm
    clear hm
    go_enter Try.func14, Try.ntmps14
    go_wp2_with (first | (go_at_call 16; refine (may_is _ _ _ _ _ _ _ H.out hn M).mono ?_; rintro e w1 ⟨rfl, hb⟩))
    go_ret2
    exact ⟨ret_two HV.out.1.symm HV.out.2.symm, hb⟩
  · have M := Lib.hid hm
    have Y := may_yes hm
    clear hm
    by_cases hd : 0 ≤ d ∧ d ≤ 65536
    · have W1 : Hid (decide (0 ≤ d ∧ d ≤ 65536) = true) := Lib.hid (decide_eq_true hd)
      by_cases hm : 0 ≤ m ∧ m ≤ 1048576
      · have W2 : Hid (decide (0 ≤ m ∧ m ≤ 1048576) = true) := Lib.hid (decide_eq_true hm)
        by_cases ht : 0 ≤ t ∧ t ≤ 1048576
        · have W3 : Hid (decide (0 ≤ t ∧ t ≤ 1048576) = true) := Lib.hid (decide_eq_true ht)
          have hno : ¬ (mayB F G n = false ∨ outW d m t) := by
            rintro (h | h)
            · rw [M.out] at h; cases h
            · unfold outW at h; omega
          have HV : Hid (wantV F G n d m t = sumW F G n d m t ∧ wantE F G n d m t = 0) := Lib.hid ⟨if_neg hno, if_neg hno⟩
          clear hno
          obtain ⟨_, _⟩ := hd
          obtain ⟨_, _⟩ := hm
          obtain ⟨_, _⟩ := ht
          by_cases hz : bandK F G n (m - t) = 0
          · have HB : Hid (bandI F G n (m - t) = 0 ∧ bandB F G n (m - t) = false) := Lib.hid ⟨by unfold bandI; rw [if_pos hz], by unfold bandB; rw [hz]; rfl⟩
            have HS : Hid (sumW F G n d m t = d) := Lib.hid (if_pos hz)
            clear hz Y
            go_enter Try.func14, Try.ntmps14
            go_wp2_with fail
            refine (may_is _ _ _ _ _ _ _ H.out hn M).mono ?_; rintro e w1 ⟨rfl, hb⟩
            go_wp2_with fail
            refine (within_is _ _ _ _ W1 _).mono ?_; rintro e w1 ⟨rfl, rfl⟩
            go_wp2_with fail
            refine (within_is _ _ _ _ W2 _).mono ?_; rintro e w1 ⟨rfl, rfl⟩
            go_wp2_with fail
            refine (within_is _ _ _ _ W3 _).mono ?_; rintro e w1 ⟨rfl, rfl⟩
            go_wp2_with fail
            refine (band_is _ _ _ _ _ _ _ _ _ (H.out.later hb) hn HB).mono ?_; rintro e w2 ⟨rfl, hb2⟩
            go_wp2
            go_ret2
            exact ⟨ret_two (by rw [HV.out.1, HS.out]) HV.out.2.symm, bTrans hb hb2⟩
          · have hk : bandK F G n (m - t) ≤ n := by unfold bandK; rw [if_pos M.out]; exact cnt_bd _ _ _
            obtain ⟨k, ek⟩ : ∃ k : Nat, bandK F G n (m - t) = k + 1 := ⟨bandK F G n (m - t) - 1, by omega⟩
            have hkn : k < n := by omega
            have HB : Hid (bandI F G n (m - t) = (k : Int) ∧ bandB F G n (m - t) = true) := Lib.hid ⟨by unfold bandI; rw [ek, if_neg (by omega)]; omega, by unfold bandB; rw [ek]; exact decide_eq_true (by omega)⟩
            have HS : Hid (sumW F G n d m t = if 0 ≤ d + G k then d + G k else 0) := Lib.hid (by unfold sumW; rw [if_neg hz, ek]; simp)
            obtain ⟨_, _, _, _, _⟩ := Y.2 k hkn
            have ho : outB (d + G k) = false := outB_of_in (by omega)
            have HA : Hid (val (d + G k) = d + G k ∧ err (d + G k) = 0) := Lib.hid ⟨val_no ho, err_no ho⟩
            obtain ⟨b, off, rfl⟩ := bands_at H.out (by omega)
            clear hz Y hk ek ho
            go_enter Try.func14, Try.ntmps14
            go_wp2_with fail
            refine (may_is _ _ _ _ _ _ _ H.out hn M).mono ?_; rintro e w1 ⟨rfl, hb⟩
            go_wp2_with fail
            refine (within_is _ _ _ _ W1 _).mono ?_; rintro e w1 ⟨rfl, rfl⟩
            go_wp2_with fail
            refine (within_is _ _ _ _ W2 _).mono ?_; rintro e w1 ⟨rfl, rfl⟩
            go_wp2_with fail
            refine (within_is _ _ _ _ W3 _).mono ?_; rintro e w1 ⟨rfl, rfl⟩
            go_wp2_with fail
            refine (band_is _ _ _ _ _ _ _ _ _ (H.out.later hb) hn HB).mono ?_; rintro e w2 ⟨rfl, hb2⟩
            obtain ⟨_, c0, c1⟩ := band_cells H.out (bTrans hb hb2) rfl hkn
            go_wp2_with fail
            refine (add_is _ _ _ _ _ (by omega) (by omega) (by omega) (by omega) HA).mono ?_; rintro e w3 ⟨rfl, rfl⟩
            go_wp2
            all_goals
              go_ret2
              refine ⟨ret_two ?_ HV.out.2.symm, bTrans hb hb2⟩
              rw [HV.out.1, HS.out]
              split <;> omega
        · have W3 : Hid (decide (0 ≤ t ∧ t ≤ 1048576) = false) := Lib.hid (decide_eq_false ht)
          have ho : mayB F G n = false ∨ outW d m t := .inr (by unfold outW; omega)
          have HV : Hid (wantV F G n d m t = 0 ∧ wantE F G n d m t = 2) := Lib.hid ⟨if_pos ho, if_pos ho⟩
          clear hd hm ht ho Y
          go_enter Try.func14, Try.ntmps14
          go_wp2_with fail
          refine (may_is _ _ _ _ _ _ _ H.out hn M).mono ?_; rintro e w1 ⟨rfl, hb⟩
          go_wp2_with fail
          refine (within_is _ _ _ _ W1 _).mono ?_; rintro e w1 ⟨rfl, rfl⟩
          go_wp2_with fail
          refine (within_is _ _ _ _ W2 _).mono ?_; rintro e w1 ⟨rfl, rfl⟩
          go_wp2_with fail
          refine (within_is _ _ _ _ W3 _).mono ?_; rintro e w1 ⟨rfl, rfl⟩
          go_wp2
          go_ret2
          exact ⟨ret_two HV.out.1.symm HV.out.2.symm, hb⟩
      · have W2 : Hid (decide (0 ≤ m ∧ m ≤ 1048576) = false) := Lib.hid (decide_eq_false hm)
        have ho : mayB F G n = false ∨ outW d m t := .inr (by unfold outW; omega)
        have HV : Hid (wantV F G n d m t = 0 ∧ wantE F G n d m t = 2) := Lib.hid ⟨if_pos ho, if_pos ho⟩
        clear hd hm ho Y
        go_enter Try.func14, Try.ntmps14
        go_wp2_with fail
        refine (may_is _ _ _ _ _ _ _ H.out hn M).mono ?_; rintro e w1 ⟨rfl, hb⟩
        go_wp2_with fail
        refine (within_is _ _ _ _ W1 _).mono ?_; rintro e w1 ⟨rfl, rfl⟩
        go_wp2_with fail
        refine (within_is _ _ _ _ W2 _).mono ?_; rintro e w1 ⟨rfl, rfl⟩
        go_wp2
        go_ret2
        exact ⟨ret_two HV.out.1.symm HV.out.2.symm, hb⟩
    · have W1 : Hid (decide (0 ≤ d ∧ d ≤ 65536) = false) := Lib.hid (decide_eq_false hd)
      have ho : mayB F G n = false ∨ outW d m t := .inr (by unfold outW; omega)
      have HV : Hid (wantV F G n d m t = 0 ∧ wantE F G n d m t = 2) := Lib.hid ⟨if_pos ho, if_pos ho⟩
      clear hd ho Y
      go_enter Try.func14, Try.ntmps14
      go_wp2_with fail
      refine (may_is _ _ _ _ _ _ _ H.out hn M).mono ?_; rintro e w1 ⟨rfl, hb⟩
      go_wp2_with fail
      refine (within_is _ _ _ _ W1 _).mono ?_; rintro e w1 ⟨rfl, rfl⟩
      go_wp2
      go_ret2
      exact ⟨ret_two HV.out.1.symm HV.out.2.symm, hb⟩
end Go.Proofs.Ytgfiimllehmnoaa.Stair
