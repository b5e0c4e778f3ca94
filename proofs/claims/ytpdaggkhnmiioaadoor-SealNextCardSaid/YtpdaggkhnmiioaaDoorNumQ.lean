
/- Put, the program's and the document's, whatever the number and the size: they tell the same bytes, or the same error. -/
import Derived.Test.YtpdaggkhnmiioaaDoorNumH
import Derived.Test.YtpdaggkhnmiioaaDoorRef00
namespace Go.Proofs.YtpdaggkhnmiioaaDoor.NumA
open Go.ChangeShapes Go.WideShapes Go.ChangeAt Go.RowKit
open NumM Mem Ref00
set_option linter.unusedVariables false

/-- the number behind its first bytes; a byte of it; its first bytes -/
def sh (n : Int) (k : Nat) : Int := n / (256 : Int) ^ k
def digs (n : Int) (k : Nat) : List Int := (List.range k).map fun j => sh n j % 256
theorem sh_zero (n : Int) : sh n 0 = n := by simp [sh]
theorem sh_succ (n : Int) (k : Nat) : sh n k / 256 = sh n (k + 1) := by
  unfold sh
  rw [Int.ediv_ediv_of_nonneg (Int.pow_nonneg (by omega)), Int.pow_succ]
theorem sh_nonneg {n : Int} (h : 0 ≤ n) (k : Nat) : 0 ≤ sh n k := Int.ediv_nonneg h (Int.pow_nonneg (by omega))
theorem sh_le {n : Int} (h : 0 ≤ n) (k : Nat) : sh n k ≤ n := Int.ediv_le_self _ h
theorem digs_succ (n : Int) (k : Nat) : digs n (k + 1) = digs n k ++ [sh n k % 256] := by simp [digs, List.range_succ]
theorem digs_length (n : Int) (k : Nat) : (digs n k).length = k := by simp [digs]

/-- has the number no room in so many bytes? -/
def bigB (n : Int) (k : Nat) : Bool := decide (0 < sh n k)
/-- what Put tells: its error, its bytes -/
def putE (n s : Int) : Int := if sizeB s = false ∨ bigB n s.toNat = true then 2 else 0
def putL (n s : Int) : List Int := if sizeB s = false ∨ bigB n s.toNat = true then [] else digs n s.toNat
/-- a slice of these bytes was told, and this error; nothing that was there has changed -/
def Told (w : World) (bs : List Int) (E : Int) (e : Ending) (w' : World) : Prop :=
  ∃ A c, e = .returned (.tuple #[.slice A bs.length c, .int .i64 E]) ∧ (A = none → c = 0) ∧ bs.length ≤ c ∧ c ≤ 9223372036854775807 ∧ Rd w' w'.heap.size A bs.length bs ∧ Below w.heap.size w w'
theorem told_none (w : World) (E : Int) : Told w [] E (.returned (.tuple #[.slice none 0 0, .int .i64 E])) w :=
  ⟨none, 0, rfl, fun _ => rfl, Nat.le_refl _, by omega, Rd.nil_ _ _, Below.refl _ _⟩
theorem told_below {w w' : World} {E : Int} (h : Below w.heap.size w w') : Told w [] E (.returned (.tuple #[.slice none 0 0, .int .i64 E])) w' :=
  ⟨none, 0, rfl, fun _ => rfl, Nat.le_refl _, by omega, Rd.nil_ _ _, h⟩
theorem told_own {w w' : World} {v : Value} {n : Nat} {bs : List Int} (h : w'.ownsRow w.heap.size 5 1 v n (bytesV bs)) (hn : 0 < n) (hb : Below w.heap.size w w') (E : Int) :
    Told w bs E (.returned (.tuple #[v, .int .i64 E])) w' := by
  have hl : bs.length = n := by have := h.1; rw [bytesV_length] at this; omega
  rcases h.2 with ⟨_, h0⟩ | ⟨g, cap, cur, rfl, hg, hh, hc, hm, _⟩
  · omega
  · unfold maxLen at hm
    refine ⟨some ⟨g, 0, none⟩, cap, by rw [hl], fun h => (by cases h), by omega, by omega, ?_, hb⟩
    rw [hl]; exact Rd.of_own h

theorem refPut_loop (n : Int) (S : Nat) (w : World) (h0 : 0 ≤ n) (h1 : n ≤ 18446744073709551615) (hS : S ≤ 8) (hp : 0 < S) (hs : sizeB (S : Int) = true) :
    Calls Tryd.prog 27 #[.int .u64 n, .int .i64 S] w (Told w (putL n S) (putE n S)) := by
  obtain ⟨i0, hi, hz0, hz1, hz2⟩ := info_parts infoByte
  have eE : putE n S = if bigB n S = true then 2 else 0 := by unfold putE; simp only [hs, Int.toNat_natCast]; simp
  have eL : putL n S = if bigB n S = true then [] else digs n S := by unfold putL; simp only [hs, Int.toNat_natCast]; simp
  have EE := Lib.hid eE
  have EL := Lib.hid eL
  have H := Lib.hid hs
  clear hs eE eL
  have HN := Lib.hid h1
  clear h1
  go_enter Tryd.func27, Tryd.ntmps27
  go_wp2_with (first | (go_at_call 30; refine (size_is _ true _ H).mono ?_; rintro e w' ⟨rfl, rfl⟩))
  go_loopw [0, 6, 7] (fun m v i wr => ∃ k : Nat, k ≤ S ∧ i = .int .i64 k ∧ m = .int .u64 (sh n k) ∧ wr.ownsRow w.heap.size 5 1 v k (bytesV (digs n k)) ∧ Below w.heap.size w wr) (fun _ _ i _ => S - (intOf i).toNat)
  case atStart => exact ⟨0, Nat.zero_le _, rfl, by rw [sh_zero], World.ownsRow_nil _ _ _ _, Below.refl _ _⟩
  case round =>
    obtain ⟨k, hk, rfl, rfl, hown, hb⟩ := hrel
    have g0 := sh_nonneg h0 k
    have g1 : sh n k ≤ 18446744073709551615 := Int.le_trans (sh_le h0 k) HN.out
    by_cases hlt : k < S
    · have L1 : Hid ((bytesV [sh n k % 256]).length = 1 * 1) := Lib.hid rfl
      go_wp2_with (first
        | (at_builtin; refine wpList_append_own _ rfl _ _ 23 rfl w.heap.size 5 i0 (.int .u8 0) 1 1 Tryd.underlying23 hi hz0 hz1 hz2 rfl (by decide) _ k (bytesV (digs n k)) rfl (hown.alloc _) ⟨wr.heap.size, 0, none⟩ 1 1 (bytesV [sh n k % 256]) rfl L1.out ?c1 (bytesV_one _) (by unfold maxLen; omega) (by omega) (by have := hb.size; simp; omega) ?_))
      case c1 => exact new_cells wr [sh n k % 256] _
      intro v' w2 hown2 hgrow2 _
      have hb2 : Below w.heap.size w w2 := (hb.alloc hb.size _).grown hgrow2 (by have := hb.size; simp; omega) (fun k hk => (hown.lt k hk).1)
      rw [← bytesV_append, ← digs_succ] at hown2
      have HO := Lib.hid hown2
      have HB := Lib.hid hb2
      have HS := Lib.hid (sh_succ n k)
      clear hown2 hgrow2 hb2 hb hown
      go_wp2
      go_roundw
      case rel => exact ⟨k + 1, by omega, by go_num, by rw [HS.out], HO.out, HB.out⟩
      case measure => simp [intOf]; omega
    · obtain rfl : k = S := by omega
      by_cases hbig : 0 < sh n k
      · have hbb : bigB n k = true := decide_eq_true hbig
        have HL : Hid (putL n k = [] ∧ putE n k = 2) := by rw [EE.out, EL.out, hbb]; exact Lib.hid ⟨rfl, rfl⟩
        clear hbb
        go_wp2
        go_ret2
        rw [HL.out.1, HL.out.2]
        exact told_below hb
      · have hbb : bigB n k = false := decide_eq_false hbig
        have HL : Hid (putL n k = digs n k ∧ putE n k = 0) := by rw [EE.out, EL.out, hbb]; exact Lib.hid ⟨rfl, rfl⟩
        clear hbb
        go_wp2
        go_ret2
        rw [HL.out.1, HL.out.2]
        exact told_own hown hp hb 0

theorem refPut_bad (n s : Int) (w : World) (hs : sizeB s = false) :
    Calls Tryd.prog 27 #[.int .u64 n, .int .i64 s] w (Told w (putL n s) (putE n s)) := by
  have e : putE n s = 2 := by unfold putE; rw [if_pos (.inl hs)]
  have l : putL n s = [] := by unfold putL; rw [if_pos (.inl hs)]
  rw [e, l]
  have H := Lib.hid hs
  clear hs e l
  go_enter Tryd.func27, Tryd.ntmps27
  go_wp2_with (first | (go_at_call 30; refine (size_is _ false _ H).mono ?_; rintro e w' ⟨rfl, rfl⟩))
  go_ret2
  exact told_none _ _
theorem refPut_all (n s : Int) (w : World) (h0 : 0 ≤ n) (h1 : n ≤ 18446744073709551615) :
    Calls Tryd.prog 27 #[.int .u64 n, .int .i64 s] w (Told w (putL n s) (putE n s)) := by
  rcases hs : sizeB s with _ | _
  · exact refPut_bad n s w hs
  · have h := sizeB_of hs
    obtain ⟨S, rfl⟩ := Int.eq_ofNat_of_zero_le (show 0 ≤ s by omega)
    exact refPut_loop n S w h0 h1 (by omega) (by omega) hs

/-- a block that was just laid is told -/
theorem told_new (w : World) (bs : List Int) (hn : 0 < bs.length) (hl : bs.length ≤ 8) (E : Int) :
    Told w bs E (.returned (.tuple #[.slice (some ⟨w.heap.size, 0, none⟩) bs.length bs.length, .int .i64 E])) (w.alloc (.cells (bytesV bs).toArray 5)) := by
  have h := World.ownsRow_lit (e := 5) (size := 1) w (bytesV bs).toArray bs.length (Nat.le_refl w.heap.size) (by unfold maxLen; omega) (by simp [bytesV])
  exact told_own h hn ((Below.refl _ _).alloc (Nat.le_refl _) _) E
theorem put_bad' (n s : Int) (w : World) (hs : sizeB s = false) :
    Calls Tryd.prog 33 #[.int .u64 n, .int .i64 s] w (Told w (putL n s) (putE n s)) := by
  have e : putE n s = 2 := by unfold putE; rw [if_pos (.inl hs)]
  have l : putL n s = [] := by unfold putL; rw [if_pos (.inl hs)]
  rw [e, l]
  refine (put_bad n s w (of_decide_eq_false hs)).mono ?_
  rintro _ _ ⟨rfl, rfl⟩
  exact told_none _ _
theorem put_all (n s : Int) (w : World) (h0 : 0 ≤ n) (h1 : n ≤ 18446744073709551615) :
    Calls Tryd.prog 33 #[.int .u64 n, .int .i64 s] w (Told w (putL n s) (putE n s)) := by
  rcases hs : sizeB s with _ | _
  · exact put_bad' n s w hs
  · have eE : putE n s = if bigB n s.toNat = true then 2 else 0 := by unfold putE; simp only [hs]; simp
    have eL : putL n s = if bigB n s.toNat = true then [] else digs n s.toNat := by unfold putL; simp only [hs]; simp
    rw [eE, eL]
    rcases sizeB_of hs with rfl | rfl | rfl | rfl
    · have d : digs n 1 = [n % 256] := by simp [digs, sh, List.range_succ]
      have q : sh n 1 = n / 256 := rfl
      show Calls Tryd.prog _ _ w (Told w (if bigB n 1 = true then [] else digs n 1) (if bigB n 1 = true then 2 else 0))
      rcases hb : bigB n 1 with _ | _
      · have hz : (n / 256 != 0) = false := by
          have h2 := of_decide_eq_false hb
          have h3 := sh_nonneg h0 1
          rw [q] at h2 h3
          have h4 : n / 256 = 0 := by omega
          rw [h4]; rfl
        refine (put1 n w h0 hz).mono ?_
        rintro _ _ ⟨rfl, rfl⟩
        simp only [Bool.false_eq_true, if_false]
        rw [d]
        exact told_new w [n % 256] (by simp) (by simp) 0
      · have hz : (n / 256 != 0) = true := by
          have h2 := of_decide_eq_true hb
          rw [q] at h2
          have h4 : ¬ n / 256 = 0 := by omega
          simpa using h4
        refine (put1_big n w h0 hz).mono ?_
        rintro _ _ ⟨rfl, rfl⟩
        exact told_none _ _
    · have d : digs n 2 = [n % 256, n / 256 % 256] := by simp [digs, sh, List.range_succ]
      have q : sh n 2 = n / 65536 := rfl
      show Calls Tryd.prog _ _ w (Told w (if bigB n 2 = true then [] else digs n 2) (if bigB n 2 = true then 2 else 0))
      rcases hb : bigB n 2 with _ | _
      · have hz : (n / 65536 != 0) = false := by
          have h2 := of_decide_eq_false hb
          have h3 := sh_nonneg h0 2
          rw [q] at h2 h3
          have h4 : n / 65536 = 0 := by omega
          rw [h4]; rfl
        refine (put2 n w h0 hz).mono ?_
        rintro _ _ ⟨rfl, rfl⟩
        simp only [Bool.false_eq_true, if_false]
        rw [d]
        exact told_new w [n % 256, n / 256 % 256] (by simp) (by simp) 0
      · have hz : (n / 65536 != 0) = true := by
          have h2 := of_decide_eq_true hb
          rw [q] at h2
          have h4 : ¬ n / 65536 = 0 := by omega
          simpa using h4
        refine (put2_big n w h0 hz).mono ?_
        rintro _ _ ⟨rfl, rfl⟩
        exact told_none _ _
    · have d : digs n 4 = [n % 256, n / 256 % 256, n / 65536 % 256, n / 16777216 % 256] := by simp [digs, sh, List.range_succ]
      have q : sh n 4 = n / 4294967296 := rfl
      show Calls Tryd.prog _ _ w (Told w (if bigB n 4 = true then [] else digs n 4) (if bigB n 4 = true then 2 else 0))
      rcases hb : bigB n 4 with _ | _
      · have hz : (n / 4294967296 != 0) = false := by
          have h2 := of_decide_eq_false hb
          have h3 := sh_nonneg h0 4
          rw [q] at h2 h3
          have h4 : n / 4294967296 = 0 := by omega
          rw [h4]; rfl
        refine (put4 n w h0 hz).mono ?_
        rintro _ _ ⟨rfl, rfl⟩
        simp only [Bool.false_eq_true, if_false]
        rw [d]
        exact told_new w [n % 256, n / 256 % 256, n / 65536 % 256, n / 16777216 % 256] (by simp) (by simp) 0
      · have hz : (n / 4294967296 != 0) = true := by
          have h2 := of_decide_eq_true hb
          rw [q] at h2
          have h4 : ¬ n / 4294967296 = 0 := by omega
          simpa using h4
        refine (put4_big n w h0 hz).mono ?_
        rintro _ _ ⟨rfl, rfl⟩
        exact told_none _ _
    · have d : digs n 8 = [n % 256, n / 256 % 256, n / 65536 % 256, n / 16777216 % 256, n / 4294967296 % 256, n / 1099511627776 % 256, n / 281474976710656 % 256, n / 72057594037927936 % 256] := by simp [digs, sh, List.range_succ]
      have q : sh n 8 = n / 18446744073709551616 := rfl
      show Calls Tryd.prog _ _ w (Told w (if bigB n 8 = true then [] else digs n 8) (if bigB n 8 = true then 2 else 0))
      rcases hb : bigB n 8 with _ | _
      · have hz : (n / 18446744073709551616 != 0) = false := by
          have h2 := of_decide_eq_false hb
          have h3 := sh_nonneg h0 8
          rw [q] at h2 h3
          have h4 : n / 18446744073709551616 = 0 := by omega
          rw [h4]; rfl
        refine (put8 n w h0 hz).mono ?_
        rintro _ _ ⟨rfl, rfl⟩
        simp only [Bool.false_eq_true, if_false]
        rw [d]
        exact told_new w [n % 256, n / 256 % 256, n / 65536 % 256, n / 16777216 % 256, n / 4294967296 % 256, n / 1099511627776 % 256, n / 281474976710656 % 256, n / 72057594037927936 % 256] (by simp) (by simp) 0
      · have h2 := of_decide_eq_true hb
        rw [q] at h2
        omega
end Go.Proofs.YtpdaggkhnmiioaaDoor.NumA
