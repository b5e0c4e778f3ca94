/- What is put is got, wherever it stands: for every input of bulk at most 1048576 the law returns true. (Beyond 2^47 bytes together the slice that the law itself makes grows past what Go grants.) -/
import Derived.Test.YteglmjongdpagaaNumQ
import Derived.Test.YteglmjongdpagaaNumW
import Derived.Test.YteglmjongdpagaaUpto
namespace Go.Proofs.Yteglmjongdpagaa.numBack
open Go.ChangeShapes Go.WideShapes Go.ChangeAt Go.RowKit
open NumM NumA Mem Ref00 Upto
set_option linter.unusedVariables false

theorem getD_mid {a b c : List Int} {i : Nat} (h : i < b.length) : (a ++ b ++ c).getD (a.length + i) 0 = b.getD i 0 := by
  simp only [List.getD, List.append_assoc]
  rw [List.getElem?_append_right (by omega), show a.length + i - a.length = i by omega, List.getElem?_append_left h]
theorem getD_byte {a b : List Int} (ha : ∀ i, 0 ≤ a.getD i 0 ∧ a.getD i 0 ≤ 255) (hb : ∀ i, 0 ≤ b.getD i 0 ∧ b.getD i 0 ≤ 255) : ∀ i, 0 ≤ (a ++ b).getD i 0 ∧ (a ++ b).getD i 0 ≤ 255 := by
  intro i
  rcases Nat.lt_or_ge i a.length with h | h
  · have : (a ++ b).getD i 0 = a.getD i 0 := by simp only [List.getD]; rw [List.getElem?_append_left h]
    rw [this]; exact ha i
  · have : (a ++ b).getD i 0 = b.getD (i - a.length) 0 := by simp only [List.getD]; rw [List.getElem?_append_right h]
    rw [this]; exact hb _
theorem digs_byte {n : Int} (k : Nat) : ∀ i, 0 ≤ (digs n k).getD i 0 ∧ (digs n k).getD i 0 ≤ 255 := by
  intro i
  rcases Nat.lt_or_ge i k with h | h
  · have : (digs n k).getD i 0 = sh n i % 256 := by simp [digs, List.getD, List.getElem?_range h]
    rw [this]; omega
  · have : (digs n k).getD i 0 = 0 := by simp only [List.getD]; rw [List.getElem?_eq_none (by rw [digs_length]; exact h)]; rfl
    rw [this]; omega
theorem digs_get {n : Int} {k i : Nat} (h : i < k) : (digs n k).getD i 0 = n / (256 : Int) ^ i % 256 := by
  simp [digs, List.getD, List.getElem?_range h, sh]

theorem num_back (n : Int) (S : Nat) (a c : List Int) (h0 : 0 ≤ n) (hs : sizeB (S : Int) = true) (hb : bigB n S = false) : num (a ++ digs n S ++ c) a.length S = n := by
  have e : ∀ i, i < S → bt (a ++ digs n S ++ c) (a.length + i) = n / (256 : Int) ^ i % 256 := fun i hi => by
    unfold bt; rw [getD_mid (by rw [digs_length]; exact hi), digs_get hi]
  have z : n / (256 : Int) ^ S = 0 := by
    have h1 := of_decide_eq_false hb
    have h2 := sh_nonneg h0 S
    unfold sh at h1 h2
    omega
  unfold num
  rcases sizeB_of hs with g | g | g | g
  · obtain rfl : S = 1 := by omega
    have e0 := e 0 (by omega)
    simp only [Nat.add_zero] at e0
    rw [if_pos (by omega), e0]
    simp only [Int.pow_zero, Int.ediv_one, Int.pow_one] at *
    omega
  · obtain rfl : S = 2 := by omega
    have e0 := e 0 (by omega)
    have e1 := e 1 (by omega)
    simp only [Nat.add_zero] at e0
    rw [if_neg (by omega), if_pos (by omega), e0, e1]
    simp only [Int.pow_zero, Int.ediv_one, Int.pow_one] at *
    have q : (256 : Int) ^ 2 = 65536 := rfl
    rw [q] at z
    omega
  · obtain rfl : S = 4 := by omega
    have e0 := e 0 (by omega)
    have e1 := e 1 (by omega)
    have e2 := e 2 (by omega)
    have e3 := e 3 (by omega)
    simp only [Nat.add_zero] at e0
    rw [if_neg (by omega), if_neg (by omega), if_pos (by omega), e0, e1, e2, e3]
    simp only [Int.pow_zero, Int.ediv_one, Int.pow_one] at *
    have q2 : (256 : Int) ^ 2 = 65536 := rfl
    have q3 : (256 : Int) ^ 3 = 16777216 := rfl
    have q4 : (256 : Int) ^ 4 = 4294967296 := rfl
    rw [q4] at z
    rw [q2, q3]
    omega
  · obtain rfl : S = 8 := by omega
    have e0 := e 0 (by omega)
    have e1 := e 1 (by omega)
    have e2 := e 2 (by omega)
    have e3 := e 3 (by omega)
    have e4 := e 4 (by omega)
    have e5 := e 5 (by omega)
    have e6 := e 6 (by omega)
    have e7 := e 7 (by omega)
    simp only [Nat.add_zero] at e0
    rw [if_neg (by omega), if_neg (by omega), if_neg (by omega), e0, e1, e2, e3, e4, e5, e6, e7]
    simp only [Int.pow_zero, Int.ediv_one, Int.pow_one] at *
    have q2 : (256 : Int) ^ 2 = 65536 := rfl
    have q3 : (256 : Int) ^ 3 = 16777216 := rfl
    have q4 : (256 : Int) ^ 4 = 4294967296 := rfl
    have q5 : (256 : Int) ^ 5 = 1099511627776 := rfl
    have q6 : (256 : Int) ^ 6 = 281474976710656 := rfl
    have q7 : (256 : Int) ^ 7 = 72057594037927936 := rfl
    have q8 : (256 : Int) ^ 8 = 18446744073709551616 := rfl
    rw [q8] at z
    rw [q2, q3, q4, q5, q6, q7]
    clear e e0 e1 e2 e3 e4 e5 e6 e7
    omega

/-- the size that is drawn -/
theorem sizes (k : Int) (h : 0 ≤ k) : k % 4 = 0 ∨ k % 4 = 1 ∨ k % 4 = 2 ∨ k % 4 = 3 := by omega

theorem big1 {n : Int} (h0 : 0 ≤ n) (h : bigB n 1 = true) : 0 < n / 256 := of_decide_eq_true h
theorem big2 {n : Int} (h0 : 0 ≤ n) (h : bigB n 2 = true) : 0 < n / 65536 := of_decide_eq_true h
theorem big4 {n : Int} (h0 : 0 ≤ n) (h : bigB n 4 = true) : 0 < n / 4294967296 := of_decide_eq_true h
theorem big8 {n : Int} (h0 : 0 ≤ n) (h1 : n ≤ 18446744073709551615) : bigB n 8 = false := by
  have q : sh n 8 = n / 18446744073709551616 := rfl
  unfold bigB
  rw [q]
  exact decide_eq_false (by omega)


theorem big_1 (n k : Int) (A B : Option Addr) (m c m' c' : Nat) (w : World) (k0 : 0 ≤ k) (k1 : k ≤ 255) (hk : k % 4 = 0) (h0 : 0 ≤ n) (h1 : n ≤ 18446744073709551615) (hbig : bigB n 1 = true) :
    Calls Try.prog 5 #[.int .u64 n, .int .u8 k, .slice A m c, .slice B m' c'] w fun e w' => e = .returned (.bool true) ∧ Below w.heap.size w w' := by
  have P := put_all n 1 w h0 h1
  have e1 : putE n 1 = 2 := if_pos (.inr hbig)
  have e2 : putL n 1 = [] := if_pos (.inr hbig)
  rw [e1, e2] at P
  have HP := Lib.hid P
  have hq := big1 h0 hbig
  clear hbig e1 e2 P h1
  go_enter Try.func5, Try.ntmps5
  go_wp2_with fail
  refine HP.out.mono ?_
  rintro e W1 ⟨A2, c2, rfl, hA2, hl2, hl2', hr2, hb2⟩
  have LV := Lib.hid (lives_below W1)
  have BB := Lib.hid hb2
  clear hA2 hl2 hl2' hr2 hb2 HP
  go_wp2_with (go_at_call 18; refine LV.out.mono ?_; rintro e w' ⟨rfl, hb4⟩)
  go_ret
  exact ⟨rfl, BB.out.trans (Below.mono (by assumption) BB.out.size)⟩

theorem ok_1 (n k : Int) (A B : Option Addr) (m c m' c' : Nat) (bs bs' : List Int) (w : World) (k0 : 0 ≤ k) (k1 : k ≤ 255) (hk : k % 4 = 0) (h0 : 0 ≤ n) (h1 : n ≤ 18446744073709551615) (hbig : bigB n 1 = false)
    (r : ByteArg w A m c bs) (r' : ByteArg w B m' c' bs') (g1 : m ≤ 1048576) (g2 : m' ≤ 1048576) :
    Calls Try.prog 5 #[.int .u64 n, .int .u8 k, .slice A m c, .slice B m' c'] w fun e w' => e = .returned (.bool true) ∧ Below w.heap.size w w' := by
  obtain ⟨i0, hi, hz0, hz1, hz2⟩ := info_parts infoByte
  have P := put_all n 1 w h0 h1
  have hn2 : ¬ (sizeB 1 = false ∨ bigB n 1 = true) := by rw [hbig]; simp [sizeB]
  have e1 : putE n 1 = 0 := if_neg hn2
  have e2 : putL n 1 = digs n 1 := if_neg hn2
  rw [e1, e2] at P
  have hdl : (digs n 1).length = 1 := digs_length n 1
  have NB : Hid (∀ c, num (bs ++ digs n 1 ++ c) m 1 = n) := by
    rw [← r.rd.1]; exact Lib.hid (fun c => num_back n 1 bs c h0 rfl hbig)
  have HP := Lib.hid P
  have R := Lib.hid r
  have R' := Lib.hid r'
  clear hbig e1 e2 P h1 r r' hn2
  have HD := Lib.hid hdl
  clear hdl
  go_enter Try.func5, Try.ntmps5
  go_wp2_with fail
  refine HP.out.mono ?_
  rintro e W1 ⟨A2, c2, rfl, hA2, hl2, hl2', hr2, hb1⟩
  rw [HD.out] at hr2
  rw [HD.out]
  have HA2 := Lib.hid hA2
  have HR2 := Lib.hid hr2
  have HB1 := Lib.hid hb1
  have CP := Lib.hid (copy_any A m c bs W1 ((R.out.rd.below hb1).more hb1.size) R.out.nil_ (by omega))
  clear hA2 hl2 hl2' hr2 hb1 HP
  go_wp2_with fail
  refine CP.out.mono ?_
  rintro e W2 ⟨v, rfl, hown, hb2⟩
  have HR3 := Lib.hid (HR2.out.below hb2)
  have HB2 : Hid (Below w.heap.size w W2 ∧ W1.heap.size ≤ W2.heap.size) := Lib.hid ⟨HB1.out.trans (hb2.mono HB1.out.size), hb2.size⟩
  have HO := Lib.hid hown
  clear hb2 hown CP HR2
  go_wp2_with (first
    | (at_builtin; refine append_bytes rfl (.tmp 40) (.tmp 41) 29 rfl W1.heap.size 5 i0 Try.underlying29 hi hz0 hz1 hz2 _ m bs rfl HO.out _ _ _ _ (digs n 1) rfl HR3.out HA2.out (by omega) HB2.out.2 ?_; intro v2 W3 hown2 hgrow2; have HO2 := Lib.hid hown2; have HG2 := Lib.hid hgrow2; clear hown2 hgrow2; have HB3 : Hid (Below w.heap.size w W3 ∧ W1.heap.size ≤ W3.heap.size) := Lib.hid ⟨HB2.out.1.grown HG2.out HB2.out.1.size (fun k hk => Nat.le_trans HB1.out.size (HO.out.lt k hk).1), Nat.le_trans HB2.out.2 HG2.out.size⟩)
    | (at_builtin; refine append_bytes rfl (.tmp 43) (.tmp 44) 29 rfl W1.heap.size 5 i0 Try.underlying29 hi hz0 hz1 hz2 _ (m + 1) (bs ++ digs n 1) rfl HO2.out _ _ _ _ bs' rfl (R'.out.rd.below HB3.out.1) R'.out.nil_ (by omega) HB3.out.2 ?_; intro v3 W4 hown3 hgrow3; have HO3 := Lib.hid hown3; have HG3 := Lib.hid hgrow3; clear hown3 hgrow3; have HB4 : Hid (Below w.heap.size w W4) := Lib.hid (HB3.out.1.grown HG3.out HB3.out.1.size (fun k hk => Nat.le_trans HB1.out.size (HO2.out.lt k hk).1)); obtain ⟨g, cap, hv3, hg1, hg2, hcap, hcm⟩ := own_form HO3.out (by omega); subst hv3))
  have G := Lib.hid (get_all W4.heap.size (some ⟨g, 0, none⟩) (m + 1 + m') cap (bs ++ digs n 1 ++ bs') m 1 W4 (Rd.of_own HO3.out) (getD_byte (getD_byte R.out.byte (digs_byte 1)) R'.out.byte) hcap (by omega) hcm)
  have E : getE (m + 1 + m') m 1 = 0 := by unfold getE; rw [if_neg (by simp [sizeB]; omega), if_neg (by omega)]
  have V : getV (m + 1 + m') (bs ++ digs n 1 ++ bs') m 1 = n := by unfold getV; rw [E, if_pos rfl]; exact NB.out bs'
  rw [E, V] at G
  have LV := Lib.hid (lives_below W4)
  clear E V NB HO HO2 HO3 HG2 HG3 HR3 R R' hcap hcm hg1 hg2 HB1 HB2 HB3
  go_wp2_with (first
    | (go_at_call 22; refine G.out.mono ?_; rintro e w' ⟨rfl, rfl⟩)
    | (go_at_call 18; refine LV.out.mono ?_; rintro e w' ⟨rfl, hb4⟩))
  go_ret
  exact ⟨rfl, HB4.out.trans (Below.mono (by assumption) HB4.out.size)⟩

theorem big_2 (n k : Int) (A B : Option Addr) (m c m' c' : Nat) (w : World) (k0 : 0 ≤ k) (k1 : k ≤ 255) (hk : k % 4 = 1) (h0 : 0 ≤ n) (h1 : n ≤ 18446744073709551615) (hbig : bigB n 2 = true) :
    Calls Try.prog 5 #[.int .u64 n, .int .u8 k, .slice A m c, .slice B m' c'] w fun e w' => e = .returned (.bool true) ∧ Below w.heap.size w w' := by
  have P := put_all n 2 w h0 h1
  have e1 : putE n 2 = 2 := if_pos (.inr hbig)
  have e2 : putL n 2 = [] := if_pos (.inr hbig)
  rw [e1, e2] at P
  have HP := Lib.hid P
  have hq := big2 h0 hbig
  clear hbig e1 e2 P h1
  go_enter Try.func5, Try.ntmps5
  go_wp2_with fail
  refine HP.out.mono ?_
  rintro e W1 ⟨A2, c2, rfl, hA2, hl2, hl2', hr2, hb2⟩
  have LV := Lib.hid (lives_below W1)
  have BB := Lib.hid hb2
  clear hA2 hl2 hl2' hr2 hb2 HP
  go_wp2_with (go_at_call 18; refine LV.out.mono ?_; rintro e w' ⟨rfl, hb4⟩)
  go_ret
  exact ⟨rfl, BB.out.trans (Below.mono (by assumption) BB.out.size)⟩

theorem ok_2 (n k : Int) (A B : Option Addr) (m c m' c' : Nat) (bs bs' : List Int) (w : World) (k0 : 0 ≤ k) (k1 : k ≤ 255) (hk : k % 4 = 1) (h0 : 0 ≤ n) (h1 : n ≤ 18446744073709551615) (hbig : bigB n 2 = false)
    (r : ByteArg w A m c bs) (r' : ByteArg w B m' c' bs') (g1 : m ≤ 1048576) (g2 : m' ≤ 1048576) :
    Calls Try.prog 5 #[.int .u64 n, .int .u8 k, .slice A m c, .slice B m' c'] w fun e w' => e = .returned (.bool true) ∧ Below w.heap.size w w' := by
  obtain ⟨i0, hi, hz0, hz1, hz2⟩ := info_parts infoByte
  have P := put_all n 2 w h0 h1
  have hn2 : ¬ (sizeB 2 = false ∨ bigB n 2 = true) := by rw [hbig]; simp [sizeB]
  have e1 : putE n 2 = 0 := if_neg hn2
  have e2 : putL n 2 = digs n 2 := if_neg hn2
  rw [e1, e2] at P
  have hdl : (digs n 2).length = 2 := digs_length n 2
  have NB : Hid (∀ c, num (bs ++ digs n 2 ++ c) m 2 = n) := by
    rw [← r.rd.1]; exact Lib.hid (fun c => num_back n 2 bs c h0 rfl hbig)
  have HP := Lib.hid P
  have R := Lib.hid r
  have R' := Lib.hid r'
  clear hbig e1 e2 P h1 r r' hn2
  have HD := Lib.hid hdl
  clear hdl
  go_enter Try.func5, Try.ntmps5
  go_wp2_with fail
  refine HP.out.mono ?_
  rintro e W1 ⟨A2, c2, rfl, hA2, hl2, hl2', hr2, hb1⟩
  rw [HD.out] at hr2
  rw [HD.out]
  have HA2 := Lib.hid hA2
  have HR2 := Lib.hid hr2
  have HB1 := Lib.hid hb1
  have CP := Lib.hid (copy_any A m c bs W1 ((R.out.rd.below hb1).more hb1.size) R.out.nil_ (by omega))
  clear hA2 hl2 hl2' hr2 hb1 HP
  go_wp2_with fail
  refine CP.out.mono ?_
  rintro e W2 ⟨v, rfl, hown, hb2⟩
  have HR3 := Lib.hid (HR2.out.below hb2)
  have HB2 : Hid (Below w.heap.size w W2 ∧ W1.heap.size ≤ W2.heap.size) := Lib.hid ⟨HB1.out.trans (hb2.mono HB1.out.size), hb2.size⟩
  have HO := Lib.hid hown
  clear hb2 hown CP HR2
  go_wp2_with (first
    | (at_builtin; refine append_bytes rfl (.tmp 40) (.tmp 41) 29 rfl W1.heap.size 5 i0 Try.underlying29 hi hz0 hz1 hz2 _ m bs rfl HO.out _ _ _ _ (digs n 2) rfl HR3.out HA2.out (by omega) HB2.out.2 ?_; intro v2 W3 hown2 hgrow2; have HO2 := Lib.hid hown2; have HG2 := Lib.hid hgrow2; clear hown2 hgrow2; have HB3 : Hid (Below w.heap.size w W3 ∧ W1.heap.size ≤ W3.heap.size) := Lib.hid ⟨HB2.out.1.grown HG2.out HB2.out.1.size (fun k hk => Nat.le_trans HB1.out.size (HO.out.lt k hk).1), Nat.le_trans HB2.out.2 HG2.out.size⟩)
    | (at_builtin; refine append_bytes rfl (.tmp 43) (.tmp 44) 29 rfl W1.heap.size 5 i0 Try.underlying29 hi hz0 hz1 hz2 _ (m + 2) (bs ++ digs n 2) rfl HO2.out _ _ _ _ bs' rfl (R'.out.rd.below HB3.out.1) R'.out.nil_ (by omega) HB3.out.2 ?_; intro v3 W4 hown3 hgrow3; have HO3 := Lib.hid hown3; have HG3 := Lib.hid hgrow3; clear hown3 hgrow3; have HB4 : Hid (Below w.heap.size w W4) := Lib.hid (HB3.out.1.grown HG3.out HB3.out.1.size (fun k hk => Nat.le_trans HB1.out.size (HO2.out.lt k hk).1)); obtain ⟨g, cap, hv3, hg1, hg2, hcap, hcm⟩ := own_form HO3.out (by omega); subst hv3))
  have G := Lib.hid (get_all W4.heap.size (some ⟨g, 0, none⟩) (m + 2 + m') cap (bs ++ digs n 2 ++ bs') m 2 W4 (Rd.of_own HO3.out) (getD_byte (getD_byte R.out.byte (digs_byte 2)) R'.out.byte) hcap (by omega) hcm)
  have E : getE (m + 2 + m') m 2 = 0 := by unfold getE; rw [if_neg (by simp [sizeB]; omega), if_neg (by omega)]
  have V : getV (m + 2 + m') (bs ++ digs n 2 ++ bs') m 2 = n := by unfold getV; rw [E, if_pos rfl]; exact NB.out bs'
  rw [E, V] at G
  have LV := Lib.hid (lives_below W4)
  clear E V NB HO HO2 HO3 HG2 HG3 HR3 R R' hcap hcm hg1 hg2 HB1 HB2 HB3
  go_wp2_with (first
    | (go_at_call 22; refine G.out.mono ?_; rintro e w' ⟨rfl, rfl⟩)
    | (go_at_call 18; refine LV.out.mono ?_; rintro e w' ⟨rfl, hb4⟩))
  go_ret
  exact ⟨rfl, HB4.out.trans (Below.mono (by assumption) HB4.out.size)⟩

theorem big_4 (n k : Int) (A B : Option Addr) (m c m' c' : Nat) (w : World) (k0 : 0 ≤ k) (k1 : k ≤ 255) (hk : k % 4 = 2) (h0 : 0 ≤ n) (h1 : n ≤ 18446744073709551615) (hbig : bigB n 4 = true) :
    Calls Try.prog 5 #[.int .u64 n, .int .u8 k, .slice A m c, .slice B m' c'] w fun e w' => e = .returned (.bool true) ∧ Below w.heap.size w w' := by
  have P := put_all n 4 w h0 h1
  have e1 : putE n 4 = 2 := if_pos (.inr hbig)
  have e2 : putL n 4 = [] := if_pos (.inr hbig)
  rw [e1, e2] at P
  have HP := Lib.hid P
  have hq := big4 h0 hbig
  clear hbig e1 e2 P h1
  go_enter Try.func5, Try.ntmps5
  go_wp2_with fail
  refine HP.out.mono ?_
  rintro e W1 ⟨A2, c2, rfl, hA2, hl2, hl2', hr2, hb2⟩
  have LV := Lib.hid (lives_below W1)
  have BB := Lib.hid hb2
  clear hA2 hl2 hl2' hr2 hb2 HP
  go_wp2_with (go_at_call 18; refine LV.out.mono ?_; rintro e w' ⟨rfl, hb4⟩)
  go_ret
  exact ⟨rfl, BB.out.trans (Below.mono (by assumption) BB.out.size)⟩

theorem ok_4 (n k : Int) (A B : Option Addr) (m c m' c' : Nat) (bs bs' : List Int) (w : World) (k0 : 0 ≤ k) (k1 : k ≤ 255) (hk : k % 4 = 2) (h0 : 0 ≤ n) (h1 : n ≤ 18446744073709551615) (hbig : bigB n 4 = false)
    (r : ByteArg w A m c bs) (r' : ByteArg w B m' c' bs') (g1 : m ≤ 1048576) (g2 : m' ≤ 1048576) :
    Calls Try.prog 5 #[.int .u64 n, .int .u8 k, .slice A m c, .slice B m' c'] w fun e w' => e = .returned (.bool true) ∧ Below w.heap.size w w' := by
  obtain ⟨i0, hi, hz0, hz1, hz2⟩ := info_parts infoByte
  have P := put_all n 4 w h0 h1
  have hn2 : ¬ (sizeB 4 = false ∨ bigB n 4 = true) := by rw [hbig]; simp [sizeB]
  have e1 : putE n 4 = 0 := if_neg hn2
  have e2 : putL n 4 = digs n 4 := if_neg hn2
  rw [e1, e2] at P
  have hdl : (digs n 4).length = 4 := digs_length n 4
  have NB : Hid (∀ c, num (bs ++ digs n 4 ++ c) m 4 = n) := by
    rw [← r.rd.1]; exact Lib.hid (fun c => num_back n 4 bs c h0 rfl hbig)
  have HP := Lib.hid P
  have R := Lib.hid r
  have R' := Lib.hid r'
  clear hbig e1 e2 P h1 r r' hn2
  have HD := Lib.hid hdl
  clear hdl
  go_enter Try.func5, Try.ntmps5
  go_wp2_with fail
  refine HP.out.mono ?_
  rintro e W1 ⟨A2, c2, rfl, hA2, hl2, hl2', hr2, hb1⟩
  rw [HD.out] at hr2
  rw [HD.out]
  have HA2 := Lib.hid hA2
  have HR2 := Lib.hid hr2
  have HB1 := Lib.hid hb1
  have CP := Lib.hid (copy_any A m c bs W1 ((R.out.rd.below hb1).more hb1.size) R.out.nil_ (by omega))
  clear hA2 hl2 hl2' hr2 hb1 HP
  go_wp2_with fail
  refine CP.out.mono ?_
  rintro e W2 ⟨v, rfl, hown, hb2⟩
  have HR3 := Lib.hid (HR2.out.below hb2)
  have HB2 : Hid (Below w.heap.size w W2 ∧ W1.heap.size ≤ W2.heap.size) := Lib.hid ⟨HB1.out.trans (hb2.mono HB1.out.size), hb2.size⟩
  have HO := Lib.hid hown
  clear hb2 hown CP HR2
  go_wp2_with (first
    | (at_builtin; refine append_bytes rfl (.tmp 40) (.tmp 41) 29 rfl W1.heap.size 5 i0 Try.underlying29 hi hz0 hz1 hz2 _ m bs rfl HO.out _ _ _ _ (digs n 4) rfl HR3.out HA2.out (by omega) HB2.out.2 ?_; intro v2 W3 hown2 hgrow2; have HO2 := Lib.hid hown2; have HG2 := Lib.hid hgrow2; clear hown2 hgrow2; have HB3 : Hid (Below w.heap.size w W3 ∧ W1.heap.size ≤ W3.heap.size) := Lib.hid ⟨HB2.out.1.grown HG2.out HB2.out.1.size (fun k hk => Nat.le_trans HB1.out.size (HO.out.lt k hk).1), Nat.le_trans HB2.out.2 HG2.out.size⟩)
    | (at_builtin; refine append_bytes rfl (.tmp 43) (.tmp 44) 29 rfl W1.heap.size 5 i0 Try.underlying29 hi hz0 hz1 hz2 _ (m + 4) (bs ++ digs n 4) rfl HO2.out _ _ _ _ bs' rfl (R'.out.rd.below HB3.out.1) R'.out.nil_ (by omega) HB3.out.2 ?_; intro v3 W4 hown3 hgrow3; have HO3 := Lib.hid hown3; have HG3 := Lib.hid hgrow3; clear hown3 hgrow3; have HB4 : Hid (Below w.heap.size w W4) := Lib.hid (HB3.out.1.grown HG3.out HB3.out.1.size (fun k hk => Nat.le_trans HB1.out.size (HO2.out.lt k hk).1)); obtain ⟨g, cap, hv3, hg1, hg2, hcap, hcm⟩ := own_form HO3.out (by omega); subst hv3))
  have G := Lib.hid (get_all W4.heap.size (some ⟨g, 0, none⟩) (m + 4 + m') cap (bs ++ digs n 4 ++ bs') m 4 W4 (Rd.of_own HO3.out) (getD_byte (getD_byte R.out.byte (digs_byte 4)) R'.out.byte) hcap (by omega) hcm)
  have E : getE (m + 4 + m') m 4 = 0 := by unfold getE; rw [if_neg (by simp [sizeB]; omega), if_neg (by omega)]
  have V : getV (m + 4 + m') (bs ++ digs n 4 ++ bs') m 4 = n := by unfold getV; rw [E, if_pos rfl]; exact NB.out bs'
  rw [E, V] at G
  have LV := Lib.hid (lives_below W4)
  clear E V NB HO HO2 HO3 HG2 HG3 HR3 R R' hcap hcm hg1 hg2 HB1 HB2 HB3
  go_wp2_with (first
    | (go_at_call 22; refine G.out.mono ?_; rintro e w' ⟨rfl, rfl⟩)
    | (go_at_call 18; refine LV.out.mono ?_; rintro e w' ⟨rfl, hb4⟩))
  go_ret
  exact ⟨rfl, HB4.out.trans (Below.mono (by assumption) HB4.out.size)⟩

theorem ok_8 (n k : Int) (A B : Option Addr) (m c m' c' : Nat) (bs bs' : List Int) (w : World) (k0 : 0 ≤ k) (k1 : k ≤ 255) (hk : k % 4 = 3) (h0 : 0 ≤ n) (h1 : n ≤ 18446744073709551615) (hbig : bigB n 8 = false)
    (r : ByteArg w A m c bs) (r' : ByteArg w B m' c' bs') (g1 : m ≤ 1048576) (g2 : m' ≤ 1048576) :
    Calls Try.prog 5 #[.int .u64 n, .int .u8 k, .slice A m c, .slice B m' c'] w fun e w' => e = .returned (.bool true) ∧ Below w.heap.size w w' := by
  obtain ⟨i0, hi, hz0, hz1, hz2⟩ := info_parts infoByte
  have P := put_all n 8 w h0 h1
  have hn2 : ¬ (sizeB 8 = false ∨ bigB n 8 = true) := by rw [hbig]; simp [sizeB]
  have e1 : putE n 8 = 0 := if_neg hn2
  have e2 : putL n 8 = digs n 8 := if_neg hn2
  rw [e1, e2] at P
  have hdl : (digs n 8).length = 8 := digs_length n 8
  have NB : Hid (∀ c, num (bs ++ digs n 8 ++ c) m 8 = n) := by
    rw [← r.rd.1]; exact Lib.hid (fun c => num_back n 8 bs c h0 rfl hbig)
  have HP := Lib.hid P
  have R := Lib.hid r
  have R' := Lib.hid r'
  clear hbig e1 e2 P h1 r r' hn2
  have HD := Lib.hid hdl
  clear hdl
  go_enter Try.func5, Try.ntmps5
  go_wp2_with fail
  refine HP.out.mono ?_
  rintro e W1 ⟨A2, c2, rfl, hA2, hl2, hl2', hr2, hb1⟩
  rw [HD.out] at hr2
  rw [HD.out]
  have HA2 := Lib.hid hA2
  have HR2 := Lib.hid hr2
  have HB1 := Lib.hid hb1
  have CP := Lib.hid (copy_any A m c bs W1 ((R.out.rd.below hb1).more hb1.size) R.out.nil_ (by omega))
  clear hA2 hl2 hl2' hr2 hb1 HP
  go_wp2_with fail
  refine CP.out.mono ?_
  rintro e W2 ⟨v, rfl, hown, hb2⟩
  have HR3 := Lib.hid (HR2.out.below hb2)
  have HB2 : Hid (Below w.heap.size w W2 ∧ W1.heap.size ≤ W2.heap.size) := Lib.hid ⟨HB1.out.trans (hb2.mono HB1.out.size), hb2.size⟩
  have HO := Lib.hid hown
  clear hb2 hown CP HR2
  go_wp2_with (first
    | (at_builtin; refine append_bytes rfl (.tmp 40) (.tmp 41) 29 rfl W1.heap.size 5 i0 Try.underlying29 hi hz0 hz1 hz2 _ m bs rfl HO.out _ _ _ _ (digs n 8) rfl HR3.out HA2.out (by omega) HB2.out.2 ?_; intro v2 W3 hown2 hgrow2; have HO2 := Lib.hid hown2; have HG2 := Lib.hid hgrow2; clear hown2 hgrow2; have HB3 : Hid (Below w.heap.size w W3 ∧ W1.heap.size ≤ W3.heap.size) := Lib.hid ⟨HB2.out.1.grown HG2.out HB2.out.1.size (fun k hk => Nat.le_trans HB1.out.size (HO.out.lt k hk).1), Nat.le_trans HB2.out.2 HG2.out.size⟩)
    | (at_builtin; refine append_bytes rfl (.tmp 43) (.tmp 44) 29 rfl W1.heap.size 5 i0 Try.underlying29 hi hz0 hz1 hz2 _ (m + 8) (bs ++ digs n 8) rfl HO2.out _ _ _ _ bs' rfl (R'.out.rd.below HB3.out.1) R'.out.nil_ (by omega) HB3.out.2 ?_; intro v3 W4 hown3 hgrow3; have HO3 := Lib.hid hown3; have HG3 := Lib.hid hgrow3; clear hown3 hgrow3; have HB4 : Hid (Below w.heap.size w W4) := Lib.hid (HB3.out.1.grown HG3.out HB3.out.1.size (fun k hk => Nat.le_trans HB1.out.size (HO2.out.lt k hk).1)); obtain ⟨g, cap, hv3, hg1, hg2, hcap, hcm⟩ := own_form HO3.out (by omega); subst hv3))
  have G := Lib.hid (get_all W4.heap.size (some ⟨g, 0, none⟩) (m + 8 + m') cap (bs ++ digs n 8 ++ bs') m 8 W4 (Rd.of_own HO3.out) (getD_byte (getD_byte R.out.byte (digs_byte 8)) R'.out.byte) hcap (by omega) hcm)
  have E : getE (m + 8 + m') m 8 = 0 := by unfold getE; rw [if_neg (by simp [sizeB]; omega), if_neg (by omega)]
  have V : getV (m + 8 + m') (bs ++ digs n 8 ++ bs') m 8 = n := by unfold getV; rw [E, if_pos rfl]; exact NB.out bs'
  rw [E, V] at G
  have LV := Lib.hid (lives_below W4)
  clear E V NB HO HO2 HO3 HG2 HG3 HR3 R R' hcap hcm hg1 hg2 HB1 HB2 HB3
  go_wp2_with (first
    | (go_at_call 22; refine G.out.mono ?_; rintro e w' ⟨rfl, rfl⟩)
    | (go_at_call 18; refine LV.out.mono ?_; rintro e w' ⟨rfl, hb4⟩))
  go_ret
  exact ⟨rfl, HB4.out.trans (Below.mono (by assumption) HB4.out.size)⟩

theorem walk (n : Int) (k : Int) (A : Option Addr) (m c : Nat) (bs : List Int) (B : Option Addr) (m' c' : Nat) (bs' : List Int) (w : World) (w0 : (Lit.int .u64 n).wf = true) (w1 : (Lit.int .u8 k).wf = true)
    (r : ByteArg w A m c bs) (r' : ByteArg w B m' c' bs') (g1 : m ≤ 1048576) (g2 : m' ≤ 1048576) :
    Calls Try.prog 5 #[.int .u64 n, .int .u8 k, .slice A m c, .slice B m' c'] w fun e w' => e = .returned (.bool true) ∧ Below w.heap.size w w' := by
  obtain ⟨h0, h1⟩ := bounds_u64 w0
  obtain ⟨k0, k1⟩ := bounds_u8 w1
  rcases sizes k k0 with hk | hk | hk | hk
  · rcases hb : bigB n 1 with _ | _
    · exact ok_1 n k A B m c m' c' bs bs' w k0 k1 hk h0 h1 hb r r' g1 g2
    · exact big_1 n k A B m c m' c' w k0 k1 hk h0 h1 hb
  · rcases hb : bigB n 2 with _ | _
    · exact ok_2 n k A B m c m' c' bs bs' w k0 k1 hk h0 h1 hb r r' g1 g2
    · exact big_2 n k A B m c m' c' w k0 k1 hk h0 h1 hb
  · rcases hb : bigB n 4 with _ | _
    · exact ok_4 n k A B m c m' c' bs bs' w k0 k1 hk h0 h1 hb r r' g1 g2
    · exact big_4 n k A B m c m' c' w k0 k1 hk h0 h1 hb
  · exact ok_8 n k A B m c m' c' bs bs' w k0 k1 hk h0 h1 (big8 h0 h1) r r' g1 g2

/-! The row's step, by the frame. -/
theorem own : ownKnob Try.prog.godebug = none := by kernel_rfl
theorem laidOut : laidOutB Try.prog = true := by kernel_rfl
set_option maxRecDepth 100000 in
theorem lifted (os : Os) (started : os.Started) (H : Type) (enc : TypeId × Value → H) (F : Stop.Interp) :
    ReturnsInHanded {} Try.checked os 5 .any ((Rows.OpenSpec.upto Rows.numBackSpec).pre6 enc Try.prog Try.f5 Rows.numBackUptoRow.domain false) (((Rows.OpenSpec.upto Rows.numBackSpec).at F).post enc Try.prog Try.f5 false true false false) := by
  refine returnsInHanded_of_cond_sized (C := Try.checked) (s := Rows.OpenSpec.upto Rows.numBackSpec) (k := Rows.uptoSmall) rfl own started (by kernel_rfl) Try.func5
    (OpenSpec.witness (enc := enc) (C := Try.checked) (s := Rows.OpenSpec.upto Rows.numBackSpec) (k := Rows.uptoSmall) rfl false ⟨#[], #[.int .u64 0, .int .u8 0, .slice none 0 0, .slice none 0 0], []⟩ 8 (by kernel_rfl) (by kernel_rfl) (by kernel_rfl)
      (x := ([.lit (.int .u64 0), .lit (.int .u8 0), .nil, .nil], [], [])) (by kernel_rfl) rfl (by kernel_rfl)) ?_
  intro W base args ds gs before hval0 hW _ hk0 hsz0 _
  have hsz : (DataW.weightsEach Try.prog (Try.f5.params.toList ++ (Rows.OpenSpec.upto Rows.numBackSpec).bare.plain.varTypes Try.prog) (ds ++ gs)).all (· ≤ reachBytes) = true := hsz0
  have hval : ∀ (j : Nat) t v, Try.f5.params[j]? = some t → args[j]? = some v → Value.okWide Try.prog W .any base t v := hval0
  have hW' := hW
  obtain ⟨p, q, hA0, hV, rfl, hfz, hnd⟩ := hW
  have hA : DataW.TrodAll enc Try.prog W 0 (fun _ => true) true Try.f5.params.toList args.toList ds p := hA0
  rw [Try.params5] at hA hval hsz
  obtain ⟨v0, vs0, d0, ds0, p0, q0, hargs, rfl, rfl, h0, r0⟩ := trodAll_cons hA
  obtain ⟨v1, vs1, d1, ds1, p1, q1, rfl, rfl, rfl, h1, r1⟩ := trodAll_cons r0
  obtain ⟨v2, vs2, d2, ds2, p2, q2, rfl, rfl, rfl, h2, r2⟩ := trodAll_cons r1
  obtain ⟨v3, vs3, d3, ds3, p3, q3, rfl, rfl, rfl, h3, r3⟩ := trodAll_cons r2
  obtain ⟨rfl, rfl, rfl⟩ := trodAll_nil r3
  obtain rfl : args = #[v0, v1, v2, v3] := by cases args; simp_all
  obtain ⟨rfl, rfl⟩ := trodVars_none hV
  obtain ⟨a0, rfl, rfl, rfl, w0⟩ := open_int Try.underlying28 (hval 0 28 v0 rfl rfl) h0
  obtain ⟨a1, rfl, rfl, rfl, w1⟩ := open_int Try.underlying5 (hval 1 5 v1 rfl rfl) h1
  obtain ⟨A2, n2, c2, rfl⟩ := okWide_slice Try.underlying29 (hval 2 29 v2 rfl rfl)
  have k2 := h2
  have lt2 : ∀ x ∈ p2, x.block < W.heap.size := by obtain ⟨m, hm⟩ := k2; exact DataW.trod_lt m _ _ _ hm
  obtain ⟨b2, w2, u2⟩ := byteArg_of Try.underlying29 Try.underlying5 (by kernel_rfl) (by kernel_rfl) h2 hsz (j := 2) rfl rfl
  obtain ⟨A3, n3, c3, rfl⟩ := okWide_slice Try.underlying29 (hval 3 29 v3 rfl rfl)
  have k3 := h3
  have lt3 : ∀ x ∈ p3, x.block < W.heap.size := by obtain ⟨m, hm⟩ := k3; exact DataW.trod_lt m _ _ _ hm
  obtain ⟨b3, w3, u3⟩ := byteArg_of Try.underlying29 Try.underlying5 (by kernel_rfl) (by kernel_rfl) h3 hsz (j := 3) rfl rfl
  clear hA0 hval0 hsz0
  have g2 : n2 ≤ 1048576 := bulk_bytes hk0 (j := 2) rfl w2 u2
  have g3 : n3 ≤ 1048576 := bulk_bytes hk0 (j := 3) rfl w3 u3
  refine (walk a0 a1 A2 n2 c2 b2 A3 n3 c3 b3 W w0 w1 w2 w3 g2 g3).mono fun e W' ⟨he, bel⟩ => ?_
  subst he
  exact ⟨_, rfl, _, _, _, [], _, [], hW', trodAll_mk1 (shut_bool Try.underlying4 _), (trodAll_cons_mk (shut_int Try.underlying28 w0) (trodAll_cons_mk (shut_int Try.underlying5 w1) (trodAll_cons_mk (Below.trod laidOut (by kernel_rfl) (of_decide_eq_true (by kernel_rfl)) k2 bel lt2) (trodAll_cons_mk (Below.trod laidOut (by kernel_rfl) (of_decide_eq_true (by kernel_rfl)) k3 bel lt3) trodAll_mk0)))), rfl, bel.frame _, fun h => by cases h⟩

/-- The statement. -/
theorem proved : Rows.NumBackUptoSaid :=
  OpenClaim.holds_of_cond 5 Try.f5 rfl rfl rfl rfl rfl rfl rfl ⟨rfl, rfl, rfl, rfl, rfl⟩ rfl rfl rfl rfl rfl (by kernel_rfl) Try.func5 (by kernel_rfl)
    (of_decide_eq_true (by kernel_rfl)) (by unfold Func.isWrapper; first | (rw [if_pos (by decide +kernel)]; kernel_rfl) | (rw [if_neg (by decide +kernel)]; exact ⟨rfl, rfl⟩))
    (fun os started H enc _ F => lifted os started H enc F)
end Go.Proofs.Yteglmjongdpagaa.numBack
