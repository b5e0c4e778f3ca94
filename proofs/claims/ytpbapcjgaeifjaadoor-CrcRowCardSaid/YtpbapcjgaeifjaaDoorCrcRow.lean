
/- With up to four bytes that stand side by side changed, and nothing else, the sum is another one: for every list of bytes, every place and every four bytes the law returns true, where the table crc.halves holds what the program's text lays in it (the card ties it). -/
import Derived.Test.YtpbapcjgaeifjaaDoorCrcW
import Derived.Test.YtpbapcjgaeifjaaDoorCrcN
import Derived.Test.YtpbapcjgaeifjaaDoorRef00
import Derived.Test.YtpbapcjgaeifjaaDoorByteArr
import Derived.IntWalk
import Derived.RegionTactic
import Derived.ChangeAlike
import Derived.Outline
namespace Go.Proofs.YtpbapcjgaeifjaaDoor.crcRow
open Go.ChangeShapes Go.WideShapes Go.ChangeAt Go.RowKit
open Mem CrcM Crc Ref00 Arr Lst ByteArr
set_option linter.unusedVariables false

theorem own_any {w : World} {base : Nat} {e : TypeId} {v : Value} {n : Nat} {bs : List Int} (h : w.ownsRow base e 1 v n (bytesV bs)) : ∃ A cap, v = .slice A n cap ∧ Rd w w.heap.size A n bs := by
  rcases Nat.lt_or_ge 0 n with h0 | h0
  · obtain ⟨g, cap, rfl, _⟩ := own_form h h0
    exact ⟨_, _, rfl, Rd.of_own h⟩
  · obtain rfl : n = 0 := by omega
    have hl : bs.length = 0 := by have := h.1; rw [bytesV_length] at this; omega
    obtain rfl := List.eq_nil_of_length_eq_zero hl
    rcases h.2 with ⟨h', _⟩ | ⟨g, cap, cur, h', _⟩
    · exact ⟨_, _, h', rfl, fun _ => rfl, fun h => absurd h (by omega)⟩
    · exact ⟨_, _, h', rfl, fun _ => rfl, fun h => absurd h (by omega)⟩
theorem arr4_arg {H : Type} {enc : TypeId × Value → H} {w : World} {r : Reach} {b0 : Nat} {v : Value} {d : DataW H} {p : List MemPlace} (hv : Value.okWide Tryd.prog w r b0 35 v) (h : DataW.Trod enc Tryd.prog w 0 (fun _ => true) true 35 v d p) :
    ∃ f : Nat → Int, v = .agg #[.int .u8 (f 0), .int .u8 (f 1), .int .u8 (f 2), .int .u8 (f 3)] ∧ ∀ i, i < 4 → 0 ≤ f i ∧ f i ≤ 255 :=
  arr_arg Tryd.underlying35 Tryd.underlying5 (by kernel_rfl) (by kernel_rfl) hv h

/-- the bytes with those of the row up to k changed -/
def mix (bs : List Int) (F : Nat) (d : Nat → Int) (k p : Nat) : Int := if F ≤ p ∧ p < F + k then bits .xor .u8 (bs.getD p 0) (d (p - F)) else bs.getD p 0
def chg (d : Nat → Int) : Nat → Bool
  | 0 => false
  | k + 1 => chg d k || d k != 0
theorem chg_no {d : Nat → Int} {m : Nat} (h : chg d m = false) : ∀ j, j < m → d j = 0 := by
  induction m with
  | zero => intro j hj; omega
  | succ m ih =>
    simp only [chg, Bool.or_eq_false_iff] at h
    intro j hj
    rcases Nat.lt_or_ge j m with h1 | h1
    · exact ih h.1 j h1
    · obtain rfl : j = m := by omega
      simpa using h.2
theorem chg_yes {d : Nat → Int} {m : Nat} (h : chg d m = true) : ∃ j, j < m ∧ d j ≠ 0 := by
  induction m with
  | zero => simp [chg] at h
  | succ m ih =>
    simp only [chg, Bool.or_eq_true] at h
    rcases h with h | h
    · obtain ⟨j, h1, h2⟩ := ih h
      exact ⟨j, by omega, h2⟩
    · exact ⟨m, by omega, by simpa using h⟩
theorem byte_toNat {c : Int} (h0 : 0 ≤ c) (h1 : c ≤ 255) : (byteB c).toNat = c.toNat := by
  obtain ⟨n, rfl⟩ := Int.eq_ofNat_of_zero_le h0
  unfold byteB
  rw [BitVec.ofInt_natCast, BitVec.toNat_ofNat, Nat.mod_eq_of_lt (by omega), Int.toNat_natCast]
theorem xor_bytes {c d : Int} (h0 : 0 ≤ c) (h1 : c ≤ 255) (h2 : 0 ≤ d) (h3 : d ≤ 255) : byteB (bits .xor .u8 c d) = byteB c ^^^ byteB d := by
  apply BitVec.eq_of_toNat_eq
  rw [u8_xor c d h0 (by omega) h2 (by omega), BitVec.toNat_xor, byte_toNat h0 h1, byte_toNat h2 h3]
  have hlt : c.toNat ^^^ d.toNat < 2 ^ 8 := Nat.xor_lt_two_pow (by omega) (by omega)
  unfold byteB
  rw [BitVec.ofInt_natCast, BitVec.toNat_ofNat, Nat.mod_eq_of_lt (by omega)]
theorem xor_range {c d : Int} (h0 : 0 ≤ c) (h1 : c ≤ 255) (h2 : 0 ≤ d) (h3 : d ≤ 255) : 0 ≤ bits .xor .u8 c d ∧ bits .xor .u8 c d ≤ 255 := by
  rw [u8_xor c d h0 (by omega) h2 (by omega)]
  have hlt : c.toNat ^^^ d.toNat < 2 ^ 8 := Nat.xor_lt_two_pow (by omega) (by omega)
  omega
def mixed (bs : List Int) (F : Nat) (d : Nat → Int) (m n : Nat) : List Int := (List.range n).map (mix bs F d m)
theorem mixed_get {bs : List Int} {F m n : Nat} {d : Nat → Int} {i : Nat} (h : i < n) : (mixed bs F d m n).getD i 0 = mix bs F d m i := by
  simp [mixed, List.getD, h]
theorem mixed_bytes {bs : List Int} {F m n : Nat} {d : Nat → Int} (hb : ∀ i, 0 ≤ bs.getD i 0 ∧ bs.getD i 0 ≤ 255) (hd : ∀ i, i < 4 → 0 ≤ d i ∧ d i ≤ 255) (hm : m ≤ 4) : ∀ i, 0 ≤ (mixed bs F d m n).getD i 0 ∧ (mixed bs F d m n).getD i 0 ≤ 255 := by
  intro i
  rcases Nat.lt_or_ge i n with h | h
  · rw [mixed_get h]
    unfold mix
    split
    · rename_i hp
      exact xor_range (hb i).1 (hb i).2 (hd _ (by omega)).1 (hd _ (by omega)).2
    · exact hb i
  · have : (mixed bs F d m n).getD i 0 = 0 := by
      simp only [List.getD, List.getElem?_eq_none (show (mixed bs F d m n).length ≤ i by simp [mixed]; exact h)]; rfl
    rw [this]; omega
theorem sumF_congr (r : BitVec 32) {f g : Nat → Int} : ∀ k, (∀ i, i < k → f i = g i) → sumF r f k = sumF r g k := by
  intro k
  induction k with
  | zero => intro _; rfl
  | succ k ih =>
    intro h
    rw [sumF_succ, sumF_succ, ih (fun i hi => h i (by omega)), h k (by omega)]
/-- THE SUMS: the same just if nothing was changed -/
theorem row_sum {bs : List Int} {F m n : Nat} {d : Nat → Int} (hl : bs.length = n) (hb : ∀ i, 0 ≤ bs.getD i 0 ∧ bs.getD i 0 ≤ 255) (hd : ∀ i, i < 4 → 0 ≤ d i ∧ d i ≤ 255) (hm : m ≤ 4) (hn : F + m ≤ n) (t : Bool) (ht : chg d m = t) :
    (num (sumB 0xffffffff#32 (mixed bs F d m n)) == num (sumB 0xffffffff#32 bs)) = !t := by
  let e : Nat → BitVec 32 := fun k => if F ≤ k ∧ k < F + m then byteB (d (k - F)) else 0#32
  have e1 : sumB 0xffffffff#32 bs = sumF 0xffffffff#32 (fun i => bs.getD i 0) n := by
    rw [← sumF_is _ bs n (by omega), List.take_of_length_le (by omega)]
  have e2 : sumB 0xffffffff#32 (mixed bs F d m n) = sumF 0xffffffff#32 (mix bs F d m) n := by
    have hln : (mixed bs F d m n).length = n := by simp [mixed]
    rw [← sumF_congr (f := fun i => (mixed bs F d m n).getD i 0) _ n (fun i hi => mixed_get hi), ← sumF_is _ _ n (by omega), List.take_of_length_le (by omega)]
  have e3 : ∀ k, byteB (mix bs F d m k) = byteB (bs.getD k 0) ^^^ e k := by
    intro k
    show byteB (if F ≤ k ∧ k < F + m then _ else _) = _ ^^^ (if F ≤ k ∧ k < F + m then _ else _)
    by_cases h : F ≤ k ∧ k < F + m
    · rw [if_pos h, if_pos h]
      exact xor_bytes (hb k).1 (hb k).2 (hd _ (by omega)).1 (hd _ (by omega)).2
    · rw [if_neg h, if_neg h, BitVec.xor_zero]
  have e4 := sumF_dif 0xffffffff#32 (fun i => bs.getD i 0) (mix bs F d m) e e3 n
  have small : ∀ k, (e k).toNat < 256 := by
    intro k
    show (if F ≤ k ∧ k < F + m then byteB (d (k - F)) else 0#32).toNat < 256
    split
    · rw [byte_toNat (hd _ (by omega)).1 (hd _ (by omega)).2]
      have := hd (k - F) (by omega)
      omega
    · simp
  cases t with
  | false =>
    have hz : ∀ k, e k = 0#32 := by
      intro k
      show (if F ≤ k ∧ k < F + m then byteB (d (k - F)) else 0#32) = 0#32
      split
      · rw [chg_no ht (k - F) (by omega)]; rfl
      · rfl
    rw [e2, e4, dif_all hz, BitVec.xor_zero, ← e1]
    simp
  | true =>
    have : ¬ sumB 0xffffffff#32 (mixed bs F d m n) = sumB 0xffffffff#32 bs := by
      intro h
      rw [e2, e4, ← e1] at h
      have hz : dif e n = 0#32 := by
        have := congrArg (fun y => sumB 0xffffffff#32 bs ^^^ y) h
        simp only [← BitVec.xor_assoc, BitVec.xor_self, BitVec.zero_xor] at this
        exact this
      have ha := dif_row hm hn small (fun k hk => if_neg (by omega)) (fun k hk => if_neg (by omega)) hz
      obtain ⟨j, hj, hne⟩ := chg_yes ht
      have h1 := ha (F + j)
      have h2 : e (F + j) = byteB (d j) := by
        show (if F ≤ F + j ∧ F + j < F + m then byteB (d (F + j - F)) else 0#32) = _
        rw [if_pos (by omega), show F + j - F = j by omega]
      rw [h2] at h1
      have h3 := byte_toNat (hd j (by omega)).1 (hd j (by omega)).2
      rw [h1] at h3
      have := hd j (by omega)
      have h4 : (0#32).toNat = 0 := rfl
      omega
    simp only [Bool.not_true, beq_eq_false_iff_ne]
    exact fun h => this (num_inj h)
theorem own_bytes {w : World} {base : Nat} {E : TypeId} {v : Value} {n : Nat} {bs : List Int} (h : w.ownsRow base E 1 v n (bytesV bs)) (hl : bs.length = n) : Own w base E v n (byteV fun i => bs.getD i 0) := by
  have : bytesV bs = vals n (byteV fun i => bs.getD i 0) := by
    apply List.ext_getElem?
    intro i
    rcases Nat.lt_or_ge i n with hi | hi
    · rw [bytesV_at (by omega), vals_at hi]; rfl
    · rw [List.getElem?_eq_none (by rw [bytesV_length]; omega), List.getElem?_eq_none (by simp [vals]; omega)]
  unfold Own
  rw [← this]; exact h
theorem bytes_own {w : World} {base : Nat} {E : TypeId} {v : Value} {n : Nat} {f : Nat → Int} (h : Own w base E v n (byteV f)) : w.ownsRow base E 1 v n (bytesV ((List.range n).map f)) := by
  have : bytesV ((List.range n).map f) = vals n (byteV f) := by unfold bytesV vals; rw [List.map_map]; rfl
  rw [this]; exact h

set_option maxHeartbeats 4000000 in
theorem walk (A : Option Addr) (n cap : Nat) (bs : List Int) (at_ : Int) (d : Nat → Int) (w : World) (h : ByteArg w A n cap bs) (w1 : (Lit.int .u64 at_).wf = true) (hd : ∀ i, i < 4 → 0 ≤ d i ∧ d i ≤ 255) (L : Laid w) :
    Calls Tryd.prog 5 #[.slice A n cap, .int .u64 at_, .agg #[.int .u8 (d 0), .int .u8 (d 1), .int .u8 (d 2), .int .u8 (d 3)]] w fun e w' => e = .returned (.bool true) ∧ Below w.heap.size w w' := by
  obtain ⟨a0, a1⟩ := bounds_u64 w1
  have hm : n ≤ 140737488351232 := by have := h.le; have := h.reach; omega
  have q0 : 0 ≤ at_ % ((n : Int) + 1) := Int.emod_nonneg _ (by omega)
  have q1 : at_ % ((n : Int) + 1) < (n : Int) + 1 := Int.emod_lt_of_pos _ (by omega)
  obtain ⟨F, hF⟩ := Int.eq_ofNat_of_zero_le q0
  have hFn : F ≤ n := by omega
  have HF := Lib.hid hF
  have HD := Lib.hid hd
  have B0 := bAlloc (Below.refl w.heap.size w) (.cells #[.int .u8 (d 0), .int .u8 (d 1), .int .u8 (d 2), .int .u8 (d 3)] 35)
  have HB0 := Lib.hid B0
  have hl := Lib.hid h.rd.1
  have HBy := Lib.hid h.byte
  have HR := Lib.hid ((h.rd.below B0).more B0.size)
  have HN := Lib.hid h.nil_
  have HL := Lib.hid (L.below B0)
  clear h L w1 hd B0 hF
  go_enter Tryd.func5, Tryd.ntmps5
  go_wp2_with fail
  refine (copy_any A n cap bs _ HR.out HN.out hm).mono ?_
  rintro e W1 ⟨v, rfl, hown, hb1⟩
  have HO := Lib.hid (own_bytes hown hl.out)
  have HB1 := Lib.hid hb1
  clear hown hb1
  have box : ∀ i, i < 4 → W1.cell? ⟨w.heap.size, i, none⟩ = some (.int .u8 (d i)) := by
    intro i hi
    rw [(bcell HB1.out).1 _ _ (by simp)]
    rcases (by omega : i = 0 ∨ i = 1 ∨ i = 2 ∨ i = 3) with rfl | rfl | rfl | rfl <;> go_simp
  have HBX := Lib.hid box
  have hsz : w.heap.size + 1 ≤ W1.heap.size := by have := HB1.out.size; simp at this; omega
  have HB := Lib.hid (bTrans HB0.out HB1.out)
  clear box
  go_wp2_with fail
  rw [HF.out]
  go_loopw [8, 10] (fun ch i wr => ∃ k : Nat, k ≤ 4 ∧ F + k ≤ n ∧ i = .int .i64 k ∧ ch = .bool (chg d k) ∧ Own wr (w.heap.size + 1) 5 v n (byteV (mix bs F d k)) ∧ (∀ i, i < 4 → wr.cell? ⟨w.heap.size, i, none⟩ = some (.int .u8 (d i))) ∧ Below (w.alloc (.cells #[.int .u8 (d 0), .int .u8 (d 1), .int .u8 (d 2), .int .u8 (d 3)] 35)).heap.size (w.alloc (.cells #[.int .u8 (d 0), .int .u8 (d 1), .int .u8 (d 2), .int .u8 (d 3)] 35)) wr) (fun _ i _ => 4 - (intOf i).toNat)
  case atStart => exact ⟨0, by omega, by omega, rfl, rfl, by have := HO.out; simpa using this.congr (fun i hi => by unfold byteV mix; rw [if_neg (by omega)]), HBX.out, HB1.out⟩
  case round =>
    obtain ⟨k, hk, hFk, rfl, rfl, hown, hbx, hb⟩ := hrel
    by_cases hlt : k < 4 ∧ F + k < n
    · obtain ⟨k4, kn⟩ := hlt
      obtain ⟨g, cap2, rfl, hg1, hg2, hcap, hcm⟩ := hown.form (by omega)
      have c0 := hown.cell kn
      have e0 : byteV (mix bs F d k) (F + k) = .int .u8 (bs.getD (F + k) 0) := by unfold byteV mix; rw [if_neg (by omega)]
      rw [e0] at c0
      have f0 := hown.free (F + k)
      have c1 := hbx k k4
      have j1 : IntKind.i64.wrap ((F : Int) + (k : Int)) = (F : Int) + (k : Int) := IntWalk.i64_in _ (by omega)
      have j2 : ((F : Int) + (k : Int)).toNat = F + k := by omega
      have j3 : (0 : Int) ≤ (F : Int) + (k : Int) := by omega
      have j4 : (F : Int) + (k : Int) < (n : Int) := by omega
      have HO2 := Lib.hid hown
      have HX2 := Lib.hid hbx
      have HB2 := Lib.hid hb
      have hne : ∀ i, i < 4 → (wr.setCell ⟨g, F + k, none⟩ (.int .u8 (bits .xor .u8 (bs.getD (F + k) 0) (d k)))).cell? ⟨w.heap.size, i, none⟩ = some (.int .u8 (d i)) := fun i hi => by
        rw [World.cell?_setCell_other _ _ _ _ (by simp <;> omega)]; exact hbx i hi
      have c2 := hne k k4
      have HX3 := Lib.hid hne
      have HO3 : Hid (Own (wr.setCell ⟨g, F + k, none⟩ (.int .u8 (bits .xor .u8 (bs.getD (F + k) 0) (d k)))) (w.heap.size + 1) 5 (.slice (some ⟨g, 0, none⟩) n cap2) n (byteV (mix bs F d (k + 1)))) := Lib.hid ((hown.stored (.int .u8 (bits .xor .u8 (bs.getD (F + k) 0) (d k)))).congr (fun i hi => by
        unfold byteV mix
        by_cases h1 : i = F + k
        · subst h1
          rw [if_pos rfl, if_pos (by omega), show F + k - F = k by omega]
        · rw [if_neg h1]
          by_cases h2 : F ≤ i ∧ i < F + k
          · rw [if_pos h2, if_pos (by omega)]
          · rw [if_neg h2, if_neg (by omega)]))
      have HB3 := Lib.hid (bSet hb (p := ⟨g, F + k, none⟩) (by simp <;> omega) (.int .u8 (bits .xor .u8 (bs.getD (F + k) 0) (d k))))
      clear hown hbx hb e0 hne HO2 HX2 HB2
      have hcg : chg d (k + 1) = (chg d k || d k != 0) := rfl
      generalize chg d k = cb at hcg ⊢
      have HCG := Lib.hid hcg
      clear hcg
      by_cases hz : d k = 0
      · have z1 : (d k != 0) = false := by simpa using hz
        have HZ := Lib.hid z1
        clear hz
        go_wp2_with fail
        go_region
        all_goals
          cases cb
          all_goals
            go_wp2_with fail
            go_roundw
            case rel => exact ⟨k + 1, by omega, by omega, by go_num, by rw [HCG.out, HZ.out]; rfl, HO3.out, HX3.out, bDrew HB3.out⟩
            case measure => simp [intOf]; omega
      · have z1 : (d k != 0) = true := by simpa using hz
        have HZ := Lib.hid z1
        clear hz
        go_wp2_with fail
        go_region
        all_goals
          cases cb
          all_goals
            go_wp2_with fail
            go_roundw
            case rel => exact ⟨k + 1, by omega, by omega, by go_num, by rw [HCG.out, HZ.out]; rfl, HO3.out, HX3.out, bDrew HB3.out⟩
            case measure => simp [intOf]; omega
    · obtain ⟨A2, c2, rfl, hR⟩ := own_any (bytes_own hown)
      have L2 := Lib.hid (HL.out.below hb)
      have C1 := Lib.hid (of_any A2 n c2 (mixed bs F d k n) wr _ L2.out hR (mixed_bytes HBy.out HD.out hk) (by omega))
      have C2 := Lib.hid (of_any A n cap bs wr _ L2.out (HR.out.below hb) HBy.out (by omega))
      have E := Lib.hid (fun t ht => row_sum (n := n) hl.out HBy.out HD.out hk hFk t ht)
      have HB3 := Lib.hid hb
      clear hR hown hb hbx
      have W2 : ∀ t, Hid (chg d k = t) → Hid ((num (sumB 0xffffffff#32 (mixed bs F d k n)) == num (sumB 0xffffffff#32 bs)) = !t) := fun t ht => Lib.hid (E.out t ht.out)
      have HW := Lib.hid W2
      clear W2 E
      cases hc : chg d k
      all_goals
        have e1 := (HW.out _ (Lib.hid hc)).out
        clear hc
        simp only [Bool.not_true, Bool.not_false] at e1
        by_cases k4 : k < 4
        all_goals
          go_wp2_with fail
          refine C1.out.mono ?_
          rintro e w3 ⟨rfl, rfl⟩
          go_wp2_with fail
          refine C2.out.mono ?_
          rintro e w3 ⟨rfl, rfl⟩
          go_wp2_with fail
          refine (lives_any wr L2.out).mono ?_
          rintro e w3 ⟨rfl, hb2⟩
          go_wp2
          go_ret
          exact ⟨rfl, bTrans HB0.out (bTrans HB3.out hb2)⟩

/-! The row's step, by the frame; the card. -/
theorem own : ownKnob Tryd.prog.godebug = none := by kernel_rfl
theorem laidOut : laidOutB Tryd.prog = true := by kernel_rfl
theorem laid_met (os : Os) : laidMet Tryd.prog Rows.crcRowRow.laid ((doorWorld os).forCall (fun _ _ => 0) ⟨#[], #[.slice none 0 0, .int .u64 0, .agg #[.int .u8 0, .int .u8 0, .int .u8 0, .int .u8 0]], []⟩).memory :=
  laidMet_of_run' 8 (by kernel_rfl) (by kernel_rfl)
theorem reads (os : Os) {H : Type} (enc : TypeId × Value → H) : ∃ places, DataW.whole enc Tryd.prog ((doorWorld os).forCall (fun _ _ => 0) ⟨#[], #[.slice none 0 0, .int .u64 0, .agg #[.int .u8 0, .int .u8 0, .int .u8 0, .int .u8 0]], []⟩).memory Tryd.f5.params.toList Rows.crcRowSpec.vars false (#[.slice none 0 0, .int .u64 0, .agg #[.int .u8 0, .int .u8 0, .int .u8 0, .int .u8 0]] : Array Value).toList 8 = some ([.nil, .lit (.int .u64 0), .agg [.lit (.int .u8 0), .lit (.int .u8 0), .lit (.int .u8 0), .lit (.int .u8 0)]], [], places) :=
  ⟨[], by kernel_rfl⟩
set_option maxRecDepth 100000 in
theorem lifted (os : Os) (started : os.Started) (H : Type) (enc : TypeId × Value → H) (F : Stop.Interp) :
    ReturnsInHanded {} Tryd.checked os 5 .any ((OpenSpec.ofChange Rows.crcRowSpec).preRow enc Tryd.prog Tryd.f5 Rows.crcRowRow.domain false Rows.crcRowRow.laid) (((OpenSpec.ofChange Rows.crcRowSpec).at F).post enc Tryd.prog Tryd.f5 false true false false) := by
  obtain ⟨places, hx⟩ := reads os enc
  refine returnsInHanded_of_row (C := Tryd.checked) (s := OpenSpec.ofChange Rows.crcRowSpec) own started (by kernel_rfl) Tryd.func5
    (witness_row_at (enc := enc) (C := Tryd.checked) false (doorWorld os) #[.slice none 0 0, .int .u64 0, .agg #[.int .u8 0, .int .u8 0, .int .u8 0, .int .u8 0]] rfl (by kernel_rfl) (by kernel_rfl) (by kernel_rfl)
      (OpenSpec.preRow_of_cond 8 hx (by kernel_rfl) (fun k hk => by cases hk) (by kernel_rfl) (laid_met os))) ?_
  intro W base args ds gs before hval0 hW _ hk1 hsz0 hL _ _
  have hsz : (DataW.weightsEach Tryd.prog (Tryd.f5.params.toList ++ Rows.crcRowSpec.plain.varTypes Tryd.prog) (ds ++ gs)).all (· ≤ reachBytes) = true := hsz0
  have hval : ∀ (j : Nat) t v, Tryd.f5.params[j]? = some t → args[j]? = some v → Value.okWide Tryd.prog W .any base t v := hval0
  have hW' := hW
  obtain ⟨p, q, hA0, hV, rfl, hfz, hnd⟩ := hW
  have hA : DataW.TrodAll enc Tryd.prog W 0 (fun _ => true) true Tryd.f5.params.toList args.toList ds p := hA0
  rw [Tryd.params5] at hA hval hsz
  obtain ⟨v0, vs0, d0, ds0, p0, q0, hargs, rfl, rfl, h0, r0⟩ := trodAll_cons hA
  obtain ⟨v1, vs1, d1, ds1, p1, q1, rfl, rfl, rfl, h1, r1⟩ := trodAll_cons r0
  obtain ⟨v2, vs2, d2, ds2, p2, q2, rfl, rfl, rfl, h2, r2⟩ := trodAll_cons r1
  obtain ⟨rfl, rfl, rfl⟩ := trodAll_nil r2
  obtain rfl : args = #[v0, v1, v2] := by cases args; simp_all
  obtain ⟨rfl, rfl⟩ := trodVars_none hV
  obtain ⟨A0, n0, c0, rfl⟩ := okWide_slice Tryd.underlying23 (hval 0 23 v0 rfl rfl)
  have k0 := h0
  have lt0 : ∀ x ∈ p0, x.block < W.heap.size := by obtain ⟨m, hm⟩ := k0; exact DataW.trod_lt m _ _ _ hm
  obtain ⟨b0, w0, u0⟩ := byteArg_of Tryd.underlying23 Tryd.underlying5 (by kernel_rfl) (by kernel_rfl) h0 hsz (j := 0) rfl rfl
  obtain ⟨a1, rfl, rfl, rfl, w1⟩ := open_int Tryd.underlying34 (hval 1 34 v1 rfl rfl) h1
  have k2 := h2
  have lt2 : ∀ x ∈ p2, x.block < W.heap.size := by obtain ⟨m, hm⟩ := k2; exact DataW.trod_lt m _ _ _ hm
  obtain ⟨f2, rfl, b2⟩ := arr4_arg (hval 2 35 v2 rfl rfl) h2
  clear hA0 hval0 hsz0
  refine (walk A0 n0 c0 b0 a1 f2 W w0 w1 b2 (laid_of hL)).mono fun e W' ⟨he, bel⟩ => ?_
  subst he
  exact ⟨_, rfl, _, _, _, [], _, [], hW', trodAll_mk1 (shut_bool Tryd.underlying4 _), (trodAll_cons_mk (Below.trod laidOut (by kernel_rfl) (of_decide_eq_true (by kernel_rfl)) k0 bel lt0) (trodAll_cons_mk (shut_int Tryd.underlying34 w1) (trodAll_cons_mk (Below.trod laidOut (by kernel_rfl) (of_decide_eq_true (by kernel_rfl)) k2 bel lt2) trodAll_mk0))), rfl, bel.frame _, fun h => by cases h⟩

theorem said : Rows.CrcRowSaid :=
  OpenClaim.holds_of_cond 5 Tryd.f5 rfl rfl rfl rfl rfl rfl rfl ⟨rfl, rfl, rfl, rfl, rfl⟩ rfl rfl rfl rfl rfl (by kernel_rfl) Tryd.func5 (by kernel_rfl)
    (of_decide_eq_true (by kernel_rfl)) (by unfold Func.isWrapper; first | (rw [if_pos (by decide +kernel)]; kernel_rfl) | (rw [if_neg (by decide +kernel)]; exact ⟨rfl, rfl⟩))
    (fun os started H enc _ F => by rw [OpenClaim.pre_eq_preRow]; exact lifted os started H enc F)
theorem plain (f : FuncId) (fn : Func) (hf : Tryd.pinned.checked.prog.funcNamed "cohort/cohortlaw03.CrcRow" = some f) (hfn : Tryd.pinned.checked.prog.funcs[f]? = some fn) :
    false = Tryd.pinned.checked.prog.looks [] ∧ ∀ (j : Nat) t, fn.params[j]? = some t → Tryd.pinned.checked.prog.wantsStandIn t = false := by
  obtain rfl : f = 5 := Option.some.inj ((show Tryd.prog.funcNamed "cohort/cohortlaw03.CrcRow" = some 5 by kernel_rfl).symm.trans hf) |>.symm
  obtain rfl : fn = Tryd.f5 := (Option.some.inj (Tryd.func5.symm.trans hfn)).symm
  refine ⟨by kernel_rfl, fun j t ht => ?_⟩
  rw [Tryd.params5] at ht
  have hm : t ∈ [23, 34, 35] := by simpa using Array.mem_of_getElem? ht
  have hall : ([23, 34, 35].all fun u => !Tryd.prog.wantsStandIn u) = true := by kernel_rfl
  exact (show Tryd.prog.wantsStandIn t = false by simpa using List.all_eq_true.1 hall t hm)
/-- The card. -/
theorem proved : Rows.CrcRowCardSaid :=
  Claim7.holds_tied_plain_at .later [] _ _ _ _ said (fun _ h => by cases h) (by kernel_rfl) (fun _ h => by cases h) crcRow_row_tie rfl ⟨rfl, rfl⟩ (by kernel_rfl) rfl plain (by kernel_rfl)
end Go.Proofs.YtpbapcjgaeifjaaDoor.crcRow
