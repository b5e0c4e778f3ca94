
/- Contracts of layer 2: the document's Compare; whether a text is a name, of both. -/
import Derived.Test.YtkoifdbbomipbaaName
namespace Go.Proofs.Ytkoifdbbomipbaa.Name
open Go.ChangeShapes Go.WideShapes Go.ChangeAt Go.RowKit
open Mem

theorem less_prefix : ∀ p x y : List UInt8, Op.bytesLess (p ++ x) (p ++ y) = Op.bytesLess x y
  | [], _, _ => rfl
  | a :: p, x, y => by simp [Op.bytesLess, less_prefix p x y]
theorem split_at {a : List UInt8} {k : Nat} (h : k < a.length) : a = a.take k ++ a[k] :: a.drop (k + 1) := by
  rw [← List.drop_eq_getElem_cons h, List.take_append_drop]
theorem cmp_diff {a b : List UInt8} {k : Nat} (ha : k < a.length) (hb : k < b.length) (he : a.take k = b.take k) : (a[k] < b[k] → cmpS a b = -1) ∧ (b[k] < a[k] → cmpS a b = 1) := by
  have h1 : Op.bytesLess a b = (decide (a[k] < b[k]) || (a[k] == b[k] && Op.bytesLess (a.drop (k + 1)) (b.drop (k + 1)))) := by
    conv => lhs; rw [split_at ha, split_at hb, he, less_prefix]
    rfl
  have h2 : Op.bytesLess b a = (decide (b[k] < a[k]) || (b[k] == a[k] && Op.bytesLess (b.drop (k + 1)) (a.drop (k + 1)))) := by
    conv => lhs; rw [split_at ha, split_at hb, he, less_prefix]
    rfl
  refine ⟨fun h => ?_, fun h => ?_⟩
  · unfold cmpS; rw [h1, decide_eq_true h]; rfl
  · have : Op.bytesLess b a = true := by rw [h2, decide_eq_true h]; rfl
    unfold cmpS; rw [less_asymm this, this]; rfl
theorem at_list (s : ByteArray) {k : Nat} (h : k < s.size) : s.toList[k]'(by rw [size_list]; exact h) = s[k]'h := by simp [ByteArray.toList_eq]; rfl
/-- a byte of a text -/
def C (s : ByteArray) (i : Nat) : Nat := (s.toList.getD i 0).toNat
theorem C_at (s : ByteArray) {k : Nat} (h : k < s.size) : (s[k]'h).toNat = C s k := by
  have hl : k < s.toList.length := by rw [size_list]; exact h
  unfold C
  rw [← at_list s h, List.getD_eq_getElem?_getD, List.getElem?_eq_getElem hl]; rfl
theorem run_at {P : Program} (t : TypeId) (s : ByteArray) (k : Nat) (ht : P.underlying t = some .string) (h : k < s.size) (w : World) : (Instr.index t (.string s) (.int .i64 k)).run P w = .ok (.int .u8 (C s k : Nat)) w := by
  rw [run_index_string w t s .i64 k ht, dif_pos ⟨by omega, by omega⟩]
  have := C_at s h
  simp only [Int.toNat_natCast]
  rw [this]
theorem cmp_lt {a b : ByteArray} {k : Nat} (hs : a.size = b.size) (hk : k < a.size) (he : a.toList.take k = b.toList.take k) : (C a k < C b k → cmpV a b = -1) ∧ (C b k < C a k → cmpV a b = 1) := by
  have ha : k < a.toList.length := by rw [size_list]; exact hk
  have hb : k < b.toList.length := by rw [size_list]; omega
  have h := cmp_diff ha hb he
  have e : cmpV a b = cmpS a.toList b.toList := by unfold cmpV; rw [if_neg (by omega), if_neg (by omega)]
  have c1 : C a k = (a.toList[k]).toNat := by unfold C; rw [List.getD_eq_getElem?_getD, List.getElem?_eq_getElem ha]; rfl
  have c2 : C b k = (b.toList[k]).toNat := by unfold C; rw [List.getD_eq_getElem?_getD, List.getElem?_eq_getElem hb]; rfl
  rw [e, c1, c2]
  exact ⟨fun q => h.1 (UInt8.lt_iff_toNat_lt.2 q), fun q => h.2 (UInt8.lt_iff_toNat_lt.2 q)⟩
theorem take_next {a b : ByteArray} {k : Nat} (hs : a.size = b.size) (hk : k < a.size) (he : a.toList.take k = b.toList.take k) (hc : C a k = C b k) : a.toList.take (k + 1) = b.toList.take (k + 1) := by
  have ha : k < a.toList.length := by rw [size_list]; exact hk
  have hb : k < b.toList.length := by rw [size_list]; omega
  have c1 : C a k = (a.toList[k]).toNat := by unfold C; rw [List.getD_eq_getElem?_getD, List.getElem?_eq_getElem ha]; rfl
  have c2 : C b k = (b.toList[k]).toNat := by unfold C; rw [List.getD_eq_getElem?_getD, List.getElem?_eq_getElem hb]; rfl
  have e : a.toList[k] = b.toList[k] := UInt8.toNat_inj.1 (by rw [← c1, ← c2]; exact hc)
  rw [List.take_succ_eq_append_getElem ha, List.take_succ_eq_append_getElem hb, he, e]
theorem take_all {a b : ByteArray} (hs : a.size = b.size) (he : a.toList.take a.size = b.toList.take a.size) : cmpV a b = 0 := by
  rw [cmpV_zero]
  rw [List.take_of_length_le (by rw [size_list]; omega), List.take_of_length_le (by rw [size_list]; omega)] at he
  exact he
section
attribute [local go_sem] gtr_str
theorem refCompare_any (a b : ByteArray) (w : World) (hn : a.size ≤ 9223372036854775806) : Calls Try.prog 10 #[.string a, .string b] w fun e w' => e = .returned (.int .i64 (cmpV a b)) ∧ Below w.heap.size w w' := by
  by_cases h1 : a.size < b.size
  · have HV : Hid (cmpV a b = -1) := Lib.hid (by unfold cmpV; rw [if_pos h1])
    go_enter Try.func10, Try.ntmps10
    go_wp2
    go_ret
    exact ⟨ret_int HV.out.symm, Below.refl _ _⟩
  · by_cases h2 : b.size < a.size
    · have HV : Hid (cmpV a b = 1) := Lib.hid (by unfold cmpV; rw [if_neg h1, if_pos h2])
      go_enter Try.func10, Try.ntmps10
      go_wp2
      go_ret
      exact ⟨ret_int HV.out.symm, Below.refl _ _⟩
    · have hs : a.size = b.size := by omega
      have HS := Lib.hid hs
      clear hs
      go_enter Try.func10, Try.ntmps10
      go_wp2
      go_loopw [5] (fun i wr => ∃ k : Nat, k ≤ a.size ∧ i = .int .i64 k ∧ Hid (a.toList.take k = b.toList.take k) ∧ Below w.heap.size w wr) (fun i _ => a.size - (intOf i).toNat)
      case atStart => exact ⟨0, by omega, rfl, Lib.hid rfl, Below.refl _ _⟩
      case round =>
        obtain ⟨k, hk, rfl, ho, hb⟩ := hrel
        by_cases hlt : k < a.size
        · have hlt2 : k < b.size := by have := HS.out; omega
          have iA := fun w1 : World => run_at 9 a k Try.underlying9 hlt w1
          have iB := fun w1 : World => run_at 9 b k Try.underlying9 hlt2 w1
          have D := Lib.hid (cmp_lt HS.out hlt ho.out)
          by_cases d1 : C a k < C b k
          · have HV : Hid (cmpV a b = -1) := Lib.hid (D.out.1 d1)
            go_wp2
            go_quiet (fail)
            go_wp2
            go_ret
            exact ⟨ret_int HV.out.symm, bDrewN _ hb⟩
          · by_cases d2 : C b k < C a k
            · have HV : Hid (cmpV a b = 1) := Lib.hid (D.out.2 d2)
              go_wp2
              go_quiet (fail)
              go_wp2
              go_quiet (fail)
              go_wp2
              go_ret
              first | exact ⟨ret_int HV.out.symm, bDrewN _ hb⟩ | exact ⟨ret_int HV.out.symm, bDrewN _ (bDrewN _ hb)⟩
            · have HK : Hid (a.toList.take (k + 1) = b.toList.take (k + 1)) := Lib.hid (take_next HS.out hlt ho.out (by omega))
              go_wp2
              go_quiet (fail)
              go_wp2
              go_quiet (fail)
              go_wp2
              go_roundw
              case rel => exact ⟨k + 1, by omega, by go_num, HK, bDrewN _ hb⟩
              case measure => simp [intOf]; omega
        · obtain rfl : k = a.size := by omega
          have HV : Hid (cmpV a b = 0) := Lib.hid (take_all HS.out ho.out)
          go_wp2
          go_ret
          exact ⟨ret_int HV.out.symm, hb⟩
end
/-- what a byte of a name is -/
def okP (s : ByteArray) (i : Nat) : Prop := (97 ≤ C s i ∧ C s i ≤ 122) ∨ ((48 ≤ C s i ∧ C s i ≤ 57) ∧ i ≠ 0) ∨ (C s i = 45 ∧ i ≠ 0 ∧ i + 1 ≠ s.size)
instance (s : ByteArray) (i : Nat) : Decidable (okP s i) := by unfold okP; infer_instance
def isN (s : ByteArray) : Bool := decide (1 ≤ s.size ∧ s.size ≤ 24 ∧ ∀ i, i < s.size → okP s i)
theorem isN_no {s : ByteArray} {i : Nat} (hi : i < s.size) (h : ¬ okP s i) : isN s = false := decide_eq_false fun e => h (e.2.2 i hi)
theorem okP_step {p : Nat → Prop} {k : Nat} (h : ∀ j, j < k → p j) (hk : p k) : ∀ j, j < k + 1 → p j := by
  intro j hj
  rcases Nat.lt_succ_iff_lt_or_eq.1 hj with h1 | rfl
  · exact h j h1
  · exact hk
theorem letter_is (c : Int) (t : Bool) (w : World) (ht : Hid (decide (97 ≤ c ∧ c ≤ 122) = t)) : Calls Try.prog 18 #[.int .u8 c] w fun e w' => e = .returned (.bool t) ∧ w = w' := by
  by_cases h1 : 97 ≤ c
  · have HV : Hid (decide (c ≤ 122) = t) := Lib.hid (by rw [← ht.out]; by_cases h : c ≤ 122 <;> simp [h, h1])
    clear ht
    go_enter Try.func18, Try.ntmps18
    go_wp2
    go_ret
    exact ⟨ret_bool HV.out, rfl⟩
  · have HV : Hid (false = t) := Lib.hid (by rw [← ht.out]; simp [h1])
    clear ht
    go_enter Try.func18, Try.ntmps18
    go_wp2
    go_ret
    exact ⟨ret_bool HV.out, rfl⟩
theorem digit_is (c : Int) (t : Bool) (w : World) (ht : Hid (decide (48 ≤ c ∧ c ≤ 57) = t)) : Calls Try.prog 19 #[.int .u8 c] w fun e w' => e = .returned (.bool t) ∧ w = w' := by
  by_cases h1 : 48 ≤ c
  · have HV : Hid (decide (c ≤ 57) = t) := Lib.hid (by rw [← ht.out]; by_cases h : c ≤ 57 <;> simp [h, h1])
    clear ht
    go_enter Try.func19, Try.ntmps19
    go_wp2
    go_ret
    exact ⟨ret_bool HV.out, rfl⟩
  · have HV : Hid (false = t) := Lib.hid (by rw [← ht.out]; simp [h1])
    clear ht
    go_enter Try.func19, Try.ntmps19
    go_wp2
    go_ret
    exact ⟨ret_bool HV.out, rfl⟩

theorem is_any (s : ByteArray) (w : World) : Calls Try.prog 7 #[.string s] w fun e w' => e = .returned (.bool (isN s)) ∧ Below w.heap.size w w' := by
  by_cases h1 : 1 ≤ s.size
  · by_cases h2 : s.size ≤ 24
    · skip
      go_enter Try.func7, Try.ntmps7
      go_wp2
      go_loopw [] (fun wr => ∃ pos : Nat, pos ≤ s.size ∧ wr.heap[w.heap.size]? = some (.stringIter s pos) ∧ Hid (∀ i, i < pos → okP s i) ∧ Below w.heap.size w wr) (fun wr => s.size - wr.iterPos w.heap.size)
      case atStart =>
        refine ⟨0, by omega, ?_, Lib.hid (fun i hi => absurd hi (by omega)), bAlloc (Below.refl _ _) _⟩
        have := World.iter_heap w s 0
        simpa using this
      case round =>
        obtain ⟨pos, hp, hit, ho, hb⟩ := hrel
        have hsz : w.heap.size < wr.heap.size := (Array.getElem?_eq_some_iff.1 hit).1
        by_cases hlt : pos < s.size
        · by_cases ha : (s[pos]'hlt).toNat < 128
          · have hc : (s[pos]'hlt).toNat = C s pos := C_at s hlt
            have hnx : ∀ ty, (Instr.next (.pointer (some ⟨w.heap.size, 0, none⟩)) true ty).run Try.prog wr = .ok (.tuple #[.bool true, .int .i64 pos, .int .i32 (C s pos : Nat)]) (wr.iterAt w.heap.size s (pos + 1)) := fun ty => by
              rw [Lib.run_next_ascii_at wr w.heap.size s pos ty hit hlt ha, hc]
            have hit2 := Lib.iterAt_heap wr w.heap.size s pos (pos + 1) hit
            have hb2 := Lib.below_iterAt hb (k := w.heap.size) (by omega) s (pos + 1)
            have HM : Hid ((wr.iterAt w.heap.size s (pos + 1)).iterPos w.heap.size = pos + 1 ∧ wr.iterPos w.heap.size = pos) := Lib.hid ⟨by simp [World.iterPos, hit2], by simp [World.iterPos, hit]⟩
            clear ha hc
            have HO := Lib.hid (fun h : okP s pos => okP_step ho.out h)
            have HN := Lib.hid (isN_no (s := s) hlt)
            clear ho
            by_cases a1 : 97 ≤ C s pos ∧ C s pos ≤ 122
            · obtain ⟨a1, a2⟩ := a1
              have HK := Lib.hid (HO.out (by unfold okP; omega))
              clear HO HN
              go_wp2
              go_roundw
              case rel => exact ⟨pos + 1, by omega, hit2, HK, hb2⟩
              case measure => rw [HM.out.1, HM.out.2]; omega
            · have a3 : ¬ (97 ≤ C s pos ∧ C s pos ≤ 122) := a1
              by_cases b1 : 48 ≤ C s pos ∧ C s pos ≤ 57
              · obtain ⟨b1, b2⟩ := b1
                have a4 : ¬ 97 ≤ C s pos := by omega
                by_cases z : pos = 0
                · have z1 : ((pos : Int) == 0) = true := by simp [z]
                  have HV : Hid (isN s = false) := Lib.hid (HN.out (by unfold okP; omega))
                  clear HO HN z
                  go_wp2
                  go_ret
                  exact ⟨ret_bool HV.out.symm, hb2⟩
                · have z1 : ((pos : Int) == 0) = false := by simp; exact z
                  have HK := Lib.hid (HO.out (by unfold okP; omega))
                  clear HO HN
                  go_wp2
                  go_roundw
                  case rel => exact ⟨pos + 1, by omega, hit2, HK, hb2⟩
                  case measure => rw [HM.out.1, HM.out.2]; omega
              · by_cases c1 : C s pos = 45
                · have a4 : ¬ 97 ≤ C s pos := by omega
                  have b4 : ¬ 48 ≤ C s pos := by omega
                  by_cases z : pos = 0
                  · have z1 : ((pos : Int) == 0) = true := by simp [z]
                    have HV : Hid (isN s = false) := Lib.hid (HN.out (by unfold okP; omega))
                    clear HO HN z
                    go_wp2
                    go_ret
                    exact ⟨ret_bool HV.out.symm, hb2⟩
                  · have z1 : ((pos : Int) == 0) = false := by simp; exact z
                    have W1 : IntKind.i64.wrap ((s.size : Int) - 1) = (s.size : Int) - 1 := IntWalk.i64_in _ (by omega)
                    by_cases y : pos + 1 = s.size
                    · have y2 : ((pos : Int) == (s.size : Int) - 1) = true := by rw [beq_iff_eq]; omega
                      have HV : Hid (isN s = false) := Lib.hid (HN.out (by unfold okP; omega))
                      clear HO HN y z
                      go_wp2
                      go_ret
                      exact ⟨ret_bool HV.out.symm, hb2⟩
                    · have y2 : ((pos : Int) == (s.size : Int) - 1) = false := by rw [beq_eq_false_iff_ne]; omega
                      have HK := Lib.hid (HO.out (by unfold okP; omega))
                      clear HO HN
                      go_wp2
                      go_roundw
                      case rel => exact ⟨pos + 1, by omega, hit2, HK, hb2⟩
                      case measure => rw [HM.out.1, HM.out.2]; omega
                · rcases (show (C s pos < 97 ∧ C s pos < 48) ∨ (C s pos < 97 ∧ 57 < C s pos) ∨ (122 < C s pos ∧ 57 < C s pos) by omega) with ⟨x1, x2⟩ | ⟨x1, x2⟩ | ⟨x1, x2⟩
                  all_goals
                    have HV : Hid (isN s = false) := Lib.hid (HN.out (by unfold okP; omega))
                    clear HO HN
                    go_wp2
                    go_ret
                    exact ⟨ret_bool HV.out.symm, hb2⟩
          · have hh := decode_high s pos hlt (by omega)
            have hc : (s[pos]'hlt).toNat = C s pos := C_at s hlt
            obtain ⟨r, hr, hr2⟩ : ∃ r, (Utf8.decode s pos).1 = r ∧ 128 ≤ r := ⟨_, rfl, hh.1⟩
            have hnx : ∀ ty, (Instr.next (.pointer (some ⟨w.heap.size, 0, none⟩)) true ty).run Try.prog wr = .ok (.tuple #[.bool true, .int .i64 pos, .int .i32 (r : Nat)]) (wr.iterAt w.heap.size s (pos + (Utf8.decode s pos).2)) := fun ty => by
              rw [Lib.run_next_any_at wr w.heap.size s pos ty hit hlt, hr]
            have hb2 := Lib.below_iterAt hb (k := w.heap.size) (by omega) s (pos + (Utf8.decode s pos).2)
            have HV : Hid (isN s = false) := Lib.hid (isN_no hlt (by unfold okP; omega))
            have r1 : ¬ r ≤ 122 := by omega
            have r2 : ¬ r ≤ 57 := by omega
            have r3 : ¬ r = 45 := by omega
            clear hh hr hc ha ho
            go_wp2
            go_ret
            exact ⟨ret_bool HV.out.symm, hb2⟩
        · have hnx : ∀ ty, (Instr.next (.pointer (some ⟨w.heap.size, 0, none⟩)) true ty).run Try.prog wr = .ok (.tuple #[.bool false]) wr := fun ty => Lib.run_next_end_at wr w.heap.size s pos ty hit hlt
          have HV : Hid (isN s = true) := Lib.hid (decide_eq_true ⟨h1, h2, fun i hi => ho.out i (by omega)⟩)
          go_wp2
          go_ret
          exact ⟨ret_bool HV.out.symm, hb⟩
    · skip
      have HV : Hid (isN s = false) := Lib.hid (decide_eq_false (by omega))
      go_enter Try.func7, Try.ntmps7
      go_wp2
      go_ret
      exact ⟨ret_bool HV.out.symm, Below.refl _ _⟩
  · skip
    have HV : Hid (isN s = false) := Lib.hid (decide_eq_false (by omega))
    go_enter Try.func7, Try.ntmps7
    go_wp2
    go_ret
    exact ⟨ret_bool HV.out.symm, Below.refl _ _⟩

def okQ (s : ByteArray) (i : Nat) : Prop := (97 ≤ C s i ∧ C s i ≤ 122) ∨ (48 ≤ C s i ∧ C s i ≤ 57) ∨ C s i = 45
theorem isN_of {s : ByteArray} (h1 : 1 ≤ s.size) (h2 : s.size ≤ 24) (h3 : 97 ≤ C s 0 ∧ C s 0 ≤ 122) (h4 : C s (s.size - 1) ≠ 45) (h : ∀ i, i < s.size → okQ s i) : isN s = true := decide_eq_true ⟨h1, h2, fun i hi => by
  have := h i hi
  unfold okQ at this; unfold okP
  by_cases hz : i = 0
  · subst hz; exact .inl h3
  · rcases this with this | this | this
    · exact .inl this
    · exact .inr (.inl ⟨this, hz⟩)
    · refine .inr (.inr ⟨this, hz, fun e => h4 ?_⟩)
      rw [← this]; congr 1; omega⟩
theorem refIs_any (s : ByteArray) (w : World) : Calls Try.prog 8 #[.string s] w fun e w' => e = .returned (.bool (isN s)) ∧ Below w.heap.size w w' := by
  by_cases h1 : 1 ≤ s.size
  · by_cases h2 : s.size ≤ 24
    · have z1 : ((s.size : Int) == 0) = false := by rw [beq_eq_false_iff_ne]; omega
      have i0 : ∀ w1 : World, (Instr.index 9 (.string s) (.int .i64 0)).run Try.prog w1 = .ok (.int .u8 (C s 0 : Nat)) w1 := fun w1 => by simpa using run_at 9 s 0 Try.underlying9 h1 w1
      have en : (((s.size - 1 : Nat)) : Int) = (s.size : Int) - 1 := by omega
      have iN : ∀ w1 : World, (Instr.index 9 (.string s) (.int .i64 ((s.size : Int) - 1))).run Try.prog w1 = .ok (.int .u8 (C s (s.size - 1) : Nat)) w1 := fun w1 => by rw [← en]; exact run_at 9 s (s.size - 1) Try.underlying9 (by omega) w1
      have W1 : IntKind.i64.wrap ((s.size : Int) - 1) = (s.size : Int) - 1 := IntWalk.i64_in _ (by omega)
      clear en
      by_cases h3 : 97 ≤ C s 0 ∧ C s 0 ≤ 122
      · have HL : Hid (decide ((97 : Int) ≤ (C s 0 : Nat) ∧ ((C s 0 : Nat) : Int) ≤ 122) = true) := Lib.hid (decide_eq_true (by omega))
        have H3 := Lib.hid h3
        clear h3
        by_cases h4 : C s (s.size - 1) = 45
        · have q : (((C s (s.size - 1) : Nat) : Int) == 45) = true := by rw [beq_iff_eq]; omega
          have HV : Hid (isN s = false) := Lib.hid (isN_no (i := s.size - 1) (by omega) (by unfold okP; omega))
          clear h4
          go_enter Try.func8, Try.ntmps8
          go_wp2_with (first | (go_at_call 18; refine (letter_is _ _ _ HL).mono ?_; rintro e w1 ⟨rfl, rfl⟩))
          go_ret
          exact ⟨ret_bool HV.out.symm, Below.refl _ _⟩
        · have q : (((C s (s.size - 1) : Nat) : Int) == 45) = false := by rw [beq_eq_false_iff_ne]; omega
          have H4 := Lib.hid h4
          clear h4
          go_enter Try.func8, Try.ntmps8
          go_wp2_with (first | (go_at_call 18; refine (letter_is _ _ _ HL).mono ?_; rintro e w1 ⟨rfl, rfl⟩))
          clear i0 iN q HL
          go_loopw [3] (fun i wr => ∃ k : Nat, k ≤ s.size ∧ i = .int .i64 k ∧ Hid (∀ j, j < k → okQ s j) ∧ Below w.heap.size w wr) (fun i _ => s.size - (intOf i).toNat)
          case atStart => exact ⟨0, by omega, rfl, Lib.hid (fun j hj => absurd hj (by omega)), Below.refl _ _⟩
          case round =>
            obtain ⟨k, hk, rfl, ho, hb⟩ := hrel
            by_cases hlt : k < s.size
            · have iK := fun w1 : World => run_at 9 s k Try.underlying9 hlt w1
              by_cases c1 : 97 ≤ C s k ∧ C s k ≤ 122
              · have HL : Hid (decide ((97 : Int) ≤ (C s k : Nat) ∧ ((C s k : Nat) : Int) ≤ 122) = true) := Lib.hid (decide_eq_true (by omega))
                have HK : Hid (∀ j, j < k + 1 → okQ s j) := Lib.hid (okP_step ho.out (.inl c1))
                clear c1 ho
                go_wp2_with (first | (go_at_call 18; refine (letter_is _ _ _ HL).mono ?_; rintro e w1 ⟨rfl, rfl⟩))
                go_roundw
                case rel => exact ⟨k + 1, by omega, by go_num, HK, hb⟩
                case measure => simp [intOf]; omega
              · have HL : Hid (decide ((97 : Int) ≤ (C s k : Nat) ∧ ((C s k : Nat) : Int) ≤ 122) = false) := Lib.hid (decide_eq_false (by omega))
                by_cases c2 : 48 ≤ C s k ∧ C s k ≤ 57
                · have HD : Hid (decide ((48 : Int) ≤ (C s k : Nat) ∧ ((C s k : Nat) : Int) ≤ 57) = true) := Lib.hid (decide_eq_true (by omega))
                  have HK : Hid (∀ j, j < k + 1 → okQ s j) := Lib.hid (okP_step ho.out (.inr (.inl c2)))
                  clear c1 c2 ho
                  go_wp2_with (first | (go_at_call 18; refine (letter_is _ _ _ HL).mono ?_; rintro e w1 ⟨rfl, rfl⟩) | (go_at_call 19; refine (digit_is _ _ _ HD).mono ?_; rintro e w1 ⟨rfl, rfl⟩))
                  go_roundw
                  case rel => exact ⟨k + 1, by omega, by go_num, HK, hb⟩
                  case measure => simp [intOf]; omega
                · have HD : Hid (decide ((48 : Int) ≤ (C s k : Nat) ∧ ((C s k : Nat) : Int) ≤ 57) = false) := Lib.hid (decide_eq_false (by omega))
                  by_cases c3 : C s k = 45
                  · have q : (((C s k : Nat) : Int) == 45) = true := by rw [beq_iff_eq]; omega
                    have HK : Hid (∀ j, j < k + 1 → okQ s j) := Lib.hid (okP_step ho.out (.inr (.inr c3)))
                    clear c1 c2 c3 ho
                    go_wp2_with (first | (go_at_call 18; refine (letter_is _ _ _ HL).mono ?_; rintro e w1 ⟨rfl, rfl⟩) | (go_at_call 19; refine (digit_is _ _ _ HD).mono ?_; rintro e w1 ⟨rfl, rfl⟩))
                    go_roundw
                    case rel => exact ⟨k + 1, by omega, by go_num, HK, hb⟩
                    case measure => simp [intOf]; omega
                  · have q : (((C s k : Nat) : Int) == 45) = false := by rw [beq_eq_false_iff_ne]; omega
                    have HV : Hid (isN s = false) := Lib.hid (isN_no hlt (by unfold okP; omega))
                    clear c1 c2 c3 ho
                    go_wp2_with (first | (go_at_call 18; refine (letter_is _ _ _ HL).mono ?_; rintro e w1 ⟨rfl, rfl⟩) | (go_at_call 19; refine (digit_is _ _ _ HD).mono ?_; rintro e w1 ⟨rfl, rfl⟩))
                    go_ret
                    exact ⟨ret_bool HV.out.symm, hb⟩
            · have HV : Hid (isN s = true) := Lib.hid (isN_of h1 h2 H3.out H4.out (fun i hi => ho.out i (by omega)))
              go_wp2
              go_ret
              exact ⟨ret_bool HV.out.symm, hb⟩
      · have HL : Hid (decide ((97 : Int) ≤ (C s 0 : Nat) ∧ ((C s 0 : Nat) : Int) ≤ 122) = false) := Lib.hid (decide_eq_false (by omega))
        have HV : Hid (isN s = false) := Lib.hid (isN_no (i := 0) (by omega) (by unfold okP; omega))
        clear h3
        go_enter Try.func8, Try.ntmps8
        go_wp2_with (first | (go_at_call 18; refine (letter_is _ _ _ HL).mono ?_; rintro e w1 ⟨rfl, rfl⟩))
        go_ret
        exact ⟨ret_bool HV.out.symm, Below.refl _ _⟩
    · have HV : Hid (isN s = false) := Lib.hid (decide_eq_false (by omega))
      have z1 : ((s.size : Int) == 0) = false := by rw [beq_eq_false_iff_ne]; omega
      go_enter Try.func8, Try.ntmps8
      go_wp2
      go_ret
      exact ⟨ret_bool HV.out.symm, Below.refl _ _⟩
  · have HV : Hid (isN s = false) := Lib.hid (decide_eq_false (by omega))
    have z1 : ((s.size : Int) == 0) = true := by rw [beq_iff_eq]; omega
    go_enter Try.func8, Try.ntmps8
    go_wp2
    go_ret
    exact ⟨ret_bool HV.out.symm, Below.refl _ _⟩
end Go.Proofs.Ytkoifdbbomipbaa.Name
