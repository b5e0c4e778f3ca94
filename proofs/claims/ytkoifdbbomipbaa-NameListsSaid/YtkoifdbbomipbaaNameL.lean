
/- What the statements of layer 2 share: lists that are held against one another, All, and the document's names. -/
import Derived.Test.YtkoifdbbomipbaaNameS
namespace Go.Proofs.Ytkoifdbbomipbaa.Name
open Go.ChangeShapes Go.WideShapes Go.ChangeAt Go.RowKit
open Mem Arr Lst Ins

theorem texts_true (A : Option Addr) (n c : Nat) (f : Nat → Value) (F : Nat → ByteArray) (hf : ∀ i, f i = .string (F i)) (A' : Option Addr) (m c' : Nat) (f' : Nat → Value) (w : World) (h : Reads w w.heap.size A n f) (h' : Reads w w.heap.size A' m f') (hnm : n = m) (he : ∀ i, i < n → f' i = f i) (hn : n ≤ 9223372036854775807) :
    Calls Try.prog 15 #[.slice A n c, .slice A' m c'] w fun e w' => e = .returned (.bool true) ∧ Below w.heap.size w w' := by
  subst hnm
  have H := Lib.hid h
  have H' := Lib.hid h'
  have HE := Lib.hid he
  have HF := Lib.hid hf
  clear h h' he hf
  go_enter Try.func15, Try.ntmps15
  go_wp2
  go_loopw [5] (fun i wr => ∃ k : Nat, k ≤ n ∧ i = .int .i64 k ∧ Below w.heap.size w wr) (fun i _ => n - (intOf i).toNat)
  case atStart => exact ⟨0, by omega, rfl, Below.refl _ _⟩
  case round =>
    obtain ⟨k, hk, rfl, hb⟩ := hrel
    by_cases hlt : k < n
    · obtain ⟨b, off, rfl, _⟩ := reads_form H.out (by omega)
      obtain ⟨b', off', rfl, _⟩ := reads_form H'.out (by omega)
      obtain ⟨_, c0⟩ := reads_at H.out hb rfl hlt
      obtain ⟨_, d0⟩ := reads_at H'.out hb rfl hlt
      rw [HE.out k hlt] at d0
      rw [HF.out] at c0 d0
      have cl1 : (k : Int) < (n : Int) := by omega
      have cl2 : (0 : Int) ≤ (k : Int) := by omega
      go_wp2
      go_quiet (fail)
      go_wp2
      go_roundw
      case rel => exact ⟨k + 1, by omega, by go_num, bDrewN _ hb⟩
      case measure => simp [intOf]; omega
    · go_wp2
      go_ret
      exact ⟨rfl, hb⟩
theorem ints_true (A : Option Addr) (n c : Nat) (f : Nat → Value) (F : Nat → Nat) (hf : ∀ i, f i = .int .i64 (F i : Nat)) (A' : Option Addr) (m c' : Nat) (f' : Nat → Value) (w : World) (h : Reads w w.heap.size A n f) (h' : Reads w w.heap.size A' m f') (hnm : n = m) (he : ∀ i, i < n → f' i = f i) (hn : n ≤ 9223372036854775807) :
    Calls Try.prog 16 #[.slice A n c, .slice A' m c'] w fun e w' => e = .returned (.bool true) ∧ Below w.heap.size w w' := by
  subst hnm
  have H := Lib.hid h
  have H' := Lib.hid h'
  have HE := Lib.hid he
  have HF := Lib.hid hf
  clear h h' he hf
  go_enter Try.func16, Try.ntmps16
  go_wp2
  go_loopw [5] (fun i wr => ∃ k : Nat, k ≤ n ∧ i = .int .i64 k ∧ Below w.heap.size w wr) (fun i _ => n - (intOf i).toNat)
  case atStart => exact ⟨0, by omega, rfl, Below.refl _ _⟩
  case round =>
    obtain ⟨k, hk, rfl, hb⟩ := hrel
    by_cases hlt : k < n
    · obtain ⟨b, off, rfl, _⟩ := reads_form H.out (by omega)
      obtain ⟨b', off', rfl, _⟩ := reads_form H'.out (by omega)
      obtain ⟨_, c0⟩ := reads_at H.out hb rfl hlt
      obtain ⟨_, d0⟩ := reads_at H'.out hb rfl hlt
      rw [HE.out k hlt] at d0
      rw [HF.out] at c0 d0
      have cl1 : (k : Int) < (n : Int) := by omega
      have cl2 : (0 : Int) ≤ (k : Int) := by omega
      go_wp2
      go_quiet (fail)
      go_wp2
      go_roundw
      case rel => exact ⟨k + 1, by omega, by go_num, bDrewN _ hb⟩
      case measure => simp [intOf]; omega
    · go_wp2
      go_ret
      exact ⟨rfl, hb⟩

/-! Texts, written out -/
def cmpD (a b : List UInt8) : Int := if a.length < b.length then -1 else if b.length < a.length then 1 else cmpS a b
theorem cmpV_d (a b : ByteArray) : cmpV a b = cmpD a.data.toList b.data.toList := by
  unfold cmpV cmpD
  rw [ByteArray.toList_eq, ByteArray.toList_eq]
  rfl
def ordD (L : Nat → List UInt8) (n : Nat) : Nat → Nat := outer (fun x y => decide (cmpD (L x) (L y) < 0)) 0 (n - 1) 1 (fun i => i)
theorem ord_d (S : Nat → ByteArray) (n : Nat) : ord S n = ordD (fun i => (S i).data.toList) n := by
  unfold ord ordD
  simp only [cmpV_d]
def okD (l : List UInt8) (i : Nat) : Bool := (97 ≤ (l.getD i 0).toNat && (l.getD i 0).toNat ≤ 122) || ((48 ≤ (l.getD i 0).toNat && (l.getD i 0).toNat ≤ 57) && i != 0) || ((l.getD i 0).toNat == 45 && i != 0 && i + 1 != l.length)
def isD (l : List UInt8) : Bool := 1 ≤ l.length && l.length ≤ 24 && (List.range l.length).all (okD l)
theorem ok_d (s : ByteArray) (i : Nat) : okP s i ↔ okD s.data.toList i = true := by
  unfold okP okD C
  rw [ByteArray.toList_eq]
  simp only [Bool.or_eq_true, Bool.and_eq_true, decide_eq_true_eq, bne_iff_ne, beq_iff_eq, ne_eq]
  have : s.data.toList.length = s.size := Array.length_toList
  rw [this]
  constructor
  · rintro (h | h | h)
    · exact .inl (.inl h)
    · exact .inl (.inr h)
    · exact .inr ⟨⟨h.1, h.2.1⟩, h.2.2⟩
  · rintro ((h | h) | h)
    · exact .inl h
    · exact .inr (.inl h)
    · exact .inr (.inr ⟨h.1.1, h.1.2, h.2⟩)
theorem isN_d (s : ByteArray) : isN s = isD s.data.toList := by
  have e : s.data.toList.length = s.size := Array.length_toList
  unfold isN isD
  rw [e, Bool.eq_iff_iff]
  simp only [decide_eq_true_eq, Bool.and_eq_true, List.all_eq_true, List.mem_range]
  constructor
  · rintro ⟨h1, h2, h3⟩; exact ⟨⟨h1, h2⟩, fun i hi => (ok_d s i).1 (h3 i hi)⟩
  · rintro ⟨⟨h1, h2⟩, h3⟩; exact ⟨h1, h2, fun i hi => (ok_d s i).2 (h3 i hi)⟩
theorem is_is (s : ByteArray) (t : Bool) (w : World) (ht : Hid (isN s = t)) : Calls Try.prog 7 #[.string s] w fun e w' => e = .returned (.bool t) ∧ Below w.heap.size w w' := by
  have := is_any s w; rw [ht.out] at this; exact this
theorem compare_is (a b : ByteArray) (v : Int) (w : World) (hv : Hid (cmpV a b = v)) : Calls Try.prog 9 #[.string a, .string b] w fun e w' => e = .returned (.int .i64 v) ∧ w = w' := by
  have := compare_any a b w; rw [hv.out] at this; exact this

/-- All of texts that are names, two of which are the same -/
theorem all_twice (A : Option Addr) (n c : Nat) (S : Nat → ByteArray) (w : World) (h : Reads w w.heap.size A n (textV S)) (hn : n ≤ 19) (hn0 : 0 < n) (hall : ∀ i, i < n → isN (S i) = true)
    (j : Nat) (hj : j + 1 < n) (hne : ∀ i, i < j → (S (ord S n (i + 1))).toList ≠ (S (ord S n i)).toList) (heq : (S (ord S n (j + 1))).toList = (S (ord S n j)).toList)
    (hI : ∀ w, (Instr.makeSlice 27 (.int .i64 n) (.int .i64 n)).run Try.prog w = .ok (.slice (some ⟨w.heap.size, 0, none⟩) n n) (w.alloc (.cells (vals n (fun _ => .int .i64 0)).toArray 3)))
    (hS : ∀ w, (Instr.makeSlice 26 (.int .i64 n) (.int .i64 n)).run Try.prog w = .ok (.slice (some ⟨w.heap.size, 0, none⟩) n n) (w.alloc (.cells (vals n (fun _ => .string emptyT)).toArray 9))) :
    Calls Try.prog 14 #[.slice A n c] w fun e w' => e = .returned (.int .i64 8) ∧ Below w.heap.size w w' := by
  have H := Lib.hid h
  have HA := Lib.hid (fun i hi w => is_is (S i) true w (Lib.hid (hall i hi)))
  have HNE := Lib.hid hne
  have HEQ := Lib.hid heq
  have HM := Lib.hid (fun (w : World) (h : Reads w w.heap.size A n (textV S)) => sort_any A n c S w h hn hn0 hI hS)
  clear h hall hne heq hI hS
  go_enter Try.func14, Try.ntmps14
  go_wp2
  go_loopw [10] (fun i wr => ∃ k : Nat, k ≤ n ∧ i = .int .i64 k ∧ Below w.heap.size w wr) (fun i _ => n - (intOf i).toNat)
  case atStart => exact ⟨0, by omega, rfl, Below.refl _ _⟩
  case round =>
    obtain ⟨k, hk, rfl, hb⟩ := hrel
    by_cases hlt : k < n
    · obtain ⟨b, off, rfl, _⟩ := reads_form H.out (by omega)
      obtain ⟨_, c0⟩ := reads_at H.out hb rfl hlt
      unfold textV at c0
      go_wp2_with fail
      refine (HA.out k hlt _).mono ?_
      rintro e w1 ⟨rfl, hb1⟩
      have hb2 := bTrans hb hb1
      clear hb hb1 c0
      go_wp2
      go_roundw
      case rel => exact ⟨k + 1, by omega, by go_num, hb2⟩
      case measure => simp [intOf]; omega
    · go_wp2_with fail
      refine (HM.out _ (H.out.later hb)).mono ?_
      rintro e w1 ⟨vs, vp, rfl, o1, -, hb1⟩
      have B1 := bTrans hb hb1
      obtain ⟨g, cap, rfl, hg1, hg2, hg3, hg4⟩ := o1.form (by omega)
      have O1 := Lib.hid o1
      clear o1 hb hb1 HM HA
      go_wp2
      go_loopw [7] (fun i wr => ∃ k : Nat, 0 < k ∧ k ≤ j + 1 ∧ i = .int .i64 k ∧ ∃ m, wr = w1.drewN m) (fun i _ => n - (intOf i).toNat)
      case atStart => exact ⟨1, by omega, by omega, rfl, 0, rfl⟩
      case round =>
        obtain ⟨q, hq0, hq, rfl, m, rfl⟩ := hrel
        obtain ⟨p, rfl⟩ : ∃ p, q = p + 1 := ⟨q - 1, by omega⟩
        have c1 : w1.cell? ⟨g, p + 1, none⟩ = some (.string (S (ord S n (p + 1)))) := O1.out.cell (by omega)
        have c2 : w1.cell? ⟨g, p, none⟩ = some (.string (S (ord S n p))) := O1.out.cell (by omega)
        have hwp : IntKind.i64.wrap (p : Int) = (p : Int) := by rw [IntKind.wrap_i64]; omega
        have e0 : ((p : Int) + 1).toNat = p + 1 := by omega
        have z1 : (p : Int) + 1 < (n : Int) := by omega
        have z2 : (p : Int) < (n : Int) := by omega
        have z3 : (0 : Int) ≤ (p : Int) + 1 := by omega
        obtain ⟨x, hx⟩ : ∃ x, S (ord S n (p + 1)) = x := ⟨_, rfl⟩
        obtain ⟨y, hy⟩ : ∃ y, S (ord S n p) = y := ⟨_, rfl⟩
        rw [hx] at c1
        rw [hy] at c2
        by_cases hpj : p = j
        · have E : (x.toList == y.toList) = true := by rw [beq_iff_eq, ← hx, ← hy, hpj]; exact HEQ.out
          clear hx hy hpj
          go_wp2
          go_quiet (fail)
          go_wp2
          go_ret
          exact ⟨rfl, bDrewN _ (bDrewN _ B1)⟩
        · have E : (x.toList == y.toList) = false := by rw [beq_eq_false_iff_ne, ← hx, ← hy]; exact HNE.out p (by omega)
          clear hx hy
          go_wp2
          go_quiet (fail)
          go_wp2
          go_roundw
          case rel => exact ⟨p + 1 + 1, by omega, by omega, by go_num, m + nq, rfl⟩
          case measure => simp [intOf]; omega

/-! The document's names -/
def S4 (i : Nat) : ByteArray := if i = 0 then ⟨#[98, 98]⟩ else if i = 1 then ⟨#[97]⟩ else if i = 2 then ⟨#[97, 97]⟩ else ⟨#[97]⟩
def S3 (i : Nat) : ByteArray := if i = 0 then ⟨#[97]⟩ else if i = 1 then ⟨#[98]⟩ else ⟨#[97]⟩
def T4 (i : Nat) : ByteArray := if i = 0 then ⟨#[97]⟩ else if i = 1 then ⟨#[97]⟩ else if i = 2 then ⟨#[97, 97]⟩ else ⟨#[98, 98]⟩
def P4 (i : Nat) : Nat := if i = 0 then 1 else if i = 1 then 3 else if i = 2 then 2 else 0
theorem ord4 : ∀ i, i < 4 → ord S4 4 i = P4 i := by rw [ord_d]; decide
theorem ord3 : ord S3 3 0 = 0 ∧ ord S3 3 1 = 2 := by rw [ord_d]; decide
theorem t4 : ∀ i, i < 4 → S4 (P4 i) = T4 i := by
  intro i hi
  rcases (by omega : i = 0 ∨ i = 1 ∨ i = 2 ∨ i = 3) with rfl | rfl | rfl | rfl <;> rfl
theorem names3 : ∀ i, i < 3 → isN (S3 i) = true := by
  intro i hi
  rw [isN_d]
  rcases (by omega : i = 0 ∨ i = 1 ∨ i = 2) with rfl | rfl | rfl <;> decide
theorem reads_row (w : World) (n : Nat) (f : Nat → Value) (cs : Array Value) (t : TypeId) (h : ∀ i, i < n → cs[i]? = some (f i)) : Reads (w.alloc (.cells cs t)) (w.heap.size + 1) (some ⟨w.heap.size, 0, none⟩) n f :=
  ⟨fun e => (by cases e), fun _ => ⟨w.heap.size, 0, rfl, by omega, fun i j hi hj => by
    obtain rfl : j = 0 := by omega
    rw [cell_of_row _ _ _ _ _ _ (heap_alloc_new w _)]
    simpa using h i hi⟩⟩
theorem reads_lit (w : World) (n : Nat) (f : Nat → Value) (cs : Array Value) (t : TypeId) (h : ∀ i, i < n → cs[i]? = some (f i)) : Reads (w.alloc (.cells cs t)) (w.alloc (.cells cs t)).heap.size (some ⟨w.heap.size, 0, none⟩) n f := by
  rw [World.size_alloc]; exact reads_row w n f cs t h
theorem lit4 (f : Nat → Value) (a b c d : Value) (h0 : f 0 = a) (h1 : f 1 = b) (h2 : f 2 = c) (h3 : f 3 = d) : ∀ i, i < 4 → (#[a, b, c, d] : Array Value)[i]? = some (f i) := by
  intro i hi
  rcases (by omega : i = 0 ∨ i = 1 ∨ i = 2 ∨ i = 3) with rfl | rfl | rfl | rfl
  · rw [h0]; rfl
  · rw [h1]; rfl
  · rw [h2]; rfl
  · rw [h3]; rfl
theorem lit3 (f : Nat → Value) (a b c : Value) (h0 : f 0 = a) (h1 : f 1 = b) (h2 : f 2 = c) : ∀ i, i < 3 → (#[a, b, c] : Array Value)[i]? = some (f i) := by
  intro i hi
  rcases (by omega : i = 0 ∨ i = 1 ∨ i = 2) with rfl | rfl | rfl
  · rw [h0]; rfl
  · rw [h1]; rfl
  · rw [h2]; rfl
theorem mkI (n : Nat) (hn : n = 3 ∨ n = 4) : ∀ w, (Instr.makeSlice 27 (.int .i64 n) (.int .i64 n)).run Try.prog w = .ok (.slice (some ⟨w.heap.size, 0, none⟩) n n) (w.alloc (.cells (vals n (fun _ => .int .i64 0)).toArray 3)) := by
  rcases hn with rfl | rfl
  · intro w; kernel_rfl
  · intro w; kernel_rfl
theorem mkS (n : Nat) (hn : n = 3 ∨ n = 4) : ∀ w, (Instr.makeSlice 26 (.int .i64 n) (.int .i64 n)).run Try.prog w = .ok (.slice (some ⟨w.heap.size, 0, none⟩) n n) (w.alloc (.cells (vals n (fun _ => .string emptyT)).toArray 9)) := by
  rcases hn with rfl | rfl
  · intro w; kernel_rfl
  · intro w; kernel_rfl
theorem sort4 (A : Option Addr) (w : World) (h : Reads w w.heap.size A 4 (textV S4)) :
    Calls Try.prog 12 #[.slice A 4 4] w fun e w' => ∃ vs vp, e = .returned (.tuple #[vs, vp]) ∧ Own w' w.heap.size 9 vs 4 (textV T4) ∧ Own w' w.heap.size 3 vp 4 (intsV P4) ∧ Below w.heap.size w w' :=
  (sort_any A 4 4 S4 w h (by omega) (by omega) (mkI 4 (by omega)) (mkS 4 (by omega))).mono fun _ _ ⟨vs, vp, e, o1, o2, b⟩ => ⟨vs, vp, e, Own.congr o1 (fun i hi => by unfold textV; rw [ord4 i hi, t4 i hi]), Own.congr o2 (fun i hi => by unfold intsV; rw [ord4 i hi]), b⟩
theorem all3 (A : Option Addr) (w : World) (h : Reads w w.heap.size A 3 (textV S3)) : Calls Try.prog 14 #[.slice A 3 3] w fun e w' => e = .returned (.int .i64 8) ∧ Below w.heap.size w w' :=
  all_twice A 3 3 S3 w h (by omega) (by omega) names3 0 (by omega) (fun i hi => absurd hi (by omega)) (by rw [ord3.1, ord3.2]; rfl) (mkI 3 (by omega)) (mkS 3 (by omega))
set_option maxHeartbeats 1000000 in
theorem lives_any (w : World) : Calls Try.prog 11 #[] w fun e w' => e = .returned (.bool true) ∧ Below w.heap.size w w' := by
  have V1 : Hid (isN ⟨#[97, 45, 49]⟩ = true) := Lib.hid (by rw [isN_d]; decide)
  have V2 : Hid (isN ⟨#[45, 97]⟩ = false) := Lib.hid (by rw [isN_d]; decide)
  have V3 : Hid (isN ⟨#[97, 45]⟩ = false) := Lib.hid (by rw [isN_d]; decide)
  have V4 : Hid (isN ⟨#[]⟩ = false) := Lib.hid (by rw [isN_d]; decide)
  have V5 : Hid (cmpV ⟨#[98]⟩ ⟨#[97, 97]⟩ = -1) := Lib.hid (by rw [cmpV_d]; decide)
  go_enter Try.func11, Try.ntmps11
  go_wp2_with fail
  refine (sort4 _ _ (reads_lit _ _ _ _ _ (lit4 _ _ _ _ _ rfl rfl rfl rfl))).mono ?_
  rintro e w1 ⟨vs, vp, rfl, o1, o2, b1⟩
  have B1 : Below w.heap.size w w1 := bTrans (bAlloc (Below.refl _ _) _) b1
  obtain ⟨A1, c1, rfl, r1, -, -, -⟩ := o1.reads'
  obtain ⟨A2, c2, rfl, r2, -, -, -⟩ := o2.reads'
  clear b1 o1 o2
  go_wp2_with fail
  refine (is_is _ _ _ V1).mono ?_; rintro e w2 ⟨rfl, b2⟩
  have B2 := bTrans B1 b2
  have r1 := r1.later b2
  have r2 := r2.later b2
  clear B1 b2
  go_wp2_with fail
  refine (is_is _ _ _ V2).mono ?_; rintro e w3 ⟨rfl, b3⟩
  have B3 := bTrans B2 b3
  have r1 := r1.later b3
  have r2 := r2.later b3
  clear B2 b3
  go_wp2_with fail
  refine (is_is _ _ _ V3).mono ?_; rintro e w4 ⟨rfl, b4⟩
  have B4 := bTrans B3 b4
  have r1 := r1.later b4
  have r2 := r2.later b4
  clear B3 b4
  go_wp2_with fail
  refine (is_is _ _ _ V4).mono ?_; rintro e w5 ⟨rfl, b5⟩
  have B5 := bTrans B4 b5
  have r1 := r1.later b5
  have r2 := r2.later b5
  clear B4 b5
  go_wp2_with fail
  refine (compare_is _ _ _ _ V5).mono ?_; rintro e w5 ⟨rfl, rfl⟩
  go_wp2_with fail
  refine (all3 _ _ (reads_lit _ _ _ _ _ (lit3 _ _ _ _ rfl rfl rfl))).mono ?_; rintro e w6 ⟨rfl, b6⟩
  have B6 := bTrans (bAlloc B5 _) b6
  have r1 := (r1.later (bAlloc (Below.refl _ _) _)).later b6
  have r2 := (r2.later (bAlloc (Below.refl _ _) _)).later b6
  clear B5 b6
  go_wp2_with fail
  refine (texts_true _ _ _ _ T4 (fun _ => rfl) _ _ _ _ _ (r1.later (bAlloc (Below.refl _ _) _)) (reads_lit _ 4 (textV T4) _ _ (lit4 _ _ _ _ _ rfl rfl rfl rfl)) rfl (fun _ _ => rfl) (by omega)).mono ?_; rintro e w7 ⟨rfl, b7⟩
  have B7 := bTrans (bAlloc B6 _) b7
  have r2 := (r2.later (bAlloc (Below.refl _ _) _)).later b7
  clear B6 b7 r1
  go_wp2_with fail
  refine (ints_true _ _ _ _ P4 (fun _ => rfl) _ _ _ _ _ (r2.later (bAlloc (Below.refl _ _) _)) (reads_lit _ 4 (intsV P4) _ _ (lit4 _ _ _ _ _ rfl rfl rfl rfl)) rfl (fun _ _ => rfl) (by omega)).mono ?_; rintro e w8 ⟨rfl, b8⟩
  have B8 := bTrans (bAlloc B7 _) b8
  clear B7 b8 r2
  go_wp2
  go_ret
  exact ⟨rfl, B8⟩
end Go.Proofs.Ytkoifdbbomipbaa.Name
