
/- Contracts of layer 14: quotes, and which pools are open; the program's and the document's. -/
import Derived.Test.YtgaeelhbdgpobaaRows
import Derived.Test.YtgaeelhbdgpobaaRow
import Derived.WalkSpells
namespace Go.Proofs.Ytgaeelhbdgpobaa.Black
open Go.ChangeShapes Go.WideShapes Go.ChangeAt Go.RowKit
open Mem Arr Lst Go.Proofs.Ytgaeelhbdgpobaa.Row

theorem infoQuote : (Try.prog.info? 34).map (fun i => (i.zero, i.size, i.bytes)) = some (some (.agg #[.int .i64 0, .int .i64 0, .int .u64 0]), 3, 24) := by kernel_rfl
theorem ret_bool {p q : Bool} (h : p = q) : Ending.returned (.bool p) = .returned (.bool q) := by rw [h]

/-- quotes as values: Price, Score, Until of each -/
def quoteV (P S U : Nat → Int) (i j : Nat) : Value := if j = 0 then .int .i64 (P i) else if j = 1 then .int .i64 (S i) else .int .u64 (U i)
def Quotes (w : World) (B : Nat) (A : Option Addr) (n : Nat) (P S U : Nat → Int) : Prop := Recs w B A n 3 (quoteV P S U)
theorem quote_one (P S U : Nat → Int) (i j : Nat) : (quoteV P S U i j).oneCell' = true := by
  unfold quoteV
  by_cases h0 : j = 0
  · rw [if_pos h0]; rfl
  · rw [if_neg h0]
    by_cases h1 : j = 1
    · rw [if_pos h1]; rfl
    · rw [if_neg h1]; rfl
def isB (n : Nat) (p : Int) : Bool := decide (0 ≤ p ∧ p < n)
def openB (n : Nat) (P U : Nat → Int) (p now : Int) : Bool := decide ((0 ≤ p ∧ p < n) ∧ U p.toNat ≤ now ∧ 1 ≤ P p.toNat)

theorem quote_cells {w wr : World} {A : Option Addr} {n : Nat} {P S U : Nat → Int} (h : Quotes w w.heap.size A n P S U) (hb : Below w.heap.size w wr) {b off : Nat} (hA : A = some ⟨b, off, none⟩) {k : Nat} (hk : k < n) :
    b < wr.heap.size ∧ wr.cell? ⟨b, off + k * 3, none⟩ = some (.int .i64 (P k)) ∧ wr.cell? ⟨b, off + k * 3 + 1, none⟩ = some (.int .i64 (S k)) ∧ wr.cell? ⟨b, off + k * 3 + 2, none⟩ = some (.int .u64 (U k)) := by
  obtain ⟨b', off', e, hlt, hc⟩ := (h.later hb).2 (by omega)
  rw [hA] at e
  injection e with e
  injection e with e1 e2
  subst e1; subst e2
  refine ⟨hlt, ?_, ?_, ?_⟩
  · have := hc k 0 hk (by omega)
    rw [Nat.add_zero] at this; rw [this]; rfl
  · have := hc k 1 hk (by omega)
    rw [← Nat.add_assoc] at this; rw [this]; rfl
  · have := hc k 2 hk (by omega)
    rw [← Nat.add_assoc] at this; rw [this]; rfl
theorem quotes_at {w : World} {A : Option Addr} {n : Nat} {P S U : Nat → Int} (h : Quotes w w.heap.size A n P S U) (hn : 0 < n) : ∃ b off, A = some ⟨b, off, none⟩ := by
  obtain ⟨b, off, e, _⟩ := h.2 hn
  exact ⟨b, off, e⟩

theorem is_any (A : Option Addr) (n c : Nat) (p : Int) (w : World) (_hn : n ≤ 9223372036854775807) :
    Calls Try.prog 23 #[.slice A n c, .int .i64 p] w fun e w' => e = .returned (.bool (isB n p)) ∧ w = w' := by
  by_cases h0 : 0 ≤ p
  · by_cases h1 : p < n
    · have HV : Hid (isB n p = true) := Lib.hid (decide_eq_true ⟨h0, h1⟩)
      go_enter Try.func23, Try.ntmps23
      go_wp2
      go_ret
      exact ⟨ret_bool HV.out.symm, rfl⟩
    · have HV : Hid (isB n p = false) := Lib.hid (decide_eq_false (by omega))
      go_enter Try.func23, Try.ntmps23
      go_wp2
      go_ret
      exact ⟨ret_bool HV.out.symm, rfl⟩
  · have HV : Hid (isB n p = false) := Lib.hid (decide_eq_false (by omega))
    go_enter Try.func23, Try.ntmps23
    go_wp2
    go_ret
    exact ⟨ret_bool HV.out.symm, rfl⟩
theorem is_is (A : Option Addr) (n c : Nat) (p : Int) (t : Bool) (w : World) (hn : n ≤ 9223372036854775807) (ht : Hid (isB n p = t)) :
    Calls Try.prog 23 #[.slice A n c, .int .i64 p] w fun e w' => e = .returned (.bool t) ∧ w = w' := by
  have := is_any A n c p w hn
  rw [ht.out] at this; exact this

theorem open_any (A : Option Addr) (n c : Nat) (P S U : Nat → Int) (p now : Int) (w : World) (h : Quotes w w.heap.size A n P S U) (hn : n ≤ 9223372036854775807) :
    Calls Try.prog 16 #[.slice A n c, .int .i64 p, .int .u64 now] w fun e w' => e = .returned (.bool (openB n P U p now)) ∧ w = w' := by
  by_cases h0 : 0 ≤ p ∧ p < n
  · have HI : Hid (isB n p = true) := Lib.hid (decide_eq_true h0)
    obtain ⟨k, rfl⟩ := Int.eq_ofNat_of_zero_le h0.1
    have hk : k < n := by omega
    obtain ⟨b, off, rfl⟩ := quotes_at h (by omega)
    obtain ⟨hbl, c0, c1, c2⟩ := quote_cells h (Below.refl _ _) rfl hk
    have ek : ((k : Int)).toNat = k := by simp
    by_cases h1 : U k ≤ now
    · by_cases h2 : 1 ≤ P k
      · have HV : Hid (openB n P U k now = true) := Lib.hid (decide_eq_true ⟨h0, by rw [ek]; exact ⟨h1, h2⟩⟩)
        clear ek h
        go_enter Try.func16, Try.ntmps16
        go_wp2_with (first | (go_at_call 23; refine (is_is _ _ _ _ _ _ hn HI).mono ?_; rintro e w2 ⟨rfl, rfl⟩))
        go_ret
        exact ⟨ret_bool HV.out.symm, rfl⟩
      · have HV : Hid (openB n P U k now = false) := Lib.hid (decide_eq_false (by rw [ek]; omega))
        clear ek h
        go_enter Try.func16, Try.ntmps16
        go_wp2_with (first | (go_at_call 23; refine (is_is _ _ _ _ _ _ hn HI).mono ?_; rintro e w2 ⟨rfl, rfl⟩))
        go_ret
        exact ⟨ret_bool ((decide_eq_false (by omega)).trans HV.out.symm), rfl⟩
    · have HV : Hid (openB n P U k now = false) := Lib.hid (decide_eq_false (by rw [ek]; omega))
      clear ek h
      go_enter Try.func16, Try.ntmps16
      go_wp2_with (first | (go_at_call 23; refine (is_is _ _ _ _ _ _ hn HI).mono ?_; rintro e w2 ⟨rfl, rfl⟩))
      go_ret
      exact ⟨ret_bool HV.out.symm, rfl⟩
  · have HI : Hid (isB n p = false) := Lib.hid (decide_eq_false h0)
    have HV : Hid (openB n P U p now = false) := Lib.hid (decide_eq_false (fun e => h0 e.1))
    clear h0 h
    go_enter Try.func16, Try.ntmps16
    go_wp2_with (first | (go_at_call 23; refine (is_is _ _ _ _ _ _ hn HI).mono ?_; rintro e w2 ⟨rfl, rfl⟩))
    go_ret
    exact ⟨ret_bool HV.out.symm, rfl⟩

theorem clone_any (A : Option Addr) (n c : Nat) (P S U : Nat → Int) (base : Nat) (w : World) (h : Quotes w w.heap.size A n P S U) (hnil : A = none → c = 0) (hn : n ≤ 200) (hbase : base ≤ w.heap.size) :
    Calls Try.prog 22 #[.slice A n c] w fun e w' => ∃ v, e = .returned v ∧ Own w' base 34 3 v n (quoteV P S U) ∧ Below w.heap.size w w' := by
  obtain ⟨i0, hi, hz0, hz1, hz2⟩ := info_parts infoQuote
  rcases A with _ | ad
  · obtain rfl := hnil rfl
    obtain rfl := h.1 rfl
    clear h hnil
    have e1 := fun (W : World) => Lib.run_eql_slice_nil (P := Try.prog) W 28 34 none 0 0 0 0 Try.underlying28
    go_enter Try.func22, Try.ntmps22
    go_wp2
    go_ret
    exact ⟨_, rfl, own_nil _ _ _ _ _, Below.refl _ _⟩
  · have e1 := fun (W : World) => Lib.run_eql_slice_nil (P := Try.prog) W 28 34 (some ad) n c 0 0 Try.underlying28
    have h' : Quotes (w.alloc (.cells #[] 34)) w.heap.size (some ad) n P S U := Recs.below h (bAlloc (Below.refl _ _) _)
    have HA := Lib.hid h'
    clear h h'
    go_enter Try.func22, Try.ntmps22
    go_wp2_with (at_builtin; refine append_rows rfl _ _ 28 rfl base 34 i0 (.agg #[.int .i64 0, .int .i64 0, .int .u64 0]) 3 24 (by omega) Try.underlying28 hi hz0 hz1 hz2 rfl _ 0 (quoteV P S U) (by rfl) (own_empty _ _ _ _ _ hbase) w.heap.size (some ad) n c (quoteV P S U) rfl HA.out (fun _ _ _ _ => quote_one _ _ _ _ _) (fun e => (by cases e)) (by unfold maxLen; omega) (by omega) (by simp; omega) ?_; intro v1 w1 hown hgrow)
    go_ret
    refine ⟨_, rfl, ?_, ?_⟩
    · have := hown
      rw [Nat.zero_add] at this
      exact this.congr (by omega) (fun i j _ _ => by simp)
    · have := hgrow
      exact below_grown (E := 34) (sz := 3) (V := quoteV P S U) (bAlloc (Below.refl _ _) _) (own_empty _ _ _ _ _ (Nat.le_refl _)) hgrow

theorem copied_any (A : Option Addr) (n c : Nat) (P S U : Nat → Int) (base : Nat) (w : World) (h : Quotes w w.heap.size A n P S U) (hnil : A = none → c = 0) (hn : n ≤ 200) (hbase : base ≤ w.heap.size) :
    Calls Try.prog 24 #[.slice A n c] w fun e w' => ∃ v, e = .returned v ∧ Own w' base 34 3 v n (quoteV P S U) ∧ Below w.heap.size w w' := by
  obtain ⟨i0, hi, hz0, hz1, hz2⟩ := info_parts infoQuote
  have HA := Lib.hid h
  have HN := Lib.hid hnil
  clear h hnil
  go_enter Try.func24, Try.ntmps24
  go_wp2_with (at_builtin; refine append_rows rfl _ _ 28 rfl base 34 i0 (.agg #[.int .i64 0, .int .i64 0, .int .u64 0]) 3 24 (by omega) Try.underlying28 hi hz0 hz1 hz2 rfl _ 0 (quoteV P S U) (by rfl) (own_nil _ _ _ _ _) w.heap.size A n c (quoteV P S U) rfl HA.out (fun _ _ _ _ => quote_one _ _ _ _ _) HN.out (by unfold maxLen; omega) (by omega) hbase ?_; intro v1 w1 hown hgrow)
  go_ret
  refine ⟨_, rfl, ?_, ?_⟩
  · have := hown
    rw [Nat.zero_add] at this
    exact this.congr (by omega) (fun i j _ _ => by simp)
  · exact below_grown (E := 34) (sz := 3) (V := quoteV P S U) (Below.refl _ _) (own_nil _ _ _ _ _) hgrow
end Go.Proofs.Ytgaeelhbdgpobaa.Black
