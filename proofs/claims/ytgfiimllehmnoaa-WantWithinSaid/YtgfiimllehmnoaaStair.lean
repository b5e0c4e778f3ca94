
/- Contracts of layer 22: which bands may be; the program's and the document's. -/
import Derived.Test.YtgfiimllehmnoaaNumB
import Derived.Test.YtgfiimllehmnoaaArr
import Derived.Deep.RegionWith
namespace Go.Proofs.Ytgfiimllehmnoaa.Stair
open Go.ChangeShapes Go.WideShapes Go.ChangeAt Go.RowKit
open NumM NumA Mem Arr

/-- bands as values: From and Add of each -/
def bandV (F G : Nat → Int) (i j : Nat) : Value := if j = 0 then .int .i64 (F i) else .int .i64 (G i)
def okAt (F G : Nat → Int) (i : Nat) : Bool := decide (-1048576 ≤ F i ∧ F i ≤ 1048576 ∧ -65536 ≤ G i ∧ G i ≤ 65536 ∧ (0 < i → F (i - 1) < F i))
def mayB (F G : Nat → Int) (n : Nat) : Bool := decide (n ≤ 8 ∧ ∀ i, i < n → okAt F G i = true)
/-- what a walk is told of a list of bands -/
def Bands (w : World) (B : Nat) (A : Option Addr) (n : Nat) (F G : Nat → Int) : Prop := Recs w B A n 2 (bandV F G)

theorem within_is (n low high : Int) (t : Bool) (ht : Hid (decide (low ≤ n ∧ n ≤ high) = t)) (w : World) :
    Calls Try.prog 17 #[.int .i64 n, .int .i64 low, .int .i64 high] w fun e w' => e = .returned (.bool t) ∧ w = w' := by
  by_cases h1 : low ≤ n
  · have HV : Hid (decide (n ≤ high) = t) := Lib.hid (by rw [← ht.out]; by_cases h : n ≤ high <;> simp [h, h1])
    clear ht
    go_enter Try.func17, Try.ntmps17
    go_wp2
    go_ret
    exact ⟨ret_bool HV.out, rfl⟩
  · have HV : Hid (false = t) := Lib.hid (by rw [← ht.out]; simp [h1])
    clear ht
    go_enter Try.func17, Try.ntmps17
    go_wp2
    go_ret
    exact ⟨ret_bool HV.out, rfl⟩

/-- the cells of a band, in a later world -/
theorem band_cells {w wr : World} {A : Option Addr} {n : Nat} {F G : Nat → Int} (h : Bands w w.heap.size A n F G) (hb : Below w.heap.size w wr) {b off : Nat} (hA : A = some ⟨b, off, none⟩) {k : Nat} (hk : k < n) :
    b < wr.heap.size ∧ wr.cell? ⟨b, off + k * 2, none⟩ = some (.int .i64 (F k)) ∧ wr.cell? ⟨b, off + k * 2 + 1, none⟩ = some (.int .i64 (G k)) := by
  obtain ⟨b', off', e, hlt, hc⟩ := (h.later hb).2 (by omega)
  rw [hA] at e
  injection e with e
  injection e with e1 e2
  subst e1; subst e2
  refine ⟨hlt, ?_, ?_⟩
  · have := hc k 0 hk (by omega)
    rw [Nat.add_zero] at this; rw [this]; rfl
  · have := hc k 1 hk (by omega)
    rw [← Nat.add_assoc] at this; rw [this]; rfl
theorem bands_at {w : World} {A : Option Addr} {n : Nat} {F G : Nat → Int} (h : Bands w w.heap.size A n F G) (hn : 0 < n) : ∃ b off, A = some ⟨b, off, none⟩ := by
  obtain ⟨b, off, e, _⟩ := h.2 hn
  exact ⟨b, off, e⟩

theorem ok_step {F G : Nat → Int} {k : Nat} (h : ∀ j, j < k → okAt F G j = true) (hk : okAt F G k = true) : ∀ j, j < k + 1 → okAt F G j = true := by
  intro j hj
  rcases Nat.lt_succ_iff_lt_or_eq.1 hj with h1 | rfl
  · exact h j h1
  · exact hk

set_option maxHeartbeats 2000000 in
theorem may_any (A : Option Addr) (n c : Nat) (F G : Nat → Int) (w : World) (h : Bands w w.heap.size A n F G) (hn : n ≤ 9223372036854775807) :
    Calls Try.prog 16 #[.slice A n c] w fun e w' => e = .returned (.bool (mayB F G n)) ∧ Below w.heap.size w w' := by
  by_cases h8 : n ≤ 8
  · have H := Lib.hid h
    clear h
    go_enter Try.func16, Try.ntmps16
    go_wp2
    go_loopw [10] (fun i wr => ∃ k : Nat, k ≤ n ∧ i = .int .i64 k ∧ Hid (∀ j, j < k → okAt F G j = true) ∧ Below w.heap.size w wr) (fun i _ => n - (intOf i).toNat)
    case atStart => exact ⟨0, by omega, rfl, Lib.hid (fun j hj => absurd hj (by omega)), Below.refl _ _⟩
    case round =>
      obtain ⟨k, hk, rfl, ho, hb⟩ := hrel
      by_cases hlt : k < n
      · obtain ⟨b, off, rfl⟩ := bands_at H.out (by omega)
        obtain ⟨hbl, c0, c1⟩ := band_cells H.out hb rfl hlt
        have hne : b ≠ wr.heap.size := by omega
        by_cases w1 : -1048576 ≤ F k ∧ F k ≤ 1048576
        · have W1 : Hid (decide (-1048576 ≤ F k ∧ F k ≤ 1048576) = true) := Lib.hid (decide_eq_true w1)
          by_cases w2 : -65536 ≤ G k ∧ G k ≤ 65536
          · have W2 : Hid (decide (-65536 ≤ G k ∧ G k ≤ 65536) = true) := Lib.hid (decide_eq_true w2)
            by_cases h0 : k = 0
            · have hk0 : decide (0 < k) = false := decide_eq_false (by omega)
              have HK : Hid (∀ j, j < k + 1 → okAt F G j = true) := Lib.hid (ok_step ho.out (decide_eq_true ⟨w1.1, w1.2, w2.1, w2.2, fun h => absurd h (by omega)⟩))
              clear w1 w2 ho h0
              go_wp2
              go_quiet (first | (go_at_call_of 17 (Value.int .i64 (F k)); exact quietL (within_is _ _ _ _ W1 _)) | (go_at_call_of 17 (Value.int .i64 (G k)); exact quietL (within_is _ _ _ _ W2 _)))
              go_wp2
              go_roundw
              case rel => exact ⟨k + 1, by omega, by go_num, HK, bDrewN _ (bAlloc hb _)⟩
              case measure => simp [intOf]; omega
            · obtain ⟨_, d0, _⟩ := band_cells H.out hb rfl (k := k - 1) (by omega)
              have hk0 : decide (0 < k) = true := decide_eq_true (by omega)
              have hk1 : (1 : Int) ≤ (k : Int) := by omega
              have e1 : off + (k - 1) * 2 = off + (k - 1) * 2 := rfl
              by_cases w3 : F (k - 1) < F k
              · have HK : Hid (∀ j, j < k + 1 → okAt F G j = true) := Lib.hid (ok_step ho.out (decide_eq_true ⟨w1.1, w1.2, w2.1, w2.2, fun _ => w3⟩))
                have hle : decide (F k ≤ F (k - 1)) = false := decide_eq_false (by omega)
                clear w1 w2 ho e1 w3
                go_wp2
                go_quiet (first | (go_at_call_of 17 (Value.int .i64 (F k)); exact quietL (within_is _ _ _ _ W1 _)) | (go_at_call_of 17 (Value.int .i64 (G k)); exact quietL (within_is _ _ _ _ W2 _)))
                go_wp2
                go_roundw
                case rel => exact ⟨k + 1, by omega, by go_num, HK, bDrewN _ (bAlloc hb _)⟩
                case measure => simp [intOf]; omega
              · have HV : Hid (mayB F G n = false) := Lib.hid (decide_eq_false fun h => by have := of_decide_eq_true (h.2 k hlt); omega)
                have hle : decide (F k ≤ F (k - 1)) = true := decide_eq_true (by omega)
                clear w1 w2 ho e1 w3
                go_wp2
                go_quiet (first | (go_at_call_of 17 (Value.int .i64 (F k)); exact quietL (within_is _ _ _ _ W1 _)) | (go_at_call_of 17 (Value.int .i64 (G k)); exact quietL (within_is _ _ _ _ W2 _)))
                go_wp2
                go_ret
                exact ⟨ret_bool HV.out.symm, bDrewN _ (bAlloc hb _)⟩
          · have W2 : Hid (decide (-65536 ≤ G k ∧ G k ≤ 65536) = false) := Lib.hid (decide_eq_false w2)
            have HV : Hid (mayB F G n = false) := Lib.hid (decide_eq_false fun h => by have := of_decide_eq_true (h.2 k hlt); omega)
            clear w1 w2 ho
            go_wp2
            go_quiet (first | (go_at_call_of 17 (Value.int .i64 (F k)); exact quietL (within_is _ _ _ _ W1 _)) | (go_at_call_of 17 (Value.int .i64 (G k)); exact quietL (within_is _ _ _ _ W2 _)))
            go_wp2
            go_ret
            exact ⟨ret_bool HV.out.symm, bDrewN _ (bAlloc hb _)⟩
        · have W1 : Hid (decide (-1048576 ≤ F k ∧ F k ≤ 1048576) = false) := Lib.hid (decide_eq_false w1)
          have HV : Hid (mayB F G n = false) := Lib.hid (decide_eq_false fun h => by have := of_decide_eq_true (h.2 k hlt); omega)
          have W2 := W1
          clear w1 ho
          go_wp2
          go_quiet (first | (go_at_call_of 17 (Value.int .i64 (F k)); exact quietL (within_is _ _ _ _ W1 _)))
          go_wp2
          go_ret
          exact ⟨ret_bool HV.out.symm, bDrewN _ (bAlloc hb _)⟩
      · have HV : Hid (mayB F G n = true) := Lib.hid (decide_eq_true ⟨h8, fun j hj => ho.out j (by omega)⟩)
        go_wp2
        go_ret
        exact ⟨ret_bool HV.out.symm, hb⟩
  · have HV : Hid (mayB F G n = false) := Lib.hid (decide_eq_false (by omega))
    clear h
    go_enter Try.func16, Try.ntmps16
    go_wp2
    go_ret
    exact ⟨ret_bool HV.out.symm, Below.refl _ _⟩
end Go.Proofs.Ytgfiimllehmnoaa.Stair
