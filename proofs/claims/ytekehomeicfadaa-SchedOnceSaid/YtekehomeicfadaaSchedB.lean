
/- Contracts of layer 23: a list of ticks that is cloned; the ticks behind now. -/
import Derived.Test.YtekehomeicfadaaSched
import Derived.WalkSpells
namespace Go.Proofs.Ytekehomeicfadaa.Sched
open Go.ChangeShapes Go.WideShapes Go.ChangeAt Go.RowKit
open Mem Arr Lst Rec

theorem infoTick : (Try.prog.info? 24).map (fun i => (i.zero, i.size, i.bytes)) = some (some (.int .u64 0), 1, 8) := by kernel_rfl
def tickV (f : Nat → Int) (i : Nat) : Value := .int .u64 (f i)

theorem clone_any (A : Option Addr) (n c : Nat) (f : Nat → Int) (w : World) (h : Reads w w.heap.size A n (tickV f)) (hnil : A = none → c = 0) (hn : n ≤ 17592186044415) :
    Calls Try.prog 13 #[.slice A n c] w fun e w' => ∃ v, e = .returned v ∧ Own w' w.heap.size 24 v n (tickV f) ∧ Below w.heap.size w w' := by
  obtain ⟨i0, hi, hz0, hz1, hz2⟩ := info_parts infoTick
  rcases A with _ | ad
  · obtain rfl := hnil rfl
    obtain rfl := h.1 rfl
    clear h hnil
    have e1 := fun (W : World) => Lib.run_eql_slice_nil (P := Try.prog) W 23 24 none 0 0 0 0 Try.underlying23
    go_enter Try.func13, Try.ntmps13
    go_wp2
    go_ret
    exact ⟨_, rfl, own_nil _ _ _ _, Below.refl _ _⟩
  · have e1 := fun (W : World) => Lib.run_eql_slice_nil (P := Try.prog) W 23 24 (some ad) n c 0 0 Try.underlying23
    have h' : Reads (w.alloc (.cells #[] 24)) w.heap.size (some ad) n (tickV f) := Recs.below h (bAlloc (Below.refl _ _) _)
    have HA := Lib.hid h'
    clear h h'
    go_enter Try.func13, Try.ntmps13
    go_wp2_with (at_builtin; refine append_list rfl _ _ 23 rfl w.heap.size 24 i0 (.int .u64 0) 8 Try.underlying23 hi hz0 hz1 hz2 rfl _ 0 (tickV f) (by rfl) (own_empty _ _ _ _ (Nat.le_refl _)) w.heap.size (some ad) n c (tickV f) rfl HA.out (fun _ _ => rfl) (fun e => (by cases e)) (by unfold maxLen; omega) (by omega) (by simp) ?_; intro v1 w1 hown hgrow)
    go_ret
    refine ⟨_, rfl, ?_, ?_⟩
    · have := hown
      rw [Nat.zero_add] at this
      exact this.congr (fun i hi => by simp)
    · exact below_grown (bAlloc (Below.refl _ _) _) (own_empty _ _ _ (tickV f) (Nat.le_refl _)) hgrow

theorem may_is (A : Option Addr) (n c : Nat) (P E D : Nat → Int) (now : Int) (t : Bool) (w : World) (h : Plans w w.heap.size A n P E D) (hn : n ≤ 9223372036854775807) (ht : Hid (mayB P E n now = t)) :
    Calls Try.prog 14 #[.slice A n c, .int .u64 now] w fun e w' => e = .returned (.bool t) ∧ Below w.heap.size w w' := by
  have := may_any A n c P E D now w h hn
  rw [ht.out] at this; exact this
theorem may_yes {P E : Nat → Int} {n : Nat} {now : Int} (h : mayB P E n now = true) : now ≤ 1099511627776 ∧ n ≤ 16 ∧ ∀ i, i < n → P i ≤ 1099511627776 ∧ E i ≤ 65536 := by
  have := of_decide_eq_true h
  exact ⟨this.1, this.2.1, fun i hi => of_decide_eq_true (this.2.2 i hi)⟩
/-- what comes of a list whose first k things are set -/
def part (k : Nat) (f g : Nat → Int) (i : Nat) : Value := .int .u64 (if i < k then f i else g i)
theorem part_step (k : Nat) (f g : Nat → Int) (i : Nat) : (if i = k then Value.int .u64 (f k) else part k f g i) = part (k + 1) f g i := by
  unfold part
  by_cases h : i = k
  · subst h; rw [if_pos rfl, if_pos (by omega)]
  · rw [if_neg h]
    by_cases h' : i < k
    · rw [if_pos h', if_pos (by omega)]
    · rw [if_neg h', if_neg (by omega)]
theorem part_keep (k : Nat) (f g : Nat → Int) (h : f k = g k) (i : Nat) : part k f g i = part (k + 1) f g i := by
  unfold part
  by_cases h' : i < k
  · rw [if_pos h', if_pos (by omega)]
  · rw [if_neg h']
    by_cases e : i = k
    · subst e; rw [if_pos (by omega), h]
    · rw [if_neg (by omega)]
theorem nextV_bd {p e now : Int} (hp : 0 ≤ p) (hp' : p ≤ 1099511627776) (he : 0 ≤ e) (he' : e ≤ 65536) (hn' : now ≤ 1099511627776) : 0 ≤ behindV p e now ∧ behindV p e now ≤ 1099511627776 := by
  unfold behindV
  split
  · omega
  · split
    · omega
    · have := mul_bd hp (show 1 ≤ e by omega) he' hn' (by omega)
      split <;> omega

/-- the ticks behind now -/
def nexts (P E : Nat → Int) (now : Int) (i : Nat) : Int := behindV (P i) (E i) now
def beginN (P E : Nat → Int) (n : Nat) (now : Int) : Nat := if mayB P E n now = true then n else 0

set_option maxHeartbeats 1000000 in
theorem begin_any (A : Option Addr) (n c : Nat) (P E D : Nat → Int) (now : Int) (w : World) (h : Plans w w.heap.size A n P E D) (hn : n ≤ 9223372036854775807) (hnow : 0 ≤ now) (hpe : ∀ i, i < n → 0 ≤ P i ∧ 0 ≤ E i) :
    Calls Try.prog 10 #[.slice A n c, .int .u64 now] w fun e w' => ∃ v, e = .returned v ∧ Own w' w.heap.size 24 v (beginN P E n now) (tickV (nexts P E now)) ∧ Below w.heap.size w w' := by
  have H := Lib.hid h
  have HP := Lib.hid hpe
  clear h hpe
  rcases hm : mayB P E n now with _ | _
  · have HN : Hid (beginN P E n now = 0) := Lib.hid (by unfold beginN; rw [hm]; rfl)
    have M := Lib.hid hm
    clear hm
    go_enter Try.func10, Try.ntmps10
    go_wp2_with (first | (go_at_call 14; refine (may_is _ _ _ _ _ _ _ _ _ H.out hn M).mono ?_; rintro e w1 ⟨rfl, hb⟩))
    go_ret
    exact ⟨_, rfl, by rw [HN.out]; exact own_nil _ _ _ _, hb⟩
  · have Y := may_yes hm
    have HN : Hid (beginN P E n now = n) := Lib.hid (by unfold beginN; rw [hm]; rfl)
    have M := Lib.hid hm
    clear hm
    obtain ⟨y1, y2, y3⟩ := Y
    have Y3 := Lib.hid y3
    clear y3
    obtain ⟨i0, hi, hz0, hz1, hz2⟩ := info_parts infoTick
    go_enter Try.func10, Try.ntmps10
    go_wp2_with (first | (go_at_call 14; refine (may_is _ _ _ _ _ _ _ _ _ H.out hn M).mono ?_; rintro e w1 ⟨rfl, hb⟩) | (refine wpList_make_full _ rfl _ _ 23 rfl w.heap.size 24 i0 (.int .u64 0) 1 Try.underlying23 hi hz0 hz1 .i64 .i64 n n n rfl rfl rfl rfl (by rw [hz2]; omega) (by unfold maxLen; omega) hb.size ?_; intro w2 hown hgrow))
    have own0 : Own w2 w.heap.size 24 (.slice (some ⟨w1.heap.size, 0, none⟩) n n) n (part 0 (nexts P E now) (fun _ => 0)) := by
      have := hown
      rw [show (Value.int .u64 0).cells = #[.int .u64 0] from rfl, toList_madeCells_one, Nat.mul_one] at this
      have e : List.replicate n (Value.int .u64 0) = vals n (part 0 (nexts P E now) (fun _ => 0)) := by
        apply List.ext_getElem?
        intro i
        rcases Nat.lt_or_ge i n with h | h
        · rw [vals_at h]; simp [h, part]
        · rw [List.getElem?_eq_none (by simpa using h), List.getElem?_eq_none (by rw [vals_length]; exact h)]
      rw [e] at this; exact this
    have hb2 : Below w.heap.size w w2 := hb.grown hgrow hb.size (fun k hk => by cases hk)
    have hg := hb.size
    clear hown hgrow
    go_wp2
    go_loopw [17] (fun i wr => ∃ k : Nat, k ≤ n ∧ i = .int .i64 k ∧ Own wr w.heap.size 24 (.slice (some ⟨w1.heap.size, 0, none⟩) n n) n (part k (nexts P E now) (fun _ => 0)) ∧ Below w.heap.size w wr) (fun i _ => n - (intOf i).toNat)
    case atStart => exact ⟨0, by omega, rfl, own0, hb2⟩
    case round =>
      obtain ⟨k, hk, rfl, hown, hbr⟩ := hrel
      by_cases hlt : k < n
      · obtain ⟨b, off, rfl⟩ := plans_at H.out (by omega)
        obtain ⟨hbl, c0, c1, c2⟩ := plan_cells H.out hbr rfl hlt
        obtain ⟨p0, p1⟩ := HP.out k hlt
        obtain ⟨p2, p3⟩ := Y3.out k hlt
        have C := Lib.hid (fun w => behind_any (P k) (E k) (D k) now w p0 p2 p1 p3 hnow y1)
        have hwf : w1.heap.size < wr.heap.size := by
          obtain ⟨g, cap, e, _, h2, _⟩ := hown.form (by omega)
          injection e with e
          injection e with e
          injection e with e
          omega
        go_wp2_with (first | (go_at_call 15; refine (C.out _).mono ?_; rintro e w3 ⟨rfl, b3⟩; have own3 := (hown.alloc (.cells #[.int .u64 (P k), .int .u64 (E k), .int .i64 (D k)] 33)).later b3 (Nat.le_refl _); have hc3 := own3.cell hlt; have hf3 := own3.free k))
        go_roundw
        case rel => exact ⟨k + 1, by omega, by go_num, (own3.stored _).congr (fun i hi => part_step k _ _ i), bSet (bTrans (bAlloc hbr _) b3) (by simpa using hg) _⟩
        case measure => simp [intOf]; omega
      · go_wp2
        go_ret
        refine ⟨_, rfl, ?_, hbr⟩
        rw [HN.out]
        exact hown.congr (fun i hi => by unfold part tickV; rw [if_pos (by omega)])
end Go.Proofs.Ytekehomeicfadaa.Sched
