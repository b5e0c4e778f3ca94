
/- Layer 14: the pools of a market that are open. -/
import Derived.Test.YtgaeelhbdgpobaaBlackE
import Derived.Test.YtgaeelhbdgpobaaCfgP
namespace Go.Proofs.Ytgaeelhbdgpobaa.Black
open Go.ChangeShapes Go.WideShapes Go.ChangeAt Go.RowKit
open Mem Arr Lst

/-- pools, of which the market alone is known -/
def Pools (w : World) (B : Nat) (A : Option Addr) (n : Nat) (M : Nat → Bool) : Prop := ∃ V, Recs w B A n 4 V ∧ ∀ i, i < n → V i 1 = .bool (M i)
theorem Pools.later {w w' : World} {A : Option Addr} {n : Nat} {M : Nat → Bool} (h : Pools w w.heap.size A n M) (hb : Below w.heap.size w w') : Pools w' w'.heap.size A n M := by
  obtain ⟨V, h1, h2⟩ := h
  exact ⟨V, h1.later hb, h2⟩
theorem pool_at {w : World} {A : Option Addr} {n : Nat} {M : Nat → Bool} (h : Pools w w.heap.size A n M) {k : Nat} (hk : k < n) : ∃ b off, A = some ⟨b, off, none⟩ ∧ b < w.heap.size ∧ w.cell? ⟨b, off + k * 4 + 1, none⟩ = some (.bool (M k)) := by
  obtain ⟨V, h1, h2⟩ := h
  obtain ⟨b, off, e, hlt, hc⟩ := h1.2 (by omega)
  refine ⟨b, off, e, hlt, ?_⟩
  have := hc k 1 hk (by omega)
  rw [← Nat.add_assoc] at this
  rw [this, h2 k hk]
def pickB (n : Nat) (P U : Nat → Int) (M : Nat → Bool) (spot : Bool) (now : Int) (k : Nat) : Bool := M k == spot && openB n P U k now

theorem open_is (A : Option Addr) (n c : Nat) (P S U : Nat → Int) (p now : Int) (t : Bool) (w : World) (h : Quotes w w.heap.size A n P S U) (hn : n ≤ 9223372036854775807) (ht : Hid (openB n P U p now = t)) :
    Calls Try.prog 16 #[.slice A n c, .int .i64 p, .int .u64 now] w fun e w' => e = .returned (.bool t) ∧ w = w' := by
  have := open_any A n c P S U p now w h hn
  rw [ht.out] at this; exact this
theorem pick_any (A : Option Addr) (n c : Nat) (P S U : Nat → Int) (Ap : Option Addr) (m cp : Nat) (M : Nat → Bool) (spot : Bool) (now : Int) (k : Nat) (p q r s : Nat) (w : World) (h : Quotes w w.heap.size A n P S U) (h' : Pools w w.heap.size Ap m M) (_hk : k < n) (hk' : k < m) (hn : n ≤ 200)
    (hp : w.cell? ⟨p, 0, none⟩ = some (.slice Ap m cp)) (hq : w.cell? ⟨q, 0, none⟩ = some (.bool spot)) (hr : w.cell? ⟨r, 0, none⟩ = some (.slice A n c)) (hs : w.cell? ⟨s, 0, none⟩ = some (.int .u64 now)) :
    Calls Try.prog 27 #[.int .i64 k, .pointer (some ⟨p, 0, none⟩), .pointer (some ⟨q, 0, none⟩), .pointer (some ⟨r, 0, none⟩), .pointer (some ⟨s, 0, none⟩)] w fun e w' => e = .returned (.bool (pickB n P U M spot now k)) ∧ ∃ m, w.drewN m = w' := by
  obtain ⟨b, off, rfl, hbl, c1⟩ := pool_at h' hk'
  have d1 : decide (k < m) = true := decide_eq_true hk'
  have HO := Lib.hid (fun W (hW : Quotes W W.heap.size A n P S U) t (ht : Hid (openB n P U k now = t)) => open_is A n c P S U k now t W hW (by omega) ht)
  have H := Lib.hid h
  clear h h'
  by_cases hM : M k = spot
  · have z : (M k == spot) = true := by simpa using hM
    have HV : Hid (pickB n P U M spot now k = openB n P U k now) := Lib.hid (by unfold pickB; rw [z, Bool.true_and])
    cases ho : openB n P U k now
    all_goals
      have HT := Lib.hid ho
      rw [ho] at HV
      clear ho
      subst hM
      go_enter Try.func27, Try.ntmps27
      go_wp2
      go_quiet (first | (go_at_call_of 16 (Value.slice A n c); exact quietL (HO.out (w.drewN _) H.out _ HT)))
      go_wp2
      go_ret
      exact ⟨ret_bool HV.out.symm, _, rfl⟩
  · have z : (M k == spot) = false := by simpa using hM
    have HV : Hid (pickB n P U M spot now k = false) := Lib.hid (by unfold pickB; rw [z, Bool.false_and])
    go_enter Try.func27, Try.ntmps27
    go_wp2
    go_quiet (fail)
    go_wp2
    go_ret
    exact ⟨ret_bool HV.out.symm, _, rfl⟩
theorem filterOpens_any (A : Option Addr) (n c : Nat) (P S U : Nat → Int) (Ap : Option Addr) (m cp : Nat) (M : Nat → Bool) (spot : Bool) (now : Int) (cnt : Nat) (p q r s : Nat) (w : World) (h : Quotes w w.heap.size A n P S U) (h' : Pools w w.heap.size Ap m M) (hc1 : cnt ≤ n) (hc2 : cnt ≤ m) (hn : n ≤ 200)
    (hp : w.cell? ⟨p, 0, none⟩ = some (.slice Ap m cp)) (hq : w.cell? ⟨q, 0, none⟩ = some (.bool spot)) (hr : w.cell? ⟨r, 0, none⟩ = some (.slice A n c)) (hs : w.cell? ⟨s, 0, none⟩ = some (.int .u64 now)) (hpl : p < w.heap.size) (hql : q < w.heap.size) (hrl : r < w.heap.size) (hsl : s < w.heap.size) :
    Calls Try.prog 25 #[.int .i64 cnt, .func (.func 27) #[] #[.pointer (some ⟨p, 0, none⟩), .pointer (some ⟨q, 0, none⟩), .pointer (some ⟨r, 0, none⟩), .pointer (some ⟨s, 0, none⟩)]] w fun e w' => ∃ v, e = .returned v ∧ Own w' w.heap.size 3 v (sel (pickB n P U M spot now) cnt).length (placeV (sel (pickB n P U M spot now) cnt)) ∧ Below w.heap.size w w' := by
  obtain ⟨i0, hi, hz0, hz1, hz2⟩ := info_parts infoInt
  have H := Lib.hid h
  have H' := Lib.hid h'
  clear h h'
  go_enter Try.func25, Try.ntmps25
  go_wp2
  go_loopw [5, 8] (fun l i wr => ∃ k : Nat, k ≤ cnt ∧ i = .int .i64 k ∧ Own wr w.heap.size 3 l (sel (pickB n P U M spot now) k).length (placeV (sel (pickB n P U M spot now) k)) ∧ Below w.heap.size w wr) (fun _ i _ => cnt - (intOf i).toNat)
  case atStart => exact ⟨0, by omega, rfl, own_nil _ _ _ _, Below.refl _ _⟩
  case round =>
    obtain ⟨k, hk, rfl, hown, hb⟩ := hrel
    by_cases hlt : k < cnt
    · have hpc := hp
      have hqc := hq
      have hrc := hr
      have hsc := hs
      rw [← (bcell hb).1 p 0 hpl] at hpc
      rw [← (bcell hb).1 q 0 hql] at hqc
      rw [← (bcell hb).1 r 0 hrl] at hrc
      rw [← (bcell hb).1 s 0 hsl] at hsc
      have C := Lib.hid (fun (W : World) (hW : Below w.heap.size w W) a b x y => pick_any A n c P S U Ap m cp M spot now k p q r s W (H.out.later hW) (H'.out.later hW) (by omega) (by omega) hn a b x y)
      have hL := sel_len (pickB n P U M spot now) k
      by_cases hd : pickB n P U M spot now k = true
      · have D := Lib.hid hd
        have EL := Lib.hid (sel_yes hd)
        clear hd
        go_wp2_with fail
        refine (C.out _ hb hpc hqc hrc hsc).mono ?_
        rintro e w2 ⟨rfl, mm, rfl⟩
        have own2 : Own (wr.drewN mm) w.heap.size 3 u5 (sel (pickB n P U M spot now) k).length (placeV (sel (pickB n P U M spot now) k)) := hown
        have hb2 := bDrewN mm hb
        clear hown hb hpc hqc hrc hsc
        obtain ⟨A1, cap1, rfl, -, -, -, -⟩ := own2.shape
        rw [D.out]
        go_wp2_with (at_builtin; refine append_list rfl _ _ 41 rfl w.heap.size 3 i0 (.int .i64 0) 8 Try.underlying41 hi hz0 hz1 hz2 rfl _ (sel (pickB n P U M spot now) k).length (placeV (sel (pickB n P U M spot now) k)) (by rfl) (own2.alloc _) ((wr.drewN mm).heap.size + 1) (some ⟨(wr.drewN mm).heap.size, 0, none⟩) 1 1 (fun _ => .int .i64 (k : Int)) rfl (reads_new _ _ _) (fun _ _ => rfl) (fun e => (by cases e)) (by unfold maxLen; omega) (by omega) (by have := hb2.size; simp at *; omega) ?_; intro v1 w4 hown4 hgrow)
        have hb5 := below_grown (bAlloc hb2 _) (own2.alloc _) hgrow
        go_roundw
        case rel => exact ⟨k + 1, by omega, by go_num, by rw [EL.out, List.length_append]; exact hown4.congr (fun i hi => place_push _ _ _ hi), hb5⟩
        case measure => simp [intOf]; omega
      · have D : Hid (pickB n P U M spot now k = false) := Lib.hid (by simpa using hd)
        have EL := Lib.hid (sel_no D.out)
        clear hd
        go_wp2_with fail
        refine (C.out _ hb hpc hqc hrc hsc).mono ?_
        rintro e w2 ⟨rfl, mm, rfl⟩
        have own2 : Own (wr.drewN mm) w.heap.size 3 u5 (sel (pickB n P U M spot now) k).length (placeV (sel (pickB n P U M spot now) k)) := hown
        have hb2 := bDrewN mm hb
        clear hown hb hpc hqc hrc hsc
        rw [D.out]
        go_wp2
        go_roundw
        case rel => exact ⟨k + 1, by omega, by go_num, by rw [EL.out]; exact own2, hb2⟩
        case measure => simp [intOf]; omega
    · obtain rfl : k = cnt := by omega
      go_wp2
      go_ret
      exact ⟨_, rfl, hown, hb⟩

theorem own_low {w : World} {b b0 : Nat} {E : TypeId} {v : Value} {n : Nat} {f : Nat → Value} (h : Own w b E v n f) (hle : b0 ≤ b) : Own w b0 E v n f := by
  refine ⟨h.1, ?_⟩
  rcases h.2 with h' | ⟨g, cap, cur, h', hbg, r⟩
  · exact .inl h'
  · exact .inr ⟨g, cap, cur, h', by omega, r⟩
def opens (n m : Nat) (P U : Nat → Int) (M : Nat → Bool) (spot : Bool) (now : Int) : List Nat := sel (pickB n P U M spot now) (min m n)
theorem opens_len (n m : Nat) (P U : Nat → Int) (M : Nat → Bool) (spot : Bool) (now : Int) : (opens n m P U M spot now).length ≤ n := by
  have := sel_len (pickB n P U M spot now) (min m n)
  unfold opens; omega
theorem opens_any (cf : Cfg) (A : Option Addr) (n c : Nat) (P S U : Nat → Int) (M : Nat → Bool) (spot : Bool) (now : Int) (w : World) (h : Quotes w w.heap.size A n P S U) (h' : Pools w w.heap.size cf.pA cf.pN M) (hn : n ≤ 200) :
    Calls Try.prog 19 #[cf.val, .slice A n c, .bool spot, .int .u64 now] w fun e w' => ∃ v, e = .returned v ∧ Own w' w.heap.size 3 v (opens n cf.pN P U M spot now).length (placeV (opens n cf.pN P U M spot now)) ∧ Below w.heap.size w w' := by
  have f0 := cf.f0
  have hp : ((((w.alloc (.cells cf.cells 27)).alloc (.cells #[.slice A n c] 28)).alloc (.cells #[.bool spot] 4)).alloc (.cells #[.int .u64 now] 23)).cell? ⟨w.heap.size, 0, none⟩ = some (.slice cf.pA cf.pN cf.pC) := by go_simp
  have hr : ((((w.alloc (.cells cf.cells 27)).alloc (.cells #[.slice A n c] 28)).alloc (.cells #[.bool spot] 4)).alloc (.cells #[.int .u64 now] 23)).cell? ⟨w.heap.size + 1, 0, none⟩ = some (.slice A n c) := by go_simp
  have hq : ((((w.alloc (.cells cf.cells 27)).alloc (.cells #[.slice A n c] 28)).alloc (.cells #[.bool spot] 4)).alloc (.cells #[.int .u64 now] 23)).cell? ⟨w.heap.size + 2, 0, none⟩ = some (.bool spot) := by go_simp
  have hs : ((((w.alloc (.cells cf.cells 27)).alloc (.cells #[.slice A n c] 28)).alloc (.cells #[.bool spot] 4)).alloc (.cells #[.int .u64 now] 23)).cell? ⟨w.heap.size + 3, 0, none⟩ = some (.int .u64 now) := by go_simp
  have hB0 : Below w.heap.size w ((((w.alloc (.cells cf.cells 27)).alloc (.cells #[.slice A n c] 28)).alloc (.cells #[.bool spot] 4)).alloc (.cells #[.int .u64 now] 23)) := bAlloc (bAlloc (bAlloc (bAlloc (Below.refl _ _) _) _) _) _
  have hz : ((((w.alloc (.cells cf.cells 27)).alloc (.cells #[.slice A n c] 28)).alloc (.cells #[.bool spot] 4)).alloc (.cells #[.int .u64 now] 23)).heap.size = w.heap.size + 4 := by simp
  have HS := Lib.hid (filterOpens_any A n c P S U cf.pA cf.pN cf.pC M spot now (min cf.pN n) w.heap.size (w.heap.size + 2) (w.heap.size + 1) (w.heap.size + 3) _ (h.later hB0) (h'.later hB0) (by omega) (by omega) hn hp hq hr hs (by omega) (by omega) (by omega) (by omega))
  have HB0 := Lib.hid hB0
  clear h h' hp hq hr hs hz hB0
  by_cases hmn : cf.pN ≤ n
  · have e : min cf.pN n = cf.pN := by omega
    have e2 : Hid (opens n cf.pN P U M spot now = sel (pickB n P U M spot now) cf.pN) := Lib.hid (by unfold opens; rw [e])
    rw [e] at HS
    clear e
    have hmn' : (cf.pN : Int) ≤ (n : Int) := by omega
    go_enter Try.func19, Try.ntmps19
    go_wp2_with fail
    refine HS.out.mono ?_
    rintro e w2 ⟨v, rfl, own2, hb2⟩
    go_wp2
    go_ret
    exact ⟨_, rfl, by rw [e2.out]; exact own_low own2 (by simp; omega), bTrans HB0.out hb2⟩
  · have e : min cf.pN n = n := by omega
    have e2 : Hid (opens n cf.pN P U M spot now = sel (pickB n P U M spot now) n) := Lib.hid (by unfold opens; rw [e])
    rw [e] at HS
    clear e
    have hmn' : (n : Int) < (cf.pN : Int) := by omega
    go_enter Try.func19, Try.ntmps19
    go_wp2_with fail
    refine HS.out.mono ?_
    rintro e w2 ⟨v, rfl, own2, hb2⟩
    go_wp2
    go_ret
    exact ⟨_, rfl, by rw [e2.out]; exact own_low own2 (by simp; omega), bTrans HB0.out hb2⟩
end Go.Proofs.Ytgaeelhbdgpobaa.Black
