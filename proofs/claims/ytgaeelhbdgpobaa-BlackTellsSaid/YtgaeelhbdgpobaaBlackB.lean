
/- Contracts of layer 14: quotes that are refused and told. -/
import Derived.Test.YtgaeelhbdgpobaaBlack
namespace Go.Proofs.Ytgaeelhbdgpobaa.Black
open Go.ChangeShapes Go.WideShapes Go.ChangeAt Go.RowKit
open Mem Arr Lst Go.Proofs.Ytgaeelhbdgpobaa.Row

def refB (n : Nat) (p now span : Int) : Bool := decide ((0 ≤ p ∧ p < n) ∧ now ≤ 1099511627776 ∧ span ≤ 65536)
def refU (n : Nat) (U : Nat → Int) (p now span : Int) (i : Nat) : Int := if refB n p now span = true ∧ i = p.toNat then (if U i < now + span then now + span else U i) else U i
def telB (n : Nat) (p price score : Int) : Bool := decide ((0 ≤ p ∧ p < n) ∧ (1 ≤ price ∧ price ≤ 1073741824) ∧ (0 ≤ score ∧ score ≤ 65536))
def telP (n : Nat) (P : Nat → Int) (p price score : Int) (i : Nat) : Int := if telB n p price score = true ∧ i = p.toNat then price else P i
def telS (n : Nat) (S : Nat → Int) (p price score : Int) (i : Nat) : Int := if telB n p price score = true ∧ i = p.toNat then score else S i
theorem refU_no {n : Nat} {U : Nat → Int} {p now span : Int} (h : refB n p now span = false) : refU n U p now span = U := by
  funext i; unfold refU; rw [h, if_neg (by simp)]
theorem refU_yes {n k : Nat} {P S U : Nat → Int} {now span : Int} (h : refB n k now span = true) (z : Int) (hz : z = if U k < now + span then now + span else U k) (i j : Nat) (hj : j < 3) :
    (if i = k ∧ j = 2 then .int .u64 z else quoteV P S U i j) = quoteV P S (refU n U k now span) i j := by
  unfold quoteV refU
  rw [h]
  by_cases hi : i = k
  · subst hi
    rcases (by omega : j = 0 ∨ j = 1 ∨ j = 2) with rfl | rfl | rfl <;> simp [hz]
  · simp [hi]
theorem tel_no {n : Nat} {P S : Nat → Int} {p price score : Int} (h : telB n p price score = false) : telP n P p price score = P ∧ telS n S p price score = S :=
  ⟨by funext i; unfold telP; rw [h, if_neg (by simp)], by funext i; unfold telS; rw [h, if_neg (by simp)]⟩
theorem tel_yes {n k : Nat} {P S U : Nat → Int} {price score : Int} (h : telB n k price score = true) (i j : Nat) (hj : j < 3) :
    (if i = k ∧ j = 1 then .int .i64 score else if i = k ∧ j = 0 then .int .i64 price else quoteV P S U i j) = quoteV (telP n P k price score) (telS n S k price score) U i j := by
  unfold quoteV telP telS
  rw [h]
  by_cases hi : i = k
  · subst hi
    rcases (by omega : j = 0 ∨ j = 1 ∨ j = 2) with rfl | rfl | rfl <;> simp
  · simp [hi]

theorem own_lower {w : World} {b b0 : Nat} {E : TypeId} {sz : Nat} {v : Value} {n : Nat} {V : Nat → Nat → Value} (h : Own w b E sz v n V) (hle : b0 ≤ b) : Own w b0 E sz v n V := by
  refine ⟨h.1, ?_⟩
  rcases h.2 with h' | ⟨g, cap, cur, h', hbg, r⟩
  · exact .inl h'
  · exact .inr ⟨g, cap, cur, h', by omega, r⟩
theorem refuse_own (A : Option Addr) (n c : Nat) (P S U : Nat → Int) (p now span : Int) (w : World) (h : Quotes w w.heap.size A n P S U) (hnil : A = none → c = 0) (hn : n ≤ 200) (hnow : 0 ≤ now) (hspan : 0 ≤ span) :
    Calls Try.prog 7 #[.slice A n c, .int .i64 p, .int .u64 now, .int .u64 span] w fun e w' => ∃ v, e = .returned v ∧ Own w' w.heap.size 34 3 v n (quoteV P S (refU n U p now span)) ∧ Below w.heap.size w w' := by
  have H := Lib.hid h
  have HN := Lib.hid hnil
  have hn' : n ≤ 9223372036854775807 := by omega
  clear h hnil
  by_cases h0 : 0 ≤ p ∧ p < n
  · obtain ⟨k, rfl⟩ := Int.eq_ofNat_of_zero_le h0.1
    have hk : k < n := by omega
    have HI : Hid (isB n (k : Int) = true) := Lib.hid (decide_eq_true h0)
    by_cases h1 : now ≤ 1099511627776
    · by_cases h2 : span ≤ 65536
      · have HR : Hid (refB n (k : Int) now span = true) := Lib.hid (decide_eq_true ⟨h0, h1, h2⟩)
        clear h0
        go_enter Try.func7, Try.ntmps7
        go_wp2_with fail
        go_at_call 22; refine (clone_any A n c P S U w.heap.size w H.out HN.out hn (Nat.le_refl _)).mono ?_; rintro e w1 ⟨v1, rfl, own1, hb1⟩
        go_wp2_with fail
        go_at_call 23; refine (is_is _ _ _ _ _ _ hn' HI).mono ?_; rintro e w2 ⟨rfl, rfl⟩
        obtain ⟨g, cap, rfl, hg1, hg2, hg3, hg4⟩ := own1.form (by omega)
        have c2 : w1.cell? ⟨g, k * 3 + 2, none⟩ = some (.int .u64 (U k)) := own1.cell hk (by omega)
        have fz : w1.frozen? ⟨g, k * 3 + 2, none⟩ = false := own1.free _
        have HU := fun z hz => refU_yes (P := P) (S := S) (U := U) HR.out z hz
        by_cases h3 : U k < now + span
        all_goals
          go_wp2_with fail
          go_ret
          refine ⟨_, rfl, (own1.stored _ (by omega)).congr (by omega) (fun i j _ hj => HU _ ?_ i j hj), bSet hb1 (by exact hg1) _⟩
          first | rw [if_pos h3] | rw [if_neg (by omega)]
          try omega
      · have HR : Hid (refU n U (k : Int) now span = U) := Lib.hid (refU_no (decide_eq_false (by omega)))
        clear h0
        go_enter Try.func7, Try.ntmps7
        go_wp2_with fail
        go_at_call 22; refine (clone_any A n c P S U w.heap.size w H.out HN.out hn (Nat.le_refl _)).mono ?_; rintro e w1 ⟨v1, rfl, own1, hb1⟩
        go_wp2_with fail
        go_at_call 23; refine (is_is _ _ _ _ _ _ hn' HI).mono ?_; rintro e w2 ⟨rfl, rfl⟩
        go_wp2_with fail
        go_ret
        exact ⟨_, rfl, by rw [HR.out]; exact own1, hb1⟩
    · have HR : Hid (refU n U (k : Int) now span = U) := Lib.hid (refU_no (decide_eq_false (by omega)))
      clear h0
      go_enter Try.func7, Try.ntmps7
      go_wp2_with fail
      go_at_call 22; refine (clone_any A n c P S U w.heap.size w H.out HN.out hn (Nat.le_refl _)).mono ?_; rintro e w1 ⟨v1, rfl, own1, hb1⟩
      go_wp2_with fail
      go_at_call 23; refine (is_is _ _ _ _ _ _ hn' HI).mono ?_; rintro e w2 ⟨rfl, rfl⟩
      go_wp2_with fail
      go_ret
      exact ⟨_, rfl, by rw [HR.out]; exact own1, hb1⟩
  · have HR : Hid (refU n U p now span = U) := Lib.hid (refU_no (decide_eq_false (fun e => h0 e.1)))
    have HI : Hid (isB n p = false) := Lib.hid (decide_eq_false h0)
    clear h0
    go_enter Try.func7, Try.ntmps7
    go_wp2_with fail
    go_at_call 22; refine (clone_any A n c P S U w.heap.size w H.out HN.out hn (Nat.le_refl _)).mono ?_; rintro e w1 ⟨v1, rfl, own1, hb1⟩
    go_wp2_with fail
    go_at_call 23; refine (is_is _ _ _ _ _ _ hn' HI).mono ?_; rintro e w2 ⟨rfl, rfl⟩
    go_wp2_with fail
    go_ret
    exact ⟨_, rfl, by rw [HR.out]; exact own1, hb1⟩
/-! written by g14.py -/
theorem tell_own (A : Option Addr) (n c : Nat) (P S U : Nat → Int) (p price score : Int) (w : World) (h : Quotes w w.heap.size A n P S U) (hnil : A = none → c = 0) (hn : n ≤ 200) :
    Calls Try.prog 8 #[.slice A n c, .int .i64 p, .int .i64 price, .int .i64 score] w fun e w' => ∃ v, e = .returned v ∧ Own w' w.heap.size 34 3 v n (quoteV (telP n P p price score) (telS n S p price score) U) ∧ Below w.heap.size w w' := by
  have H := Lib.hid h
  have HN := Lib.hid hnil
  have hn' : n ≤ 9223372036854775807 := by omega
  clear h hnil
  by_cases h0 : 0 ≤ p ∧ p < n
  · obtain ⟨k, rfl⟩ := Int.eq_ofNat_of_zero_le h0.1
    have hk : k < n := by omega
    have HI : Hid (isB n (k : Int) = true) := Lib.hid (decide_eq_true h0)
    by_cases a0 : 1 ≤ price
    · by_cases a1 : price ≤ 1073741824
      · by_cases a2 : 0 ≤ score
        · by_cases a3 : score ≤ 65536
          · have HR : Hid (telB n (k : Int) price score = true) := Lib.hid (decide_eq_true ⟨h0, ⟨a0, a1⟩, ⟨a2, a3⟩⟩)
            clear h0
            go_enter Try.func8, Try.ntmps8
            go_wp2_with fail
            go_at_call 22; refine (clone_any A n c P S U w.heap.size w H.out HN.out hn (Nat.le_refl _)).mono ?_; rintro e w1 ⟨v1, rfl, own1, hb1⟩
            go_wp2_with fail
            go_at_call 23; refine (is_is _ _ _ _ _ _ hn' HI).mono ?_; rintro e w2 ⟨rfl, rfl⟩
            obtain ⟨g, cap, rfl, hg1, hg2, hg3, hg4⟩ := own1.form (by omega)
            have c0 : w1.cell? ⟨g, k * 3, none⟩ = some (.int .i64 (P k)) := own1.cell hk (j := 0) (by omega)
            have c1 : w1.cell? ⟨g, k * 3 + 1, none⟩ = some (.int .i64 (S k)) := own1.cell hk (by omega)
            have f0 : w1.frozen? ⟨g, k * 3, none⟩ = false := own1.free _
            have f1 : w1.frozen? ⟨g, k * 3 + 1, none⟩ = false := own1.free _
            go_wp2_with fail
            go_ret
            exact ⟨_, rfl, ((own1.stored (j := 0) _ (by omega)).stored (j := 1) _ (by omega)).congr (by omega) (fun i j _ hj => tel_yes HR.out i j hj), bSet (bSet hb1 (by exact hg1) _) (by exact hg1) _⟩
          · have HR : Hid (telP n P (k : Int) price score = P ∧ telS n S (k : Int) price score = S) := Lib.hid (tel_no (decide_eq_false (by omega)))
            clear h0
            go_enter Try.func8, Try.ntmps8
            go_wp2_with fail
            go_at_call 22; refine (clone_any A n c P S U w.heap.size w H.out HN.out hn (Nat.le_refl _)).mono ?_; rintro e w1 ⟨v1, rfl, own1, hb1⟩
            go_wp2_with fail
            go_at_call 23; refine (is_is _ _ _ _ _ _ hn' HI).mono ?_; rintro e w2 ⟨rfl, rfl⟩
            go_wp2_with fail
            go_ret
            exact ⟨_, rfl, by rw [HR.out.1, HR.out.2]; exact own1, hb1⟩
        · have HR : Hid (telP n P (k : Int) price score = P ∧ telS n S (k : Int) price score = S) := Lib.hid (tel_no (decide_eq_false (by omega)))
          clear h0
          go_enter Try.func8, Try.ntmps8
          go_wp2_with fail
          go_at_call 22; refine (clone_any A n c P S U w.heap.size w H.out HN.out hn (Nat.le_refl _)).mono ?_; rintro e w1 ⟨v1, rfl, own1, hb1⟩
          go_wp2_with fail
          go_at_call 23; refine (is_is _ _ _ _ _ _ hn' HI).mono ?_; rintro e w2 ⟨rfl, rfl⟩
          go_wp2_with fail
          go_ret
          exact ⟨_, rfl, by rw [HR.out.1, HR.out.2]; exact own1, hb1⟩
      · have HR : Hid (telP n P (k : Int) price score = P ∧ telS n S (k : Int) price score = S) := Lib.hid (tel_no (decide_eq_false (by omega)))
        clear h0
        go_enter Try.func8, Try.ntmps8
        go_wp2_with fail
        go_at_call 22; refine (clone_any A n c P S U w.heap.size w H.out HN.out hn (Nat.le_refl _)).mono ?_; rintro e w1 ⟨v1, rfl, own1, hb1⟩
        go_wp2_with fail
        go_at_call 23; refine (is_is _ _ _ _ _ _ hn' HI).mono ?_; rintro e w2 ⟨rfl, rfl⟩
        go_wp2_with fail
        go_ret
        exact ⟨_, rfl, by rw [HR.out.1, HR.out.2]; exact own1, hb1⟩
    · have HR : Hid (telP n P (k : Int) price score = P ∧ telS n S (k : Int) price score = S) := Lib.hid (tel_no (decide_eq_false (by omega)))
      clear h0
      go_enter Try.func8, Try.ntmps8
      go_wp2_with fail
      go_at_call 22; refine (clone_any A n c P S U w.heap.size w H.out HN.out hn (Nat.le_refl _)).mono ?_; rintro e w1 ⟨v1, rfl, own1, hb1⟩
      go_wp2_with fail
      go_at_call 23; refine (is_is _ _ _ _ _ _ hn' HI).mono ?_; rintro e w2 ⟨rfl, rfl⟩
      go_wp2_with fail
      go_ret
      exact ⟨_, rfl, by rw [HR.out.1, HR.out.2]; exact own1, hb1⟩
  · have HR : Hid (telP n P p price score = P ∧ telS n S p price score = S) := Lib.hid (tel_no (decide_eq_false (fun e => h0 e.1)))
    have HI : Hid (isB n p = false) := Lib.hid (decide_eq_false h0)
    clear h0
    go_enter Try.func8, Try.ntmps8
    go_wp2_with fail
    go_at_call 22; refine (clone_any A n c P S U w.heap.size w H.out HN.out hn (Nat.le_refl _)).mono ?_; rintro e w1 ⟨v1, rfl, own1, hb1⟩
    go_wp2_with fail
    go_at_call 23; refine (is_is _ _ _ _ _ _ hn' HI).mono ?_; rintro e w2 ⟨rfl, rfl⟩
    go_wp2_with fail
    go_ret
    exact ⟨_, rfl, by rw [HR.out.1, HR.out.2]; exact own1, hb1⟩
theorem refTell_own (A : Option Addr) (n c : Nat) (P S U : Nat → Int) (p price score : Int) (w : World) (h : Quotes w w.heap.size A n P S U) (hnil : A = none → c = 0) (hn : n ≤ 200) :
    Calls Try.prog 11 #[.slice A n c, .int .i64 p, .int .i64 price, .int .i64 score] w fun e w' => ∃ v, e = .returned v ∧ Own w' w.heap.size 34 3 v n (quoteV (telP n P p price score) (telS n S p price score) U) ∧ Below w.heap.size w w' := by
  have H := Lib.hid h
  have HN := Lib.hid hnil
  have hn' : n ≤ 9223372036854775807 := by omega
  clear h hnil
  by_cases h0 : 0 ≤ p ∧ p < n
  · obtain ⟨k, rfl⟩ := Int.eq_ofNat_of_zero_le h0.1
    have hk : k < n := by omega
    by_cases a0 : 1 ≤ price
    · by_cases a1 : price ≤ 1073741824
      · by_cases a2 : 0 ≤ score
        · by_cases a3 : score ≤ 65536
          · have HR : Hid (telB n (k : Int) price score = true) := Lib.hid (decide_eq_true ⟨h0, ⟨a0, a1⟩, ⟨a2, a3⟩⟩)
            clear h0
            go_enter Try.func11, Try.ntmps11
            go_wp2_with fail
            go_at_call 24; refine (copied_any A n c P S U w.heap.size w H.out HN.out hn (Nat.le_refl _)).mono ?_; rintro e w1 ⟨v1, rfl, own1, hb1⟩
            obtain ⟨g, cap, rfl, hg1, hg2, hg3, hg4⟩ := own1.form (by omega)
            have c0 : w1.cell? ⟨g, k * 3, none⟩ = some (.int .i64 (P k)) := own1.cell hk (j := 0) (by omega)
            have c1 : w1.cell? ⟨g, k * 3 + 1, none⟩ = some (.int .i64 (S k)) := own1.cell hk (by omega)
            have f0 : w1.frozen? ⟨g, k * 3, none⟩ = false := own1.free _
            have f1 : w1.frozen? ⟨g, k * 3 + 1, none⟩ = false := own1.free _
            go_wp2_with fail
            go_ret
            exact ⟨_, rfl, ((own1.stored (j := 0) _ (by omega)).stored (j := 1) _ (by omega)).congr (by omega) (fun i j _ hj => tel_yes HR.out i j hj), bSet (bSet hb1 (by exact hg1) _) (by exact hg1) _⟩
          · have HR : Hid (telP n P (k : Int) price score = P ∧ telS n S (k : Int) price score = S) := Lib.hid (tel_no (decide_eq_false (by omega)))
            clear h0
            go_enter Try.func11, Try.ntmps11
            go_wp2_with fail
            go_at_call 24; refine (copied_any A n c P S U w.heap.size w H.out HN.out hn (Nat.le_refl _)).mono ?_; rintro e w1 ⟨v1, rfl, own1, hb1⟩
            go_wp2_with fail
            go_ret
            exact ⟨_, rfl, by rw [HR.out.1, HR.out.2]; exact own1, hb1⟩
        · have HR : Hid (telP n P (k : Int) price score = P ∧ telS n S (k : Int) price score = S) := Lib.hid (tel_no (decide_eq_false (by omega)))
          clear h0
          go_enter Try.func11, Try.ntmps11
          go_wp2_with fail
          go_at_call 24; refine (copied_any A n c P S U w.heap.size w H.out HN.out hn (Nat.le_refl _)).mono ?_; rintro e w1 ⟨v1, rfl, own1, hb1⟩
          go_wp2_with fail
          go_ret
          exact ⟨_, rfl, by rw [HR.out.1, HR.out.2]; exact own1, hb1⟩
      · have HR : Hid (telP n P (k : Int) price score = P ∧ telS n S (k : Int) price score = S) := Lib.hid (tel_no (decide_eq_false (by omega)))
        clear h0
        go_enter Try.func11, Try.ntmps11
        go_wp2_with fail
        go_at_call 24; refine (copied_any A n c P S U w.heap.size w H.out HN.out hn (Nat.le_refl _)).mono ?_; rintro e w1 ⟨v1, rfl, own1, hb1⟩
        go_wp2_with fail
        go_ret
        exact ⟨_, rfl, by rw [HR.out.1, HR.out.2]; exact own1, hb1⟩
    · have HR : Hid (telP n P (k : Int) price score = P ∧ telS n S (k : Int) price score = S) := Lib.hid (tel_no (decide_eq_false (by omega)))
      clear h0
      go_enter Try.func11, Try.ntmps11
      go_wp2_with fail
      go_at_call 24; refine (copied_any A n c P S U w.heap.size w H.out HN.out hn (Nat.le_refl _)).mono ?_; rintro e w1 ⟨v1, rfl, own1, hb1⟩
      go_wp2_with fail
      go_ret
      exact ⟨_, rfl, by rw [HR.out.1, HR.out.2]; exact own1, hb1⟩
  · have HR : Hid (telP n P p price score = P ∧ telS n S p price score = S) := Lib.hid (tel_no (decide_eq_false (fun e => h0 e.1)))
    by_cases hp : p < 0
    · clear h0
      go_enter Try.func11, Try.ntmps11
      go_wp2_with fail
      go_at_call 24; refine (copied_any A n c P S U w.heap.size w H.out HN.out hn (Nat.le_refl _)).mono ?_; rintro e w1 ⟨v1, rfl, own1, hb1⟩
      go_wp2_with fail
      go_ret
      exact ⟨_, rfl, by rw [HR.out.1, HR.out.2]; exact own1, hb1⟩
    · have hp2 : (n : Int) ≤ p := by omega
      clear h0
      go_enter Try.func11, Try.ntmps11
      go_wp2_with fail
      go_at_call 24; refine (copied_any A n c P S U w.heap.size w H.out HN.out hn (Nat.le_refl _)).mono ?_; rintro e w1 ⟨v1, rfl, own1, hb1⟩
      go_wp2_with fail
      go_ret
      exact ⟨_, rfl, by rw [HR.out.1, HR.out.2]; exact own1, hb1⟩
theorem refU_same {n k : Nat} {P S U : Nat → Int} {now span : Int} (_h : refB n k now span = true) (hz : now + span ≤ U k) : ∀ i j, j < 3 → quoteV P S U i j = quoteV P S (refU n U k now span) i j := by
  intro i j _
  have : refU n U k now span i = U i := by
    unfold refU
    split
    · rename_i e
      rw [e.2]
      simp only [Int.toNat_natCast]
      rw [if_neg (by omega)]
    · rfl
  unfold quoteV
  rw [this]
theorem refRefuse_own (A : Option Addr) (n c : Nat) (P S U : Nat → Int) (p now span : Int) (w : World) (h : Quotes w w.heap.size A n P S U) (hnil : A = none → c = 0) (hn : n ≤ 200) (hnow : 0 ≤ now) (hspan : 0 ≤ span) :
    Calls Try.prog 10 #[.slice A n c, .int .i64 p, .int .u64 now, .int .u64 span] w fun e w' => ∃ v, e = .returned v ∧ Own w' w.heap.size 34 3 v n (quoteV P S (refU n U p now span)) ∧ Below w.heap.size w w' := by
  have H := Lib.hid h
  have HN := Lib.hid hnil
  have hn' : n ≤ 9223372036854775807 := by omega
  clear h hnil
  by_cases h0 : 0 ≤ p ∧ p < n
  · obtain ⟨k, rfl⟩ := Int.eq_ofNat_of_zero_le h0.1
    have hk : k < n := by omega
    by_cases a0 : now ≤ 1099511627776
    · by_cases a1 : span ≤ 65536
      · have HR : Hid (refB n (k : Int) now span = true) := Lib.hid (decide_eq_true ⟨h0, a0, a1⟩)
        clear h0
        go_enter Try.func10, Try.ntmps10
        go_wp2_with fail
        go_at_call 24; refine (copied_any A n c P S U w.heap.size w H.out HN.out hn (Nat.le_refl _)).mono ?_; rintro e w1 ⟨v1, rfl, own1, hb1⟩
        obtain ⟨g, cap, rfl, hg1, hg2, hg3, hg4⟩ := own1.form (by omega)
        have c2 : w1.cell? ⟨g, k * 3 + 2, none⟩ = some (.int .u64 (U k)) := own1.cell hk (by omega)
        have fz : w1.frozen? ⟨g, k * 3 + 2, none⟩ = false := own1.free _
        have HU := fun z hz => refU_yes (P := P) (S := S) (U := U) HR.out z hz
        by_cases h3 : U k < now + span
        · go_wp2_with fail
          go_ret
          refine ⟨_, rfl, (own1.stored _ (by omega)).congr (by omega) (fun i j _ hj => HU _ ?_ i j hj), bSet hb1 (by exact hg1) _⟩
          rw [if_pos h3]
        · have HZ : Hid (∀ i j, j < 3 → quoteV P S U i j = quoteV P S (refU n U k now span) i j) := Lib.hid (refU_same HR.out (by omega))
          go_wp2_with fail
          go_ret
          exact ⟨_, rfl, own1.congr (by omega) (fun i j _ hj => HZ.out i j hj), hb1⟩
      · have HR : Hid (refU n U (k : Int) now span = U) := Lib.hid (refU_no (decide_eq_false (by omega)))
        clear h0
        go_enter Try.func10, Try.ntmps10
        go_wp2_with fail
        go_at_call 24; refine (copied_any A n c P S U w.heap.size w H.out HN.out hn (Nat.le_refl _)).mono ?_; rintro e w1 ⟨v1, rfl, own1, hb1⟩
        go_wp2_with fail
        go_ret
        exact ⟨_, rfl, by rw [HR.out]; exact own1, hb1⟩
    · have HR : Hid (refU n U (k : Int) now span = U) := Lib.hid (refU_no (decide_eq_false (by omega)))
      clear h0
      go_enter Try.func10, Try.ntmps10
      go_wp2_with fail
      go_at_call 24; refine (copied_any A n c P S U w.heap.size w H.out HN.out hn (Nat.le_refl _)).mono ?_; rintro e w1 ⟨v1, rfl, own1, hb1⟩
      go_wp2_with fail
      go_ret
      exact ⟨_, rfl, by rw [HR.out]; exact own1, hb1⟩
  · have HR : Hid (refU n U p now span = U) := Lib.hid (refU_no (decide_eq_false (fun e => h0 e.1)))
    by_cases hp : p < 0
    · clear h0
      go_enter Try.func10, Try.ntmps10
      go_wp2_with fail
      go_at_call 24; refine (copied_any A n c P S U w.heap.size w H.out HN.out hn (Nat.le_refl _)).mono ?_; rintro e w1 ⟨v1, rfl, own1, hb1⟩
      go_wp2_with fail
      go_ret
      exact ⟨_, rfl, by rw [HR.out]; exact own1, hb1⟩
    · have hp2 : (n : Int) ≤ p := by omega
      clear h0
      go_enter Try.func10, Try.ntmps10
      go_wp2_with fail
      go_at_call 24; refine (copied_any A n c P S U w.heap.size w H.out HN.out hn (Nat.le_refl _)).mono ?_; rintro e w1 ⟨v1, rfl, own1, hb1⟩
      go_wp2_with fail
      go_ret
      exact ⟨_, rfl, by rw [HR.out]; exact own1, hb1⟩
end Go.Proofs.Ytgaeelhbdgpobaa.Black
