
/- Contracts of layer 2: Sort of a short list. -/
import Derived.Test.YtkoifdbbomipbaaNameB
import Derived.Test.YtkoifdbbomipbaaIns
import Derived.Shelf.Abstract
namespace Go.Proofs.Ytkoifdbbomipbaa.Name
open Go.ChangeShapes Go.WideShapes Go.ChangeAt Go.RowKit
open Mem Arr Lst Ins

def textV (S : Nat → ByteArray) (i : Nat) : Value := .string (S i)
theorem less_at (A : Option Addr) (n c p B : Nat) (S : Nat → ByteArray) (w : World) (hR : Reads w B A n (textV S)) (hp : w.cell? ⟨p, 0, none⟩ = some (.slice A n c)) (i j : Nat) (hi : i < n) (hj : j < n) (hn : n ≤ 17592186044415) :
    Calls Try.prog 23 #[.int .i64 i, .int .i64 j, .pointer (some ⟨p, 0, none⟩)] w fun e w' => e = .returned (.int .i64 (cmpV (S i) (S j))) ∧ ∃ m, w' = w.drewN m := by
  obtain ⟨b, off, rfl, _⟩ := reads_form hR (by omega)
  have ci : w.cell? ⟨b, off + i, none⟩ = some (.string (S i)) := reads_cell hR hi
  have cj : w.cell? ⟨b, off + j, none⟩ = some (.string (S j)) := reads_cell hR hj
  clear hR
  go_enter Try.func23, Try.ntmps23
  go_wp2
  go_quiet (first | (go_at_call 9; exact quietL (compare_any _ _ _)))
  go_wp2
  go_ret
  exact ⟨rfl, _, rfl⟩
theorem tells_less (A : Option Addr) (n c p g : Nat) (S : Nat → ByteArray) (w : World) (hR : Reads w g A n (textV S)) (hp : w.cell? ⟨p, 0, none⟩ = some (.slice A n c)) (hpg : p ≠ g) (hn : n ≤ 17592186044415) :
    Tells 23 #[.pointer (some ⟨p, 0, none⟩)] (fun i j => cmpV (S i) (S j)) n g w :=
  fun w1 hc i j hi hj => less_at A n c p g S w1 (hc.reads hR) ((hc.cell hpg).trans hp) i j hi hj hn

theorem stable_any (f : Nat) (cb : Array Value) (cf : Nat → Nat → Int) (n g cap m base : Nat) (w : World) (G : Nat → Nat) (eg : ∀ args w, (callFunc f args).run Try.prog w = .ok (.enter f args) w)
    (ht : Tells f cb cf n g w) (ho : Own w base 3 (.slice (some ⟨g, 0, none⟩) m cap) m (intsV G)) (hG : ∀ i, i < m → G i < n) (hm : m ≤ 19) :
    Calls Try.prog 22 #[.slice (some ⟨g, 0, none⟩) m cap, .func (.func f) #[] cb] w fun e w' => e = .returned (.tuple #[]) ∧ Own w' base 3 (.slice (some ⟨g, 0, none⟩) m cap) m (intsV (outer (fun x y => decide (cf x y < 0)) 0 (m - 1) 1 G)) ∧ (∀ i, i < m → outer (fun x y => decide (cf x y < 0)) 0 (m - 1) 1 G i < n) ∧ Chg g w w' := by
  have C := insertion_any f cb cf n g cap m 0 m base w G eg ht ho hG (Nat.zero_le _) (Nat.le_refl _) (by omega)
  have D : Calls Try.prog 26 #[.slice (some ⟨g, 0, none⟩) m cap, .int .i64 m, .func (.func f) #[] cb] w fun e w' => e = .returned (.tuple #[]) ∧ Own w' base 3 (.slice (some ⟨g, 0, none⟩) m cap) m (intsV (outer (fun x y => decide (cf x y < 0)) 0 (m - 1) 1 G)) ∧ (∀ i, i < m → outer (fun x y => decide (cf x y < 0)) 0 (m - 1) 1 G i < n) ∧ Chg g w w' := by
    clear ht ho hG
    generalize outer (fun x y => decide (cf x y < 0)) 0 (m - 1) 1 G = R at C ⊢
    have b1 : ¬ (20 : Int) ≤ (m : Int) := by omega
    have b2 : ¬ (20 : Int) < (m : Int) := by omega
    have CC := Lib.hid C
    clear C
    go_enter Try.func26, Try.ntmps26
    go_wp2
    go_loopw [7, 8] (fun x y wr => x = .int .i64 0 ∧ y = .int .i64 20 ∧ wr = w) (fun _ _ _ => 0)
    case atStart => exact ⟨rfl, rfl, rfl⟩
    case round =>
      obtain ⟨rfl, rfl, rfl⟩ := hrel
      go_wp2_with fail
      refine CC.out.mono ?_
      rintro e w1 ⟨rfl, h1, h2, h3⟩
      have H1 := Lib.hid h1
      have H2 := Lib.hid h2
      clear h1 h2
      go_wp2
      go_loopw [6] (fun x wr => x = .int .i64 20 ∧ wr = w1) (fun _ _ => 0)
      case atStart => exact ⟨rfl, rfl⟩
      case round =>
        obtain ⟨rfl, rfl⟩ := hrel
        go_wp2
        go_end0
        exact ⟨rfl, H1.out, H2.out, h3⟩
  clear C ht ho hG
  have DD := Lib.hid D
  clear D
  go_enter Try.func22, Try.ntmps22
  go_wp2_with fail
  refine DD.out.mono ?_
  rintro e w1 ⟨rfl, h1, h2, h3⟩
  have H1 := Lib.hid h1
  have H2 := Lib.hid h2
  clear h1 h2
  go_wp2
  go_end0
  exact ⟨rfl, H1.out, H2.out, h3⟩

theorem own_chg {w w' : World} {base g g2 n cap : Nat} {E : TypeId} {f : Nat → Value} (h : Own w base E (.slice (some ⟨g, 0, none⟩) n cap) n f) (hc : Chg g2 w w') (hne : g ≠ g2) : Own w' base E (.slice (some ⟨g, 0, none⟩) n cap) n f := by
  refine ⟨h.1, ?_⟩
  rcases h.2 with h' | ⟨q, cp, cur, h', hbg, hg, hnc, hcm, hcs, ht⟩
  · exact .inl h'
  · injection h' with h1 h2 h3
    injection h1 with h1
    injection h1 with h1
    subst h1
    exact .inr ⟨g, cp, cur, by rw [h3], hbg, (hc.same g hne).trans hg, hnc, hcm, hcs, ht⟩
theorem own_made (w : World) (base : Nat) (E : TypeId) (n : Nat) (f : Nat → Value) (hb : base ≤ w.heap.size) (hn : n ≤ maxLen) : Own (w.alloc (.cells (vals n f).toArray E)) base E (.slice (some ⟨w.heap.size, 0, none⟩) n n) n f := by
  have := World.ownsRow_lit (e := E) (size := 1) w (vals n f).toArray n hb hn (by simp [vals_length])
  unfold Own; simpa using this
/-- the order in which the places come -/
def ord (S : Nat → ByteArray) (n : Nat) : Nat → Nat := outer (fun x y => decide (cmpV (S x) (S y) < 0)) 0 (n - 1) 1 (fun i => i)
def emptyT : ByteArray := ⟨#[]⟩
set_option maxHeartbeats 2000000 in
theorem sort_any (A : Option Addr) (n c : Nat) (S : Nat → ByteArray) (w : World) (h : Reads w w.heap.size A n (textV S)) (hn : n ≤ 19) (hn0 : 0 < n)
    (hI : ∀ w, (Instr.makeSlice 27 (.int .i64 n) (.int .i64 n)).run Try.prog w = .ok (.slice (some ⟨w.heap.size, 0, none⟩) n n) (w.alloc (.cells (vals n (fun _ => .int .i64 0)).toArray 3)))
    (hS : ∀ w, (Instr.makeSlice 26 (.int .i64 n) (.int .i64 n)).run Try.prog w = .ok (.slice (some ⟨w.heap.size, 0, none⟩) n n) (w.alloc (.cells (vals n (fun _ => .string emptyT)).toArray 9))) :
    Calls Try.prog 12 #[.slice A n c] w fun e w' => ∃ vs vp, e = .returned (.tuple #[vs, vp]) ∧ Own w' w.heap.size 9 vs n (fun i => .string (S (ord S n i))) ∧ Own w' w.heap.size 3 vp n (intsV (ord S n)) ∧ Below w.heap.size w w' := by
  have H := Lib.hid h
  clear h
  have hp : (w.alloc (.cells #[.slice A n c] 26)).cell? ⟨w.heap.size, 0, none⟩ = some (.slice A n c) := by rw [cell_of_row _ _ _ _ _ _ (heap_alloc_new w _)]; rfl
  have OI : Hid (Own ((w.alloc (.cells #[.slice A n c] 26)).alloc (.cells (vals n (fun _ => .int .i64 0)).toArray 3)) w.heap.size 3 (.slice (some ⟨w.heap.size + 1, 0, none⟩) n n) n (fun i => if i < 0 then intsV (fun i => i) i else .int .i64 0)) := Lib.hid (by
    have := own_made (w.alloc (.cells #[.slice A n c] 26)) w.heap.size 3 n (fun _ => .int .i64 0) (by simp) (by unfold maxLen; omega)
    have e : (w.alloc (.cells #[.slice A n c] 26)).heap.size = w.heap.size + 1 := by simp
    rw [e] at this
    exact Own.congr this (fun i _ => by simp))
  have CI : Hid (Chg (w.heap.size + 1) ((w.alloc (.cells #[.slice A n c] 26)).alloc (.cells (vals n (fun _ => .int .i64 0)).toArray 3)) ((w.alloc (.cells #[.slice A n c] 26)).alloc (.cells (vals n (fun _ => .int .i64 0)).toArray 3))) := Lib.hid (Chg.refl _ _)
  have HP : Hid (((w.alloc (.cells #[.slice A n c] 26)).alloc (.cells (vals n (fun _ => .int .i64 0)).toArray 3)).cell? ⟨w.heap.size, 0, none⟩ = some (.slice A n c)) := Lib.hid (((bcell (bAlloc (Below.refl _ (w.alloc (.cells #[.slice A n c] 26))) (.cells (vals n (fun _ => .int .i64 0)).toArray 3))).1 _ _ (by simp)).trans hp)
  have B0 : Hid (Below w.heap.size w ((w.alloc (.cells #[.slice A n c] 26)).alloc (.cells (vals n (fun _ => .int .i64 0)).toArray 3))) := Lib.hid (bAlloc (bAlloc (Below.refl _ _) _) _)
  obtain ⟨W, hW⟩ : ∃ W, (w.alloc (.cells #[.slice A n c] 26)).alloc (.cells (vals n (fun _ => .int .i64 0)).toArray 3) = W := ⟨_, rfl⟩
  have hWs : Hid (W.heap.size = w.heap.size + 2) := Lib.hid (by rw [← hW]; simp)
  rw [hW] at OI CI HP B0
  have HW := Lib.hid hW
  clear hW
  go_enter Try.func12, Try.ntmps12
  go_wp2
  rw [HW.out]
  go_loopw [14, 5] (fun iv _ wr => ∃ k : Nat, k ≤ n ∧ iv = .int .i64 k ∧ Hid (Own wr w.heap.size 3 (.slice (some ⟨w.heap.size + 1, 0, none⟩) n n) n (fun i => if i < k then intsV (fun i => i) i else .int .i64 0)) ∧ Hid (Chg (w.heap.size + 1) W wr)) (fun i _ _ => n - (intOf i).toNat)
  case atStart => exact ⟨0, by omega, rfl, OI, CI⟩
  case round =>
    obtain ⟨k, hk, rfl, ho, hc⟩ := hrel
    by_cases hlt : k < n
    · have ck : (wr.cell? ⟨w.heap.size + 1, k, none⟩) = some _ := ho.out.cell hlt
      have fk := ho.out.free k
      have HN : Hid (Own (wr.setCell ⟨w.heap.size + 1, k, none⟩ (.int .i64 k)) w.heap.size 3 (.slice (some ⟨w.heap.size + 1, 0, none⟩) n n) n (fun i => if i < k + 1 then intsV (fun i => i) i else .int .i64 0)) := Lib.hid (Own.congr (ho.out.stored (k := k) (.int .i64 k)) (fun i _ => by
        by_cases e : i = k
        · subst e; rw [if_pos rfl, if_pos (by omega)]; rfl
        · rw [if_neg e]
          by_cases e2 : i < k
          · rw [if_pos e2, if_pos (by omega)]
          · rw [if_neg e2, if_neg (by omega)]))
      have CN : Hid (Chg (w.heap.size + 1) W (wr.setCell ⟨w.heap.size + 1, k, none⟩ (.int .i64 k))) := Lib.hid (hc.out.set k _)
      clear ho hc
      go_wp2
      go_roundw
      case rel => exact ⟨k + 1, by omega, by go_num, HN, CN⟩
      case measure => simp [intOf]; omega
    · obtain rfl : k = n := by omega
      have BW : Hid (Below w.heap.size w wr) := Lib.hid (hc.out.below B0.out (by omega))
      have RW : Hid (Reads wr (w.heap.size + 1) A k (textV S)) := Lib.hid (Recs.more (Recs.below H.out BW.out) (by omega))
      have PW : Hid (wr.cell? ⟨w.heap.size, 0, none⟩ = some (.slice A k c)) := Lib.hid ((hc.out.cell (by omega)).trans HP.out)
      have OW : Hid (Own wr w.heap.size 3 (.slice (some ⟨w.heap.size + 1, 0, none⟩) k k) k (intsV (fun i => i))) := Lib.hid (Own.congr ho.out (fun i hi => by rw [if_pos hi]))
      have SW : Hid (wr.heap.size = w.heap.size + 2) := Lib.hid (hc.out.size.trans hWs.out)
      have C := stable_any 23 #[.pointer (some ⟨w.heap.size, 0, none⟩)] (fun i j => cmpV (S i) (S j)) k (w.heap.size + 1) k k w.heap.size wr (fun i => i) (Go.Proofs.enters_of Try.func23 (by kernel_rfl) rfl) (tells_less A k c w.heap.size (w.heap.size + 1) S wr RW.out PW.out (by omega) (by omega)) OW.out (fun i hi => hi) hn
      have CC := Lib.hid C
      clear C OW ho hc B0 HP CI OI HW
      go_wp2_with fail
      refine CC.out.mono ?_
      clear CC
      rintro e w1 ⟨rfl, h1, h2, h3⟩
      have O1 : Hid (Own w1 w.heap.size 3 (.slice (some ⟨w.heap.size + 1, 0, none⟩) k k) k (intsV (ord S k))) := Lib.hid h1
      have L1 : Hid (∀ i, i < k → ord S k i < k) := Lib.hid h2
      have B1 : Hid (Below w.heap.size w w1) := Lib.hid (h3.below BW.out (by omega))
      have p1 : w1.cell? ⟨w.heap.size, 0, none⟩ = some (.slice A k c) := (h3.cell (by omega)).trans PW.out
      have S1 : Hid (w1.heap.size = w.heap.size + 2) := Lib.hid (h3.size.trans SW.out)
      clear h1 h2 h3 BW RW PW SW
      have K2 : Below w1.heap.size w1 (w1.alloc (.cells (vals k (fun _ => .string emptyT)).toArray 9)) := bAlloc (Below.refl _ _) _
      have S2 : Hid ((w1.alloc (.cells (vals k (fun _ => .string emptyT)).toArray 9)).heap.size = w.heap.size + 3) := Lib.hid (by rw [World.size_alloc, S1.out])
      have O2 : Hid (Own (w1.alloc (.cells (vals k (fun _ => .string emptyT)).toArray 9)) w.heap.size 3 (.slice (some ⟨w.heap.size + 1, 0, none⟩) k k) k (intsV (ord S k))) := Lib.hid (O1.out.alloc _)
      have P2 : Hid ((w1.alloc (.cells (vals k (fun _ => .string emptyT)).toArray 9)).cell? ⟨w.heap.size, 0, none⟩ = some (.slice A k c)) := Lib.hid (((bcell K2).1 _ _ (by rw [S1.out]; omega)).trans p1)
      have B2 : Hid (Below w.heap.size w (w1.alloc (.cells (vals k (fun _ => .string emptyT)).toArray 9))) := Lib.hid (bAlloc B1.out _)
      have T2 : Hid (Own (w1.alloc (.cells (vals k (fun _ => .string emptyT)).toArray 9)) w.heap.size 9 (.slice (some ⟨w.heap.size + 2, 0, none⟩) k k) k (fun i => if i < 0 then .string (S (ord S k i)) else .string emptyT)) := Lib.hid (by
        have := own_made w1 w.heap.size 9 k (fun _ => .string emptyT) (by rw [S1.out]; omega) (by unfold maxLen; omega)
        rw [S1.out] at this
        exact Own.congr this (fun i _ => by simp))
      have hS2 := fun w2 => hS w2
      have hsl : (Instr.makeSlice 26 (.int .i64 k) (.int .i64 k)).run Try.prog w1 = .ok (.slice (some ⟨w.heap.size + 2, 0, none⟩) k k) (w1.alloc (.cells (vals k (fun _ => .string emptyT)).toArray 9)) := by rw [hS2, S1.out]
      clear hS hS2 hI K2
      obtain ⟨W2, hW2⟩ : ∃ W2, w1.alloc (.cells (vals k (fun _ => .string emptyT)).toArray 9) = W2 := ⟨_, rfl⟩
      rw [hW2] at S2 O2 P2 B2 T2 hsl
      clear hW2
      go_wp2
      go_loopw [30, 7, 8] (fun iv _ _ wr => ∃ i : Nat, i ≤ k ∧ iv = .int .i64 i ∧ Hid (Own wr w.heap.size 9 (.slice (some ⟨w.heap.size + 2, 0, none⟩) k k) k (fun j => if j < i then .string (S (ord S k j)) else .string emptyT)) ∧ Hid (Chg (w.heap.size + 2) W2 wr)) (fun i _ _ _ => k - (intOf i).toNat)
      case atStart => exact ⟨0, by omega, rfl, T2, Lib.hid (Chg.refl _ _)⟩
      case round =>
        obtain ⟨i, hi, rfl, ho, hc⟩ := hrel
        by_cases hlt : i < k
        · have RR : Reads wr w.heap.size A k (textV S) := Recs.below H.out (hc.out.below B2.out (by omega))
          obtain ⟨b, off, rfl, _⟩ := reads_form RR (by omega)
          have c0 : wr.cell? ⟨w.heap.size + 1, i, none⟩ = some (.int .i64 (ord S k i : Nat)) := (own_chg O2.out hc.out (by omega)).cell hlt
          have c1 : wr.cell? ⟨w.heap.size, 0, none⟩ = some (.slice (some ⟨b, off, none⟩) k c) := (hc.out.cell (by omega)).trans P2.out
          have ho2 := L1.out i hlt
          obtain ⟨q, hq⟩ : ∃ q, ord S k i = q := ⟨_, rfl⟩
          rw [hq] at c0 ho2
          have c2 : wr.cell? ⟨b, off + q, none⟩ = some (.string (S q)) := reads_cell RR ho2
          have c3 : wr.cell? ⟨w.heap.size + 2, i, none⟩ = some _ := ho.out.cell hlt
          have f3 := ho.out.free i
          have HN : Hid (Own (wr.setCell ⟨w.heap.size + 2, i, none⟩ (.string (S q))) w.heap.size 9 (.slice (some ⟨w.heap.size + 2, 0, none⟩) k k) k (fun j => if j < i + 1 then .string (S (ord S k j)) else .string emptyT)) := Lib.hid (Own.congr (ho.out.stored (k := i) (.string (S q))) (fun j _ => by
            by_cases e : j = i
            · subst e; rw [if_pos rfl, if_pos (by omega), hq]
            · rw [if_neg e]
              by_cases e2 : j < i
              · rw [if_pos e2, if_pos (by omega)]
              · rw [if_neg e2, if_neg (by omega)]))
          have CN : Hid (Chg (w.heap.size + 2) W2 (wr.setCell ⟨w.heap.size + 2, i, none⟩ (.string (S q)))) := Lib.hid (hc.out.set i _)
          clear ho hc hq RR
          go_wp2
          go_roundw
          case rel => exact ⟨i + 1, by omega, by go_num, HN, CN⟩
          case measure => simp [intOf]; omega
        · obtain rfl : i = k := by omega
          go_wp2
          go_ret2
          exact ⟨_, _, rfl, Own.congr ho.out (fun j hj => by rw [if_pos hj]), own_chg O2.out hc.out (by omega), hc.out.below B2.out (by omega)⟩
end Go.Proofs.Ytkoifdbbomipbaa.Name
