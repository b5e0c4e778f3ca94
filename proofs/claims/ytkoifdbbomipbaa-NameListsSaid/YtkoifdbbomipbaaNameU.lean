
/- The document's Sort of texts. -/
import Derived.Test.YtkoifdbbomipbaaNameT
namespace Go.Proofs.Ytkoifdbbomipbaa.Name
open Go.ChangeShapes Go.WideShapes Go.ChangeAt Go.RowKit
open Mem Arr Lst Ins Srt Mrg

section
attribute [local go_sem] gtr_str
theorem refCompareQ_any (a b : ByteArray) (w : World) (hn : a.size ≤ 9223372036854775807) : Calls Try.prog 10 #[.string a, .string b] w fun e w' => e = .returned (.int .i64 (cmpV a b)) ∧ ∃ m, w' = w.drewN m := by
  by_cases h1 : a.size < b.size
  · have HV : Hid (cmpV a b = -1) := Lib.hid (by unfold cmpV; rw [if_pos h1])
    go_enter Try.func10, Try.ntmps10
    go_wp2
    go_ret
    exact ⟨ret_int HV.out.symm, 0, rfl⟩
  · by_cases h2 : b.size < a.size
    · have HV : Hid (cmpV a b = 1) := Lib.hid (by unfold cmpV; rw [if_neg h1, if_pos h2])
      go_enter Try.func10, Try.ntmps10
      go_wp2
      go_ret
      exact ⟨ret_int HV.out.symm, 0, rfl⟩
    · have hs : a.size = b.size := by omega
      have HS := Lib.hid hs
      clear hs
      go_enter Try.func10, Try.ntmps10
      go_wp2
      go_loopw [5] (fun i wr => ∃ k : Nat, k ≤ a.size ∧ i = .int .i64 k ∧ Hid (a.toList.take k = b.toList.take k) ∧ ∃ m, wr = w.drewN m) (fun i _ => a.size - (intOf i).toNat)
      case atStart => exact ⟨0, by omega, rfl, Lib.hid rfl, 0, rfl⟩
      case round =>
        obtain ⟨k, hk, rfl, ho, m, rfl⟩ := hrel
        by_cases hlt : k < a.size
        · have hlt2 : k < b.size := by have := HS.out; omega
          have iA := fun w1 : World => run_at 9 a k Try.underlying9 hlt w1
          have iB := fun w1 : World => run_at 9 b k Try.underlying9 hlt2 w1
          have D := Lib.hid (cmp_lt HS.out hlt ho.out)
          by_cases d1 : C a k < C b k
          · have HV : Hid (cmpV a b = -1) := Lib.hid (D.out.1 d1)
            go_wp2
            go_quiet (fail)
            go_wp2
            go_ret
            first | exact ⟨ret_int HV.out.symm, _, rfl⟩ | exact ⟨ret_int HV.out.symm, _, World.drewN_drewN _ _ _⟩ | exact ⟨ret_int HV.out.symm, _, (World.drewN_drewN _ _ _).trans (World.drewN_drewN _ _ _)⟩
          · by_cases d2 : C b k < C a k
            · have HV : Hid (cmpV a b = 1) := Lib.hid (D.out.2 d2)
              go_wp2
              go_quiet (fail)
              go_wp2
              go_quiet (fail)
              go_wp2
              go_ret
              first | exact ⟨ret_int HV.out.symm, _, rfl⟩ | exact ⟨ret_int HV.out.symm, _, World.drewN_drewN _ _ _⟩ | exact ⟨ret_int HV.out.symm, _, (World.drewN_drewN _ _ _).trans (World.drewN_drewN _ _ _)⟩
            · have HK : Hid (a.toList.take (k + 1) = b.toList.take (k + 1)) := Lib.hid (take_next HS.out hlt ho.out (by omega))
              go_wp2
              go_quiet (fail)
              go_wp2
              go_quiet (fail)
              go_wp2
              go_roundw
              case rel => first | exact ⟨k + 1, by omega, by go_num, HK, _, rfl⟩ | exact ⟨k + 1, by omega, by go_num, HK, _, World.drewN_drewN _ _ _⟩ | exact ⟨k + 1, by omega, by go_num, HK, _, (World.drewN_drewN _ _ _).trans (World.drewN_drewN _ _ _)⟩
              case measure => simp [intOf]; omega
        · obtain rfl : k = a.size := by omega
          have HV : Hid (cmpV a b = 0) := Lib.hid (take_all HS.out ho.out)
          go_wp2
          go_ret
          first | exact ⟨ret_int HV.out.symm, _, rfl⟩ | exact ⟨ret_int HV.out.symm, _, World.drewN_drewN _ _ _⟩ | exact ⟨ret_int HV.out.symm, _, (World.drewN_drewN _ _ _).trans (World.drewN_drewN _ _ _)⟩
end
theorem refCompareQ_is (a b : ByteArray) (v : Int) (hv : Hid (cmpV a b = v)) (hn : a.size ≤ 9223372036854775807) (w : World) : Calls Try.prog 10 #[.string a, .string b] w fun e w' => e = .returned (.int .i64 v) ∧ ∃ m, w' = w.drewN m := by
  have := refCompareQ_any a b w hn; rw [hv.out] at this; exact this
def StopAt (S : Nat → ByteArray) (P : Nat → Nat) (k i : Nat) : Prop := k = 0 ∨ ¬ 0 < cmpV (S (P (k - 1))) (S i)
/-- the place i put in at k -/
def insP (P : Nat → Nat) (k i j : Nat) : Nat := if j < k then P j else if j = k then i else P (j - 1)
theorem placed_ins {S : Nat → ByteArray} {i k : Nat} {P : Nat → Nat} (h : Placed S i P) (hk : k ≤ i) (h1 : ∀ j, k ≤ j → j < i → 0 < cmpV (S (P j)) (S i)) (h2' : StopAt S P k i) : Placed S (i + 1) (insP P k i) := by
  have h2 : k = 0 ∨ ¬ 0 < cmpV (S (P (k - 1))) (S i) := h2'
  have lo : ∀ x, x < k → ltS S (P x) i := fun x hx => by
    have e : ltS S (P (k - 1)) i := by
      rcases h2 with h2 | h2
      · omega
      · have := h.lt (k - 1) (by omega)
        unfold ltS
        omega
    by_cases ex : x = k - 1
    · rw [ex]; exact e
    · exact (fine_ltS S i).tr _ _ _ (h.so x (k - 1) (by omega) (by omega) (by omega)) e
  have hi : ∀ y, k ≤ y → y < i → ltS S i (P y) := fun y p1 p2 => by
    have := h1 y p1 p2
    have e := cmpV_swap (S i) (S (P y))
    exact Or.inl (by omega)
  refine ⟨fun x y p1 p2 p3 => ?_, fun x p1 => ?_, fun j hj => ?_⟩
  · unfold insP
    by_cases a1 : x < k
    · rw [if_pos a1]
      by_cases b1 : y < k
      · rw [if_pos b1]; exact h.so x y p1 p2 (by omega)
      · rw [if_neg b1]
        by_cases b2 : y = k
        · rw [if_pos b2]; exact lo x a1
        · rw [if_neg b2]; exact h.so x (y - 1) p1 (by omega) (by omega)
    · rw [if_neg a1, if_neg (show ¬ y < k by omega), if_neg (show ¬ y = k by omega)]
      by_cases a2 : x = k
      · rw [if_pos a2]; exact hi (y - 1) (by omega) (by omega)
      · rw [if_neg a2]; exact h.so (x - 1) (y - 1) (by omega) (by omega) (by omega)
  · unfold insP
    split
    · have := h.lt x (by omega); omega
    · split
      · omega
      · have := h.lt (x - 1) (by omega); omega
  · by_cases e : j = i
    · exact ⟨k, by omega, by unfold insP; rw [if_neg (by omega), if_pos rfl, e]⟩
    · obtain ⟨a, ha, ea⟩ := h.on j (by omega)
      by_cases a1 : a < k
      · exact ⟨a, by omega, by unfold insP; rw [if_pos a1, ea]⟩
      · exact ⟨a + 1, by omega, by unfold insP; rw [if_neg (by omega), if_neg (by omega)]; exact ea⟩
theorem own_low {w : World} {b b0 : Nat} {E : TypeId} {v : Value} {n : Nat} {f : Nat → Value} (h : Lst.Own w b E v n f) (hle : b0 ≤ b) : Lst.Own w b0 E v n f := by
  refine ⟨h.1, ?_⟩
  rcases h.2 with h' | ⟨g, cap, cur, h', hbg, r⟩
  · exact .inl h'
  · exact .inr ⟨g, cap, cur, h', by omega, r⟩
theorem keep {p : Prop} (h : Aside p) : p := h.out
theorem reads_empty (w : World) (B g m : Nat) (f : Nat → Value) (h : m = 0) : Reads w B (some ⟨g, 0, none⟩) m f := ⟨fun e => (by cases e), fun h0 => absurd h0 (by omega)⟩
theorem reads_from {w : World} {g i k cap base : Nat} {E : TypeId} {f : Nat → Value} (h : Lst.Own w base E (.slice (some ⟨g, 0, none⟩) i cap) i f) (hg : g < w.heap.size) (hk : k ≤ i) : Reads w w.heap.size (some ⟨g, k, none⟩) (i - k) (fun j => f (k + j)) :=
  ⟨fun e => (by cases e), fun _ => ⟨g, k, rfl, hg, fun a b ha hb => by
    obtain rfl : b = 0 := by omega
    rw [Nat.mul_one, Nat.add_zero, h.cell (by omega)]⟩⟩
theorem ins_row {k i : Nat} (F : Nat → Value) (P : Nat → Nat) (V : Nat → Value) (u : Value) (hV : ∀ j, j < i → V j = F (P j)) (hu : u = F i) (hk : k ≤ i) : ∀ j, j < k + 1 + (i - k) → (if j < k + 1 then (if j < k then (if j < 0 then V j else V (j - 0)) else u) else V (k + (j - (k + 1)))) = F (insP P k i j) := by
  intro j hj
  unfold insP
  by_cases a : j < k
  · rw [if_pos (by omega), if_pos a, if_neg (by omega), if_pos a, Nat.sub_zero, hV j (by omega)]
  · by_cases b : j = k
    · rw [if_pos (by omega), if_neg a, if_neg a, if_pos b, hu]
    · rw [if_neg (by omega), if_neg a, if_neg b, hV _ (by omega), show k + (j - (k + 1)) = j - 1 by omega]

set_option maxRecDepth 100000 in
set_option maxHeartbeats 8000000 in
theorem refSort_any (A : Option Addr) (n c : Nat) (S : Nat → ByteArray) (w : World) (h : Reads w w.heap.size A n (textV S)) (hn : n ≤ 60) (hsz : ∀ i, i < n → (S i).size ≤ 9223372036854775807) :
    Calls Try.prog 13 #[.slice A n c] w fun e w' => ∃ vs vp P, e = .returned (.tuple #[vs, vp]) ∧ Lst.Own w' w.heap.size 9 vs n (fun i => .string (S (P i))) ∧ Lst.Own w' w.heap.size 3 vp n (intsV P) ∧ Below w.heap.size w w' ∧ Placed S n P := by
  have H := Lib.hid h
  have HS := Lib.hid hsz
  obtain ⟨is, his, zs0, zs1, zs2⟩ := info_parts infoStr
  obtain ⟨ii, hii, zi0, zi1, zi2⟩ := info_parts infoInt
  clear h hsz
  go_enter Try.func13, Try.ntmps13
  go_wp2
  go_loopw [4, 5, 6] (fun tv pv iv wr => ∃ (i : Nat) (P : Nat → Nat), i ≤ n ∧ iv = .int .i64 i ∧ Hid (Lst.Own wr w.heap.size 9 tv i (fun j => .string (S (P j)))) ∧ Hid (Lst.Own wr w.heap.size 3 pv i (intsV P)) ∧ Hid (Placed S i P) ∧ Hid (Below w.heap.size w wr) ∧ Hid (i = 0 → tv = .slice none 0 0 ∧ pv = .slice none 0 0)) (fun _ _ iv _ => n - (intOf iv).toNat)
  case atStart => exact ⟨0, fun i => i, by omega, rfl, Lib.hid (own_nil _ _ _ _), Lib.hid (own_nil _ _ _ _), Lib.hid ⟨fun x y _ _ p => by omega, fun x p => by omega, fun x p => by omega⟩, Lib.hid (Below.refl _ _), Lib.hid (fun _ => ⟨rfl, rfl⟩)⟩
  case round =>
    obtain ⟨i, P, hi, rfl, OT, OP, PL, BW, NI⟩ := hrel
    by_cases hlt : i < n
    · obtain ⟨b, off, rfl, hbl⟩ := reads_form H.out (by omega)
      obtain ⟨_, cl⟩ := reads_at H.out BW.out rfl hlt
      unfold textV at cl
      by_cases h0 : i = 0
      · subst h0
        obtain ⟨rfl, rfl⟩ := NI.out rfl
        go_wp2
        go_loopw [7] (fun kv wv => kv = .int .i64 0 ∧ ∃ q, wv = wr.drewN q) (fun kv _ => (intOf kv).toNat)
        case atStart => exact ⟨rfl, 0, rfl⟩
        case round =>
          obtain ⟨rfl, q, rfl⟩ := hrel
          have PN : Hid (Placed S 1 (fun i => i)) := Lib.hid ⟨fun x y _ p1 p2 => by omega, fun x p => p, fun x p => ⟨x, p, rfl⟩⟩
          have clq : (wr.drewN q).cell? ⟨b, off + 0, none⟩ = some (.string (S 0)) := cl
          have WB : Hid (Below w.heap.size w (wr.drewN q)) := Lib.hid (bDrewN _ BW.out)
          obtain ⟨wq, hwq⟩ : ∃ wq, wr.drewN q = wq := ⟨_, rfl⟩
          rw [hwq] at clq WB ⊢
          clear hwq
          go_wp2
          go_quiet (fail)
          obtain ⟨wv, hwv⟩ : ∃ wv, wq.drewN nq = wv := ⟨_, rfl⟩
          rw [hwv]
          have VB : Hid (Below w.heap.size w wv) := Lib.hid (by rw [← hwv]; exact bDrewN _ WB.out)
          have cv : wv.cell? ⟨b, off + 0, none⟩ = some (.string (S 0)) := by rw [← hwv]; exact clq
          have hbv : b < wv.heap.size := by have := VB.out.size; omega
          clear hwv cl clq WB OT OP BW PL NI
          rw [Nat.add_zero] at cv
          go_wp2_with (first | (at_builtin; refine append_list rfl _ _ 26 rfl wv.heap.size 9 is (.string emptyT) 16 Try.underlying26 his zs0 zs1 zs2 rfl _ 0 (fun j => .string (S (P j))) (by rfl) (own_nil _ _ _ _) wv.heap.size none 0 0 (fun j => .string (S (P j))) rfl (reads_nil _ _ _) (fun _ _ => rfl) (fun e => rfl) (by unfold maxLen; omega) (by omega) (Nat.le_refl _) ?_; intro v1 w1 own1 gr1; have b1 := below_grown (Below.refl _ _) (own_nil wv wv.heap.size 9 (fun j => .string (S (P j)))) gr1; have c1 : w1.cell? ⟨b, off, none⟩ = some (.string (S 0)) := ((bcell b1).1 _ _ hbv).trans cv; clear gr1 cv) | (at_builtin; refine append_list rfl _ _ 26 rfl wv.heap.size 9 is (.string emptyT) 16 Try.underlying26 his zs0 zs1 zs2 rfl _ (0 + 0) _ (by rfl) (own1.alloc _) (w1.heap.size + 1) (some ⟨w1.heap.size, 0, none⟩) 1 1 (fun _ => .string (S 0)) rfl (reads_row _ _ _ _ _ (fun j hj => by obtain rfl : j = 0 := (by omega); rfl)) (fun _ _ => rfl) (fun e => (by cases e)) (by unfold maxLen; omega) (by omega) (by have := b1.size; simp; omega) ?_; intro v2 w2 own2 gr2; have b2 := below_grown (bAlloc b1 _) (own1.alloc _) gr2; clear gr2 own1) | (at_builtin; refine append_list rfl _ _ 26 rfl wv.heap.size 9 is (.string emptyT) 16 Try.underlying26 his zs0 zs1 zs2 rfl _ (0 + 0 + 1) _ (by rfl) own2 w2.heap.size none 0 0 (fun j => .string (S (P j))) rfl (reads_nil _ _ _) (fun _ _ => rfl) (fun e => rfl) (by unfold maxLen; omega) (by omega) b2.size ?_; intro v3 w3 own3 gr3; have b3 := below_grown b2 own2 gr3; have o3 := Lib.hid own3; clear gr3 own2 own3) | (at_builtin; refine append_list rfl _ _ 27 rfl w3.heap.size 3 ii (.int .i64 0) 8 Try.underlying27 hii zi0 zi1 zi2 rfl _ 0 (intsV P) (by rfl) (own_nil _ _ _ _) w3.heap.size none 0 0 (intsV P) rfl (reads_nil _ _ _) (fun _ _ => rfl) (fun e => rfl) (by unfold maxLen; omega) (by omega) (Nat.le_refl _) ?_; intro v4 w4 own4 gr4; have b4 := below_grown (Below.refl _ _) (own_nil w3 w3.heap.size 3 (intsV P)) gr4; clear gr4) | (at_builtin; refine append_list rfl _ _ 27 rfl w3.heap.size 3 ii (.int .i64 0) 8 Try.underlying27 hii zi0 zi1 zi2 rfl _ (0 + 0) _ (by rfl) (own4.alloc _) (w4.heap.size + 1) (some ⟨w4.heap.size, 0, none⟩) 1 1 (fun _ => .int .i64 0) rfl (reads_row _ _ _ _ _ (fun j hj => by obtain rfl : j = 0 := (by omega); rfl)) (fun _ _ => rfl) (fun e => (by cases e)) (by unfold maxLen; omega) (by omega) (by have := b4.size; simp; omega) ?_; intro v5 w5 own5 gr5; have b5 := below_grown (bAlloc b4 _) (own4.alloc _) gr5; clear gr5 own4) | (at_builtin; refine append_list rfl _ _ 27 rfl w3.heap.size 3 ii (.int .i64 0) 8 Try.underlying27 hii zi0 zi1 zi2 rfl _ (0 + 0 + 1) _ (by rfl) own5 w5.heap.size none 0 0 (intsV P) rfl (reads_nil _ _ _) (fun _ _ => rfl) (fun e => rfl) (by unfold maxLen; omega) (by omega) b5.size ?_; intro v6 w6 own6 gr6; have b6 := below_grown b5 own5 gr6; clear gr6 own5))
          go_roundw
          case rel =>
            refine ⟨1, fun i => i, by omega, by go_num, Lib.hid ?_, Lib.hid ?_, PN, Lib.hid (bTrans VB.out (bTrans b3 b6)), Lib.hid (fun e => by omega)⟩
            · refine Own.congr (own_low (o3.out.later b6 (Nat.le_refl _)) (b0 := w.heap.size) VB.out.size) (fun j hj => ?_)
              obtain rfl : j = 0 := by omega
              rfl
            · refine Own.congr (own_low own6 (b0 := w.heap.size) (by have := VB.out.size; have := b3.size; omega)) (fun j hj => ?_)
              obtain rfl : j = 0 := by omega
              rfl
          case measure => simp [intOf]; omega
      · obtain ⟨gt, ct, rfl, gt1, gt2, gt3, gt4⟩ := OT.out.form (by omega)
        obtain ⟨gp, cp_, rfl, gp1, gp2, gp3, gp4⟩ := OP.out.form (by omega)
        go_wp2
        go_loopw [7] (fun kv wv => ∃ k : Nat, k ≤ i ∧ kv = .int .i64 k ∧ Hid (∀ j, k ≤ j → j < i → 0 < cmpV (S (P j)) (S i)) ∧ ∃ q, wv = wr.drewN q) (fun kv _ => (intOf kv).toNat)
        case atStart => exact ⟨i, Nat.le_refl _, rfl, Lib.hid (fun j p1 p2 => by omega), 0, rfl⟩
        case round =>
          obtain ⟨k, hk, rfl, HG, q, rfl⟩ := hrel
          by_cases hk0 : k = 0
          · subst hk0
            have EX : Hid (StopAt S P 0 i) := Lib.hid (Or.inl rfl)
            have clq : (wr.drewN q).cell? ⟨b, off + i, none⟩ = some (.string (S i)) := cl
            have WT : Hid (Lst.Own (wr.drewN q) w.heap.size 9 (.slice (some ⟨gt, 0, none⟩) i ct) i (fun j => .string (S (P j)))) := Lib.hid OT.out
            have WP : Hid (Lst.Own (wr.drewN q) w.heap.size 3 (.slice (some ⟨gp, 0, none⟩) i cp_) i (intsV P)) := Lib.hid OP.out
            have WB : Hid (Below w.heap.size w (wr.drewN q)) := Lib.hid (bDrewN _ BW.out)
            have WG : Hid (gt < (wr.drewN q).heap.size ∧ gp < (wr.drewN q).heap.size) := Lib.hid ⟨gt2, gp2⟩
            obtain ⟨wq, hwq⟩ : ∃ wq, wr.drewN q = wq := ⟨_, rfl⟩
            rw [hwq] at clq WT WP WB WG ⊢
            clear hwq
            go_wp2
            go_quiet (fail)
            obtain ⟨wv, hwv⟩ : ∃ wv, wq.drewN nq = wv := ⟨_, rfl⟩
            rw [hwv]
            have VT : Hid (Lst.Own wv w.heap.size 9 (.slice (some ⟨gt, 0, none⟩) i ct) i (fun j => .string (S (P j)))) := Lib.hid (by rw [← hwv]; exact WT.out)
            have VP : Hid (Lst.Own wv w.heap.size 3 (.slice (some ⟨gp, 0, none⟩) i cp_) i (intsV P)) := Lib.hid (by rw [← hwv]; exact WP.out)
            have VB : Hid (Below w.heap.size w wv) := Lib.hid (by rw [← hwv]; exact bDrewN _ WB.out)
            have VG : Hid (gt < wv.heap.size ∧ gp < wv.heap.size) := Lib.hid (by rw [← hwv]; exact WG.out)
            have PN : Hid (Placed S (i + 1) (insP P 0 i)) := Lib.hid (placed_ins PL.out hk HG.out EX.out)
            have cv : wv.cell? ⟨b, off + i, none⟩ = some (.string (S i)) := by rw [← hwv]; exact clq
            have hbv : b < wv.heap.size := by have := VB.out.size; omega
            clear hwv cl HG EX PL OT OP BW
            have rT := VT.out.reads.fewer hk
            have rP := VP.out.reads.fewer hk
            have rT2 := VT.out.reads
            have rP2 := VP.out.reads
            go_wp2_with (first | (at_builtin; refine append_list rfl _ _ 26 rfl wv.heap.size 9 is (.string emptyT) 16 Try.underlying26 his zs0 zs1 zs2 rfl _ 0 (fun j => .string (S (P j))) (by rfl) (own_nil _ _ _ _) wv.heap.size (some ⟨gt, 0, none⟩) 0 ct (fun j => .string (S (P j))) rfl rT (fun _ _ => rfl) (fun e => (by cases e)) (by unfold maxLen; omega) (by omega) (Nat.le_refl _) ?_; intro v1 w1 own1 gr1; have b1 := below_grown (Below.refl _ _) (own_nil wv wv.heap.size 9 (fun j => .string (S (P j)))) gr1; have c1 : w1.cell? ⟨b, off + i, none⟩ = some (.string (S i)) := ((bcell b1).1 _ _ hbv).trans cv; clear gr1 cv) | (at_builtin; refine append_list rfl _ _ 26 rfl wv.heap.size 9 is (.string emptyT) 16 Try.underlying26 his zs0 zs1 zs2 rfl _ (0 + 0) _ (by rfl) (own1.alloc _) (w1.heap.size + 1) (some ⟨w1.heap.size, 0, none⟩) 1 1 (fun _ => .string (S i)) rfl (reads_row _ _ _ _ _ (fun j hj => by obtain rfl : j = 0 := (by omega); rfl)) (fun _ _ => rfl) (fun e => (by cases e)) (by unfold maxLen; omega) (by omega) (by have := b1.size; simp; omega) ?_; intro v2 w2 own2 gr2; have b2 := below_grown (bAlloc b1 _) (own1.alloc _) gr2; clear gr2 own1) | (at_builtin; refine append_list rfl _ _ 26 rfl wv.heap.size 9 is (.string emptyT) 16 Try.underlying26 his zs0 zs1 zs2 rfl _ (0 + 0 + 1) _ (by rfl) own2 w2.heap.size (some ⟨gt, 0, none⟩) i ct _ rfl (Recs.later rT2 b2) (fun _ _ => rfl) (fun e => (by cases e)) (by unfold maxLen; omega) (by omega) b2.size ?_; intro v3 w3 own3 gr3; have b3 := below_grown b2 own2 gr3; have o3 := Lib.hid own3; clear gr3 own2 own3) | (at_builtin; refine append_list rfl _ _ 27 rfl w3.heap.size 3 ii (.int .i64 0) 8 Try.underlying27 hii zi0 zi1 zi2 rfl _ 0 (intsV P) (by rfl) (own_nil _ _ _ _) w3.heap.size (some ⟨gp, 0, none⟩) 0 cp_ (intsV P) rfl (Recs.later rP b3) (fun _ _ => rfl) (fun e => (by cases e)) (by unfold maxLen; omega) (by omega) (Nat.le_refl _) ?_; intro v4 w4 own4 gr4; have b4 := below_grown (Below.refl _ _) (own_nil w3 w3.heap.size 3 (intsV P)) gr4; clear gr4) | (at_builtin; refine append_list rfl _ _ 27 rfl w3.heap.size 3 ii (.int .i64 0) 8 Try.underlying27 hii zi0 zi1 zi2 rfl _ (0 + 0) _ (by rfl) (own4.alloc _) (w4.heap.size + 1) (some ⟨w4.heap.size, 0, none⟩) 1 1 (fun _ => .int .i64 (i : Int)) rfl (reads_row _ _ _ _ _ (fun j hj => by obtain rfl : j = 0 := (by omega); rfl)) (fun _ _ => rfl) (fun e => (by cases e)) (by unfold maxLen; omega) (by omega) (by have := b4.size; simp; omega) ?_; intro v5 w5 own5 gr5; have b5 := below_grown (bAlloc b4 _) (own4.alloc _) gr5; clear gr5 own4) | (at_builtin; refine append_list rfl _ _ 27 rfl w3.heap.size 3 ii (.int .i64 0) 8 Try.underlying27 hii zi0 zi1 zi2 rfl _ (0 + 0 + 1) _ (by rfl) own5 w5.heap.size (some ⟨gp, 0, none⟩) i cp_ _ rfl (Recs.later rP2 (bTrans b3 b5)) (fun _ _ => rfl) (fun e => (by cases e)) (by unfold maxLen; omega) (by omega) b5.size ?_; intro v6 w6 own6 gr6; have b6 := below_grown b5 own5 gr6; clear gr6 own5))
            go_roundw
            case rel =>
              refine ⟨i + 1, insP P 0 i, by omega, by go_num, Lib.hid ?_, Lib.hid ?_, PN, Lib.hid (bTrans VB.out (bTrans b3 b6)), Lib.hid (fun e => by omega)⟩
              · have oL := own_low (o3.out.later b6 (Nat.le_refl _)) (b0 := w.heap.size) VB.out.size
                have eL : 0 + 0 + 1 + i = i + 1 := by omega
                rw [eL] at oL
                refine Own.congr oL (fun j hj => ?_)
                have := ins_row (k := 0) (i := i) (fun q => .string (S q)) P (fun j => .string (S (P j))) (.string (S i)) (fun _ _ => rfl) rfl hk j (by omega)
                simpa using this
              · have oL := own_low own6 (b0 := w.heap.size) (by have := VB.out.size; have := b3.size; omega)
                have eL : 0 + 0 + 1 + i = i + 1 := by omega
                rw [eL] at oL
                refine Own.congr oL (fun j hj => ?_)
                have := ins_row (k := 0) (i := i) (fun q => .int .i64 (q : Nat)) P (intsV P) (.int .i64 (i : Int)) (fun _ _ => rfl) rfl hk j (by omega)
                simpa [intsV] using this
            case measure => simp [intOf]; omega
          · obtain ⟨p, rfl⟩ : ∃ p, k = p + 1 := ⟨k - 1, by omega⟩
            have cp : wr.cell? ⟨gt, p, none⟩ = some (.string (S (P p))) := OT.out.cell (by omega)
            have hwp : IntKind.i64.wrap (p : Int) = (p : Int) := by rw [IntKind.wrap_i64]; omega
            have v0 : (0 : Int) < (p : Int) + 1 := by omega
            have v1 : (p : Int) < (i : Int) := by omega
            have v2 : (i : Int) < (n : Int) := by omega
            have PS := Lib.hid (HS.out (P p) (by have := PL.out.lt p (by omega); omega))
            by_cases hv : 0 < cmpV (S (P p)) (S i)
            · have V : Hid (cmpV (S (P p)) (S i) = 1) := Lib.hid (by rcases cmpV_bd (S (P p)) (S i) with b | b | b <;> omega)
              have HN : Hid (∀ j, p ≤ j → j < i → 0 < cmpV (S (P j)) (S i)) := Lib.hid (fun j p1 p2 => by
                by_cases e : j = p
                · rw [e]; exact hv
                · exact HG.out j (by omega) p2)
              have HWQ : Hid (∀ k, ∃ q', (wr.drewN q).drewN k = wr.drewN q') := Lib.hid (fun k => ⟨q + k, World.drewN_drewN _ _ _⟩)
              have cpq : (wr.drewN q).cell? ⟨gt, p, none⟩ = some (.string (S (P p))) := cp
              have clq : (wr.drewN q).cell? ⟨b, off + i, none⟩ = some (.string (S i)) := cl
              obtain ⟨wq, hwq⟩ : ∃ wq, wr.drewN q = wq := ⟨_, rfl⟩
              rw [hwq] at HWQ cpq clq ⊢
              clear hwq hv HG
              go_wp2
              go_quiet (first | (go_at_call 10; exact Calls.quiet_of (refCompareQ_is _ _ _ V PS.out _)))
              go_wp2
              go_roundw
              case rel => exact ⟨p, by omega, rfl, HN, HWQ.out nq⟩
              case measure => first | (simp [intOf]; done) | (simp [intOf]; omega)
            · have EX : Hid (StopAt S P (p + 1) i) := Lib.hid (Or.inr hv)
              have cpq : (wr.drewN q).cell? ⟨gt, p, none⟩ = some (.string (S (P p))) := cp
              have clq : (wr.drewN q).cell? ⟨b, off + i, none⟩ = some (.string (S i)) := cl
              have WT : Hid (Lst.Own (wr.drewN q) w.heap.size 9 (.slice (some ⟨gt, 0, none⟩) i ct) i (fun j => .string (S (P j)))) := Lib.hid OT.out
              have WP : Hid (Lst.Own (wr.drewN q) w.heap.size 3 (.slice (some ⟨gp, 0, none⟩) i cp_) i (intsV P)) := Lib.hid OP.out
              have WB : Hid (Below w.heap.size w (wr.drewN q)) := Lib.hid (bDrewN _ BW.out)
              have WG : Hid (gt < (wr.drewN q).heap.size ∧ gp < (wr.drewN q).heap.size) := Lib.hid ⟨gt2, gp2⟩
              obtain ⟨wq, hwq⟩ : ∃ wq, wr.drewN q = wq := ⟨_, rfl⟩
              rw [hwq] at cpq clq WT WP WB WG ⊢
              clear hwq
              go_wp2
              go_quiet (first | (go_at_call 10; exact Calls.quiet_of (refCompareQ_any _ _ _ PS.out)))
              obtain ⟨wv, hwv⟩ : ∃ wv, wq.drewN nq = wv := ⟨_, rfl⟩
              rw [hwv]
              have VT : Hid (Lst.Own wv w.heap.size 9 (.slice (some ⟨gt, 0, none⟩) i ct) i (fun j => .string (S (P j)))) := Lib.hid (by rw [← hwv]; exact WT.out)
              have VP : Hid (Lst.Own wv w.heap.size 3 (.slice (some ⟨gp, 0, none⟩) i cp_) i (intsV P)) := Lib.hid (by rw [← hwv]; exact WP.out)
              have VB : Hid (Below w.heap.size w wv) := Lib.hid (by rw [← hwv]; exact bDrewN _ WB.out)
              have VG : Hid (gt < wv.heap.size ∧ gp < wv.heap.size) := Lib.hid (by rw [← hwv]; exact WG.out)
              have PN : Hid (Placed S (i + 1) (insP P (p + 1) i)) := Lib.hid (placed_ins PL.out hk HG.out EX.out)
              have cv : wv.cell? ⟨b, off + i, none⟩ = some (.string (S i)) := by rw [← hwv]; exact clq
              have hbv : b < wv.heap.size := by have := VB.out.size; omega
              clear hwv cl HG EX PL OT OP BW
              have rT := VT.out.reads.fewer hk
              have rP := VP.out.reads.fewer hk
              have rT2 := reads_from VT.out VG.out.1 hk
              have rP2 := reads_from VP.out VG.out.2 hk
              go_wp2_with (first | (at_builtin; refine append_list rfl _ _ 26 rfl wv.heap.size 9 is (.string emptyT) 16 Try.underlying26 his zs0 zs1 zs2 rfl _ 0 (fun j => .string (S (P j))) (by rfl) (own_nil _ _ _ _) wv.heap.size (some ⟨gt, 0, none⟩) (p + 1) ct (fun j => .string (S (P j))) rfl rT (fun _ _ => rfl) (fun e => (by cases e)) (by unfold maxLen; omega) (by omega) (Nat.le_refl _) ?_; intro v1 w1 own1 gr1; have b1 := below_grown (Below.refl _ _) (own_nil wv wv.heap.size 9 (fun j => .string (S (P j)))) gr1; have c1 : w1.cell? ⟨b, off + i, none⟩ = some (.string (S i)) := ((bcell b1).1 _ _ hbv).trans cv; clear gr1 cv) | (at_builtin; refine append_list rfl _ _ 26 rfl wv.heap.size 9 is (.string emptyT) 16 Try.underlying26 his zs0 zs1 zs2 rfl _ (0 + (p + 1)) _ (by rfl) (own1.alloc _) (w1.heap.size + 1) (some ⟨w1.heap.size, 0, none⟩) 1 1 (fun _ => .string (S i)) rfl (reads_row _ _ _ _ _ (fun j hj => by obtain rfl : j = 0 := (by omega); rfl)) (fun _ _ => rfl) (fun e => (by cases e)) (by unfold maxLen; omega) (by omega) (by have := b1.size; simp; omega) ?_; intro v2 w2 own2 gr2; have b2 := below_grown (bAlloc b1 _) (own1.alloc _) gr2; clear gr2 own1) | (at_builtin; refine keep ?_))
              all_goals
                refine (show Aside _ from ?_)
                change wpList _ _ _ _ _ _
                first | (refine append_list rfl _ _ 26 rfl wv.heap.size 9 is (.string emptyT) 16 Try.underlying26 his zs0 zs1 zs2 rfl _ (0 + (p + 1) + 1) _ (by rfl) own2 w2.heap.size (some ⟨gt, (p + 1), none⟩) (i - (p + 1)) (ct - (p + 1)) _ rfl (Recs.later rT2 b2) (fun _ _ => rfl) (fun e => (by cases e)) (by unfold maxLen; omega) (by omega) b2.size ?_; intro v3 w3 own3 gr3) | (refine append_list rfl _ _ 26 rfl wv.heap.size 9 is (.string emptyT) 16 Try.underlying26 his zs0 zs1 zs2 rfl _ (0 + (p + 1) + 1) _ (by rfl) own2 w2.heap.size (some ⟨gt, 0, none⟩) (i - (p + 1)) _ (fun j => .string (S (P (p + 1 + j)))) rfl (reads_empty _ _ _ _ _ (by omega)) (fun _ _ => rfl) (fun e => (by cases e)) (by unfold maxLen; omega) (by omega) b2.size ?_; intro v3 w3 own3 gr3)
                have b3 := below_grown b2 own2 gr3
                have o3 := Lib.hid own3
                clear gr3 own2 own3
                go_wp2_with (first | (at_builtin; refine append_list rfl _ _ 27 rfl w3.heap.size 3 ii (.int .i64 0) 8 Try.underlying27 hii zi0 zi1 zi2 rfl _ 0 (intsV P) (by rfl) (own_nil _ _ _ _) w3.heap.size (some ⟨gp, 0, none⟩) (p + 1) cp_ (intsV P) rfl (Recs.later rP b3) (fun _ _ => rfl) (fun e => (by cases e)) (by unfold maxLen; omega) (by omega) (Nat.le_refl _) ?_; intro v4 w4 own4 gr4; have b4 := below_grown (Below.refl _ _) (own_nil w3 w3.heap.size 3 (intsV P)) gr4; clear gr4) | (at_builtin; refine append_list rfl _ _ 27 rfl w3.heap.size 3 ii (.int .i64 0) 8 Try.underlying27 hii zi0 zi1 zi2 rfl _ (0 + (p + 1)) _ (by rfl) (own4.alloc _) (w4.heap.size + 1) (some ⟨w4.heap.size, 0, none⟩) 1 1 (fun _ => .int .i64 (i : Int)) rfl (reads_row _ _ _ _ _ (fun j hj => by obtain rfl : j = 0 := (by omega); rfl)) (fun _ _ => rfl) (fun e => (by cases e)) (by unfold maxLen; omega) (by omega) (by have := b4.size; simp; omega) ?_; intro v5 w5 own5 gr5; have b5 := below_grown (bAlloc b4 _) (own4.alloc _) gr5; clear gr5 own4) | (at_builtin; refine keep ?_))
                all_goals
                  refine (show Aside _ from ?_)
                  change wpList _ _ _ _ _ _
                  first | (refine append_list rfl _ _ 27 rfl w3.heap.size 3 ii (.int .i64 0) 8 Try.underlying27 hii zi0 zi1 zi2 rfl _ (0 + (p + 1) + 1) _ (by rfl) own5 w5.heap.size (some ⟨gp, (p + 1), none⟩) (i - (p + 1)) (cp_ - (p + 1)) _ rfl (Recs.later rP2 (bTrans b3 b5)) (fun _ _ => rfl) (fun e => (by cases e)) (by unfold maxLen; omega) (by omega) b5.size ?_; intro v6 w6 own6 gr6) | (refine append_list rfl _ _ 27 rfl w3.heap.size 3 ii (.int .i64 0) 8 Try.underlying27 hii zi0 zi1 zi2 rfl _ (0 + (p + 1) + 1) _ (by rfl) own5 w5.heap.size (some ⟨gp, 0, none⟩) (i - (p + 1)) _ (fun j => intsV P (p + 1 + j)) rfl (reads_empty _ _ _ _ _ (by omega)) (fun _ _ => rfl) (fun e => (by cases e)) (by unfold maxLen; omega) (by omega) b5.size ?_; intro v6 w6 own6 gr6)
                  have b6 := below_grown b5 own5 gr6
                  clear gr6 own5
                  go_wp2
                  go_roundw
                  case rel =>
                    refine ⟨i + 1, insP P (p + 1) i, by omega, by go_num, Lib.hid ?_, Lib.hid ?_, PN, Lib.hid (bTrans VB.out (bTrans b3 b6)), Lib.hid (fun e => by omega)⟩
                    · have oL := own_low (o3.out.later b6 (Nat.le_refl _)) (b0 := w.heap.size) VB.out.size
                      have eL : 0 + (p + 1) + 1 + (i - (p + 1)) = i + 1 := by omega
                      rw [eL] at oL
                      refine Own.congr oL (fun j hj => ?_)
                      have := ins_row (k := (p + 1)) (i := i) (fun q => .string (S q)) P (fun j => .string (S (P j))) (.string (S i)) (fun _ _ => rfl) rfl hk j (by omega)
                      simpa using this
                    · have oL := own_low own6 (b0 := w.heap.size) (by have := VB.out.size; have := b3.size; omega)
                      have eL : 0 + (p + 1) + 1 + (i - (p + 1)) = i + 1 := by omega
                      rw [eL] at oL
                      refine Own.congr oL (fun j hj => ?_)
                      have := ins_row (k := (p + 1)) (i := i) (fun q => .int .i64 (q : Nat)) P (intsV P) (.int .i64 (i : Int)) (fun _ _ => rfl) rfl hk j (by omega)
                      simpa [intsV] using this
                  case measure => simp [intOf]; omega
    · obtain rfl : i = n := by omega
      go_wp2
      go_ret2
      exact ⟨_, _, P, rfl, OT.out, OP.out, BW.out, PL.out⟩
end Go.Proofs.Ytkoifdbbomipbaa.Name
