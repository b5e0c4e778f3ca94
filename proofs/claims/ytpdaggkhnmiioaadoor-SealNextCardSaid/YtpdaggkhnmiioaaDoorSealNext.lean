
/- Where Next says a block of a higher number belongs, a torn write loses nothing: for all numbers, bodies and picks the law returns true, where the table crc.halves holds what the program's text lays in it (the card ties it). -/
import Derived.Test.YtpdaggkhnmiioaaDoorCrcW
import Derived.Test.YtpdaggkhnmiioaaDoorSealK
import Derived.Deep.Upon
import Derived.Deep.DeepCutAuto
import Derived.Deep.CutRange
namespace Go.Proofs.YtpdaggkhnmiioaaDoor.sealNext
open Go.ChangeShapes Go.WideShapes Go.ChangeAt Go.RowKit Go.Deep
open Mem Rec Crc Blk Ref00 Seal
set_option linter.unusedVariables false
set_option linter.unusedSimpArgs false

theorem at_lt {w : World} {g : Nat} {o : Obj} (h : w.heap[g]? = some o) : g < w.heap.size := by
  rcases Nat.lt_or_ge g w.heap.size with hlt | hge
  · exact hlt
  · rw [Array.getElem?_eq_none hge] at h; cases h
theorem at_op {P : Program} {ops : Array Oper} {l : List Oper} {a : Act} {w : World} {Q : Exit → Act → World → Prop} (h : wpList P ops Q l a w) : wpList P ops Q l a w := h
/-- what the walk needs of the two blocks: the new one, the old one, the numbers -/
structure Two (N O : List Int) (n o : Int) : Prop where
  okN : okL N
  okO : okL O
  eN : gE N = 0
  nN : gN N = n
  dA : nA O ≠ n
  dB : nB O ≠ n
  aN : nA N = n
  bN : nB N = n
  eO : gE O = 0 → gN O = o
/-- the document's answer: what Get may tell of what is held -/
theorem Two.says {N O : List Int} {n o : Int} (h : Two N O n o) (p : Int) :
    (held O N p = N ∧ gE (held O N p) = 0 ∧ gN (held O N p) = n) ∨ (held O N p ≠ N ∧ gE (held O N p) ≠ 0) ∨ (held O N p ≠ N ∧ gE (held O N p) = 0 ∧ held O N p = O ∧ gN (held O N p) = o) := by
  have hne : O ≠ N := fun e => h.dA (by rw [e]; exact h.aN)
  by_cases h1 : p < 1
  · rw [show held O N p = O by unfold held; rw [if_pos h1]]
    by_cases e : gE O = 0
    · exact .inr (.inr ⟨hne, e, rfl, h.eO e⟩)
    · exact .inr (.inl ⟨hne, e⟩)
  by_cases h2 : 64 ≤ p
  · rw [show held O N p = N by unfold held; rw [if_neg h1, if_pos h2]]
    exact .inl ⟨rfl, h.eN, h.nN⟩
  have tq : ∀ T : List Int, gE T = 5 → T ≠ N ∧ gE T ≠ 0 := fun T hT => ⟨fun e => by rw [e, h.eN] at hT; omega, by omega⟩
  by_cases h3 : p % 2 = 1
  · rw [show held O N p = torn N O by unfold held; rw [if_neg h1, if_neg h2, if_pos h3]]
    exact .inr (.inl (tq _ (torn_gE h.okN (by rw [h.aN]; exact fun e => h.dB e.symm))))
  · rw [show held O N p = torn O N by unfold held; rw [if_neg h1, if_neg h2, if_neg h3]]
    exact .inr (.inl (tq _ (torn_gE h.okO (by rw [h.bN]; exact h.dA))))
/-! Two blocks in one array -/
theorem zs_get (n i : Nat) : (zs n).getD i 0 = 0 := by
  unfold zs
  simp only [List.getD, List.getElem?_replicate]
  split <;> rfl
def Pair (w : World) (g : Nat) (X Y : List Int) : Prop := w.rangeAt g 0 (bytesV X) ∧ w.rangeAt g 64 (bytesV Y) ∧ w.there g 0 64 ∧ w.there g 64 64 ∧ g < w.heap.size
theorem alloc_two {ops : Array Oper} {rest : List Oper} {o : Oper} {a : Act} {w : World} {Q : Exit → Act → World → Prop} (hw : Region.wanted o (yielded ops a.tmps) = true) (ho : o.op = .alloc 47)
    (h : wpList Tryd.prog ops Q rest (a.put o.dst (.pointer (some ⟨w.heap.size, 0, none⟩))) (w.alloc (.cells (blkC (zs 128)) 47))) : wpList Tryd.prog ops Q (o :: rest) a w :=
  BigFrame.wpList_want hw fun _ hK => by
    unfold Oper.wp execOp
    have e : (Instr.alloc 47 true (.tuple #[])).run Tryd.prog w = .ok (.pointer (some ⟨w.heap.size, 0, none⟩)) (w.alloc (.cells (blkC (zs 128)) 47)) := by kernel_rfl
    simp only [ho, Sem.run_bind, Sem.run_pure, Result.andThen_ok, e]
    exact hK _ _ h
theorem load_mid {ops : Array Oper} {rest : List Oper} {o : Oper} {a : Act} {w : World} {Q : Exit → Act → World → Prop} (sl : Nat) (hd : o.dst = some sl) (hgd : o.guard = none) (x : Operand) (ho : o.op = .load 26 x)
    (g k : Nat) (hx : a.eval x = .pointer (some ⟨g, k, none⟩)) (L : List Int) (hc : w.rangeAt g k (bytesV L)) (hL : L.length = 64)
    (h : wpList Tryd.prog ops Q rest (a.put o.dst (blkV L)) w) : wpList Tryd.prog ops Q (o :: rest) a w :=
  wpList_load_mid hgd 26 x ho g k hx (bytesV L) _ hc Tryd.underlying26 rfl (by rw [bytesV_length, hL]; exact infoBlk) h
theorem store_mid {ops : Array Oper} {rest : List Oper} {o : Oper} {a : Act} {w : World} {Q : Exit → Act → World → Prop} (hgd : o.guard = none) (x y : Operand) (ho : o.op = .store 26 x y)
    (g k : Nat) (L : List Int) (hx : a.eval x = .pointer (some ⟨g, k, none⟩)) (hy : a.eval y = blkV L) (ht : w.there g k 64) (hL : L.length = 64)
    (h : wpList Tryd.prog ops Q rest (a.put o.dst undef) (w.setCells g k (bytesV L))) : wpList Tryd.prog ops Q (o :: rest) a w :=
  wpList_store_mid hgd 26 x y ho g k (blkC L) hx hy (by rw [blkC_size, hL]; exact ht) (infoB L hL) (blkC_one L) h
theorem pair_new (w : World) (t : TypeId) : Pair (w.alloc (.cells (blkC (zs 128)) t)) w.heap.size (zs 64) (zs 64) := by
  have hg : (w.alloc (.cells (blkC (zs 128)) t)).heap[w.heap.size]? = some (.cells (blkC (zs 128)) t (0, 0)) := heap_alloc_new _ _
  have hc : ∀ k, k < 128 → (w.alloc (.cells (blkC (zs 128)) t)).cell? ⟨w.heap.size, k, none⟩ = some (.int .u8 0) := fun k hk => by
    rw [cell_of_row _ _ _ _ _ _ hg, blkC_get (by rw [zs_len]; exact hk), zs_get]
  have hf : ∀ k, (w.alloc (.cells (blkC (zs 128)) t)).frozen? ⟨w.heap.size, k, none⟩ = false := fun k => frozen_of_row _ _ k _ _ hg
  have hz : ∀ o, o + 64 ≤ 128 → (w.alloc (.cells (blkC (zs 128)) t)).rangeAt w.heap.size o (bytesV (zs 64)) := fun o ho j v hj => by
    obtain ⟨h1, h2⟩ := bytesV_get hj
    rw [zs_len] at h1
    rw [hc _ (by omega), h2, zs_get]
  exact ⟨hz 0 (by omega), hz 64 (by omega), fun j hj => ⟨by rw [hc _ (by omega)]; rfl, hf _⟩, fun j hj => ⟨by rw [hc _ (by omega)]; rfl, hf _⟩, by simp⟩
theorem Pair.below {w w' : World} {g : Nat} {X Y : List Int} (h : Pair w g X Y) (hb : Below w.heap.size w w') : Pair w' g X Y := by
  obtain ⟨h1, h2, h3, h4, h5⟩ := h
  refine ⟨range_kept hb h5 h1, (fun j v hj => ((bcell hb).1 _ _ h5).trans (h2 j v hj)), fun j hj => ?_, fun j hj => ?_, Nat.lt_of_lt_of_le h5 hb.size⟩
  · exact ⟨by rw [(bcell hb).1 _ _ h5]; exact (h3 j hj).1, by rw [(bcell hb).2 _ _ h5]; exact (h3 j hj).2⟩
  · exact ⟨by rw [(bcell hb).1 _ _ h5]; exact (h4 j hj).1, by rw [(bcell hb).2 _ _ h5]; exact (h4 j hj).2⟩
theorem pair_row {w : World} {g : Nat} {X Y : List Int} (h : Pair w g X Y) (Z : List Int) : Pair ((w.alloc (.cells (blkC (zs 64)) 26)).setRow w.heap.size (blkC Z)) g X Y := by
  refine h.below ?_
  have b : Below w.heap.size w (w.alloc (.cells (blkC (zs 64)) 26)) := bAlloc (Below.refl _ _) _
  exact below_row _ b (Nat.le_refl _)
theorem heap_apart {w : World} {g g' o : Nat} {vs : List Value} {ob : Obj} (h : w.heap[g']? = some ob) (hne : g' ≠ g) : (w.setCells g o vs).heap[g']? = some ob := by
  rw [World.heap_setCells_other w g o vs (at_lt h) hne]; exact h
theorem store_opm {o : Oper} {a : Act} {w : World} {K : Act → World → Prop} {Kp : Exit → Act → World → Prop} (x y : Operand) (ho : o.op = .store 26 x y)
    (g k : Nat) (L : List Int) (hx : a.eval x = .pointer (some ⟨g, k, none⟩)) (hy : a.eval y = blkV L) (ht : w.there g k 64) (hL : L.length = 64)
    (h : K (a.put o.dst undef) (w.setCells g k (bytesV L))) : Oper.wp Tryd.prog o a w K Kp :=
  wp_store_mid 26 x y ho g k (blkC L) hx hy (by rw [blkC_size, hL]; exact ht) (infoB L hL) (blkC_one L) h
theorem size_set (g : Nat) : ∀ (vs : List Value) (o : Nat) (w : World), (w.setCells g o vs).heap.size = w.heap.size
  | [], _, _ => rfl
  | v :: r, o, w => by rw [World.setCells, size_set g r]; simp
theorem Pair.set0 {w : World} {g : Nat} {X Y : List Int} (h : Pair w g X Y) {L : List Int} (hL : L.length = 64) : Pair (w.setCells g 0 (bytesV L)) g L Y := by
  obtain ⟨h1, h2, h3, h4, h5⟩ := h
  exact ⟨World.rangeAt_setCells_same _ _ _ _ (by rw [bytesV_length, hL]; exact h3), World.rangeAt_setCells_apart h2 _ _ _ (by simp only [bytesV_length, hL]; omega), World.there_setCells h3 _ _ _, World.there_setCells h4 _ _ _, by rw [size_set]; exact h5⟩
theorem Pair.set1 {w : World} {g : Nat} {X Y : List Int} (h : Pair w g X Y) (hX : X.length = 64) {L : List Int} (hL : L.length = 64) : Pair (w.setCells g 64 (bytesV L)) g X L := by
  obtain ⟨h1, h2, h3, h4, h5⟩ := h
  exact ⟨World.rangeAt_setCells_apart h1 _ _ _ (by simp only [bytesV_length, hL, hX]; omega), World.rangeAt_setCells_same _ _ _ _ (by rw [bytesV_length, hL]; exact h4), World.there_setCells h3 _ _ _, World.there_setCells h4 _ _ _, by rw [size_set]; exact h5⟩
theorem below_set {B : Nat} {a w : World} (h : Below B a w) {g : Nat} (hg : B ≤ g) : ∀ (vs : List Value) (o : Nat), Below B a (w.setCells g o vs) := fun vs o => by
  induction vs generalizing o w with
  | nil => exact h
  | cons v r ih => rw [World.setCells]; exact ih (h.setCell (p := ⟨g, o, none⟩) hg v) (o + 1)
theorem pB_ok {n : Int} (h0 : 0 ≤ n) (m : Nat) {bs : List Int} (hl : bs.length = m) (hb : ∀ i, 0 ≤ bs.getD i 0 ∧ bs.getD i 0 ≤ 255) : okL (pB n m bs) := by
  unfold pB
  split
  · rename_i h
    refine pL_ok h0 ?_ hb
    unfold pE at h
    split at h
    · omega
    · split at h
      · omega
      · omega
  · exact zs_ok
structure Sealed (L : List Int) (n : Int) : Prop where
  sok : okL L
  se : gE L = 0
  sn : gN L = n
  sa : nA L = n
  sb : nB L = n
theorem sealed_of {n : Int} (n0 : 1 ≤ n) (n1 : n ≤ 18446744073709551615) {bs : List Int} {a : Nat} (hl : bs.length = a) (hb : ∀ i, 0 ≤ bs.getD i 0 ∧ bs.getD i 0 ≤ 255) (h : pE n a = 0) : Sealed (pB n a bs) n := by
  have e : pB n a bs = pL n bs := by unfold pB; rw [if_pos h]
  have ha : bs.length ≤ 44 := by
    unfold pE at h
    split at h
    · omega
    · split at h <;> omega
  rw [e]
  exact ⟨pL_ok (by omega) ha hb, gE_pL n0 n1 ha, gN_pL n0 n1 ha, nA_pL (by omega) n1 bs, nB_pL (by omega) n1 ha⟩
theorem two_sealed {N O : List Int} {n o : Int} (hN : Sealed N n) (hO : Sealed O o) (h : o ≠ n) : Two N O n o :=
  ⟨hN.sok, hO.sok, hN.se, hN.sn, by rw [hO.sa]; exact h, by rw [hO.sb]; exact h, hN.sa, hN.sb, fun _ => hO.sn⟩
set_option maxRecDepth 100000 in
set_option maxHeartbeats 4000000 in
theorem walk (n m : Int) (A : Option Addr) (a c : Nat) (bs : List Int) (A' : Option Addr) (a' c' : Nat) (bs' : List Int) (A'' : Option Addr) (a'' c'' : Nat) (bs'' : List Int) (p : Int) (w : World) (w0 : (Lit.int .u64 n).wf = true) (w1 : (Lit.int .u64 m).wf = true) (h : ByteArg w A a c bs) (h' : ByteArg w A' a' c' bs') (h'' : ByteArg w A'' a'' c'' bs'') (w5 : (Lit.int .i64 p).wf = true) (L : Laid w) :
    Calls Tryd.prog 7 #[.int .u64 n, .int .u64 m, .slice A a c, .slice A' a' c', .slice A'' a'' c'', .int .i64 p] w fun e w' => e = .returned (.bool true) ∧ Below w.heap.size w w' := by
  obtain ⟨n0, n1⟩ := bounds_u64 w0
  obtain ⟨m0, m1⟩ := bounds_u64 w1
  obtain ⟨p0, p1⟩ := bounds_i64 w5
  have hm : a ≤ 140737488351232 := by have := h.le; have := h.reach; omega
  have hm' : a' ≤ 140737488351232 := by have := h'.le; have := h'.reach; omega
  have hm'' : a'' ≤ 140737488351232 := by have := h''.le; have := h''.reach; omega
  obtain ⟨x, hx⟩ : ∃ x, x = n % 1152921504606846976 + 1 := ⟨_, rfl⟩
  obtain ⟨y, hy⟩ : ∃ y, y = m % 1152921504606846976 + 1 := ⟨_, rfl⟩
  have x0 : 1 ≤ x := by omega
  have x1 : x ≤ 1152921504606846976 := by omega
  have y0 : 1 ≤ y := by omega
  have y1 : y ≤ 1152921504606846976 := by omega
  have tn : Int.tmod n 1152921504606846976 = x - 1 := by rw [Int.tmod_eq_emod_of_nonneg n0]; omega
  have tm : Int.tmod m 1152921504606846976 = y - 1 := by rw [Int.tmod_eq_emod_of_nonneg m0]; omega
  have HL := Lib.hid L
  have C1 := Lib.hid (fun W (hW : Below w.heap.size w W) => put_any x A a c bs W (by omega) (by omega) (by omega) ((h.rd.below hW).more hW.size) h.byte (L.below hW))
  have C2 := Lib.hid (fun W (hW : Below w.heap.size w W) => put_any y A' a' c' bs' W (by omega) (by omega) (by omega) ((h'.rd.below hW).more hW.size) h'.byte (L.below hW))
  have C3 := Lib.hid (fun z W (z0 : 0 ≤ z) (z1 : z ≤ 18446744073709551615) (hW : Below w.heap.size w W) => put_any z A'' a'' c'' bs'' W z0 z1 (by omega) ((h''.rd.below hW).more hW.size) h''.byte (L.below hW))
  clear hx hy w0 w1 w5 n0 n1 m0 m1
  have okX := pB_ok (by omega : 0 ≤ x) a h.rd.1 h.byte
  have okY := pB_ok (by omega : 0 ≤ y) a' h'.rd.1 h'.byte
  obtain ⟨z, hz⟩ : ∃ z, z = max x y + 1 := ⟨_, rfl⟩
  have z0 : x < z ∧ y < z := by omega
  have z1 : z ≤ 1152921504606846977 := by omega
  have C3 := Lib.hid (fun W (hW : Below w.heap.size w W) => C3.out z W (by omega) (by omega) hW)
  have okZ := pB_ok (by omega : 0 ≤ z) a'' h''.rd.1 h''.byte
  have SX := Lib.hid (fun e => sealed_of x0 (by omega) h.rd.1 h.byte (a := a) e)
  have SY := Lib.hid (fun e => sealed_of y0 (by omega) h'.rd.1 h'.byte (a := a') e)
  have SZ := Lib.hid (fun e => sealed_of (by omega : 1 ≤ z) (by omega) h''.rd.1 h''.byte (a := a'') e)
  clear h h' h'' L
  generalize pB x a bs = X at *
  generalize pB y a' bs' = Y at *
  generalize pB z a'' bs'' = Z at *
  generalize pE x a = e1 at *
  generalize pE y a' = e2 at *
  generalize pE z a'' = e3 at *
  have HXl := Lib.hid okX.1
  have HYl := Lib.hid okY.1
  have HZl := Lib.hid okZ.1
  have KX := Lib.hid okX
  have KY := Lib.hid okY
  have KZ := Lib.hid okZ
  clear okX okY okZ
  have P0 := Lib.hid (pair_new w 47)
  have B0 : Hid (Below w.heap.size w (w.alloc (.cells (blkC (zs 128)) 47))) := Lib.hid (bAlloc (Below.refl _ _) _)
  rcases Int.lt_trichotomy x y with hlt | heq | hgt
  · have ez : z = y + 1 := by omega
    clear hz
    subst ez
    have hne : (x == y) = false := by simp; omega
    go_enter Tryd.func7, Tryd.ntmps7
    go_wp2_with ((with_reducible refine at_op ?_); (refine alloc_two rfl rfl ?_))
    refine (C1.out _ B0.out).mono ?_
    rintro e W1 ⟨rfl, b1⟩
    have P1' := Lib.hid (P0.out.below b1)
    have P1 := Lib.hid (P1'.out.set0 HXl.out)
    have B1 : Hid (Below w.heap.size w (W1.setCells w.heap.size 0 (bytesV X))) := Lib.hid (below_set (bTrans B0.out b1) (Nat.le_refl _) _ _)
    clear b1
    go_wp2_with ((with_reducible refine at_op ?_); (refine store_mid rfl (.tmp 33) (.tmp 31) rfl w.heap.size 0 X rfl rfl P1'.out.2.2.1 HXl.out ?_))
    refine (C2.out _ B1.out).mono ?_
    rintro e W2 ⟨rfl, b2⟩
    have P2' := Lib.hid (P1.out.below b2)
    have P2 := Lib.hid (P2'.out.set1 HXl.out HYl.out)
    have B2 : Hid (Below w.heap.size w (W2.setCells w.heap.size 64 (bytesV Y))) := Lib.hid (below_set (bTrans B1.out b2) (Nat.le_refl _) _ _)
    clear b2
    go_wp2_with ((with_reducible refine at_op ?_); (refine store_mid rfl (.tmp 40) (.tmp 38) rfl w.heap.size 64 Y rfl rfl P2'.out.2.2.2.1 HYl.out ?_))
    refine (C3.out _ B2.out).mono ?_
    rintro e W3 ⟨rfl, b3⟩
    have HN3 : Hid ((W3.alloc (.cells (blkC (zs 64)) 26)).heap[W3.heap.size]? = some (.cells (blkC (zs 64)) 26 (0, 0))) := Lib.hid (heap_alloc_new _ _)
    have HZ3 : Hid (((W3.alloc (.cells (blkC (zs 64)) 26)).setRow W3.heap.size (blkC Z)).heap[W3.heap.size]? = some (.cells (blkC Z) 26 (0, 0))) := Lib.hid (row_at HN3.out)
    have pz := P2.out.below b3
    have hgz : w.heap.size < W3.heap.size := pz.2.2.2.2
    have P3 : Hid (Pair ((W3.alloc (.cells (blkC (zs 64)) 26)).setRow W3.heap.size (blkC Z)) w.heap.size X Y) := Lib.hid (pair_row pz Z)
    have B3 : Hid (Below w.heap.size w ((W3.alloc (.cells (blkC (zs 64)) 26)).setRow W3.heap.size (blkC Z))) := Lib.hid (below_row _ (bAlloc (bTrans B2.out b3) _) (bTrans B2.out b3).size)
    clear b3 pz
    go_upto_region 7 with ((with_reducible refine at_op ?_); (first | (refine alloc_blk rfl rfl ?_) | (refine store_blk rfl (.tmp 17) _ rfl W3.heap.size Z (zs 64) _ rfl rfl HN3.out HZl.out zs_64 ?_)))
    by_cases qe1 : e1 = 0
    case neg =>
      have i1 : (e1 != 0) = true := by simpa using qe1
      go_wp2_with fail
      refine (lives_any _ (HL.out.below B3.out)).mono ?_
      rintro e w2 ⟨rfl, hb2⟩
      go_wp2
      go_ret
      exact ⟨rfl, bTrans B3.out hb2⟩
    subst qe1
    by_cases qe2 : e2 = 0
    case neg =>
      have i1 : (e2 != 0) = true := by simpa using qe2
      go_wp2_with fail
      refine (lives_any _ (HL.out.below B3.out)).mono ?_
      rintro e w2 ⟨rfl, hb2⟩
      go_wp2
      go_ret
      exact ⟨rfl, bTrans B3.out hb2⟩
    subst qe2
    by_cases qe3 : e3 = 0
    case neg =>
      have i1 : (e3 != 0) = true := by simpa using qe3
      go_wp2_with fail
      refine (lives_any _ (HL.out.below B3.out)).mono ?_
      rintro e w2 ⟨rfl, hb2⟩
      go_wp2
      go_ret
      exact ⟨rfl, bTrans B3.out hb2⟩
    subst qe3
    have sX := SX.out rfl
    have sY := SY.out rfl
    have sZ := SZ.out rfl
    have hnx : nxW X Y = 0 := by unfold nxW nwE nwW; rw [sX.se, sY.se, sX.sn, sY.sn]; simp; omega
    have C4 := next_any X Y _ KX.out KY.out (HL.out.below B3.out)
    rw [hnx] at C4
    have says := (two_sealed sZ sX (by omega)).says p
    have okH := held_ok KX.out KZ.out p
    have HHl := Lib.hid okH.1
    have C4 := Lib.hid C4
    have hu := Tryd.underlying26
    have HI := Lib.hid (fun (L : List Int) (h : L.length = 64) => (by rw [bytesV_length, h]; exact infoBlk : (Tryd.prog.info? 26).map (·.size) = some (bytesV L).length))
    have says := Lib.hid says
    have okH := Lib.hid okH
    have sXe := Lib.hid sX
    have sYe := Lib.hid sY
    clear hnx sX sY sZ
    go_wp2_with ((with_reducible refine at_op ?_); (first | (refine load_mid 70 rfl rfl (.tmp 69) rfl w.heap.size 0 rfl X P3.out.1 HXl.out ?_) | (refine load_mid 72 rfl rfl (.tmp 71) rfl w.heap.size 64 rfl Y P3.out.2.1 HYl.out ?_)))
    refine C4.out.mono ?_
    rintro e W4 ⟨rfl, b4⟩
    have P4 := Lib.hid (P3.out.below b4)
    have HZ4 := Lib.hid (kept_at' b4 HZ3.out)
    have B4 := Lib.hid (bTrans B3.out b4)
    clear b4
    go_upto_region 15 with fail
    go_cut [14] from 21 (fun s wx => s = .int .i64 0 ∧ Pair wx w.heap.size (held X Z p) Y ∧ wx.heap[W3.heap.size]? = some (.cells (blkC Z) 26 (0, 0)) ∧ Below w.heap.size w wx)
    case first =>
      refine wp_region_held_drew (S := (fun _ => True)) (by kernel_rfl) ?_ (fun hHeld => ?_)
      · trivial
      refine wpAnyH_take (i := 0) (oi := ⟨some 78, _, _, _, _, _⟩) (v := ?_) rfl (by kernel_rfl) (by kernel_rfl) (by kernel_rfl) (fun _ _ _ h => h) (Or.inl ⟨by rfl, ?_⟩) (by assumption) ?_
      rotate_left
      · (intro w hSw; (try dsimp only at hSw); go_simp <;> (with_reducible rfl))
      try simp only [Act.put, List.setIfInBounds_toArray, List.set_cons_zero, List.set_cons_succ]
      refine wpAnyH_take (i := 1) (oi := ⟨some 79, _, _, _, _, _⟩) (v := ?_) rfl (by kernel_rfl) (by kernel_rfl) (by kernel_rfl) (fun _ _ _ h => h) (Or.inl ⟨by rfl, ?_⟩) (by assumption) ?_
      rotate_left
      · (intro w hSw; (try dsimp only at hSw); go_simp <;> (with_reducible rfl))
      try simp only [Act.put, List.setIfInBounds_toArray, List.set_cons_zero, List.set_cons_succ]
      refine wpAnyH_take (i := 2) (oi := ⟨some 80, _, _, _, _, _⟩) (v := ?_) rfl (by kernel_rfl) (by kernel_rfl) (by kernel_rfl) (fun _ _ _ h => h) (Or.inl ⟨by rfl, ?_⟩) (by assumption) ?_
      rotate_left
      · (intro w hSw; (try dsimp only at hSw); go_simp <;> (with_reducible rfl))
      try simp only [Act.put, List.setIfInBounds_toArray, List.set_cons_zero, List.set_cons_succ]
      refine wpAnyH_take (i := 5) (oi := ⟨some 83, _, _, _, _, _⟩) (v := ?_) rfl (by kernel_rfl) (by kernel_rfl) (by kernel_rfl) (fun _ _ _ h => h) (Or.inl ⟨by rfl, ?_⟩) (by assumption) ?_
      rotate_left
      · (intro w hSw; (try dsimp only at hSw); go_simp <;> (with_reducible rfl))
      try simp only [Act.put, List.setIfInBounds_toArray, List.set_cons_zero, List.set_cons_succ]
      refine wpAnyH_ready (rs := [3, 4]) (by kernel_rfl) (by simp) ?_
      refine AllReadyH.cons (o := ⟨some 81, _, _, _, _, _⟩) rfl (fun K hK => ?_) ?_
      · refine wp_load_mid 26 _ rfl w.heap.size 0 rfl (bytesV X) _ P4.out.1 hu rfl (HI.out X HXl.out) ?_
        refine hK.out _ _ trivial (fun hHeld => ?_)
        clear hK K
        try simp only [Act.put, List.setIfInBounds_toArray, List.set_cons_zero, List.set_cons_succ]
        refine wpAnyH_ready (rs := [4]) (by kernel_rfl) (by simp) ?_
        refine AllReadyH.cons (o := ⟨some 82, _, _, _, _, _⟩) rfl (fun K hK => ?_) ?_
        · refine wp_load_mid 26 _ rfl W3.heap.size 0 rfl (bytesV Z) _ (range_of HZ4.out) hu rfl (HI.out Z HZl.out) ?_
          refine hK.out _ _ trivial (fun hHeld => ?_)
          clear hK K
          try simp only [Act.put, List.setIfInBounds_toArray, List.set_cons_zero, List.set_cons_succ]
          refine wpAnyH_ready (rs := [6]) (by kernel_rfl) (by simp) ?_
          refine AllReadyH.cons (o := ⟨some 84, _, _, _, _, _⟩) rfl (fun K hK => ?_) ?_
          · go_simp
            go_at_call 22
            refine (torn_any X Z p _ KX.out KZ.out p0 p1).mono ?_
            rintro e wn ⟨rfl, bn0⟩
            have bn := bTrans (bDrew (Below.refl W4.heap.size W4)) bn0
            clear bn0
            try go_wp2_with fail
            refine hK.out _ _ trivial (fun hHeld => ?_)
            clear hK K
            try simp only [Act.put, List.setIfInBounds_toArray, List.set_cons_zero, List.set_cons_succ]
            refine wpAnyH_take (i := 7) (oi := ⟨some 85, _, _, _, _, _⟩) (v := ?_) rfl (by kernel_rfl) (by kernel_rfl) (by kernel_rfl) (fun _ _ _ h => h) (Or.inl ⟨by rfl, ?_⟩) (by assumption) ?_
            rotate_left
            · (intro w hSw; (try dsimp only at hSw); go_simp <;> (with_reducible rfl))
            try simp only [Act.put, List.setIfInBounds_toArray, List.set_cons_zero, List.set_cons_succ]
            refine wpAnyH_ready (rs := [8]) (by kernel_rfl) (by simp) ?_
            refine AllReadyH.cons (o := ⟨none, _, _, _, _, _⟩) rfl (fun K hK => ?_) ?_
            · refine store_opm (.tmp 85) (.tmp 84) rfl w.heap.size 0 (held X Z p) rfl rfl (P4.out.below bn).2.2.1 HHl.out ?_
              refine hK.out _ _ trivial (fun hHeld => ?_)
              clear hK K
              try simp only [Act.put, List.setIfInBounds_toArray, List.set_cons_zero, List.set_cons_succ]
              refine wpAnyH_done (by kernel_rfl) ?_ _
              go_wp2_with fail
              go_meet
              exact ⟨rfl, (P4.out.below bn).set0 HHl.out, (heap_apart (kept_at' bn HZ4.out) (by omega)), below_set (bTrans B4.out bn) (Nat.le_refl _) _ _⟩
            · exact AllReadyH.nil
          · exact AllReadyH.nil
        · exact AllReadyH.nil
      · refine AllReadyH.cons (o := ⟨some 82, _, _, _, _, _⟩) rfl (fun K hK => ?_) ?_
        · refine wp_load_mid 26 _ rfl W3.heap.size 0 rfl (bytesV Z) _ (range_of HZ4.out) hu rfl (HI.out Z HZl.out) ?_
          refine hK.out _ _ trivial (fun hHeld => ?_)
          clear hK K
          try simp only [Act.put, List.setIfInBounds_toArray, List.set_cons_zero, List.set_cons_succ]
          refine wpAnyH_ready (rs := [3]) (by kernel_rfl) (by simp) ?_
          refine AllReadyH.cons (o := ⟨some 81, _, _, _, _, _⟩) rfl (fun K hK => ?_) ?_
          · refine wp_load_mid 26 _ rfl w.heap.size 0 rfl (bytesV X) _ P4.out.1 hu rfl (HI.out X HXl.out) ?_
            refine hK.out _ _ trivial (fun hHeld => ?_)
            clear hK K
            try simp only [Act.put, List.setIfInBounds_toArray, List.set_cons_zero, List.set_cons_succ]
            refine wpAnyH_ready (rs := [6]) (by kernel_rfl) (by simp) ?_
            refine AllReadyH.cons (o := ⟨some 84, _, _, _, _, _⟩) rfl (fun K hK => ?_) ?_
            · go_simp
              go_at_call 22
              refine (torn_any X Z p _ KX.out KZ.out p0 p1).mono ?_
              rintro e wn ⟨rfl, bn0⟩
              have bn := bTrans (bDrew (Below.refl W4.heap.size W4)) bn0
              clear bn0
              try go_wp2_with fail
              refine hK.out _ _ trivial (fun hHeld => ?_)
              clear hK K
              try simp only [Act.put, List.setIfInBounds_toArray, List.set_cons_zero, List.set_cons_succ]
              refine wpAnyH_take (i := 7) (oi := ⟨some 85, _, _, _, _, _⟩) (v := ?_) rfl (by kernel_rfl) (by kernel_rfl) (by kernel_rfl) (fun _ _ _ h => h) (Or.inl ⟨by rfl, ?_⟩) (by assumption) ?_
              rotate_left
              · (intro w hSw; (try dsimp only at hSw); go_simp <;> (with_reducible rfl))
              try simp only [Act.put, List.setIfInBounds_toArray, List.set_cons_zero, List.set_cons_succ]
              refine wpAnyH_ready (rs := [8]) (by kernel_rfl) (by simp) ?_
              refine AllReadyH.cons (o := ⟨none, _, _, _, _, _⟩) rfl (fun K hK => ?_) ?_
              · refine store_opm (.tmp 85) (.tmp 84) rfl w.heap.size 0 (held X Z p) rfl rfl (P4.out.below bn).2.2.1 HHl.out ?_
                refine hK.out _ _ trivial (fun hHeld => ?_)
                clear hK K
                try simp only [Act.put, List.setIfInBounds_toArray, List.set_cons_zero, List.set_cons_succ]
                refine wpAnyH_done (by kernel_rfl) ?_ _
                go_wp2_with fail
                go_meet
                exact ⟨rfl, (P4.out.below bn).set0 HHl.out, (heap_apart (kept_at' bn HZ4.out) (by omega)), below_set (bTrans B4.out bn) (Nat.le_refl _) _ _⟩
              · exact AllReadyH.nil
            · exact AllReadyH.nil
          · exact AllReadyH.nil
        · exact AllReadyH.nil
    case rest =>
      obtain ⟨rfl, p5, hz5, b5⟩ := hcut
      have P5' := Lib.hid p5
      have HZ5' := Lib.hid hz5
      have B5' := Lib.hid b5
      clear p5 hz5 b5
      generalize held X Z p = H at *
      rcases says.out with ⟨t1, t2, t3⟩ | ⟨t1, t2⟩ | ⟨t1, t2, t3, t4⟩
      · have hq : ∀ W : World, (Op.equalIn 10000 26 (.agg (bytesV H).toArray) (.agg (bytesV Z).toArray)).run Tryd.prog W = .ok true W := fun W => eql_blk W okH.out KZ.out true (by simp [t1])
        have e1 : nwE H Y = 0 := by unfold nwE; rw [if_neg]; rintro ⟨u, v⟩; exact v sYe.out.se
        have e2 : nwW H Y = 0 := by
          unfold nwW
          have a1 := sXe.out.se
          have a2 := sXe.out.sn
          have a3 := sYe.out.se
          have a4 := sYe.out.sn
          rw [if_neg (by rw [a3]; simp), if_neg (by rw [a3]; simp), if_neg (by rw [t2, t3, a4]; omega)]
        have C5 := newest_any H Y wc okH.out KY.out (HL.out.below B5'.out)
        rw [e1, e2] at C5
        have C5 := Lib.hid C5
        have P5 := P5'
        clear e1 e2 t1 t2 t3
        go_wp2_with ((with_reducible refine at_op ?_); (first | (refine load_mid 88 rfl rfl (.tmp 87) rfl w.heap.size 0 rfl H P5.out.1 HHl.out ?_) | (refine load_mid 90 rfl rfl (.tmp 89) rfl w.heap.size 64 rfl Y P5.out.2.1 HYl.out ?_)))
        refine C5.out.mono ?_
        rintro e W5 ⟨rfl, b6⟩
        have P5 := Lib.hid (P5'.out.below b6)
        have HZ5 := Lib.hid (kept_at' b6 HZ5'.out)
        have B5 := Lib.hid (bTrans B5'.out b6)
        clear b6
        go_upto_region 19 with fail
        refine wp_region_held_drew (S := (fun w' => (w'.rangeAt w.heap.size 0 (bytesV H) ∧ w'.rangeAt W3.heap.size 0 (bytesV Z)) ∧ Below W5.heap.size W5 w')) (by kernel_rfl) ?_ (fun hHeld => ?_)
        · exact ⟨⟨P5.out.1, range_of HZ5.out⟩, bDrew (Below.refl _ _)⟩
        refine wpAnyH_take (i := 0) (oi := ⟨some 96, _, _, _, _, _⟩) (v := ?_) rfl (by kernel_rfl) (by kernel_rfl) (by kernel_rfl) (fun _ _ _ h => h) (Or.inl ⟨by rfl, ?_⟩) (by assumption) ?_
        rotate_left
        · (intro w hSw; (try dsimp only at hSw); go_simp <;> (with_reducible rfl))
        try simp only [Act.put, List.setIfInBounds_toArray, List.set_cons_zero, List.set_cons_succ]
        refine wpAnyH_take (i := 1) (oi := ⟨some 97, _, _, _, _, _⟩) (v := ?_) rfl (by kernel_rfl) (by kernel_rfl) (by kernel_rfl) (fun _ _ _ h => h) (Or.inl ⟨by rfl, ?_⟩) (by assumption) ?_
        rotate_left
        · (intro w hSw; (try dsimp only at hSw); go_simp <;> (with_reducible rfl))
        try simp only [Act.put, List.setIfInBounds_toArray, List.set_cons_zero, List.set_cons_succ]
        refine wpAnyH_take (i := 2) (oi := ⟨some 98, _, _, _, _, _⟩) (v := ?_) rfl (by kernel_rfl) (by kernel_rfl) (by kernel_rfl) (fun _ _ _ h => h) (Or.inl ⟨by rfl, ?_⟩) (by assumption) ?_
        rotate_left
        · (intro w hSw; (try dsimp only at hSw); go_simp <;> (with_reducible rfl))
        try simp only [Act.put, List.setIfInBounds_toArray, List.set_cons_zero, List.set_cons_succ]
        refine wpAnyH_take (i := 3) (oi := ⟨some 99, _, _, _, _, _⟩) (v := ?_) rfl (by kernel_rfl) (by kernel_rfl) (by kernel_rfl) (fun _ _ _ h => h) (Or.inl ⟨by rfl, ?_⟩) (by assumption) ?_
        rotate_left
        · (intro w hSw; (try dsimp only at hSw); go_simp <;> (with_reducible rfl))
        try simp only [Act.put, List.setIfInBounds_toArray, List.set_cons_zero, List.set_cons_succ]
        refine wpAnyH_take (i := 4) (oi := ⟨some 100, _, _, _, _, _⟩) (v := ?_) rfl (by kernel_rfl) (by kernel_rfl) (by kernel_rfl) (fun _ _ _ h => h) (Or.inl ⟨by rfl, ?_⟩) (by assumption) ?_
        rotate_left
        · (intro w hSw; (try dsimp only at hSw); go_simp <;> (with_reducible rfl))
        try simp only [Act.put, List.setIfInBounds_toArray, List.set_cons_zero, List.set_cons_succ]
        refine wpAnyH_take (i := 5) (oi := ⟨some 101, _, _, _, _, _⟩) (v := _) rfl (by kernel_rfl) (by kernel_rfl) (by kernel_rfl) (fun _ _ _ h => h) (yieldsIf_load_mid (by rfl) _ _ rfl w.heap.size 0 rfl (bytesV H) _ (fun w h => h.1.1) hu rfl (HI.out H HHl.out)) (by assumption) ?_
        try simp only [Act.put, List.setIfInBounds_toArray, List.set_cons_zero, List.set_cons_succ]
        refine wpAnyH_take (i := 6) (oi := ⟨some 102, _, _, _, _, _⟩) (v := _) rfl (by kernel_rfl) (by kernel_rfl) (by kernel_rfl) (fun _ _ _ h => h) (yieldsIf_load_mid (by rfl) _ _ rfl W3.heap.size 0 rfl (bytesV Z) _ (fun w h => h.1.2) hu rfl (HI.out Z HZl.out)) (by assumption) ?_
        try simp only [Act.put, List.setIfInBounds_toArray, List.set_cons_zero, List.set_cons_succ]
        refine wpAnyH_take (i := 7) (oi := ⟨some 103, _, _, _, _, _⟩) (v := ?_) rfl (by kernel_rfl) (by kernel_rfl) (by kernel_rfl) (fun _ _ _ h => h) (Or.inl ⟨by rfl, ?_⟩) (by assumption) ?_
        rotate_left
        · (intro w hSw; (try dsimp only at hSw); go_simp <;> (with_reducible rfl))
        try simp only [Act.put, List.setIfInBounds_toArray, List.set_cons_zero, List.set_cons_succ]
        refine wpAnyH_take (i := 8) (oi := ⟨some 104, _, _, _, _, _⟩) (v := ?_) rfl (by kernel_rfl) (by kernel_rfl) (by kernel_rfl) (fun _ _ _ h => h) (Or.inl ⟨by rfl, ?_⟩) (by assumption) ?_
        rotate_left
        · (intro w hSw; (try dsimp only at hSw); go_simp <;> (with_reducible rfl))
        try simp only [Act.put, List.setIfInBounds_toArray, List.set_cons_zero, List.set_cons_succ]
        refine wpAnyH_take (i := 9) (oi := ⟨some 105, _, _, _, _, _⟩) (v := ?_) rfl (by kernel_rfl) (by kernel_rfl) (by kernel_rfl) (fun _ _ _ h => h) (Or.inl ⟨by rfl, ?_⟩) (by assumption) ?_
        rotate_left
        · (intro w hSw; (try dsimp only at hSw); go_simp <;> (with_reducible rfl))
        try simp only [Act.put, List.setIfInBounds_toArray, List.set_cons_zero, List.set_cons_succ]
        refine wpAnyH_ready (rs := [10]) (by kernel_rfl) (by simp) ?_
        refine AllReadyH.cons (o := ⟨some 106, _, _, _, _, _⟩) rfl (fun K hK => ?_) ?_
        · go_simp
          go_at_call 12
          refine (lives_any _ (HL.out.below (bTrans B5.out hHeld.2))).mono ?_
          rintro e wn ⟨rfl, bn⟩
          have Bn : Below W5.heap.size W5 wn := bTrans hHeld.2 bn
          try go_wp2_with fail
          refine hK.out _ _ ⟨⟨(fun j v hj => ((bcell Bn).1 _ _ P5.out.2.2.2.2).trans (P5.out.1 j v hj)), range_kept Bn (at_lt HZ5.out) (range_of HZ5.out)⟩, Bn⟩ (fun hHeld => ?_)
          clear hK K
          try simp only [Act.put, List.setIfInBounds_toArray, List.set_cons_zero, List.set_cons_succ]
          refine wpAnyH_take (i := 11) (oi := ⟨some 107, _, _, _, _, _⟩) (v := ?_) rfl (by kernel_rfl) (by kernel_rfl) (by kernel_rfl) (fun _ _ _ h => h) (Or.inl ⟨by rfl, ?_⟩) (by assumption) ?_
          rotate_left
          · (intro w hSw; (try dsimp only at hSw); go_simp <;> (with_reducible rfl))
          try simp only [Act.put, List.setIfInBounds_toArray, List.set_cons_zero, List.set_cons_succ]
          refine wpAnyH_take (i := 12) (oi := ⟨some 12, _, _, _, _, _⟩) (v := ?_) rfl (by kernel_rfl) (by kernel_rfl) (by kernel_rfl) (fun _ _ _ h => h) (Or.inl ⟨by rfl, ?_⟩) (by assumption) ?_
          rotate_left
          · (intro w hSw; (try dsimp only at hSw); go_simp <;> (with_reducible rfl))
          try simp only [Act.put, List.setIfInBounds_toArray, List.set_cons_zero, List.set_cons_succ]
          refine wpAnyH_done (by kernel_rfl) ?_ _
          go_wp2
          go_ret
          exact ⟨rfl, bTrans B5.out Bn⟩
        · exact AllReadyH.nil
      · have hq : ∀ W : World, (Op.equalIn 10000 26 (.agg (bytesV H).toArray) (.agg (bytesV Z).toArray)).run Tryd.prog W = .ok false W := fun W => eql_blk W okH.out KZ.out false (by simp [t1])
        have e1 : nwE H Y = 0 := by unfold nwE; rw [if_neg]; rintro ⟨u, v⟩; exact v sYe.out.se
        have e2 : nwW H Y = 1 := by
          unfold nwW
          have a1 := sXe.out.se
          have a2 := sXe.out.sn
          have a3 := sYe.out.se
          have a4 := sYe.out.sn
          rw [if_neg (by rw [a3]; simp), if_neg (by rw [a3]; simp), if_pos (Or.inl t2)]
        have C5 := newest_any H Y wc okH.out KY.out (HL.out.below B5'.out)
        rw [e1, e2] at C5
        have C5 := Lib.hid C5
        have P5 := P5'
        clear e1 e2 t1 t2 
        go_wp2_with ((with_reducible refine at_op ?_); (first | (refine load_mid 88 rfl rfl (.tmp 87) rfl w.heap.size 0 rfl H P5.out.1 HHl.out ?_) | (refine load_mid 90 rfl rfl (.tmp 89) rfl w.heap.size 64 rfl Y P5.out.2.1 HYl.out ?_)))
        refine C5.out.mono ?_
        rintro e W5 ⟨rfl, b6⟩
        have P5 := Lib.hid (P5'.out.below b6)
        have HZ5 := Lib.hid (kept_at' b6 HZ5'.out)
        have B5 := Lib.hid (bTrans B5'.out b6)
        clear b6
        go_upto_region 19 with fail
        refine wp_region_held_drew (S := (fun w' => (w'.rangeAt w.heap.size 0 (bytesV H) ∧ w'.rangeAt W3.heap.size 0 (bytesV Z)) ∧ Below W5.heap.size W5 w')) (by kernel_rfl) ?_ (fun hHeld => ?_)
        · exact ⟨⟨P5.out.1, range_of HZ5.out⟩, bDrew (Below.refl _ _)⟩
        refine wpAnyH_take (i := 0) (oi := ⟨some 96, _, _, _, _, _⟩) (v := ?_) rfl (by kernel_rfl) (by kernel_rfl) (by kernel_rfl) (fun _ _ _ h => h) (Or.inl ⟨by rfl, ?_⟩) (by assumption) ?_
        rotate_left
        · (intro w hSw; (try dsimp only at hSw); go_simp <;> (with_reducible rfl))
        try simp only [Act.put, List.setIfInBounds_toArray, List.set_cons_zero, List.set_cons_succ]
        refine wpAnyH_take (i := 1) (oi := ⟨some 97, _, _, _, _, _⟩) (v := ?_) rfl (by kernel_rfl) (by kernel_rfl) (by kernel_rfl) (fun _ _ _ h => h) (Or.inl ⟨by rfl, ?_⟩) (by assumption) ?_
        rotate_left
        · (intro w hSw; (try dsimp only at hSw); go_simp <;> (with_reducible rfl))
        try simp only [Act.put, List.setIfInBounds_toArray, List.set_cons_zero, List.set_cons_succ]
        refine wpAnyH_take (i := 2) (oi := ⟨some 98, _, _, _, _, _⟩) (v := ?_) rfl (by kernel_rfl) (by kernel_rfl) (by kernel_rfl) (fun _ _ _ h => h) (Or.inl ⟨by rfl, ?_⟩) (by assumption) ?_
        rotate_left
        · (intro w hSw; (try dsimp only at hSw); go_simp <;> (with_reducible rfl))
        try simp only [Act.put, List.setIfInBounds_toArray, List.set_cons_zero, List.set_cons_succ]
        refine wpAnyH_take (i := 3) (oi := ⟨some 99, _, _, _, _, _⟩) (v := ?_) rfl (by kernel_rfl) (by kernel_rfl) (by kernel_rfl) (fun _ _ _ h => h) (Or.inl ⟨by rfl, ?_⟩) (by assumption) ?_
        rotate_left
        · (intro w hSw; (try dsimp only at hSw); go_simp <;> (with_reducible rfl))
        try simp only [Act.put, List.setIfInBounds_toArray, List.set_cons_zero, List.set_cons_succ]
        refine wpAnyH_take (i := 4) (oi := ⟨some 100, _, _, _, _, _⟩) (v := ?_) rfl (by kernel_rfl) (by kernel_rfl) (by kernel_rfl) (fun _ _ _ h => h) (Or.inl ⟨by rfl, ?_⟩) (by assumption) ?_
        rotate_left
        · (intro w hSw; (try dsimp only at hSw); go_simp <;> (with_reducible rfl))
        try simp only [Act.put, List.setIfInBounds_toArray, List.set_cons_zero, List.set_cons_succ]
        refine wpAnyH_take (i := 5) (oi := ⟨some 101, _, _, _, _, _⟩) (v := _) rfl (by kernel_rfl) (by kernel_rfl) (by kernel_rfl) (fun _ _ _ h => h) (yieldsIf_load_mid (by rfl) _ _ rfl w.heap.size 0 rfl (bytesV H) _ (fun w h => h.1.1) hu rfl (HI.out H HHl.out)) (by assumption) ?_
        try simp only [Act.put, List.setIfInBounds_toArray, List.set_cons_zero, List.set_cons_succ]
        refine wpAnyH_take (i := 6) (oi := ⟨some 102, _, _, _, _, _⟩) (v := _) rfl (by kernel_rfl) (by kernel_rfl) (by kernel_rfl) (fun _ _ _ h => h) (yieldsIf_load_mid (by rfl) _ _ rfl W3.heap.size 0 rfl (bytesV Z) _ (fun w h => h.1.2) hu rfl (HI.out Z HZl.out)) (by assumption) ?_
        try simp only [Act.put, List.setIfInBounds_toArray, List.set_cons_zero, List.set_cons_succ]
        refine wpAnyH_take (i := 7) (oi := ⟨some 103, _, _, _, _, _⟩) (v := ?_) rfl (by kernel_rfl) (by kernel_rfl) (by kernel_rfl) (fun _ _ _ h => h) (Or.inl ⟨by rfl, ?_⟩) (by assumption) ?_
        rotate_left
        · (intro w hSw; (try dsimp only at hSw); go_simp <;> (with_reducible rfl))
        try simp only [Act.put, List.setIfInBounds_toArray, List.set_cons_zero, List.set_cons_succ]
        refine wpAnyH_take (i := 8) (oi := ⟨some 104, _, _, _, _, _⟩) (v := ?_) rfl (by kernel_rfl) (by kernel_rfl) (by kernel_rfl) (fun _ _ _ h => h) (Or.inl ⟨by rfl, ?_⟩) (by assumption) ?_
        rotate_left
        · (intro w hSw; (try dsimp only at hSw); go_simp <;> (with_reducible rfl))
        try simp only [Act.put, List.setIfInBounds_toArray, List.set_cons_zero, List.set_cons_succ]
        refine wpAnyH_take (i := 9) (oi := ⟨some 105, _, _, _, _, _⟩) (v := ?_) rfl (by kernel_rfl) (by kernel_rfl) (by kernel_rfl) (fun _ _ _ h => h) (Or.inl ⟨by rfl, ?_⟩) (by assumption) ?_
        rotate_left
        · (intro w hSw; (try dsimp only at hSw); go_simp <;> (with_reducible rfl))
        try simp only [Act.put, List.setIfInBounds_toArray, List.set_cons_zero, List.set_cons_succ]
        refine wpAnyH_ready (rs := [10]) (by kernel_rfl) (by simp) ?_
        refine AllReadyH.cons (o := ⟨some 106, _, _, _, _, _⟩) rfl (fun K hK => ?_) ?_
        · go_simp
          go_at_call 12
          refine (lives_any _ (HL.out.below (bTrans B5.out hHeld.2))).mono ?_
          rintro e wn ⟨rfl, bn⟩
          have Bn : Below W5.heap.size W5 wn := bTrans hHeld.2 bn
          try go_wp2_with fail
          refine hK.out _ _ ⟨⟨(fun j v hj => ((bcell Bn).1 _ _ P5.out.2.2.2.2).trans (P5.out.1 j v hj)), range_kept Bn (at_lt HZ5.out) (range_of HZ5.out)⟩, Bn⟩ (fun hHeld => ?_)
          clear hK K
          try simp only [Act.put, List.setIfInBounds_toArray, List.set_cons_zero, List.set_cons_succ]
          refine wpAnyH_take (i := 11) (oi := ⟨some 107, _, _, _, _, _⟩) (v := ?_) rfl (by kernel_rfl) (by kernel_rfl) (by kernel_rfl) (fun _ _ _ h => h) (Or.inl ⟨by rfl, ?_⟩) (by assumption) ?_
          rotate_left
          · (intro w hSw; (try dsimp only at hSw); go_simp <;> (with_reducible rfl))
          try simp only [Act.put, List.setIfInBounds_toArray, List.set_cons_zero, List.set_cons_succ]
          refine wpAnyH_take (i := 12) (oi := ⟨some 12, _, _, _, _, _⟩) (v := ?_) rfl (by kernel_rfl) (by kernel_rfl) (by kernel_rfl) (fun _ _ _ h => h) (Or.inl ⟨by rfl, ?_⟩) (by assumption) ?_
          rotate_left
          · (intro w hSw; (try dsimp only at hSw); go_simp <;> (with_reducible rfl))
          try simp only [Act.put, List.setIfInBounds_toArray, List.set_cons_zero, List.set_cons_succ]
          refine wpAnyH_done (by kernel_rfl) ?_ _
          go_wp2
          go_ret
          exact ⟨rfl, bTrans B5.out Bn⟩
        · exact AllReadyH.nil
      · have hq : ∀ W : World, (Op.equalIn 10000 26 (.agg (bytesV H).toArray) (.agg (bytesV Z).toArray)).run Tryd.prog W = .ok false W := fun W => eql_blk W okH.out KZ.out false (by simp [t1])
        have e1 : nwE H Y = 0 := by unfold nwE; rw [if_neg]; rintro ⟨u, v⟩; exact v sYe.out.se
        have e2 : nwW H Y = 1 := by
          unfold nwW
          have a1 := sXe.out.se
          have a2 := sXe.out.sn
          have a3 := sYe.out.se
          have a4 := sYe.out.sn
          rw [if_neg (by rw [a3]; simp), if_neg (by rw [a3]; simp), if_pos (Or.inr (by rw [t4, a4]; exact hlt))]
        have C5 := newest_any H Y wc okH.out KY.out (HL.out.below B5'.out)
        rw [e1, e2] at C5
        have C5 := Lib.hid C5
        have P5 := P5'
        clear e1 e2 t1 t2 t3 t4
        go_wp2_with ((with_reducible refine at_op ?_); (first | (refine load_mid 88 rfl rfl (.tmp 87) rfl w.heap.size 0 rfl H P5.out.1 HHl.out ?_) | (refine load_mid 90 rfl rfl (.tmp 89) rfl w.heap.size 64 rfl Y P5.out.2.1 HYl.out ?_)))
        refine C5.out.mono ?_
        rintro e W5 ⟨rfl, b6⟩
        have P5 := Lib.hid (P5'.out.below b6)
        have HZ5 := Lib.hid (kept_at' b6 HZ5'.out)
        have B5 := Lib.hid (bTrans B5'.out b6)
        clear b6
        go_upto_region 19 with fail
        refine wp_region_held_drew (S := (fun w' => (w'.rangeAt w.heap.size 0 (bytesV H) ∧ w'.rangeAt W3.heap.size 0 (bytesV Z)) ∧ Below W5.heap.size W5 w')) (by kernel_rfl) ?_ (fun hHeld => ?_)
        · exact ⟨⟨P5.out.1, range_of HZ5.out⟩, bDrew (Below.refl _ _)⟩
        refine wpAnyH_take (i := 0) (oi := ⟨some 96, _, _, _, _, _⟩) (v := ?_) rfl (by kernel_rfl) (by kernel_rfl) (by kernel_rfl) (fun _ _ _ h => h) (Or.inl ⟨by rfl, ?_⟩) (by assumption) ?_
        rotate_left
        · (intro w hSw; (try dsimp only at hSw); go_simp <;> (with_reducible rfl))
        try simp only [Act.put, List.setIfInBounds_toArray, List.set_cons_zero, List.set_cons_succ]
        refine wpAnyH_take (i := 1) (oi := ⟨some 97, _, _, _, _, _⟩) (v := ?_) rfl (by kernel_rfl) (by kernel_rfl) (by kernel_rfl) (fun _ _ _ h => h) (Or.inl ⟨by rfl, ?_⟩) (by assumption) ?_
        rotate_left
        · (intro w hSw; (try dsimp only at hSw); go_simp <;> (with_reducible rfl))
        try simp only [Act.put, List.setIfInBounds_toArray, List.set_cons_zero, List.set_cons_succ]
        refine wpAnyH_take (i := 2) (oi := ⟨some 98, _, _, _, _, _⟩) (v := ?_) rfl (by kernel_rfl) (by kernel_rfl) (by kernel_rfl) (fun _ _ _ h => h) (Or.inl ⟨by rfl, ?_⟩) (by assumption) ?_
        rotate_left
        · (intro w hSw; (try dsimp only at hSw); go_simp <;> (with_reducible rfl))
        try simp only [Act.put, List.setIfInBounds_toArray, List.set_cons_zero, List.set_cons_succ]
        refine wpAnyH_take (i := 3) (oi := ⟨some 99, _, _, _, _, _⟩) (v := ?_) rfl (by kernel_rfl) (by kernel_rfl) (by kernel_rfl) (fun _ _ _ h => h) (Or.inl ⟨by rfl, ?_⟩) (by assumption) ?_
        rotate_left
        · (intro w hSw; (try dsimp only at hSw); go_simp <;> (with_reducible rfl))
        try simp only [Act.put, List.setIfInBounds_toArray, List.set_cons_zero, List.set_cons_succ]
        refine wpAnyH_take (i := 4) (oi := ⟨some 100, _, _, _, _, _⟩) (v := ?_) rfl (by kernel_rfl) (by kernel_rfl) (by kernel_rfl) (fun _ _ _ h => h) (Or.inl ⟨by rfl, ?_⟩) (by assumption) ?_
        rotate_left
        · (intro w hSw; (try dsimp only at hSw); go_simp <;> (with_reducible rfl))
        try simp only [Act.put, List.setIfInBounds_toArray, List.set_cons_zero, List.set_cons_succ]
        refine wpAnyH_take (i := 5) (oi := ⟨some 101, _, _, _, _, _⟩) (v := _) rfl (by kernel_rfl) (by kernel_rfl) (by kernel_rfl) (fun _ _ _ h => h) (yieldsIf_load_mid (by rfl) _ _ rfl w.heap.size 0 rfl (bytesV H) _ (fun w h => h.1.1) hu rfl (HI.out H HHl.out)) (by assumption) ?_
        try simp only [Act.put, List.setIfInBounds_toArray, List.set_cons_zero, List.set_cons_succ]
        refine wpAnyH_take (i := 6) (oi := ⟨some 102, _, _, _, _, _⟩) (v := _) rfl (by kernel_rfl) (by kernel_rfl) (by kernel_rfl) (fun _ _ _ h => h) (yieldsIf_load_mid (by rfl) _ _ rfl W3.heap.size 0 rfl (bytesV Z) _ (fun w h => h.1.2) hu rfl (HI.out Z HZl.out)) (by assumption) ?_
        try simp only [Act.put, List.setIfInBounds_toArray, List.set_cons_zero, List.set_cons_succ]
        refine wpAnyH_take (i := 7) (oi := ⟨some 103, _, _, _, _, _⟩) (v := ?_) rfl (by kernel_rfl) (by kernel_rfl) (by kernel_rfl) (fun _ _ _ h => h) (Or.inl ⟨by rfl, ?_⟩) (by assumption) ?_
        rotate_left
        · (intro w hSw; (try dsimp only at hSw); go_simp <;> (with_reducible rfl))
        try simp only [Act.put, List.setIfInBounds_toArray, List.set_cons_zero, List.set_cons_succ]
        refine wpAnyH_take (i := 8) (oi := ⟨some 104, _, _, _, _, _⟩) (v := ?_) rfl (by kernel_rfl) (by kernel_rfl) (by kernel_rfl) (fun _ _ _ h => h) (Or.inl ⟨by rfl, ?_⟩) (by assumption) ?_
        rotate_left
        · (intro w hSw; (try dsimp only at hSw); go_simp <;> (with_reducible rfl))
        try simp only [Act.put, List.setIfInBounds_toArray, List.set_cons_zero, List.set_cons_succ]
        refine wpAnyH_take (i := 9) (oi := ⟨some 105, _, _, _, _, _⟩) (v := ?_) rfl (by kernel_rfl) (by kernel_rfl) (by kernel_rfl) (fun _ _ _ h => h) (Or.inl ⟨by rfl, ?_⟩) (by assumption) ?_
        rotate_left
        · (intro w hSw; (try dsimp only at hSw); go_simp <;> (with_reducible rfl))
        try simp only [Act.put, List.setIfInBounds_toArray, List.set_cons_zero, List.set_cons_succ]
        refine wpAnyH_ready (rs := [10]) (by kernel_rfl) (by simp) ?_
        refine AllReadyH.cons (o := ⟨some 106, _, _, _, _, _⟩) rfl (fun K hK => ?_) ?_
        · go_simp
          go_at_call 12
          refine (lives_any _ (HL.out.below (bTrans B5.out hHeld.2))).mono ?_
          rintro e wn ⟨rfl, bn⟩
          have Bn : Below W5.heap.size W5 wn := bTrans hHeld.2 bn
          try go_wp2_with fail
          refine hK.out _ _ ⟨⟨(fun j v hj => ((bcell Bn).1 _ _ P5.out.2.2.2.2).trans (P5.out.1 j v hj)), range_kept Bn (at_lt HZ5.out) (range_of HZ5.out)⟩, Bn⟩ (fun hHeld => ?_)
          clear hK K
          try simp only [Act.put, List.setIfInBounds_toArray, List.set_cons_zero, List.set_cons_succ]
          refine wpAnyH_take (i := 11) (oi := ⟨some 107, _, _, _, _, _⟩) (v := ?_) rfl (by kernel_rfl) (by kernel_rfl) (by kernel_rfl) (fun _ _ _ h => h) (Or.inl ⟨by rfl, ?_⟩) (by assumption) ?_
          rotate_left
          · (intro w hSw; (try dsimp only at hSw); go_simp <;> (with_reducible rfl))
          try simp only [Act.put, List.setIfInBounds_toArray, List.set_cons_zero, List.set_cons_succ]
          refine wpAnyH_take (i := 12) (oi := ⟨some 12, _, _, _, _, _⟩) (v := ?_) rfl (by kernel_rfl) (by kernel_rfl) (by kernel_rfl) (fun _ _ _ h => h) (Or.inl ⟨by rfl, ?_⟩) (by assumption) ?_
          rotate_left
          · (intro w hSw; (try dsimp only at hSw); go_simp <;> (with_reducible rfl))
          try simp only [Act.put, List.setIfInBounds_toArray, List.set_cons_zero, List.set_cons_succ]
          refine wpAnyH_done (by kernel_rfl) ?_ _
          go_wp2
          go_ret
          exact ⟨rfl, bTrans B5.out Bn⟩
        · exact AllReadyH.nil
  · subst heq
    have ez : z = x + 1 := by omega
    clear hz
    subst ez
    go_enter Tryd.func7, Tryd.ntmps7
    go_wp2_with ((with_reducible refine at_op ?_); (refine alloc_two rfl rfl ?_))
    refine (C1.out _ B0.out).mono ?_
    rintro e W1 ⟨rfl, b1⟩
    have P1' := Lib.hid (P0.out.below b1)
    have P1 := Lib.hid (P1'.out.set0 HXl.out)
    have B1 : Hid (Below w.heap.size w (W1.setCells w.heap.size 0 (bytesV X))) := Lib.hid (below_set (bTrans B0.out b1) (Nat.le_refl _) _ _)
    clear b1
    go_wp2_with ((with_reducible refine at_op ?_); (refine store_mid rfl (.tmp 33) (.tmp 31) rfl w.heap.size 0 X rfl rfl P1'.out.2.2.1 HXl.out ?_))
    refine (C2.out _ B1.out).mono ?_
    rintro e W2 ⟨rfl, b2⟩
    have P2' := Lib.hid (P1.out.below b2)
    have P2 := Lib.hid (P2'.out.set1 HXl.out HYl.out)
    have B2 : Hid (Below w.heap.size w (W2.setCells w.heap.size 64 (bytesV Y))) := Lib.hid (below_set (bTrans B1.out b2) (Nat.le_refl _) _ _)
    clear b2
    go_wp2_with ((with_reducible refine at_op ?_); (refine store_mid rfl (.tmp 40) (.tmp 38) rfl w.heap.size 64 Y rfl rfl P2'.out.2.2.2.1 HYl.out ?_))
    refine (C3.out _ B2.out).mono ?_
    rintro e W3 ⟨rfl, b3⟩
    have HN3 : Hid ((W3.alloc (.cells (blkC (zs 64)) 26)).heap[W3.heap.size]? = some (.cells (blkC (zs 64)) 26 (0, 0))) := Lib.hid (heap_alloc_new _ _)
    have HZ3 : Hid (((W3.alloc (.cells (blkC (zs 64)) 26)).setRow W3.heap.size (blkC Z)).heap[W3.heap.size]? = some (.cells (blkC Z) 26 (0, 0))) := Lib.hid (row_at HN3.out)
    have pz := P2.out.below b3
    have hgz : w.heap.size < W3.heap.size := pz.2.2.2.2
    have P3 : Hid (Pair ((W3.alloc (.cells (blkC (zs 64)) 26)).setRow W3.heap.size (blkC Z)) w.heap.size X Y) := Lib.hid (pair_row pz Z)
    have B3 : Hid (Below w.heap.size w ((W3.alloc (.cells (blkC (zs 64)) 26)).setRow W3.heap.size (blkC Z))) := Lib.hid (below_row _ (bAlloc (bTrans B2.out b3) _) (bTrans B2.out b3).size)
    clear b3 pz
    go_upto_region 7 with ((with_reducible refine at_op ?_); (first | (refine alloc_blk rfl rfl ?_) | (refine store_blk rfl (.tmp 17) _ rfl W3.heap.size Z (zs 64) _ rfl rfl HN3.out HZl.out zs_64 ?_)))
    go_wp2_with fail
    refine (lives_any _ (HL.out.below B3.out)).mono ?_
    rintro e w2 ⟨rfl, hb2⟩
    go_wp2
    go_ret
    exact ⟨rfl, bTrans B3.out hb2⟩
  · have ez : z = x + 1 := by omega
    clear hz
    subst ez
    have hne : (x == y) = false := by simp; omega
    go_enter Tryd.func7, Tryd.ntmps7
    go_wp2_with ((with_reducible refine at_op ?_); (refine alloc_two rfl rfl ?_))
    refine (C1.out _ B0.out).mono ?_
    rintro e W1 ⟨rfl, b1⟩
    have P1' := Lib.hid (P0.out.below b1)
    have P1 := Lib.hid (P1'.out.set0 HXl.out)
    have B1 : Hid (Below w.heap.size w (W1.setCells w.heap.size 0 (bytesV X))) := Lib.hid (below_set (bTrans B0.out b1) (Nat.le_refl _) _ _)
    clear b1
    go_wp2_with ((with_reducible refine at_op ?_); (refine store_mid rfl (.tmp 33) (.tmp 31) rfl w.heap.size 0 X rfl rfl P1'.out.2.2.1 HXl.out ?_))
    refine (C2.out _ B1.out).mono ?_
    rintro e W2 ⟨rfl, b2⟩
    have P2' := Lib.hid (P1.out.below b2)
    have P2 := Lib.hid (P2'.out.set1 HXl.out HYl.out)
    have B2 : Hid (Below w.heap.size w (W2.setCells w.heap.size 64 (bytesV Y))) := Lib.hid (below_set (bTrans B1.out b2) (Nat.le_refl _) _ _)
    clear b2
    go_wp2_with ((with_reducible refine at_op ?_); (refine store_mid rfl (.tmp 40) (.tmp 38) rfl w.heap.size 64 Y rfl rfl P2'.out.2.2.2.1 HYl.out ?_))
    refine (C3.out _ B2.out).mono ?_
    rintro e W3 ⟨rfl, b3⟩
    have HN3 : Hid ((W3.alloc (.cells (blkC (zs 64)) 26)).heap[W3.heap.size]? = some (.cells (blkC (zs 64)) 26 (0, 0))) := Lib.hid (heap_alloc_new _ _)
    have HZ3 : Hid (((W3.alloc (.cells (blkC (zs 64)) 26)).setRow W3.heap.size (blkC Z)).heap[W3.heap.size]? = some (.cells (blkC Z) 26 (0, 0))) := Lib.hid (row_at HN3.out)
    have pz := P2.out.below b3
    have hgz : w.heap.size < W3.heap.size := pz.2.2.2.2
    have P3 : Hid (Pair ((W3.alloc (.cells (blkC (zs 64)) 26)).setRow W3.heap.size (blkC Z)) w.heap.size X Y) := Lib.hid (pair_row pz Z)
    have B3 : Hid (Below w.heap.size w ((W3.alloc (.cells (blkC (zs 64)) 26)).setRow W3.heap.size (blkC Z))) := Lib.hid (below_row _ (bAlloc (bTrans B2.out b3) _) (bTrans B2.out b3).size)
    clear b3 pz
    go_upto_region 7 with ((with_reducible refine at_op ?_); (first | (refine alloc_blk rfl rfl ?_) | (refine store_blk rfl (.tmp 17) _ rfl W3.heap.size Z (zs 64) _ rfl rfl HN3.out HZl.out zs_64 ?_)))
    by_cases qe1 : e1 = 0
    case neg =>
      have i1 : (e1 != 0) = true := by simpa using qe1
      go_wp2_with fail
      refine (lives_any _ (HL.out.below B3.out)).mono ?_
      rintro e w2 ⟨rfl, hb2⟩
      go_wp2
      go_ret
      exact ⟨rfl, bTrans B3.out hb2⟩
    subst qe1
    by_cases qe2 : e2 = 0
    case neg =>
      have i1 : (e2 != 0) = true := by simpa using qe2
      go_wp2_with fail
      refine (lives_any _ (HL.out.below B3.out)).mono ?_
      rintro e w2 ⟨rfl, hb2⟩
      go_wp2
      go_ret
      exact ⟨rfl, bTrans B3.out hb2⟩
    subst qe2
    by_cases qe3 : e3 = 0
    case neg =>
      have i1 : (e3 != 0) = true := by simpa using qe3
      go_wp2_with fail
      refine (lives_any _ (HL.out.below B3.out)).mono ?_
      rintro e w2 ⟨rfl, hb2⟩
      go_wp2
      go_ret
      exact ⟨rfl, bTrans B3.out hb2⟩
    subst qe3
    have sX := SX.out rfl
    have sY := SY.out rfl
    have sZ := SZ.out rfl
    have hnx : nxW X Y = 1 := by unfold nxW nwE nwW; rw [sX.se, sY.se, sX.sn, sY.sn]; simp; omega
    have C4 := next_any X Y _ KX.out KY.out (HL.out.below B3.out)
    rw [hnx] at C4
    have says := (two_sealed sZ sY (by omega)).says p
    have okH := held_ok KY.out KZ.out p
    have HHl := Lib.hid okH.1
    have C4 := Lib.hid C4
    have hu := Tryd.underlying26
    have HI := Lib.hid (fun (L : List Int) (h : L.length = 64) => (by rw [bytesV_length, h]; exact infoBlk : (Tryd.prog.info? 26).map (·.size) = some (bytesV L).length))
    have says := Lib.hid says
    have okH := Lib.hid okH
    have sXe := Lib.hid sX
    have sYe := Lib.hid sY
    clear hnx sX sY sZ
    go_wp2_with ((with_reducible refine at_op ?_); (first | (refine load_mid 70 rfl rfl (.tmp 69) rfl w.heap.size 0 rfl X P3.out.1 HXl.out ?_) | (refine load_mid 72 rfl rfl (.tmp 71) rfl w.heap.size 64 rfl Y P3.out.2.1 HYl.out ?_)))
    refine C4.out.mono ?_
    rintro e W4 ⟨rfl, b4⟩
    have P4 := Lib.hid (P3.out.below b4)
    have HZ4 := Lib.hid (kept_at' b4 HZ3.out)
    have B4 := Lib.hid (bTrans B3.out b4)
    clear b4
    go_upto_region 15 with fail
    go_cut [14] from 21 (fun s wx => s = .int .i64 0 ∧ Pair wx w.heap.size X (held Y Z p) ∧ wx.heap[W3.heap.size]? = some (.cells (blkC Z) 26 (0, 0)) ∧ Below w.heap.size w wx)
    case first =>
      refine wp_region_held_drew (S := (fun _ => True)) (by kernel_rfl) ?_ (fun hHeld => ?_)
      · trivial
      refine wpAnyH_take (i := 0) (oi := ⟨some 78, _, _, _, _, _⟩) (v := ?_) rfl (by kernel_rfl) (by kernel_rfl) (by kernel_rfl) (fun _ _ _ h => h) (Or.inl ⟨by rfl, ?_⟩) (by assumption) ?_
      rotate_left
      · (intro w hSw; (try dsimp only at hSw); go_simp <;> (with_reducible rfl))
      try simp only [Act.put, List.setIfInBounds_toArray, List.set_cons_zero, List.set_cons_succ]
      refine wpAnyH_take (i := 1) (oi := ⟨some 79, _, _, _, _, _⟩) (v := ?_) rfl (by kernel_rfl) (by kernel_rfl) (by kernel_rfl) (fun _ _ _ h => h) (Or.inl ⟨by rfl, ?_⟩) (by assumption) ?_
      rotate_left
      · (intro w hSw; (try dsimp only at hSw); go_simp <;> (with_reducible rfl))
      try simp only [Act.put, List.setIfInBounds_toArray, List.set_cons_zero, List.set_cons_succ]
      refine wpAnyH_take (i := 2) (oi := ⟨some 80, _, _, _, _, _⟩) (v := ?_) rfl (by kernel_rfl) (by kernel_rfl) (by kernel_rfl) (fun _ _ _ h => h) (Or.inl ⟨by rfl, ?_⟩) (by assumption) ?_
      rotate_left
      · (intro w hSw; (try dsimp only at hSw); go_simp <;> (with_reducible rfl))
      try simp only [Act.put, List.setIfInBounds_toArray, List.set_cons_zero, List.set_cons_succ]
      refine wpAnyH_take (i := 5) (oi := ⟨some 83, _, _, _, _, _⟩) (v := ?_) rfl (by kernel_rfl) (by kernel_rfl) (by kernel_rfl) (fun _ _ _ h => h) (Or.inl ⟨by rfl, ?_⟩) (by assumption) ?_
      rotate_left
      · (intro w hSw; (try dsimp only at hSw); go_simp <;> (with_reducible rfl))
      try simp only [Act.put, List.setIfInBounds_toArray, List.set_cons_zero, List.set_cons_succ]
      refine wpAnyH_ready (rs := [3, 4]) (by kernel_rfl) (by simp) ?_
      refine AllReadyH.cons (o := ⟨some 81, _, _, _, _, _⟩) rfl (fun K hK => ?_) ?_
      · refine wp_load_mid 26 _ rfl w.heap.size 64 rfl (bytesV Y) _ P4.out.2.1 hu rfl (HI.out Y HYl.out) ?_
        refine hK.out _ _ trivial (fun hHeld => ?_)
        clear hK K
        try simp only [Act.put, List.setIfInBounds_toArray, List.set_cons_zero, List.set_cons_succ]
        refine wpAnyH_ready (rs := [4]) (by kernel_rfl) (by simp) ?_
        refine AllReadyH.cons (o := ⟨some 82, _, _, _, _, _⟩) rfl (fun K hK => ?_) ?_
        · refine wp_load_mid 26 _ rfl W3.heap.size 0 rfl (bytesV Z) _ (range_of HZ4.out) hu rfl (HI.out Z HZl.out) ?_
          refine hK.out _ _ trivial (fun hHeld => ?_)
          clear hK K
          try simp only [Act.put, List.setIfInBounds_toArray, List.set_cons_zero, List.set_cons_succ]
          refine wpAnyH_ready (rs := [6]) (by kernel_rfl) (by simp) ?_
          refine AllReadyH.cons (o := ⟨some 84, _, _, _, _, _⟩) rfl (fun K hK => ?_) ?_
          · go_simp
            go_at_call 22
            refine (torn_any Y Z p _ KY.out KZ.out p0 p1).mono ?_
            rintro e wn ⟨rfl, bn0⟩
            have bn := bTrans (bDrew (Below.refl W4.heap.size W4)) bn0
            clear bn0
            try go_wp2_with fail
            refine hK.out _ _ trivial (fun hHeld => ?_)
            clear hK K
            try simp only [Act.put, List.setIfInBounds_toArray, List.set_cons_zero, List.set_cons_succ]
            refine wpAnyH_take (i := 7) (oi := ⟨some 85, _, _, _, _, _⟩) (v := ?_) rfl (by kernel_rfl) (by kernel_rfl) (by kernel_rfl) (fun _ _ _ h => h) (Or.inl ⟨by rfl, ?_⟩) (by assumption) ?_
            rotate_left
            · (intro w hSw; (try dsimp only at hSw); go_simp <;> (with_reducible rfl))
            try simp only [Act.put, List.setIfInBounds_toArray, List.set_cons_zero, List.set_cons_succ]
            refine wpAnyH_ready (rs := [8]) (by kernel_rfl) (by simp) ?_
            refine AllReadyH.cons (o := ⟨none, _, _, _, _, _⟩) rfl (fun K hK => ?_) ?_
            · refine store_opm (.tmp 85) (.tmp 84) rfl w.heap.size 64 (held Y Z p) rfl rfl (P4.out.below bn).2.2.2.1 HHl.out ?_
              refine hK.out _ _ trivial (fun hHeld => ?_)
              clear hK K
              try simp only [Act.put, List.setIfInBounds_toArray, List.set_cons_zero, List.set_cons_succ]
              refine wpAnyH_done (by kernel_rfl) ?_ _
              go_wp2_with fail
              go_meet
              exact ⟨rfl, (P4.out.below bn).set1 HXl.out HHl.out, (heap_apart (kept_at' bn HZ4.out) (by omega)), below_set (bTrans B4.out bn) (Nat.le_refl _) _ _⟩
            · exact AllReadyH.nil
          · exact AllReadyH.nil
        · exact AllReadyH.nil
      · refine AllReadyH.cons (o := ⟨some 82, _, _, _, _, _⟩) rfl (fun K hK => ?_) ?_
        · refine wp_load_mid 26 _ rfl W3.heap.size 0 rfl (bytesV Z) _ (range_of HZ4.out) hu rfl (HI.out Z HZl.out) ?_
          refine hK.out _ _ trivial (fun hHeld => ?_)
          clear hK K
          try simp only [Act.put, List.setIfInBounds_toArray, List.set_cons_zero, List.set_cons_succ]
          refine wpAnyH_ready (rs := [3]) (by kernel_rfl) (by simp) ?_
          refine AllReadyH.cons (o := ⟨some 81, _, _, _, _, _⟩) rfl (fun K hK => ?_) ?_
          · refine wp_load_mid 26 _ rfl w.heap.size 64 rfl (bytesV Y) _ P4.out.2.1 hu rfl (HI.out Y HYl.out) ?_
            refine hK.out _ _ trivial (fun hHeld => ?_)
            clear hK K
            try simp only [Act.put, List.setIfInBounds_toArray, List.set_cons_zero, List.set_cons_succ]
            refine wpAnyH_ready (rs := [6]) (by kernel_rfl) (by simp) ?_
            refine AllReadyH.cons (o := ⟨some 84, _, _, _, _, _⟩) rfl (fun K hK => ?_) ?_
            · go_simp
              go_at_call 22
              refine (torn_any Y Z p _ KY.out KZ.out p0 p1).mono ?_
              rintro e wn ⟨rfl, bn0⟩
              have bn := bTrans (bDrew (Below.refl W4.heap.size W4)) bn0
              clear bn0
              try go_wp2_with fail
              refine hK.out _ _ trivial (fun hHeld => ?_)
              clear hK K
              try simp only [Act.put, List.setIfInBounds_toArray, List.set_cons_zero, List.set_cons_succ]
              refine wpAnyH_take (i := 7) (oi := ⟨some 85, _, _, _, _, _⟩) (v := ?_) rfl (by kernel_rfl) (by kernel_rfl) (by kernel_rfl) (fun _ _ _ h => h) (Or.inl ⟨by rfl, ?_⟩) (by assumption) ?_
              rotate_left
              · (intro w hSw; (try dsimp only at hSw); go_simp <;> (with_reducible rfl))
              try simp only [Act.put, List.setIfInBounds_toArray, List.set_cons_zero, List.set_cons_succ]
              refine wpAnyH_ready (rs := [8]) (by kernel_rfl) (by simp) ?_
              refine AllReadyH.cons (o := ⟨none, _, _, _, _, _⟩) rfl (fun K hK => ?_) ?_
              · refine store_opm (.tmp 85) (.tmp 84) rfl w.heap.size 64 (held Y Z p) rfl rfl (P4.out.below bn).2.2.2.1 HHl.out ?_
                refine hK.out _ _ trivial (fun hHeld => ?_)
                clear hK K
                try simp only [Act.put, List.setIfInBounds_toArray, List.set_cons_zero, List.set_cons_succ]
                refine wpAnyH_done (by kernel_rfl) ?_ _
                go_wp2_with fail
                go_meet
                exact ⟨rfl, (P4.out.below bn).set1 HXl.out HHl.out, (heap_apart (kept_at' bn HZ4.out) (by omega)), below_set (bTrans B4.out bn) (Nat.le_refl _) _ _⟩
              · exact AllReadyH.nil
            · exact AllReadyH.nil
          · exact AllReadyH.nil
        · exact AllReadyH.nil
    case rest =>
      obtain ⟨rfl, p5, hz5, b5⟩ := hcut
      have P5' := Lib.hid p5
      have HZ5' := Lib.hid hz5
      have B5' := Lib.hid b5
      clear p5 hz5 b5
      generalize held Y Z p = H at *
      rcases says.out with ⟨t1, t2, t3⟩ | ⟨t1, t2⟩ | ⟨t1, t2, t3, t4⟩
      · have hq : ∀ W : World, (Op.equalIn 10000 26 (.agg (bytesV H).toArray) (.agg (bytesV Z).toArray)).run Tryd.prog W = .ok true W := fun W => eql_blk W okH.out KZ.out true (by simp [t1])
        have e1 : nwE X H = 0 := by unfold nwE; rw [if_neg]; rintro ⟨u, v⟩; exact u sXe.out.se
        have e2 : nwW X H = 1 := by
          unfold nwW
          have a1 := sXe.out.se
          have a2 := sXe.out.sn
          have a3 := sYe.out.se
          have a4 := sYe.out.sn
          rw [if_neg (by rw [a1]; simp), if_neg (by rw [t2]; simp), if_pos (Or.inr (by rw [a2, t3]; omega))]
        have C5 := newest_any X H wc KX.out okH.out (HL.out.below B5'.out)
        rw [e1, e2] at C5
        have C5 := Lib.hid C5
        have P5 := P5'
        clear e1 e2 t1 t2 t3
        go_wp2_with ((with_reducible refine at_op ?_); (first | (refine load_mid 88 rfl rfl (.tmp 87) rfl w.heap.size 0 rfl X P5.out.1 HXl.out ?_) | (refine load_mid 90 rfl rfl (.tmp 89) rfl w.heap.size 64 rfl H P5.out.2.1 HHl.out ?_)))
        refine C5.out.mono ?_
        rintro e W5 ⟨rfl, b6⟩
        have P5 := Lib.hid (P5'.out.below b6)
        have HZ5 := Lib.hid (kept_at' b6 HZ5'.out)
        have B5 := Lib.hid (bTrans B5'.out b6)
        clear b6
        go_upto_region 19 with fail
        refine wp_region_held_drew (S := (fun w' => (w'.rangeAt w.heap.size 64 (bytesV H) ∧ w'.rangeAt W3.heap.size 0 (bytesV Z)) ∧ Below W5.heap.size W5 w')) (by kernel_rfl) ?_ (fun hHeld => ?_)
        · exact ⟨⟨P5.out.2.1, range_of HZ5.out⟩, bDrew (Below.refl _ _)⟩
        refine wpAnyH_take (i := 0) (oi := ⟨some 96, _, _, _, _, _⟩) (v := ?_) rfl (by kernel_rfl) (by kernel_rfl) (by kernel_rfl) (fun _ _ _ h => h) (Or.inl ⟨by rfl, ?_⟩) (by assumption) ?_
        rotate_left
        · (intro w hSw; (try dsimp only at hSw); go_simp <;> (with_reducible rfl))
        try simp only [Act.put, List.setIfInBounds_toArray, List.set_cons_zero, List.set_cons_succ]
        refine wpAnyH_take (i := 1) (oi := ⟨some 97, _, _, _, _, _⟩) (v := ?_) rfl (by kernel_rfl) (by kernel_rfl) (by kernel_rfl) (fun _ _ _ h => h) (Or.inl ⟨by rfl, ?_⟩) (by assumption) ?_
        rotate_left
        · (intro w hSw; (try dsimp only at hSw); go_simp <;> (with_reducible rfl))
        try simp only [Act.put, List.setIfInBounds_toArray, List.set_cons_zero, List.set_cons_succ]
        refine wpAnyH_take (i := 2) (oi := ⟨some 98, _, _, _, _, _⟩) (v := ?_) rfl (by kernel_rfl) (by kernel_rfl) (by kernel_rfl) (fun _ _ _ h => h) (Or.inl ⟨by rfl, ?_⟩) (by assumption) ?_
        rotate_left
        · (intro w hSw; (try dsimp only at hSw); go_simp <;> (with_reducible rfl))
        try simp only [Act.put, List.setIfInBounds_toArray, List.set_cons_zero, List.set_cons_succ]
        refine wpAnyH_take (i := 3) (oi := ⟨some 99, _, _, _, _, _⟩) (v := ?_) rfl (by kernel_rfl) (by kernel_rfl) (by kernel_rfl) (fun _ _ _ h => h) (Or.inl ⟨by rfl, ?_⟩) (by assumption) ?_
        rotate_left
        · (intro w hSw; (try dsimp only at hSw); go_simp <;> (with_reducible rfl))
        try simp only [Act.put, List.setIfInBounds_toArray, List.set_cons_zero, List.set_cons_succ]
        refine wpAnyH_take (i := 4) (oi := ⟨some 100, _, _, _, _, _⟩) (v := ?_) rfl (by kernel_rfl) (by kernel_rfl) (by kernel_rfl) (fun _ _ _ h => h) (Or.inl ⟨by rfl, ?_⟩) (by assumption) ?_
        rotate_left
        · (intro w hSw; (try dsimp only at hSw); go_simp <;> (with_reducible rfl))
        try simp only [Act.put, List.setIfInBounds_toArray, List.set_cons_zero, List.set_cons_succ]
        refine wpAnyH_take (i := 5) (oi := ⟨some 101, _, _, _, _, _⟩) (v := _) rfl (by kernel_rfl) (by kernel_rfl) (by kernel_rfl) (fun _ _ _ h => h) (yieldsIf_load_mid (by rfl) _ _ rfl w.heap.size 64 rfl (bytesV H) _ (fun w h => h.1.1) hu rfl (HI.out H HHl.out)) (by assumption) ?_
        try simp only [Act.put, List.setIfInBounds_toArray, List.set_cons_zero, List.set_cons_succ]
        refine wpAnyH_take (i := 6) (oi := ⟨some 102, _, _, _, _, _⟩) (v := _) rfl (by kernel_rfl) (by kernel_rfl) (by kernel_rfl) (fun _ _ _ h => h) (yieldsIf_load_mid (by rfl) _ _ rfl W3.heap.size 0 rfl (bytesV Z) _ (fun w h => h.1.2) hu rfl (HI.out Z HZl.out)) (by assumption) ?_
        try simp only [Act.put, List.setIfInBounds_toArray, List.set_cons_zero, List.set_cons_succ]
        refine wpAnyH_take (i := 7) (oi := ⟨some 103, _, _, _, _, _⟩) (v := ?_) rfl (by kernel_rfl) (by kernel_rfl) (by kernel_rfl) (fun _ _ _ h => h) (Or.inl ⟨by rfl, ?_⟩) (by assumption) ?_
        rotate_left
        · (intro w hSw; (try dsimp only at hSw); go_simp <;> (with_reducible rfl))
        try simp only [Act.put, List.setIfInBounds_toArray, List.set_cons_zero, List.set_cons_succ]
        refine wpAnyH_take (i := 8) (oi := ⟨some 104, _, _, _, _, _⟩) (v := ?_) rfl (by kernel_rfl) (by kernel_rfl) (by kernel_rfl) (fun _ _ _ h => h) (Or.inl ⟨by rfl, ?_⟩) (by assumption) ?_
        rotate_left
        · (intro w hSw; (try dsimp only at hSw); go_simp <;> (with_reducible rfl))
        try simp only [Act.put, List.setIfInBounds_toArray, List.set_cons_zero, List.set_cons_succ]
        refine wpAnyH_take (i := 9) (oi := ⟨some 105, _, _, _, _, _⟩) (v := ?_) rfl (by kernel_rfl) (by kernel_rfl) (by kernel_rfl) (fun _ _ _ h => h) (Or.inl ⟨by rfl, ?_⟩) (by assumption) ?_
        rotate_left
        · (intro w hSw; (try dsimp only at hSw); go_simp <;> (with_reducible rfl))
        try simp only [Act.put, List.setIfInBounds_toArray, List.set_cons_zero, List.set_cons_succ]
        refine wpAnyH_ready (rs := [10]) (by kernel_rfl) (by simp) ?_
        refine AllReadyH.cons (o := ⟨some 106, _, _, _, _, _⟩) rfl (fun K hK => ?_) ?_
        · go_simp
          go_at_call 12
          refine (lives_any _ (HL.out.below (bTrans B5.out hHeld.2))).mono ?_
          rintro e wn ⟨rfl, bn⟩
          have Bn : Below W5.heap.size W5 wn := bTrans hHeld.2 bn
          try go_wp2_with fail
          refine hK.out _ _ ⟨⟨(fun j v hj => ((bcell Bn).1 _ _ P5.out.2.2.2.2).trans (P5.out.2.1 j v hj)), range_kept Bn (at_lt HZ5.out) (range_of HZ5.out)⟩, Bn⟩ (fun hHeld => ?_)
          clear hK K
          try simp only [Act.put, List.setIfInBounds_toArray, List.set_cons_zero, List.set_cons_succ]
          refine wpAnyH_take (i := 11) (oi := ⟨some 107, _, _, _, _, _⟩) (v := ?_) rfl (by kernel_rfl) (by kernel_rfl) (by kernel_rfl) (fun _ _ _ h => h) (Or.inl ⟨by rfl, ?_⟩) (by assumption) ?_
          rotate_left
          · (intro w hSw; (try dsimp only at hSw); go_simp <;> (with_reducible rfl))
          try simp only [Act.put, List.setIfInBounds_toArray, List.set_cons_zero, List.set_cons_succ]
          refine wpAnyH_take (i := 12) (oi := ⟨some 12, _, _, _, _, _⟩) (v := ?_) rfl (by kernel_rfl) (by kernel_rfl) (by kernel_rfl) (fun _ _ _ h => h) (Or.inl ⟨by rfl, ?_⟩) (by assumption) ?_
          rotate_left
          · (intro w hSw; (try dsimp only at hSw); go_simp <;> (with_reducible rfl))
          try simp only [Act.put, List.setIfInBounds_toArray, List.set_cons_zero, List.set_cons_succ]
          refine wpAnyH_done (by kernel_rfl) ?_ _
          go_wp2
          go_ret
          exact ⟨rfl, bTrans B5.out Bn⟩
        · exact AllReadyH.nil
      · have hq : ∀ W : World, (Op.equalIn 10000 26 (.agg (bytesV H).toArray) (.agg (bytesV Z).toArray)).run Tryd.prog W = .ok false W := fun W => eql_blk W okH.out KZ.out false (by simp [t1])
        have e1 : nwE X H = 0 := by unfold nwE; rw [if_neg]; rintro ⟨u, v⟩; exact u sXe.out.se
        have e2 : nwW X H = 0 := by
          unfold nwW
          have a1 := sXe.out.se
          have a2 := sXe.out.sn
          have a3 := sYe.out.se
          have a4 := sYe.out.sn
          rw [if_neg (by rw [a1]; simp), if_pos t2]
        have C5 := newest_any X H wc KX.out okH.out (HL.out.below B5'.out)
        rw [e1, e2] at C5
        have C5 := Lib.hid C5
        have P5 := P5'
        clear e1 e2 t1 t2 
        go_wp2_with ((with_reducible refine at_op ?_); (first | (refine load_mid 88 rfl rfl (.tmp 87) rfl w.heap.size 0 rfl X P5.out.1 HXl.out ?_) | (refine load_mid 90 rfl rfl (.tmp 89) rfl w.heap.size 64 rfl H P5.out.2.1 HHl.out ?_)))
        refine C5.out.mono ?_
        rintro e W5 ⟨rfl, b6⟩
        have P5 := Lib.hid (P5'.out.below b6)
        have HZ5 := Lib.hid (kept_at' b6 HZ5'.out)
        have B5 := Lib.hid (bTrans B5'.out b6)
        clear b6
        go_upto_region 19 with fail
        refine wp_region_held_drew (S := (fun w' => (w'.rangeAt w.heap.size 64 (bytesV H) ∧ w'.rangeAt W3.heap.size 0 (bytesV Z)) ∧ Below W5.heap.size W5 w')) (by kernel_rfl) ?_ (fun hHeld => ?_)
        · exact ⟨⟨P5.out.2.1, range_of HZ5.out⟩, bDrew (Below.refl _ _)⟩
        refine wpAnyH_take (i := 0) (oi := ⟨some 96, _, _, _, _, _⟩) (v := ?_) rfl (by kernel_rfl) (by kernel_rfl) (by kernel_rfl) (fun _ _ _ h => h) (Or.inl ⟨by rfl, ?_⟩) (by assumption) ?_
        rotate_left
        · (intro w hSw; (try dsimp only at hSw); go_simp <;> (with_reducible rfl))
        try simp only [Act.put, List.setIfInBounds_toArray, List.set_cons_zero, List.set_cons_succ]
        refine wpAnyH_take (i := 1) (oi := ⟨some 97, _, _, _, _, _⟩) (v := ?_) rfl (by kernel_rfl) (by kernel_rfl) (by kernel_rfl) (fun _ _ _ h => h) (Or.inl ⟨by rfl, ?_⟩) (by assumption) ?_
        rotate_left
        · (intro w hSw; (try dsimp only at hSw); go_simp <;> (with_reducible rfl))
        try simp only [Act.put, List.setIfInBounds_toArray, List.set_cons_zero, List.set_cons_succ]
        refine wpAnyH_take (i := 2) (oi := ⟨some 98, _, _, _, _, _⟩) (v := ?_) rfl (by kernel_rfl) (by kernel_rfl) (by kernel_rfl) (fun _ _ _ h => h) (Or.inl ⟨by rfl, ?_⟩) (by assumption) ?_
        rotate_left
        · (intro w hSw; (try dsimp only at hSw); go_simp <;> (with_reducible rfl))
        try simp only [Act.put, List.setIfInBounds_toArray, List.set_cons_zero, List.set_cons_succ]
        refine wpAnyH_take (i := 3) (oi := ⟨some 99, _, _, _, _, _⟩) (v := ?_) rfl (by kernel_rfl) (by kernel_rfl) (by kernel_rfl) (fun _ _ _ h => h) (Or.inl ⟨by rfl, ?_⟩) (by assumption) ?_
        rotate_left
        · (intro w hSw; (try dsimp only at hSw); go_simp <;> (with_reducible rfl))
        try simp only [Act.put, List.setIfInBounds_toArray, List.set_cons_zero, List.set_cons_succ]
        refine wpAnyH_take (i := 4) (oi := ⟨some 100, _, _, _, _, _⟩) (v := ?_) rfl (by kernel_rfl) (by kernel_rfl) (by kernel_rfl) (fun _ _ _ h => h) (Or.inl ⟨by rfl, ?_⟩) (by assumption) ?_
        rotate_left
        · (intro w hSw; (try dsimp only at hSw); go_simp <;> (with_reducible rfl))
        try simp only [Act.put, List.setIfInBounds_toArray, List.set_cons_zero, List.set_cons_succ]
        refine wpAnyH_take (i := 5) (oi := ⟨some 101, _, _, _, _, _⟩) (v := _) rfl (by kernel_rfl) (by kernel_rfl) (by kernel_rfl) (fun _ _ _ h => h) (yieldsIf_load_mid (by rfl) _ _ rfl w.heap.size 64 rfl (bytesV H) _ (fun w h => h.1.1) hu rfl (HI.out H HHl.out)) (by assumption) ?_
        try simp only [Act.put, List.setIfInBounds_toArray, List.set_cons_zero, List.set_cons_succ]
        refine wpAnyH_take (i := 6) (oi := ⟨some 102, _, _, _, _, _⟩) (v := _) rfl (by kernel_rfl) (by kernel_rfl) (by kernel_rfl) (fun _ _ _ h => h) (yieldsIf_load_mid (by rfl) _ _ rfl W3.heap.size 0 rfl (bytesV Z) _ (fun w h => h.1.2) hu rfl (HI.out Z HZl.out)) (by assumption) ?_
        try simp only [Act.put, List.setIfInBounds_toArray, List.set_cons_zero, List.set_cons_succ]
        refine wpAnyH_take (i := 7) (oi := ⟨some 103, _, _, _, _, _⟩) (v := ?_) rfl (by kernel_rfl) (by kernel_rfl) (by kernel_rfl) (fun _ _ _ h => h) (Or.inl ⟨by rfl, ?_⟩) (by assumption) ?_
        rotate_left
        · (intro w hSw; (try dsimp only at hSw); go_simp <;> (with_reducible rfl))
        try simp only [Act.put, List.setIfInBounds_toArray, List.set_cons_zero, List.set_cons_succ]
        refine wpAnyH_take (i := 8) (oi := ⟨some 104, _, _, _, _, _⟩) (v := ?_) rfl (by kernel_rfl) (by kernel_rfl) (by kernel_rfl) (fun _ _ _ h => h) (Or.inl ⟨by rfl, ?_⟩) (by assumption) ?_
        rotate_left
        · (intro w hSw; (try dsimp only at hSw); go_simp <;> (with_reducible rfl))
        try simp only [Act.put, List.setIfInBounds_toArray, List.set_cons_zero, List.set_cons_succ]
        refine wpAnyH_take (i := 9) (oi := ⟨some 105, _, _, _, _, _⟩) (v := ?_) rfl (by kernel_rfl) (by kernel_rfl) (by kernel_rfl) (fun _ _ _ h => h) (Or.inl ⟨by rfl, ?_⟩) (by assumption) ?_
        rotate_left
        · (intro w hSw; (try dsimp only at hSw); go_simp <;> (with_reducible rfl))
        try simp only [Act.put, List.setIfInBounds_toArray, List.set_cons_zero, List.set_cons_succ]
        refine wpAnyH_ready (rs := [10]) (by kernel_rfl) (by simp) ?_
        refine AllReadyH.cons (o := ⟨some 106, _, _, _, _, _⟩) rfl (fun K hK => ?_) ?_
        · go_simp
          go_at_call 12
          refine (lives_any _ (HL.out.below (bTrans B5.out hHeld.2))).mono ?_
          rintro e wn ⟨rfl, bn⟩
          have Bn : Below W5.heap.size W5 wn := bTrans hHeld.2 bn
          try go_wp2_with fail
          refine hK.out _ _ ⟨⟨(fun j v hj => ((bcell Bn).1 _ _ P5.out.2.2.2.2).trans (P5.out.2.1 j v hj)), range_kept Bn (at_lt HZ5.out) (range_of HZ5.out)⟩, Bn⟩ (fun hHeld => ?_)
          clear hK K
          try simp only [Act.put, List.setIfInBounds_toArray, List.set_cons_zero, List.set_cons_succ]
          refine wpAnyH_take (i := 11) (oi := ⟨some 107, _, _, _, _, _⟩) (v := ?_) rfl (by kernel_rfl) (by kernel_rfl) (by kernel_rfl) (fun _ _ _ h => h) (Or.inl ⟨by rfl, ?_⟩) (by assumption) ?_
          rotate_left
          · (intro w hSw; (try dsimp only at hSw); go_simp <;> (with_reducible rfl))
          try simp only [Act.put, List.setIfInBounds_toArray, List.set_cons_zero, List.set_cons_succ]
          refine wpAnyH_take (i := 12) (oi := ⟨some 12, _, _, _, _, _⟩) (v := ?_) rfl (by kernel_rfl) (by kernel_rfl) (by kernel_rfl) (fun _ _ _ h => h) (Or.inl ⟨by rfl, ?_⟩) (by assumption) ?_
          rotate_left
          · (intro w hSw; (try dsimp only at hSw); go_simp <;> (with_reducible rfl))
          try simp only [Act.put, List.setIfInBounds_toArray, List.set_cons_zero, List.set_cons_succ]
          refine wpAnyH_done (by kernel_rfl) ?_ _
          go_wp2
          go_ret
          exact ⟨rfl, bTrans B5.out Bn⟩
        · exact AllReadyH.nil
      · have hq : ∀ W : World, (Op.equalIn 10000 26 (.agg (bytesV H).toArray) (.agg (bytesV Z).toArray)).run Tryd.prog W = .ok false W := fun W => eql_blk W okH.out KZ.out false (by simp [t1])
        have e1 : nwE X H = 0 := by unfold nwE; rw [if_neg]; rintro ⟨u, v⟩; exact u sXe.out.se
        have e2 : nwW X H = 0 := by
          unfold nwW
          have a1 := sXe.out.se
          have a2 := sXe.out.sn
          have a3 := sYe.out.se
          have a4 := sYe.out.sn
          rw [if_neg (by rw [a1]; simp), if_neg (by rw [t2]; simp), if_neg (by rw [a1, a2, t4]; omega)]
        have C5 := newest_any X H wc KX.out okH.out (HL.out.below B5'.out)
        rw [e1, e2] at C5
        have C5 := Lib.hid C5
        have P5 := P5'
        clear e1 e2 t1 t2 t3 t4
        go_wp2_with ((with_reducible refine at_op ?_); (first | (refine load_mid 88 rfl rfl (.tmp 87) rfl w.heap.size 0 rfl X P5.out.1 HXl.out ?_) | (refine load_mid 90 rfl rfl (.tmp 89) rfl w.heap.size 64 rfl H P5.out.2.1 HHl.out ?_)))
        refine C5.out.mono ?_
        rintro e W5 ⟨rfl, b6⟩
        have P5 := Lib.hid (P5'.out.below b6)
        have HZ5 := Lib.hid (kept_at' b6 HZ5'.out)
        have B5 := Lib.hid (bTrans B5'.out b6)
        clear b6
        go_upto_region 19 with fail
        refine wp_region_held_drew (S := (fun w' => (w'.rangeAt w.heap.size 64 (bytesV H) ∧ w'.rangeAt W3.heap.size 0 (bytesV Z)) ∧ Below W5.heap.size W5 w')) (by kernel_rfl) ?_ (fun hHeld => ?_)
        · exact ⟨⟨P5.out.2.1, range_of HZ5.out⟩, bDrew (Below.refl _ _)⟩
        refine wpAnyH_take (i := 0) (oi := ⟨some 96, _, _, _, _, _⟩) (v := ?_) rfl (by kernel_rfl) (by kernel_rfl) (by kernel_rfl) (fun _ _ _ h => h) (Or.inl ⟨by rfl, ?_⟩) (by assumption) ?_
        rotate_left
        · (intro w hSw; (try dsimp only at hSw); go_simp <;> (with_reducible rfl))
        try simp only [Act.put, List.setIfInBounds_toArray, List.set_cons_zero, List.set_cons_succ]
        refine wpAnyH_take (i := 1) (oi := ⟨some 97, _, _, _, _, _⟩) (v := ?_) rfl (by kernel_rfl) (by kernel_rfl) (by kernel_rfl) (fun _ _ _ h => h) (Or.inl ⟨by rfl, ?_⟩) (by assumption) ?_
        rotate_left
        · (intro w hSw; (try dsimp only at hSw); go_simp <;> (with_reducible rfl))
        try simp only [Act.put, List.setIfInBounds_toArray, List.set_cons_zero, List.set_cons_succ]
        refine wpAnyH_take (i := 2) (oi := ⟨some 98, _, _, _, _, _⟩) (v := ?_) rfl (by kernel_rfl) (by kernel_rfl) (by kernel_rfl) (fun _ _ _ h => h) (Or.inl ⟨by rfl, ?_⟩) (by assumption) ?_
        rotate_left
        · (intro w hSw; (try dsimp only at hSw); go_simp <;> (with_reducible rfl))
        try simp only [Act.put, List.setIfInBounds_toArray, List.set_cons_zero, List.set_cons_succ]
        refine wpAnyH_take (i := 3) (oi := ⟨some 99, _, _, _, _, _⟩) (v := ?_) rfl (by kernel_rfl) (by kernel_rfl) (by kernel_rfl) (fun _ _ _ h => h) (Or.inl ⟨by rfl, ?_⟩) (by assumption) ?_
        rotate_left
        · (intro w hSw; (try dsimp only at hSw); go_simp <;> (with_reducible rfl))
        try simp only [Act.put, List.setIfInBounds_toArray, List.set_cons_zero, List.set_cons_succ]
        refine wpAnyH_take (i := 4) (oi := ⟨some 100, _, _, _, _, _⟩) (v := ?_) rfl (by kernel_rfl) (by kernel_rfl) (by kernel_rfl) (fun _ _ _ h => h) (Or.inl ⟨by rfl, ?_⟩) (by assumption) ?_
        rotate_left
        · (intro w hSw; (try dsimp only at hSw); go_simp <;> (with_reducible rfl))
        try simp only [Act.put, List.setIfInBounds_toArray, List.set_cons_zero, List.set_cons_succ]
        refine wpAnyH_take (i := 5) (oi := ⟨some 101, _, _, _, _, _⟩) (v := _) rfl (by kernel_rfl) (by kernel_rfl) (by kernel_rfl) (fun _ _ _ h => h) (yieldsIf_load_mid (by rfl) _ _ rfl w.heap.size 64 rfl (bytesV H) _ (fun w h => h.1.1) hu rfl (HI.out H HHl.out)) (by assumption) ?_
        try simp only [Act.put, List.setIfInBounds_toArray, List.set_cons_zero, List.set_cons_succ]
        refine wpAnyH_take (i := 6) (oi := ⟨some 102, _, _, _, _, _⟩) (v := _) rfl (by kernel_rfl) (by kernel_rfl) (by kernel_rfl) (fun _ _ _ h => h) (yieldsIf_load_mid (by rfl) _ _ rfl W3.heap.size 0 rfl (bytesV Z) _ (fun w h => h.1.2) hu rfl (HI.out Z HZl.out)) (by assumption) ?_
        try simp only [Act.put, List.setIfInBounds_toArray, List.set_cons_zero, List.set_cons_succ]
        refine wpAnyH_take (i := 7) (oi := ⟨some 103, _, _, _, _, _⟩) (v := ?_) rfl (by kernel_rfl) (by kernel_rfl) (by kernel_rfl) (fun _ _ _ h => h) (Or.inl ⟨by rfl, ?_⟩) (by assumption) ?_
        rotate_left
        · (intro w hSw; (try dsimp only at hSw); go_simp <;> (with_reducible rfl))
        try simp only [Act.put, List.setIfInBounds_toArray, List.set_cons_zero, List.set_cons_succ]
        refine wpAnyH_take (i := 8) (oi := ⟨some 104, _, _, _, _, _⟩) (v := ?_) rfl (by kernel_rfl) (by kernel_rfl) (by kernel_rfl) (fun _ _ _ h => h) (Or.inl ⟨by rfl, ?_⟩) (by assumption) ?_
        rotate_left
        · (intro w hSw; (try dsimp only at hSw); go_simp <;> (with_reducible rfl))
        try simp only [Act.put, List.setIfInBounds_toArray, List.set_cons_zero, List.set_cons_succ]
        refine wpAnyH_take (i := 9) (oi := ⟨some 105, _, _, _, _, _⟩) (v := ?_) rfl (by kernel_rfl) (by kernel_rfl) (by kernel_rfl) (fun _ _ _ h => h) (Or.inl ⟨by rfl, ?_⟩) (by assumption) ?_
        rotate_left
        · (intro w hSw; (try dsimp only at hSw); go_simp <;> (with_reducible rfl))
        try simp only [Act.put, List.setIfInBounds_toArray, List.set_cons_zero, List.set_cons_succ]
        refine wpAnyH_ready (rs := [10]) (by kernel_rfl) (by simp) ?_
        refine AllReadyH.cons (o := ⟨some 106, _, _, _, _, _⟩) rfl (fun K hK => ?_) ?_
        · go_simp
          go_at_call 12
          refine (lives_any _ (HL.out.below (bTrans B5.out hHeld.2))).mono ?_
          rintro e wn ⟨rfl, bn⟩
          have Bn : Below W5.heap.size W5 wn := bTrans hHeld.2 bn
          try go_wp2_with fail
          refine hK.out _ _ ⟨⟨(fun j v hj => ((bcell Bn).1 _ _ P5.out.2.2.2.2).trans (P5.out.2.1 j v hj)), range_kept Bn (at_lt HZ5.out) (range_of HZ5.out)⟩, Bn⟩ (fun hHeld => ?_)
          clear hK K
          try simp only [Act.put, List.setIfInBounds_toArray, List.set_cons_zero, List.set_cons_succ]
          refine wpAnyH_take (i := 11) (oi := ⟨some 107, _, _, _, _, _⟩) (v := ?_) rfl (by kernel_rfl) (by kernel_rfl) (by kernel_rfl) (fun _ _ _ h => h) (Or.inl ⟨by rfl, ?_⟩) (by assumption) ?_
          rotate_left
          · (intro w hSw; (try dsimp only at hSw); go_simp <;> (with_reducible rfl))
          try simp only [Act.put, List.setIfInBounds_toArray, List.set_cons_zero, List.set_cons_succ]
          refine wpAnyH_take (i := 12) (oi := ⟨some 12, _, _, _, _, _⟩) (v := ?_) rfl (by kernel_rfl) (by kernel_rfl) (by kernel_rfl) (fun _ _ _ h => h) (Or.inl ⟨by rfl, ?_⟩) (by assumption) ?_
          rotate_left
          · (intro w hSw; (try dsimp only at hSw); go_simp <;> (with_reducible rfl))
          try simp only [Act.put, List.setIfInBounds_toArray, List.set_cons_zero, List.set_cons_succ]
          refine wpAnyH_done (by kernel_rfl) ?_ _
          go_wp2
          go_ret
          exact ⟨rfl, bTrans B5.out Bn⟩
        · exact AllReadyH.nil

/-! The row's step, by the frame; the card. -/
theorem own : ownKnob Tryd.prog.godebug = none := by kernel_rfl
theorem laidOut : laidOutB Tryd.prog = true := by kernel_rfl
theorem laid_met (os : Os) : laidMet Tryd.prog Rows.sealNextRow.laid ((doorWorld os).forCall (fun _ _ => 0) ⟨#[], #[.int .u64 0, .int .u64 0, .slice none 0 0, .slice none 0 0, .slice none 0 0, .int .i64 0], []⟩).memory :=
  laidMet_of_run' 8 (by kernel_rfl) (by kernel_rfl)
theorem reads (os : Os) {H : Type} (enc : TypeId × Value → H) : ∃ places, DataW.whole enc Tryd.prog ((doorWorld os).forCall (fun _ _ => 0) ⟨#[], #[.int .u64 0, .int .u64 0, .slice none 0 0, .slice none 0 0, .slice none 0 0, .int .i64 0], []⟩).memory Tryd.f7.params.toList Rows.sealNextSpec.vars false (#[.int .u64 0, .int .u64 0, .slice none 0 0, .slice none 0 0, .slice none 0 0, .int .i64 0] : Array Value).toList 8 = some ([.lit (.int .u64 0), .lit (.int .u64 0), .nil, .nil, .nil, .lit (.int .i64 0)], [], places) :=
  ⟨[], by kernel_rfl⟩
set_option maxRecDepth 100000 in
theorem lifted (os : Os) (started : os.Started) (H : Type) (enc : TypeId × Value → H) (F : Stop.Interp) :
    ReturnsInHanded {} Tryd.checked os 7 .any ((OpenSpec.ofChange Rows.sealNextSpec).preRow enc Tryd.prog Tryd.f7 Rows.sealNextRow.domain false Rows.sealNextRow.laid) (((OpenSpec.ofChange Rows.sealNextSpec).at F).post enc Tryd.prog Tryd.f7 false true false false) := by
  obtain ⟨places, hx⟩ := reads os enc
  refine returnsInHanded_of_row (C := Tryd.checked) (s := OpenSpec.ofChange Rows.sealNextSpec) own started (by kernel_rfl) Tryd.func7
    (witness_row_at (enc := enc) (C := Tryd.checked) false (doorWorld os) #[.int .u64 0, .int .u64 0, .slice none 0 0, .slice none 0 0, .slice none 0 0, .int .i64 0] rfl (by kernel_rfl) (by kernel_rfl) (by kernel_rfl)
      (OpenSpec.preRow_of_cond 8 hx (by kernel_rfl) (fun k hk => by cases hk) (by kernel_rfl) (laid_met os))) ?_
  intro W base args ds gs before hval0 hW _ hk1 hsz0 hL _ _
  have hsz : (DataW.weightsEach Tryd.prog (Tryd.f7.params.toList ++ Rows.sealNextSpec.plain.varTypes Tryd.prog) (ds ++ gs)).all (· ≤ reachBytes) = true := hsz0
  have hval : ∀ (j : Nat) t v, Tryd.f7.params[j]? = some t → args[j]? = some v → Value.okWide Tryd.prog W .any base t v := hval0
  have hW' := hW
  obtain ⟨p, q, hA0, hV, rfl, hfz, hnd⟩ := hW
  have hA : DataW.TrodAll enc Tryd.prog W 0 (fun _ => true) true Tryd.f7.params.toList args.toList ds p := hA0
  rw [Tryd.params7] at hA hval hsz
  obtain ⟨v0, vs0, d0, ds0, p0, q0, hargs, rfl, rfl, h0, r0⟩ := trodAll_cons hA
  obtain ⟨v1, vs1, d1, ds1, p1, q1, rfl, rfl, rfl, h1, r1⟩ := trodAll_cons r0
  obtain ⟨v2, vs2, d2, ds2, p2, q2, rfl, rfl, rfl, h2, r2⟩ := trodAll_cons r1
  obtain ⟨v3, vs3, d3, ds3, p3, q3, rfl, rfl, rfl, h3, r3⟩ := trodAll_cons r2
  obtain ⟨v4, vs4, d4, ds4, p4, q4, rfl, rfl, rfl, h4, r4⟩ := trodAll_cons r3
  obtain ⟨v5, vs5, d5, ds5, p5, q5, rfl, rfl, rfl, h5, r5⟩ := trodAll_cons r4
  obtain ⟨rfl, rfl, rfl⟩ := trodAll_nil r5
  obtain rfl : args = #[v0, v1, v2, v3, v4, v5] := by cases args; simp_all
  obtain ⟨rfl, rfl⟩ := trodVars_none hV
  obtain ⟨a0, rfl, rfl, rfl, w0⟩ := open_int Tryd.underlying22 (hval 0 22 v0 rfl rfl) h0
  obtain ⟨a1, rfl, rfl, rfl, w1⟩ := open_int Tryd.underlying22 (hval 1 22 v1 rfl rfl) h1
  obtain ⟨A2, n2, c2, rfl⟩ := okWide_slice Tryd.underlying23 (hval 2 23 v2 rfl rfl)
  have k2 := h2
  have lt2 : ∀ x ∈ p2, x.block < W.heap.size := by obtain ⟨m, hm⟩ := k2; exact DataW.trod_lt m _ _ _ hm
  obtain ⟨b2, w2, u2⟩ := byteArg_of Tryd.underlying23 Tryd.underlying5 (by kernel_rfl) (by kernel_rfl) h2 hsz (j := 2) rfl rfl
  obtain ⟨A3, n3, c3, rfl⟩ := okWide_slice Tryd.underlying23 (hval 3 23 v3 rfl rfl)
  have k3 := h3
  have lt3 : ∀ x ∈ p3, x.block < W.heap.size := by obtain ⟨m, hm⟩ := k3; exact DataW.trod_lt m _ _ _ hm
  obtain ⟨b3, w3, u3⟩ := byteArg_of Tryd.underlying23 Tryd.underlying5 (by kernel_rfl) (by kernel_rfl) h3 hsz (j := 3) rfl rfl
  obtain ⟨A4, n4, c4, rfl⟩ := okWide_slice Tryd.underlying23 (hval 4 23 v4 rfl rfl)
  have k4 := h4
  have lt4 : ∀ x ∈ p4, x.block < W.heap.size := by obtain ⟨m, hm⟩ := k4; exact DataW.trod_lt m _ _ _ hm
  obtain ⟨b4, w4, u4⟩ := byteArg_of Tryd.underlying23 Tryd.underlying5 (by kernel_rfl) (by kernel_rfl) h4 hsz (j := 4) rfl rfl
  obtain ⟨a5, rfl, rfl, rfl, w5⟩ := open_int Tryd.underlying3 (hval 5 3 v5 rfl rfl) h5
  clear hA0 hval0 hsz0
  refine (walk a0 a1 A2 n2 c2 b2 A3 n3 c3 b3 A4 n4 c4 b4 a5 W w0 w1 w2 w3 w4 w5 (laid_of hL)).mono fun e W' ⟨he, bel⟩ => ?_
  subst he
  exact ⟨_, rfl, _, _, _, [], _, [], hW', trodAll_mk1 (shut_bool Tryd.underlying4 _), (trodAll_cons_mk (shut_int Tryd.underlying22 w0) (trodAll_cons_mk (shut_int Tryd.underlying22 w1) (trodAll_cons_mk (Below.trod laidOut (by kernel_rfl) (of_decide_eq_true (by kernel_rfl)) k2 bel lt2) (trodAll_cons_mk (Below.trod laidOut (by kernel_rfl) (of_decide_eq_true (by kernel_rfl)) k3 bel lt3) (trodAll_cons_mk (Below.trod laidOut (by kernel_rfl) (of_decide_eq_true (by kernel_rfl)) k4 bel lt4) (trodAll_cons_mk (shut_int Tryd.underlying3 w5) trodAll_mk0)))))), rfl, bel.frame _, fun h => by cases h⟩

theorem said : Rows.SealNextSaid :=
  OpenClaim.holds_of_cond 7 Tryd.f7 rfl rfl rfl rfl rfl rfl rfl ⟨rfl, rfl, rfl, rfl, rfl⟩ rfl rfl rfl rfl rfl (by kernel_rfl) Tryd.func7 (by kernel_rfl)
    (of_decide_eq_true (by kernel_rfl)) (by unfold Func.isWrapper; first | (rw [if_pos (by decide +kernel)]; kernel_rfl) | (rw [if_neg (by decide +kernel)]; exact ⟨rfl, rfl⟩))
    (fun os started H enc _ F => by rw [OpenClaim.pre_eq_preRow]; exact lifted os started H enc F)
theorem plain (f : FuncId) (fn : Func) (hf : Tryd.pinned.checked.prog.funcNamed "cohort/cohortlaw07.SealNext" = some f) (hfn : Tryd.pinned.checked.prog.funcs[f]? = some fn) :
    false = Tryd.pinned.checked.prog.looks [] ∧ ∀ (j : Nat) t, fn.params[j]? = some t → Tryd.pinned.checked.prog.wantsStandIn t = false := by
  obtain rfl : f = 7 := Option.some.inj ((show Tryd.prog.funcNamed "cohort/cohortlaw07.SealNext" = some 7 by kernel_rfl).symm.trans hf) |>.symm
  obtain rfl : fn = Tryd.f7 := (Option.some.inj (Tryd.func7.symm.trans hfn)).symm
  refine ⟨by kernel_rfl, fun j t ht => ?_⟩
  rw [Tryd.params7] at ht
  have hm : t ∈ [22, 22, 23, 23, 23, 3] := by simpa using Array.mem_of_getElem? ht
  have hall : ([22, 22, 23, 23, 23, 3].all fun u => !Tryd.prog.wantsStandIn u) = true := by kernel_rfl
  exact (show Tryd.prog.wantsStandIn t = false by simpa using List.all_eq_true.1 hall t hm)
/-- The card. -/
theorem proved : Rows.SealNextCardSaid :=
  Claim7.holds_tied_plain_at .later [] _ _ _ _ said (fun _ h => by cases h) (by kernel_rfl) (fun _ h => by cases h) sealNext_row_tie rfl ⟨rfl, rfl⟩ (by kernel_rfl) rfl plain (by kernel_rfl)
end Go.Proofs.YtpdaggkhnmiioaaDoor.sealNext
