
/- Of a sealed block that is written over another one, or over 0s, and held in part, Get tells the old one, the new one or neither: for all numbers, bodies and picks the law returns true, where the table crc.halves holds what the program's text lays in it (the card ties it). -/
import Derived.Test.YtpdaggkhnmiioaaDoorCrcW
import Derived.Test.YtpdaggkhnmiioaaDoorSealK
import Derived.Deep.DeepCutAuto
import Derived.Deep.CutRange
namespace Go.Proofs.YtpdaggkhnmiioaaDoor.sealTorn
open Go.ChangeShapes Go.WideShapes Go.ChangeAt Go.RowKit Go.Deep
open Mem Rec Crc Blk Ref00 Seal
set_option linter.unusedVariables false
set_option linter.unusedSimpArgs false

theorem pB_ok {n : Int} (h0 : 0 ≤ n) (m : Nat) {bs : List Int} (hl : bs.length = m) (hb : ∀ i, 0 ≤ bs.getD i 0 ∧ bs.getD i 0 ≤ 255) : okL (pB n m bs) := by
  unfold pB
  split
  · rename_i h
    refine pL_ok h0 ?_ hb
    unfold pE at h
    split at h
    · omega
    · split at h
      · omega
      · omega
  · exact zs_ok
def pk (p : Int) (j : Nat) : Int := [p, 0, 1, 2, 64].getD j 0
theorem at_op {P : Program} {ops : Array Oper} {l : List Oper} {a : Act} {w : World} {Q : Exit → Act → World → Prop} (h : wpList P ops Q l a w) : wpList P ops Q l a w := h
theorem load_at {ops : Array Oper} {rest : List Oper} {o : Oper} {a : Act} {w : World} {Q : Exit → Act → World → Prop} (sl : Nat) (hd : o.dst = some sl) (hw : Region.wanted o (yielded ops a.tmps) = true) (x : Operand) (ho : o.op = .load 26 x)
    (g : Nat) (hx : a.eval x = .pointer (some ⟨g, 0, none⟩)) (L : List Int) (t : TypeId) (fr : Nat × Nat) (hg : w.heap[g]? = some (.cells (blkC L) t fr)) (hL : L.length = 64)
    (h : wpList Tryd.prog ops Q rest (a.put o.dst (blkV L)) w) : wpList Tryd.prog ops Q (o :: rest) a w := load_blk hw x ho g hx L t fr hg hL h
theorem alloc_op {o : Oper} {a : Act} {w : World} {K : Act → World → Prop} {Kp : Exit → Act → World → Prop} (ho : o.op = .alloc 26)
    (h : K (a.put o.dst (.pointer (some ⟨w.heap.size, 0, none⟩))) (w.alloc (.cells (blkC (zs 64)) 26))) : Oper.wp Tryd.prog o a w K Kp := by
  unfold Oper.wp execOp
  simp only [ho, Sem.run_bind, Sem.run_pure, Result.andThen_ok, run_alloc_blk]
  exact h
theorem store_op {o : Oper} {a : Act} {w : World} {K : Act → World → Prop} {Kp : Exit → Act → World → Prop} (x y : Operand) (ho : o.op = .store 26 x y)
    (g : Nat) (L M : List Int) (t : TypeId) (hx : a.eval x = .pointer (some ⟨g, 0, none⟩)) (hy : a.eval y = blkV L) (hg : w.heap[g]? = some (.cells (blkC M) t (0, 0))) (hL : L.length = 64) (hM : M.length = 64)
    (h : K (a.put o.dst undef) (w.setRow g (blkC L))) : Oper.wp Tryd.prog o a w K Kp :=
  wp_store_row 26 x y ho g (blkC L) hx hy t (blkC M) hg (infoB L hL) (by rw [blkC_size, blkC_size, hL, hM]) (blkC_one L) h
theorem pk_cells (wc : World) (p : Int) (t : TypeId) : ∀ j, j < 5 → (wc.alloc (.cells #[.int .i64 p, .int .i64 0, .int .i64 1, .int .i64 2, .int .i64 64] t)).cell? ⟨wc.heap.size, j, none⟩ = some (.int .i64 (pk p j)) := by
  intro j hj
  have : j = 0 ∨ j = 1 ∨ j = 2 ∨ j = 3 ∨ j = 4 := by omega
  rcases this with rfl | rfl | rfl | rfl | rfl <;> simp [pk, World.cell?_alloc_new]
theorem pk_range {p : Int} (p0 : -9223372036854775808 ≤ p) (p1 : p ≤ 9223372036854775807) (j : Nat) : -9223372036854775808 ≤ pk p j ∧ pk p j ≤ 9223372036854775807 := by
  unfold pk
  rcases j with _ | _ | _ | _ | _ | j <;> simp [List.getD] <;> omega
theorem at_lt {w : World} {g : Nat} {o : Obj} (h : w.heap[g]? = some o) : g < w.heap.size := by
  rcases Nat.lt_or_ge g w.heap.size with hlt | hge
  · exact hlt
  · rw [Array.getElem?_eq_none hge] at h; cases h
attribute [local go_sem ↓] Go.wp_at_zero Go.wp_at_succ
/-- what the walk needs of the two blocks: the new one, the old one, the numbers -/
structure Two (N O : List Int) (n o : Int) : Prop where
  okN : okL N
  okO : okL O
  eN : gE N = 0
  nN : gN N = n
  dA : nA O ≠ n
  dB : nB O ≠ n
  aN : nA N = n
  bN : nB N = n
  eO : gE O = 0 → gN O = o
/-- the document's answer: what Get may tell of what is held -/
theorem Two.says {N O : List Int} {n o : Int} (h : Two N O n o) (p : Int) :
    (held O N p = N ∧ gE (held O N p) = 0 ∧ gN (held O N p) = n) ∨ (held O N p ≠ N ∧ gE (held O N p) ≠ 0) ∨ (held O N p ≠ N ∧ gE (held O N p) = 0 ∧ held O N p = O ∧ gN (held O N p) = o) := by
  have hne : O ≠ N := fun e => h.dA (by rw [e]; exact h.aN)
  by_cases h1 : p < 1
  · rw [show held O N p = O by unfold held; rw [if_pos h1]]
    by_cases e : gE O = 0
    · exact .inr (.inr ⟨hne, e, rfl, h.eO e⟩)
    · exact .inr (.inl ⟨hne, e⟩)
  by_cases h2 : 64 ≤ p
  · rw [show held O N p = N by unfold held; rw [if_neg h1, if_pos h2]]
    exact .inl ⟨rfl, h.eN, h.nN⟩
  have tq : ∀ T : List Int, gE T = 5 → T ≠ N ∧ gE T ≠ 0 := fun T hT => ⟨fun e => by rw [e, h.eN] at hT; omega, by omega⟩
  by_cases h3 : p % 2 = 1
  · rw [show held O N p = torn N O by unfold held; rw [if_neg h1, if_neg h2, if_pos h3]]
    exact .inr (.inl (tq _ (torn_gE h.okN (by rw [h.aN]; exact fun e => h.dB e.symm))))
  · rw [show held O N p = torn O N by unfold held; rw [if_neg h1, if_neg h2, if_neg h3]]
    exact .inr (.inl (tq _ (torn_gE h.okO (by rw [h.bN]; exact h.dA))))
theorem two_of {n o : Int} (n0 : 1 ≤ n) (n1 : n ≤ 18446744073709551615) (o0 : 0 ≤ o) (o1 : o ≤ 18446744073709551615) {bs cs : List Int} {m : Nat} (hl : bs.length ≤ 44) (hm : cs.length = m) (hb : ∀ i, 0 ≤ bs.getD i 0 ∧ bs.getD i 0 ≤ 255) (hc : ∀ i, 0 ≤ cs.getD i 0 ∧ cs.getD i 0 ≤ 255) (hd : pE o m = 0 → o ≠ n) : Two (pL n bs) (pB o m cs) n o := by
  by_cases h : pE o m = 0
  · have e : pB o m cs = pL o cs := by unfold pB; rw [if_pos h]
    have ho : 1 ≤ o ∧ m ≤ 44 := by
      unfold pE at h
      split at h
      · omega
      · split at h <;> omega
    have hd := hd h
    rw [e]
    exact ⟨pL_ok (by omega) hl hb, pL_ok o0 (by omega) hc, gE_pL n0 n1 hl, gN_pL n0 n1 hl, by rw [nA_pL o0 o1]; exact hd, by rw [nB_pL o0 o1 (by omega)]; exact hd, nA_pL (by omega) n1 bs, nB_pL (by omega) n1 hl, fun _ => gN_pL ho.1 o1 (by omega)⟩
  · have e : pB o m cs = zs 64 := by unfold pB; rw [if_neg h]
    rw [e]
    exact ⟨pL_ok (by omega) hl hb, zs_ok, gE_pL n0 n1 hl, gN_pL n0 n1 hl, by rw [nA_zs]; omega, by rw [nB_zs]; omega, nA_pL (by omega) n1 bs, nB_pL (by omega) n1 hl, fun h5 => by rw [lv1] at h5; omega⟩
theorem pE_val (n : Int) (m : Nat) : 0 ≤ pE n m ∧ pE n m ≤ 3 := by
  unfold pE
  split
  · omega
  · split <;> omega
set_option maxRecDepth 100000 in
set_option maxHeartbeats 4000000 in
theorem walk (n o : Int) (A : Option Addr) (m c : Nat) (bs : List Int) (A' : Option Addr) (m' c' : Nat) (cs : List Int) (p : Int) (w : World) (w0 : (Lit.int .u64 n).wf = true) (w1 : (Lit.int .u64 o).wf = true) (h : ByteArg w A m c bs) (h' : ByteArg w A' m' c' cs) (w4 : (Lit.int .i64 p).wf = true) (L : Laid w) :
    Calls Tryd.prog 6 #[.int .u64 n, .int .u64 o, .slice A m c, .slice A' m' c', .int .i64 p] w fun e w' => e = .returned (.bool true) ∧ Below w.heap.size w w' := by
  obtain ⟨n0, n1⟩ := bounds_u64 w0
  obtain ⟨o0, o1⟩ := bounds_u64 w1
  obtain ⟨p0, p1⟩ := bounds_i64 w4
  have hm : m ≤ 140737488351232 := by have := h.le; have := h.reach; omega
  have hm' : m' ≤ 140737488351232 := by have := h'.le; have := h'.reach; omega
  have HL := Lib.hid L
  have C1 := Lib.hid (put_any n A m c bs w n0 n1 (by omega) h.rd h.byte L)
  have C2 := Lib.hid (fun W (hW : Below w.heap.size w W) => put_any o A' m' c' cs W o0 o1 (by omega) ((h'.rd.below hW).more hW.size) h'.byte (L.below hW))
  have hokN := pB_ok n0 m h.rd.1 h.byte
  have hokO := pB_ok o0 m' h'.rd.1 h'.byte
  have HNl := Lib.hid hokN.1
  have HOl := Lib.hid hokO.1
  have vN := pE_val n m
  have vO := pE_val o m'
  have HI := Lib.hid (fun (L : List Int) (h : L.length = 64) => (by rw [bytesV_length, h]; exact infoBlk : (Tryd.prog.info? 26).map (·.size) = some (bytesV L).length))
  have hu := Tryd.underlying26
  have HT : Hid (pE n m = 0 → (pE o m' = 0 → o ≠ n) → Two (pB n m bs) (pB o m' cs) n o) := Lib.hid (fun h1 h2 => by
    have e : pB n m bs = pL n bs := by unfold pB; rw [if_pos h1]
    have hn : 1 ≤ n ∧ m ≤ 44 := by
      unfold pE at h1
      split at h1
      · omega
      · split at h1 <;> omega
    rw [e]
    exact two_of hn.1 n1 o0 o1 (by have := h.rd.1; omega) h'.rd.1 h.byte h'.byte h2)
  have HZ : Hid (pE o m' ≠ 0 → pB o m' cs = zs 64) := Lib.hid (fun h1 => by unfold pB; rw [if_neg h1])
  clear h h' L w0 w1 w4 hokN hokO
  generalize pB n m bs = N at *
  generalize pB o m' cs = O at *
  generalize pE n m = e1 at *
  generalize pE o m' = e2 at *
  go_enter Tryd.func6, Tryd.ntmps6
  go_wp2_with fail
  refine C1.out.mono ?_
  rintro e W2 ⟨rfl, b2⟩
  have HN2 : Hid ((W2.alloc (.cells (blkC (zs 64)) 26)).heap[W2.heap.size]? = some (.cells (blkC (zs 64)) 26 (0, 0))) := Lib.hid (heap_alloc_new _ _)
  have HX2 : Hid (((W2.alloc (.cells (blkC (zs 64)) 26)).setRow W2.heap.size (blkC N)).heap[W2.heap.size]? = some (.cells (blkC N) 26 (0, 0))) := Lib.hid (row_at HN2.out)
  have HB2 : Hid (Below w.heap.size w ((W2.alloc (.cells (blkC (zs 64)) 26)).setRow W2.heap.size (blkC N))) := Lib.hid (below_row _ (bAlloc b2 _) b2.size)
  have hW2 := b2.size
  clear b2
  go_wp2_with (first | (refine alloc_blk rfl rfl ?_) | (refine store_blk rfl (.tmp 11) _ rfl W2.heap.size N (zs 64) _ rfl rfl HN2.out HNl.out zs_64 ?_))
  refine (C2.out _ HB2.out).mono ?_
  rintro e W3 ⟨rfl, b3⟩
  have HX3 := Lib.hid (kept_at' b3 HX2.out)
  have HN3 : Hid ((W3.alloc (.cells (blkC (zs 64)) 26)).heap[W3.heap.size]? = some (.cells (blkC (zs 64)) 26 (0, 0))) := Lib.hid (heap_alloc_new _ _)
  have hW3 : W2.heap.size < W3.heap.size := by have := b3.size; simp at this; omega
  have HX4 : Hid (((W3.alloc (.cells (blkC (zs 64)) 26)).setRow W3.heap.size (blkC O)).heap[W2.heap.size]? = some (.cells (blkC N) 26 (0, 0))) := Lib.hid ((row_else' (by omega)).trans (kept_at HX3.out))
  have HY4 : Hid (((W3.alloc (.cells (blkC (zs 64)) 26)).setRow W3.heap.size (blkC O)).heap[W3.heap.size]? = some (.cells (blkC O) 26 (0, 0))) := Lib.hid (row_at HN3.out)
  have HB3 := Lib.hid (bTrans HB2.out b3)
  have HB4 : Hid (Below w.heap.size w ((W3.alloc (.cells (blkC (zs 64)) 26)).setRow W3.heap.size (blkC O))) := Lib.hid (below_row _ (bAlloc HB3.out _) HB3.out.size)
  have hW0 := HB3.out.size
  clear b3
  go_upto_if 34 with (first | (refine alloc_blk rfl rfl ?_) | (refine build_blk rfl rfl ?_) | (refine store_blk rfl (.tmp 13) _ rfl W3.heap.size O (zs 64) _ rfl rfl HN3.out HOl.out zs_64 ?_) | (refine store_blk rfl (.tmp 13) _ rfl W3.heap.size (zs 64) O _ rfl rfl HY4.out zs_64 HOl.out ?_))
  go_cut [14] from 21 (fun s wx => s = .int .i64 e2 ∧ wx.heap[W2.heap.size]? = some (.cells (blkC N) 26 (0, 0)) ∧ wx.heap[W3.heap.size]? = some (.cells (blkC O) 26 (0, 0)) ∧ Below w.heap.size w wx)
  case first =>
    by_cases hz2 : e2 = 0
    · subst hz2
      go_wp2_with (first | (refine alloc_blk rfl rfl ?_) | (refine build_blk rfl rfl ?_) | (refine store_blk rfl (.tmp 13) _ rfl W3.heap.size O (zs 64) _ rfl rfl HN3.out HOl.out zs_64 ?_) | (refine store_blk rfl (.tmp 13) _ rfl W3.heap.size (zs 64) O _ rfl rfl HY4.out zs_64 HOl.out ?_))
      go_meet
      exact ⟨rfl, HX4.out, HY4.out, HB4.out⟩
    · have i2 : (e2 != 0) = true := by simpa using hz2
      have HX5 : Hid ((((W3.alloc (.cells (blkC (zs 64)) 26)).setRow W3.heap.size (blkC O)).setRow W3.heap.size (blkC (zs 64))).heap[W2.heap.size]? = some (.cells (blkC N) 26 (0, 0))) := Lib.hid ((row_else' (by omega)).trans HX4.out)
      have HY5 : Hid ((((W3.alloc (.cells (blkC (zs 64)) 26)).setRow W3.heap.size (blkC O)).setRow W3.heap.size (blkC (zs 64))).heap[W3.heap.size]? = some (.cells (blkC O) 26 (0, 0))) := Lib.hid (by rw [row_at HY4.out, HZ.out hz2])
      have HB5 : Hid (Below w.heap.size w (((W3.alloc (.cells (blkC (zs 64)) 26)).setRow W3.heap.size (blkC O)).setRow W3.heap.size (blkC (zs 64)))) := Lib.hid (below_row _ HB4.out hW0)
      go_wp2_with (first | (refine alloc_blk rfl rfl ?_) | (refine build_blk rfl rfl ?_) | (refine store_blk rfl (.tmp 13) _ rfl W3.heap.size O (zs 64) _ rfl rfl HN3.out HOl.out zs_64 ?_) | (refine store_blk rfl (.tmp 13) _ rfl W3.heap.size (zs 64) O _ rfl rfl HY4.out zs_64 HOl.out ?_))
      go_meet
      exact ⟨rfl, HX5.out, HY5.out, HB5.out⟩
  case rest =>
    obtain ⟨rfl, hx, hy, hb⟩ := hcut
    have HX6 := Lib.hid hx
    have HY6 := Lib.hid hy
    have HBB := Lib.hid hb
    clear hx hy hb HX2 HN2 HX3 HN3 HX4 HY4 HB2 HB3 HB4
    generalize W2.heap.size = g1 at *
    generalize W3.heap.size = g2 at *
    go_upto_region 5 with fail
    go_cut [14, 46] from 21 (fun s t wx => s = .int .i64 e2 ∧ t = .bool (decide (e1 ≠ 0 ∨ e2 = 0 ∧ o = n)) ∧ wx.heap[g1]? = some (.cells (blkC N) 26 (0, 0)) ∧ wx.heap[g2]? = some (.cells (blkC O) 26 (0, 0)) ∧ Below w.heap.size w wx)
    case first =>
      by_cases z1 : e1 = 0
      case neg =>
        have i1 : (e1 != 0) = true := by simpa using z1
        go_wp2_with fail
        go_meet
        exact ⟨rfl, by simp [z1], HX6.out, HY6.out, HBB.out⟩
      subst z1
      by_cases z2 : e2 = 0
      case neg =>
        have i2 : (e2 == 0) = false := by simpa using z2
        go_wp2_with fail
        go_meet
        exact ⟨rfl, by simp [z2], HX6.out, HY6.out, HBB.out⟩
      subst z2
      by_cases z3 : o = n
      · subst z3
        go_wp2_with fail
        go_meet
        exact ⟨rfl, by simp, HX6.out, HY6.out, HBB.out⟩
      · have i3 : (o == n) = false := by simpa using z3
        go_wp2_with fail
        go_meet
        exact ⟨rfl, by simp [z3], HX6.out, HY6.out, HBB.out⟩
    case rest =>
      obtain ⟨rfl, rfl, hx, hy, hb⟩ := hcut
      by_cases bad : e1 ≠ 0 ∨ e2 = 0 ∧ o = n
      · have ib : decide (e1 ≠ 0 ∨ e2 = 0 ∧ o = n) = true := decide_eq_true bad
        rw [ib]
        go_wp2_with fail
        refine (lives_any _ (HL.out.below hb)).mono ?_
        rintro e w2 ⟨rfl, hb2⟩
        go_wp2
        go_ret
        exact ⟨rfl, bTrans hb hb2⟩
      · have ib : decide (e1 ≠ 0 ∨ e2 = 0 ∧ o = n) = false := decide_eq_false bad
        have HTT := Lib.hid (HT.out (by omega) (by omega))
        rw [ib]
        have hq1 : g1 < wc.heap.size := at_lt hx
        have hq2 : g2 < wc.heap.size := at_lt hy
        have HX7 := Lib.hid (kept_at (o := .cells #[.int .i64 p, .int .i64 0, .int .i64 1, .int .i64 2, .int .i64 64] 3) hx)
        have HY7 := Lib.hid (kept_at (o := .cells #[.int .i64 p, .int .i64 0, .int .i64 1, .int .i64 2, .int .i64 64] 3) hy)
        have HB7 := Lib.hid (bAlloc hb (.cells #[.int .i64 p, .int .i64 0, .int .i64 1, .int .i64 2, .int .i64 64] 3))
        clear hx hy hb bad ib HX6 HY6 HBB
        go_wp2_with fail
        obtain ⟨W8, hW8⟩ : ∃ W, W = wc := ⟨_, rfl⟩
        subst hW8
        go_loopw [16] (fun i wr => ∃ k : Nat, k ≤ 5 ∧ i = .int .i64 k ∧ wr.heap[g1]? = some (.cells (blkC N) 26 (0, 0)) ∧ wr.heap[g2]? = some (.cells (blkC O) 26 (0, 0)) ∧ (∀ j, j < 5 → wr.cell? ⟨W8.heap.size, j, none⟩ = some (.int .i64 (pk p j))) ∧ W8.heap.size < wr.heap.size ∧ Below w.heap.size w wr) (fun i _ => 5 - (intOf i).toNat)
        case atStart => exact ⟨0, by omega, rfl, HX7.out, HY7.out, pk_cells W8 p _, by simp, HB7.out⟩
        case round =>
          obtain ⟨k, hk, rfl, hx, hy, hp, hlp, hb⟩ := hrel
          by_cases hlt : k < 5
          · have SN := range_of hx
            have SO := range_of hy
            have SP := hp k hlt
            have qq := pk_range p0 p1 k
            generalize pk p k = q at SP qq
            obtain ⟨q0, q1⟩ := qq
            have HHl := Lib.hid (held_ok HTT.out.okO HTT.out.okN q).1
            have hl1 := at_lt hx
            have hl2 := at_lt hy
            have hiO := HI.out O HOl.out
            have hiN := HI.out N HNl.out
            have HX8 := Lib.hid hx
            have HY8 := Lib.hid hy
            have HP8 := Lib.hid hp
            have HB8 := Lib.hid hb
            clear hx hy hp hb HX7 HY7 HB7
            go_upto_region 11 with fail
            go_cut [17] from 50 to 99 (fun s wx => ∃ g, s = .pointer (some ⟨g, 0, none⟩) ∧ wx.heap[g]? = some (.cells (blkC (held O N q)) 26 (0, 0)) ∧ wx.heap[g1]? = some (.cells (blkC N) 26 (0, 0)) ∧ wx.heap[g2]? = some (.cells (blkC O) 26 (0, 0)) ∧ Below wr.heap.size wr wx)
            case first =>
              refine wp_region_held_drew (S := (fun w' => (w'.rangeAt g2 0 (bytesV O) ∧ w'.rangeAt g1 0 (bytesV N)) ∧ w'.cell? ⟨W8.heap.size, k, none⟩ = some (.int .i64 q) ∧ Below wr.heap.size wr w')) (by kernel_rfl) ?_ (fun hHeld => ?_)
              · (first | exact ⟨⟨SO, SN⟩, SP, Below.refl _ _⟩ | exact ⟨⟨SO, SN⟩, SP, bDrew (Below.refl _ _)⟩)
              refine wpAnyH_take (i := 0) (oi := ⟨some 56, _, _, _, _, _⟩) (v := _) rfl (by kernel_rfl) (by kernel_rfl) (by kernel_rfl) (fun _ _ _ h => h) (yieldsIf_load_mid (by rfl) _ _ rfl g2 0 rfl (bytesV O) _ (fun w h => h.1.1) hu rfl hiO) (by assumption) ?_
              try simp only [Act.put, List.setIfInBounds_toArray, List.set_cons_zero, List.set_cons_succ]
              refine wpAnyH_take (i := 1) (oi := ⟨some 57, _, _, _, _, _⟩) (v := _) rfl (by kernel_rfl) (by kernel_rfl) (by kernel_rfl) (fun _ _ _ h => h) (yieldsIf_load_mid (by rfl) _ _ rfl g1 0 rfl (bytesV N) _ (fun w h => h.1.2) hu rfl hiN) (by assumption) ?_
              try simp only [Act.put, List.setIfInBounds_toArray, List.set_cons_zero, List.set_cons_succ]
              refine wpAnyH_take (i := 2) (oi := ⟨some 58, _, _, _, _, _⟩) (v := ?_) rfl (by kernel_rfl) (by kernel_rfl) (by kernel_rfl) (fun _ _ _ h => h) (Or.inl ⟨by rfl, ?_⟩) (by assumption) ?_
              rotate_left
              · (intro w hSw; (try dsimp only at hSw); go_simp <;> (with_reducible rfl))
              try simp only [Act.put, List.setIfInBounds_toArray, List.set_cons_zero, List.set_cons_succ]
              refine wpAnyH_take (i := 3) (oi := ⟨some 59, _, _, _, _, _⟩) (v := ?_) rfl (by kernel_rfl) (by kernel_rfl) (by kernel_rfl) (fun _ _ _ h => h) (Or.inl ⟨by rfl, ?_⟩) (by assumption) ?_
              rotate_left
              · (intro w hSw; (try dsimp only at hSw); go_simp <;> (with_reducible rfl))
              try simp only [Act.put, List.setIfInBounds_toArray, List.set_cons_zero, List.set_cons_succ]
              refine wpAnyH_take (i := 4) (oi := ⟨some 60, _, _, _, _, _⟩) (v := ?_) rfl (by kernel_rfl) (by kernel_rfl) (by kernel_rfl) (fun _ _ _ h => h) (Or.inl ⟨by rfl, ?_⟩) (by assumption) ?_
              rotate_left
              · (intro w hSw; (try dsimp only at hSw); go_simp <;> (with_reducible rfl))
              try simp only [Act.put, List.setIfInBounds_toArray, List.set_cons_zero, List.set_cons_succ]
              refine wpAnyH_take (i := 5) (oi := ⟨some 61, _, _, _, _, _⟩) (v := ?_) rfl (by kernel_rfl) (by kernel_rfl) (by kernel_rfl) (fun _ _ _ h => h) (Or.inl ⟨by rfl, ?_⟩) (by assumption) ?_
              rotate_left
              · (intro w hSw; (try dsimp only at hSw); go_simp <;> (with_reducible rfl))
              try simp only [Act.put, List.setIfInBounds_toArray, List.set_cons_zero, List.set_cons_succ]
              refine wpAnyH_ready (rs := [6, 7]) (by kernel_rfl) (by simp) ?_
              refine AllReadyH.cons (o := ⟨some 62, _, _, _, _, _⟩) rfl (fun K hK => ?_) ?_
              · go_simp
                go_at_call 22
                refine (torn_any O N q _ HTT.out.okO HTT.out.okN q0 q1).mono ?_
                rintro e wn ⟨rfl, bn⟩
                have Bn : Below wr.heap.size wr wn := bTrans hHeld.2.2 bn
                try go_wp2_with fail
                refine hK.out _ _ ?_ (fun hHeld => ?_)
                · exact ⟨⟨range_kept Bn hl2 SO, range_kept Bn hl1 SN⟩, ((bcell Bn).1 _ _ hlp).trans SP, Bn⟩
                clear hK K
                try simp only [Act.put, List.setIfInBounds_toArray, List.set_cons_zero, List.set_cons_succ]
                refine wpAnyH_ready (rs := [7]) (by kernel_rfl) (by simp) ?_
                refine AllReadyH.cons (o := ⟨some 17, _, _, _, _, _⟩) rfl (fun K hK => ?_) ?_
                · refine alloc_op rfl ?_
                  have Ba := bAlloc hHeld.2.2 (.cells (blkC (zs 64)) 26)
                  refine hK.out _ _ ?_ (fun hHeld => ?_)
                  · exact ⟨⟨range_kept Ba hl2 SO, range_kept Ba hl1 SN⟩, ((bcell Ba).1 _ _ hlp).trans SP, Ba⟩
                  clear hK K
                  try simp only [Act.put, List.setIfInBounds_toArray, List.set_cons_zero, List.set_cons_succ]
                  refine wpAnyH_ready (rs := [8]) (by kernel_rfl) (by simp) ?_
                  refine AllReadyH.cons (o := ⟨none, _, _, _, _, _⟩) rfl (fun K hK => ?_) ?_
                  · refine store_op (.tmp 17) (.tmp 62) rfl _ (held O N q) (zs 64) _ rfl rfl (by first | exact heap_alloc_new _ _ | exact kept_at' bn (heap_alloc_new _ _)) HHl.out zs_64 ?_
                    have Bs := below_row (g := wn.heap.size) (blkC (held O N q)) hHeld.2.2 Bn.size
                    refine hK.out _ _ ?_ (fun hHeld => ?_)
                    · exact ⟨⟨range_kept Bs hl2 SO, range_kept Bs hl1 SN⟩, ((bcell Bs).1 _ _ hlp).trans SP, Bs⟩
                    clear hK K
                    try simp only [Act.put, List.setIfInBounds_toArray, List.set_cons_zero, List.set_cons_succ]
                    refine wpAnyH_done (by kernel_rfl) ?_ _
                    go_wp2_with fail
                    go_meet
                    exact ⟨_, rfl, row_at (by first | exact heap_alloc_new _ _ | exact kept_at' bn (heap_alloc_new _ _)), kept_at' Bs HX8.out, kept_at' Bs HY8.out, Bs⟩
                  · exact AllReadyH.nil
                · exact AllReadyH.nil
              · refine AllReadyH.cons (o := ⟨some 17, _, _, _, _, _⟩) rfl (fun K hK => ?_) ?_
                · refine alloc_op rfl ?_
                  have Ba := bAlloc hHeld.2.2 (.cells (blkC (zs 64)) 26)
                  refine hK.out _ _ ?_ (fun hHeld => ?_)
                  · exact ⟨⟨range_kept Ba hl2 SO, range_kept Ba hl1 SN⟩, ((bcell Ba).1 _ _ hlp).trans SP, Ba⟩
                  clear hK K
                  try simp only [Act.put, List.setIfInBounds_toArray, List.set_cons_zero, List.set_cons_succ]
                  refine wpAnyH_ready (rs := [6]) (by kernel_rfl) (by simp) ?_
                  refine AllReadyH.cons (o := ⟨some 62, _, _, _, _, _⟩) rfl (fun K hK => ?_) ?_
                  · go_simp
                    go_at_call 22
                    refine (torn_any O N q _ HTT.out.okO HTT.out.okN q0 q1).mono ?_
                    rintro e wn ⟨rfl, bn⟩
                    have Bn : Below wr.heap.size wr wn := bTrans hHeld.2.2 bn
                    try go_wp2_with fail
                    refine hK.out _ _ ?_ (fun hHeld => ?_)
                    · exact ⟨⟨range_kept Bn hl2 SO, range_kept Bn hl1 SN⟩, ((bcell Bn).1 _ _ hlp).trans SP, Bn⟩
                    clear hK K
                    try simp only [Act.put, List.setIfInBounds_toArray, List.set_cons_zero, List.set_cons_succ]
                    refine wpAnyH_ready (rs := [8]) (by kernel_rfl) (by simp) ?_
                    refine AllReadyH.cons (o := ⟨none, _, _, _, _, _⟩) rfl (fun K hK => ?_) ?_
                    · refine store_op (.tmp 17) (.tmp 62) rfl _ (held O N q) (zs 64) _ rfl rfl (by first | exact heap_alloc_new _ _ | exact kept_at' bn (heap_alloc_new _ _)) HHl.out zs_64 ?_
                      have Bs := below_row (g := wr.heap.size) (blkC (held O N q)) hHeld.2.2 (Nat.le_refl _)
                      refine hK.out _ _ ?_ (fun hHeld => ?_)
                      · exact ⟨⟨range_kept Bs hl2 SO, range_kept Bs hl1 SN⟩, ((bcell Bs).1 _ _ hlp).trans SP, Bs⟩
                      clear hK K
                      try simp only [Act.put, List.setIfInBounds_toArray, List.set_cons_zero, List.set_cons_succ]
                      refine wpAnyH_done (by kernel_rfl) ?_ _
                      go_wp2_with fail
                      go_meet
                      exact ⟨_, rfl, row_at (by first | exact heap_alloc_new _ _ | exact kept_at' bn (heap_alloc_new _ _)), kept_at' Bs HX8.out, kept_at' Bs HY8.out, Bs⟩
                    · exact AllReadyH.nil
                  · exact AllReadyH.nil
                · exact AllReadyH.nil
            case rest =>
              obtain ⟨g, rfl, hg, hx, hy, hb⟩ := hcut
              have HG := Lib.hid hg
              have HX9 := Lib.hid hx
              have HY9 := Lib.hid hy
              have HB9 := Lib.hid (bTrans HB8.out hb)
              have HP9 := Lib.hid (fun j (hj : j < 5) => ((bcell hb).1 _ j hlp).trans (HP8.out j hj))
              have hlp9 : W8.heap.size < wc.heap.size := by have := hb.size; omega
              have CG : Calls Tryd.prog 13 #[blkV (held O N q)] wc (fun e w' => ∃ A m c, e = .returned (.tuple #[.int .u64 (gN (held O N q)), .slice A m c, .int .i64 (gE (held O N q))]) ∧ Below wc.heap.size wc w') := (get_any _ wc (held_ok HTT.out.okO HTT.out.okN q) (HL.out.below HB9.out)).mono (by rintro e w' ⟨A, m, c, h1, _, _, h4⟩; exact ⟨A, m, c, h1, h4⟩)
              have says := HTT.out.says q
              have okH := held_ok HTT.out.okO HTT.out.okN q
              have okN := HTT.out.okN
              have okO := HTT.out.okO
              generalize gE (held O N q) = E at CG says
              generalize gN (held O N q) = X at CG says
              generalize held O N q = T at *
              have CG := Lib.hid CG
              have says := Lib.hid says
              have KH := Lib.hid okH
              have KN := Lib.hid okN
              have KO := Lib.hid okO
              clear hg hx hy hb okH okN okO SN SO SP
              go_wp2_with (first | (refine load_blk rfl (.tmp 17) rfl g rfl T _ _ HG.out HHl.out ?_))
              refine CG.out.mono ?_
              rintro e W10 ⟨A1, m1, c1, rfl, b10⟩
              have HX10 := Lib.hid (kept_at' b10 HX9.out)
              have HY10 := Lib.hid (kept_at' b10 HY9.out)
              have HB10 := Lib.hid (bTrans HB9.out b10)
              have HP10 := Lib.hid (fun j (hj : j < 5) => ((bcell b10).1 _ j hlp9).trans (HP9.out j hj))
              have hlp10 : W8.heap.size < W10.heap.size := by have := b10.size; omega
              have HG10 := Lib.hid (kept_at' b10 HG.out)
              clear b10 HG HX9 HY9 HB9 HP9 HX8 HY8 HB8 HP8 hl1 hl2
              rcases says.out with ⟨t1, t2, t3⟩ | ⟨t1, t2⟩ | ⟨t1, t2, t3, t4⟩
              · subst t2
                obtain rfl : X = n := t3
                have ha : ∀ W : World, (Op.equalIn 10000 26 (.agg (blkC T)) (.agg (blkC N))).run Tryd.prog W = .ok true W := fun W => eql_blk W KH.out KN.out true (by simp [t1])
                clear t1 says CG
                go_wp2_with (with_reducible refine at_op ?_; (first | (refine load_at 69 rfl rfl (.tmp 17) rfl g rfl T _ _ HG10.out HHl.out ?_) | (refine load_at 82 rfl rfl (.tmp 17) rfl g rfl T _ _ HG10.out HHl.out ?_) | (refine load_at 70 rfl rfl (.tmp 11) rfl g1 rfl N _ _ HX10.out HNl.out ?_) | (refine load_at 83 rfl rfl (.tmp 11) rfl g1 rfl N _ _ HX10.out HNl.out ?_)))
                go_roundw
                case rel =>
                  exact ⟨k + 1, by omega, by go_num, HX10.out, HY10.out, HP10.out, hlp10, HB10.out⟩
                case measure => simp [intOf]; omega
              · have i1 : (E != 0) = true := by simpa using t2
                have i2 : (E == 0) = false := by simpa using t2
                have ha : ∀ W : World, (Op.equalIn 10000 26 (.agg (blkC T)) (.agg (blkC N))).run Tryd.prog W = .ok false W := fun W => eql_blk W KH.out KN.out false (by simp [t1])
                clear t1 says CG
                go_wp2_with (with_reducible refine at_op ?_; (first | (refine load_at 69 rfl rfl (.tmp 17) rfl g rfl T _ _ HG10.out HHl.out ?_) | (refine load_at 82 rfl rfl (.tmp 17) rfl g rfl T _ _ HG10.out HHl.out ?_) | (refine load_at 70 rfl rfl (.tmp 11) rfl g1 rfl N _ _ HX10.out HNl.out ?_) | (refine load_at 83 rfl rfl (.tmp 11) rfl g1 rfl N _ _ HX10.out HNl.out ?_)))
                go_roundw
                case rel =>
                  exact ⟨k + 1, by omega, by go_num, HX10.out, HY10.out, HP10.out, hlp10, HB10.out⟩
                case measure => simp [intOf]; omega
              · subst t2
                obtain rfl : X = o := t4
                have ha : ∀ W : World, (Op.equalIn 10000 26 (.agg (blkC T)) (.agg (blkC N))).run Tryd.prog W = .ok false W := fun W => eql_blk W KH.out KN.out false (by simp [t1])
                have hb : ∀ W : World, (Op.equalIn 10000 26 (.agg (blkC T)) (.agg (blkC O))).run Tryd.prog W = .ok true W := fun W => eql_blk W KH.out KO.out true (by simp [t3])
                clear t1 t3 says CG
                go_wp2_with (with_reducible refine at_op ?_; (first | (refine load_at 69 rfl rfl (.tmp 17) rfl g rfl T _ _ HG10.out HHl.out ?_) | (refine load_at 82 rfl rfl (.tmp 17) rfl g rfl T _ _ HG10.out HHl.out ?_) | (refine load_at 90 rfl rfl (.tmp 17) rfl g rfl T _ _ HG10.out HHl.out ?_) | (refine load_at 70 rfl rfl (.tmp 11) rfl g1 rfl N _ _ HX10.out HNl.out ?_) | (refine load_at 83 rfl rfl (.tmp 11) rfl g1 rfl N _ _ HX10.out HNl.out ?_) | (refine load_at 91 rfl rfl (.tmp 13) rfl g2 rfl O _ _ HY10.out HOl.out ?_)))
                go_roundw
                case rel =>
                  exact ⟨k + 1, by omega, by go_num, HX10.out, HY10.out, HP10.out, hlp10, HB10.out⟩
                case measure => simp [intOf]; omega
          · go_wp2_with fail
            refine (lives_any wr (HL.out.below hb)).mono ?_
            rintro e w2 ⟨rfl, hb2⟩
            go_wp2
            go_ret
            exact ⟨rfl, bTrans hb hb2⟩

/-! The row's step, by the frame; the card. -/
theorem own : ownKnob Tryd.prog.godebug = none := by kernel_rfl
theorem laidOut : laidOutB Tryd.prog = true := by kernel_rfl
theorem laid_met (os : Os) : laidMet Tryd.prog Rows.sealTornRow.laid ((doorWorld os).forCall (fun _ _ => 0) ⟨#[], #[.int .u64 0, .int .u64 0, .slice none 0 0, .slice none 0 0, .int .i64 0], []⟩).memory :=
  laidMet_of_run' 8 (by kernel_rfl) (by kernel_rfl)
theorem reads (os : Os) {H : Type} (enc : TypeId × Value → H) : ∃ places, DataW.whole enc Tryd.prog ((doorWorld os).forCall (fun _ _ => 0) ⟨#[], #[.int .u64 0, .int .u64 0, .slice none 0 0, .slice none 0 0, .int .i64 0], []⟩).memory Tryd.f6.params.toList Rows.sealTornSpec.vars false (#[.int .u64 0, .int .u64 0, .slice none 0 0, .slice none 0 0, .int .i64 0] : Array Value).toList 8 = some ([.lit (.int .u64 0), .lit (.int .u64 0), .nil, .nil, .lit (.int .i64 0)], [], places) :=
  ⟨[], by kernel_rfl⟩
set_option maxRecDepth 100000 in
theorem lifted (os : Os) (started : os.Started) (H : Type) (enc : TypeId × Value → H) (F : Stop.Interp) :
    ReturnsInHanded {} Tryd.checked os 6 .any ((OpenSpec.ofChange Rows.sealTornSpec).preRow enc Tryd.prog Tryd.f6 Rows.sealTornRow.domain false Rows.sealTornRow.laid) (((OpenSpec.ofChange Rows.sealTornSpec).at F).post enc Tryd.prog Tryd.f6 false true false false) := by
  obtain ⟨places, hx⟩ := reads os enc
  refine returnsInHanded_of_row (C := Tryd.checked) (s := OpenSpec.ofChange Rows.sealTornSpec) own started (by kernel_rfl) Tryd.func6
    (witness_row_at (enc := enc) (C := Tryd.checked) false (doorWorld os) #[.int .u64 0, .int .u64 0, .slice none 0 0, .slice none 0 0, .int .i64 0] rfl (by kernel_rfl) (by kernel_rfl) (by kernel_rfl)
      (OpenSpec.preRow_of_cond 8 hx (by kernel_rfl) (fun k hk => by cases hk) (by kernel_rfl) (laid_met os))) ?_
  intro W base args ds gs before hval0 hW _ hk1 hsz0 hL _ _
  have hsz : (DataW.weightsEach Tryd.prog (Tryd.f6.params.toList ++ Rows.sealTornSpec.plain.varTypes Tryd.prog) (ds ++ gs)).all (· ≤ reachBytes) = true := hsz0
  have hval : ∀ (j : Nat) t v, Tryd.f6.params[j]? = some t → args[j]? = some v → Value.okWide Tryd.prog W .any base t v := hval0
  have hW' := hW
  obtain ⟨p, q, hA0, hV, rfl, hfz, hnd⟩ := hW
  have hA : DataW.TrodAll enc Tryd.prog W 0 (fun _ => true) true Tryd.f6.params.toList args.toList ds p := hA0
  rw [Tryd.params6] at hA hval hsz
  obtain ⟨v0, vs0, d0, ds0, p0, q0, hargs, rfl, rfl, h0, r0⟩ := trodAll_cons hA
  obtain ⟨v1, vs1, d1, ds1, p1, q1, rfl, rfl, rfl, h1, r1⟩ := trodAll_cons r0
  obtain ⟨v2, vs2, d2, ds2, p2, q2, rfl, rfl, rfl, h2, r2⟩ := trodAll_cons r1
  obtain ⟨v3, vs3, d3, ds3, p3, q3, rfl, rfl, rfl, h3, r3⟩ := trodAll_cons r2
  obtain ⟨v4, vs4, d4, ds4, p4, q4, rfl, rfl, rfl, h4, r4⟩ := trodAll_cons r3
  obtain ⟨rfl, rfl, rfl⟩ := trodAll_nil r4
  obtain rfl : args = #[v0, v1, v2, v3, v4] := by cases args; simp_all
  obtain ⟨rfl, rfl⟩ := trodVars_none hV
  obtain ⟨a0, rfl, rfl, rfl, w0⟩ := open_int Tryd.underlying22 (hval 0 22 v0 rfl rfl) h0
  obtain ⟨a1, rfl, rfl, rfl, w1⟩ := open_int Tryd.underlying22 (hval 1 22 v1 rfl rfl) h1
  obtain ⟨A2, n2, c2, rfl⟩ := okWide_slice Tryd.underlying23 (hval 2 23 v2 rfl rfl)
  have k2 := h2
  have lt2 : ∀ x ∈ p2, x.block < W.heap.size := by obtain ⟨m, hm⟩ := k2; exact DataW.trod_lt m _ _ _ hm
  obtain ⟨b2, w2, u2⟩ := byteArg_of Tryd.underlying23 Tryd.underlying5 (by kernel_rfl) (by kernel_rfl) h2 hsz (j := 2) rfl rfl
  obtain ⟨A3, n3, c3, rfl⟩ := okWide_slice Tryd.underlying23 (hval 3 23 v3 rfl rfl)
  have k3 := h3
  have lt3 : ∀ x ∈ p3, x.block < W.heap.size := by obtain ⟨m, hm⟩ := k3; exact DataW.trod_lt m _ _ _ hm
  obtain ⟨b3, w3, u3⟩ := byteArg_of Tryd.underlying23 Tryd.underlying5 (by kernel_rfl) (by kernel_rfl) h3 hsz (j := 3) rfl rfl
  obtain ⟨a4, rfl, rfl, rfl, w4⟩ := open_int Tryd.underlying3 (hval 4 3 v4 rfl rfl) h4
  clear hA0 hval0 hsz0
  refine (walk a0 a1 A2 n2 c2 b2 A3 n3 c3 b3 a4 W w0 w1 w2 w3 w4 (laid_of hL)).mono fun e W' ⟨he, bel⟩ => ?_
  subst he
  exact ⟨_, rfl, _, _, _, [], _, [], hW', trodAll_mk1 (shut_bool Tryd.underlying4 _), (trodAll_cons_mk (shut_int Tryd.underlying22 w0) (trodAll_cons_mk (shut_int Tryd.underlying22 w1) (trodAll_cons_mk (Below.trod laidOut (by kernel_rfl) (of_decide_eq_true (by kernel_rfl)) k2 bel lt2) (trodAll_cons_mk (Below.trod laidOut (by kernel_rfl) (of_decide_eq_true (by kernel_rfl)) k3 bel lt3) (trodAll_cons_mk (shut_int Tryd.underlying3 w4) trodAll_mk0))))), rfl, bel.frame _, fun h => by cases h⟩

theorem said : Rows.SealTornSaid :=
  OpenClaim.holds_of_cond 6 Tryd.f6 rfl rfl rfl rfl rfl rfl rfl ⟨rfl, rfl, rfl, rfl, rfl⟩ rfl rfl rfl rfl rfl (by kernel_rfl) Tryd.func6 (by kernel_rfl)
    (of_decide_eq_true (by kernel_rfl)) (by unfold Func.isWrapper; first | (rw [if_pos (by decide +kernel)]; kernel_rfl) | (rw [if_neg (by decide +kernel)]; exact ⟨rfl, rfl⟩))
    (fun os started H enc _ F => by rw [OpenClaim.pre_eq_preRow]; exact lifted os started H enc F)
theorem plain (f : FuncId) (fn : Func) (hf : Tryd.pinned.checked.prog.funcNamed "cohort/cohortlaw07.SealTorn" = some f) (hfn : Tryd.pinned.checked.prog.funcs[f]? = some fn) :
    false = Tryd.pinned.checked.prog.looks [] ∧ ∀ (j : Nat) t, fn.params[j]? = some t → Tryd.pinned.checked.prog.wantsStandIn t = false := by
  obtain rfl : f = 6 := Option.some.inj ((show Tryd.prog.funcNamed "cohort/cohortlaw07.SealTorn" = some 6 by kernel_rfl).symm.trans hf) |>.symm
  obtain rfl : fn = Tryd.f6 := (Option.some.inj (Tryd.func6.symm.trans hfn)).symm
  refine ⟨by kernel_rfl, fun j t ht => ?_⟩
  rw [Tryd.params6] at ht
  have hm : t ∈ [22, 22, 23, 23, 3] := by simpa using Array.mem_of_getElem? ht
  have hall : ([22, 22, 23, 23, 3].all fun u => !Tryd.prog.wantsStandIn u) = true := by kernel_rfl
  exact (show Tryd.prog.wantsStandIn t = false by simpa using List.all_eq_true.1 hall t hm)
/-- The card. -/
theorem proved : Rows.SealTornCardSaid :=
  Claim7.holds_tied_plain_at .later [] _ _ _ _ said (fun _ h => by cases h) (by kernel_rfl) (fun _ h => by cases h) sealTorn_row_tie rfl ⟨rfl, rfl⟩ (by kernel_rfl) rfl plain (by kernel_rfl)
end Go.Proofs.YtpdaggkhnmiioaaDoor.sealTorn
