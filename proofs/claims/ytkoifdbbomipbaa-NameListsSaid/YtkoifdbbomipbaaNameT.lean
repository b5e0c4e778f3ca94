
/- name.Sort of whatever list; lists of texts that came in. -/
import Derived.Test.YtkoifdbbomipbaaNameL
import Derived.Test.YtkoifdbbomipbaaStbC
import Derived.Laws.MakeOwn
import Derived.SliceStrings
namespace Go.Proofs.Ytkoifdbbomipbaa.Name
open Go.ChangeShapes Go.WideShapes Go.ChangeAt Go.RowKit
open Mem Arr Lst Ins Srt Mrg

theorem made_vals (z : Value) (n : Nat) : madeCells #[z] n = (vals n (fun _ => z)).toArray := by
  apply Array.ext_getElem?
  intro i
  rcases Nat.lt_or_ge i n with h | h
  · simp [madeCells, vals, h, Nat.mod_one]
  · simp [madeCells, vals, h]
theorem infoInt : (Try.prog.info? 3).map (fun i => (i.zero, i.size, i.bytes)) = some (some (.int .i64 0), 1, 8) := by kernel_rfl
theorem infoStr : (Try.prog.info? 9).map (fun i => (i.zero, i.size, i.bytes)) = some (some (.string emptyT), 1, 16) := by kernel_rfl
theorem infoBool : (Try.prog.info? 4).map (fun i => (i.zero, i.size, i.bytes)) = some (some (.bool false), 1, 1) := by kernel_rfl
theorem mk_of (T E : TypeId) (z : Value) (by_ : Nat) (hz1 : z.cells = #[z]) (hT : Try.prog.underlying T = some (.slice E)) (h : (Try.prog.info? E).map (fun i => (i.zero, i.size, i.bytes)) = some (some z, 1, by_)) (n : Nat) (hn : n ≤ 8796093022208) (hb : by_ ≤ 16) (w : World) :
    (Instr.makeSlice T (.int .i64 n) (.int .i64 n)).run Try.prog w = .ok (.slice (some ⟨w.heap.size, 0, none⟩) n n) (w.alloc (.cells (vals n (fun _ => z)).toArray E)) := by
  obtain ⟨i, hi, h0, h1, h2⟩ := info_parts h
  have hm : i.bytes * n ≤ 16 * n := Nat.mul_le_mul_right n (by omega)
  have := run_make (P := Try.prog) w T E i z hT hi h0 .i64 .i64 n n (by omega) (Int.le_refl _) (by
    have : ((i.bytes * n : Nat) : Int) ≤ 281474976710656 := by omega
    rwa [Int.natCast_mul] at this) (by omega)
  rw [hz1, h1, Nat.mul_one, made_vals] at this
  simpa using this
theorem mkIn (n : Nat) (hn : n ≤ 8796093022208) : ∀ w, (Instr.makeSlice 27 (.int .i64 n) (.int .i64 n)).run Try.prog w = .ok (.slice (some ⟨w.heap.size, 0, none⟩) n n) (w.alloc (.cells (vals n (fun _ => .int .i64 0)).toArray 3)) :=
  mk_of _ _ _ 8 rfl Try.underlying27 infoInt n hn (by omega)
theorem mkSn (n : Nat) (hn : n ≤ 8796093022208) : ∀ w, (Instr.makeSlice 26 (.int .i64 n) (.int .i64 n)).run Try.prog w = .ok (.slice (some ⟨w.heap.size, 0, none⟩) n n) (w.alloc (.cells (vals n (fun _ => .string emptyT)).toArray 9)) :=
  mk_of _ _ _ 16 rfl Try.underlying26 infoStr n hn (by omega)
theorem mkBn (n : Nat) (hn : n ≤ 8796093022208) : ∀ w, (Instr.makeSlice 36 (.int .i64 n) (.int .i64 n)).run Try.prog w = .ok (.slice (some ⟨w.heap.size, 0, none⟩) n n) (w.alloc (.cells (vals n (fun _ => .bool false)).toArray 4)) :=
  mk_of _ _ _ 1 rfl Try.underlying36 infoBool n hn (by omega)

/-- the order of the places of texts -/
def ltS (S : Nat → ByteArray) (x y : Nat) : Prop := cmpV (S x) (S y) < 0 ∨ (cmpV (S x) (S y) = 0 ∧ x < y)
theorem fine_ltS (S : Nat → ByteArray) (n : Nat) : Fine (ltS S) (fun i j => cmpV (S i) (S j)) n :=
  ⟨fun x y _ _ _ h => Or.inl h, fun x y _ _ hxy h => by
    have e := cmpV_swap (S y) (S x)
    unfold ltS
    rcases cmpV_bd (S y) (S x) with b | b | b
    · exact absurd (show cmpV (S y) (S x) < 0 by omega) h
    · exact Or.inr ⟨by omega, hxy⟩
    · exact Or.inl (by omega), fun x y z h1 h2 => by
    unfold ltS at *
    have t := cmpV_trans (a := S x) (b := S y) (c := S z) (by omega) (by omega)
    rcases h1 with h1 | h1
    · exact Or.inl (t.2 h1)
    · rcases h2 with h2 | h2
      · have e1 : cmpV (S y) (S x) ≤ 0 := by have := cmpV_swap (S x) (S y); omega
        left
        rcases cmpV_bd (S x) (S z) with b | b | b
        · omega
        · have := (cmpV_trans (a := S y) (b := S z) (c := S x) (by omega) (by have := cmpV_swap (S x) (S z); omega)).2 h2
          have e0 := cmpV_swap (S x) (S y)
          omega
        · omega
      · rcases cmpV_bd (S x) (S z) with b | b | b
        · exact Or.inl (by omega)
        · exact Or.inr ⟨b, by omega⟩
        · omega⟩
theorem ltS_irrefl {S : Nat → ByteArray} {x : Nat} : ¬ ltS S x x := by
  unfold ltS
  rw [(cmpV_zero (a := S x) (b := S x)).2 rfl]
  omega
/-- the places of all texts, in the order in which they come -/
structure Placed (S : Nat → ByteArray) (n : Nat) (P : Nat → Nat) : Prop where
  so : SortedIn (ltS S) P 0 n
  lt : ∀ i, i < n → P i < n
  on : ∀ j, j < n → ∃ i, i < n ∧ P i = j
theorem Placed.inj {S : Nat → ByteArray} {n : Nat} {P : Nat → Nat} (h : Placed S n P) {i j : Nat} (hi : i < n) (hj : j < n) (e : P i = P j) : i = j := by
  rcases Nat.lt_trichotomy i j with p | p | p
  · have := h.so i j (by omega) p hj; rw [e] at this; exact absurd this ltS_irrefl
  · exact p
  · have := h.so j i (by omega) p hi; rw [e] at this; exact absurd this ltS_irrefl
/-- there is one such order alone -/
theorem Placed.one {S : Nat → ByteArray} {n : Nat} {P Q : Nat → Nat} (h : Placed S n P) (k : Placed S n Q) : ∀ i, i < n → P i = Q i := by
  have key : ∀ m, m ≤ n → ∀ i, i < m → P i = Q i := by
    intro m
    induction m with
    | zero => intro _ i hi; omega
    | succ m ih =>
      intro hm i hi
      by_cases e : i < m
      · exact ih (by omega) i e
      · obtain rfl : i = m := by omega
        obtain ⟨a, ha, ea⟩ := k.on (P i) (h.lt i (by omega))
        obtain ⟨b, hb, eb⟩ := h.on (Q i) (k.lt i (by omega))
        have a1 : i ≤ a := by
          rcases Nat.lt_or_ge a i with p | p
          · have := ih (by omega) a p
            rw [ea] at this
            have := h.inj (by omega) (by omega) this; omega
          · exact p
        have b1 : i ≤ b := by
          rcases Nat.lt_or_ge b i with p | p
          · have := ih (by omega) b p
            rw [eb] at this
            have := k.inj (by omega) (by omega) this; omega
          · exact p
        by_cases ei : a = i
        · rw [← ea, ei]
        · by_cases bi : b = i
          · rw [← eb, bi]
          · have q1 := k.so i a (by omega) (by omega) ha
            have q2 := h.so i b (by omega) (by omega) hb
            rw [ea] at q1
            rw [eb] at q2
            exact absurd ((fine_ltS S n).tr _ _ _ q1 q2) ltS_irrefl
  exact fun i hi => key n (Nat.le_refl _) i hi
set_option maxHeartbeats 2000000 in
theorem sortN_any (A : Option Addr) (n c : Nat) (S : Nat → ByteArray) (w : World) (h : Reads w w.heap.size A n (textV S)) (hn : n ≤ 8796093022208) :
    Calls Try.prog 12 #[.slice A n c] w fun e w' => ∃ vs vp P, e = .returned (.tuple #[vs, vp]) ∧ Own w' w.heap.size 9 vs n (fun i => .string (S (P i))) ∧ Own w' w.heap.size 3 vp n (intsV P) ∧ Below w.heap.size w w' ∧ Placed S n P := by
  have hI := mkIn n hn
  have hS := mkSn n hn
  have H := Lib.hid h
  clear h
  have hp : (w.alloc (.cells #[.slice A n c] 26)).cell? ⟨w.heap.size, 0, none⟩ = some (.slice A n c) := by rw [cell_of_row _ _ _ _ _ _ (heap_alloc_new w _)]; rfl
  have OI : Hid (Own ((w.alloc (.cells #[.slice A n c] 26)).alloc (.cells (vals n (fun _ => .int .i64 0)).toArray 3)) w.heap.size 3 (.slice (some ⟨w.heap.size + 1, 0, none⟩) n n) n (fun i => if i < 0 then intsV (fun i => i) i else .int .i64 0)) := Lib.hid (by
    have := own_made (w.alloc (.cells #[.slice A n c] 26)) w.heap.size 3 n (fun _ => .int .i64 0) (by simp) (by unfold maxLen; omega)
    have e : (w.alloc (.cells #[.slice A n c] 26)).heap.size = w.heap.size + 1 := by simp
    rw [e] at this
    exact Own.congr this (fun i _ => by simp))
  have CI : Hid (Chg (w.heap.size + 1) ((w.alloc (.cells #[.slice A n c] 26)).alloc (.cells (vals n (fun _ => .int .i64 0)).toArray 3)) ((w.alloc (.cells #[.slice A n c] 26)).alloc (.cells (vals n (fun _ => .int .i64 0)).toArray 3))) := Lib.hid (Chg.refl _ _)
  have HP : Hid (((w.alloc (.cells #[.slice A n c] 26)).alloc (.cells (vals n (fun _ => .int .i64 0)).toArray 3)).cell? ⟨w.heap.size, 0, none⟩ = some (.slice A n c)) := Lib.hid (((bcell (bAlloc (Below.refl _ (w.alloc (.cells #[.slice A n c] 26))) (.cells (vals n (fun _ => .int .i64 0)).toArray 3))).1 _ _ (by simp)).trans hp)
  have B0 : Hid (Below w.heap.size w ((w.alloc (.cells #[.slice A n c] 26)).alloc (.cells (vals n (fun _ => .int .i64 0)).toArray 3))) := Lib.hid (bAlloc (bAlloc (Below.refl _ _) _) _)
  obtain ⟨W, hW⟩ : ∃ W, (w.alloc (.cells #[.slice A n c] 26)).alloc (.cells (vals n (fun _ => .int .i64 0)).toArray 3) = W := ⟨_, rfl⟩
  have hWs : Hid (W.heap.size = w.heap.size + 2) := Lib.hid (by rw [← hW]; simp)
  rw [hW] at OI CI HP B0
  have HW := Lib.hid hW
  clear hW
  go_enter Try.func12, Try.ntmps12
  go_wp2
  rw [HW.out]
  go_loopw [14, 5] (fun iv _ wr => ∃ k : Nat, k ≤ n ∧ iv = .int .i64 k ∧ Hid (Own wr w.heap.size 3 (.slice (some ⟨w.heap.size + 1, 0, none⟩) n n) n (fun i => if i < k then intsV (fun i => i) i else .int .i64 0)) ∧ Hid (Chg (w.heap.size + 1) W wr)) (fun i _ _ => n - (intOf i).toNat)
  case atStart => exact ⟨0, by omega, rfl, OI, CI⟩
  case round =>
    obtain ⟨k, hk, rfl, ho, hc⟩ := hrel
    by_cases hlt : k < n
    · have ck : (wr.cell? ⟨w.heap.size + 1, k, none⟩) = some _ := ho.out.cell hlt
      have fk := ho.out.free k
      have HN : Hid (Own (wr.setCell ⟨w.heap.size + 1, k, none⟩ (.int .i64 k)) w.heap.size 3 (.slice (some ⟨w.heap.size + 1, 0, none⟩) n n) n (fun i => if i < k + 1 then intsV (fun i => i) i else .int .i64 0)) := Lib.hid (Own.congr (ho.out.stored (k := k) (.int .i64 k)) (fun i _ => by
        by_cases e : i = k
        · subst e; rw [if_pos rfl, if_pos (by omega)]; rfl
        · rw [if_neg e]
          by_cases e2 : i < k
          · rw [if_pos e2, if_pos (by omega)]
          · rw [if_neg e2, if_neg (by omega)]))
      have CN : Hid (Chg (w.heap.size + 1) W (wr.setCell ⟨w.heap.size + 1, k, none⟩ (.int .i64 k))) := Lib.hid (hc.out.set k _)
      clear ho hc
      go_wp2
      go_roundw
      case rel => exact ⟨k + 1, by omega, by go_num, HN, CN⟩
      case measure => simp [intOf]; omega
    · obtain rfl : k = n := by omega
      have BW : Hid (Below w.heap.size w wr) := Lib.hid (hc.out.below B0.out (by omega))
      have RW : Hid (Reads wr (w.heap.size + 1) A k (textV S)) := Lib.hid (Recs.more (Recs.below H.out BW.out) (by omega))
      have PW : Hid (wr.cell? ⟨w.heap.size, 0, none⟩ = some (.slice A k c)) := Lib.hid ((hc.out.cell (by omega)).trans HP.out)
      have OW : Hid (Own wr w.heap.size 3 (.slice (some ⟨w.heap.size + 1, 0, none⟩) k k) k (intsV (fun i => i))) := Lib.hid (Own.congr ho.out (fun i hi => by rw [if_pos hi]))
      have SW : Hid (wr.heap.size = w.heap.size + 2) := Lib.hid (hc.out.size.trans hWs.out)
      have C := sortStable_any 23 #[.pointer (some ⟨w.heap.size, 0, none⟩)] (fun i j => cmpV (S i) (S j)) k (w.heap.size + 1) k k w.heap.size (ltS S) (fine_ltS S k) (enters_of Try.func23 (by kernel_rfl) rfl) (by omega) wr (fun i => i) (tells_less A k c w.heap.size (w.heap.size + 1) S wr RW.out PW.out (by omega) (by omega)) OW.out (fun i hi => hi) (fun i j h1 h2 => h1)
      have CC := Lib.hid C
      clear C OW ho hc B0 HP CI OI HW
      go_wp2_with fail
      refine CC.out.mono ?_
      clear CC
      rintro e w1 ⟨P, rfl, h1, hs, h2, h4, h3⟩
      have PL : Hid (Placed S k P) := Lib.hid ⟨hs, fun i hi => by
        obtain ⟨j, hj, e⟩ := h2 i hi
        rw [e]; exact hj, fun j hj => by
        obtain ⟨i, hi, e⟩ := h4 j hj
        exact ⟨i, hi, e⟩⟩
      have O1 : Hid (Own w1 w.heap.size 3 (.slice (some ⟨w.heap.size + 1, 0, none⟩) k k) k (intsV (P))) := Lib.hid h1
      have L1 : Hid (∀ i, i < k → P i < k) := Lib.hid PL.out.lt
      have B1 : Hid (Below w.heap.size w w1) := Lib.hid (h3.below BW.out (by omega))
      have p1 : w1.cell? ⟨w.heap.size, 0, none⟩ = some (.slice A k c) := (h3.cell (by omega)).trans PW.out
      have S1 : Hid (w1.heap.size = w.heap.size + 2) := Lib.hid (h3.size.trans SW.out)
      clear h1 h2 h3 h4 hs BW RW PW SW
      have K2 : Below w1.heap.size w1 (w1.alloc (.cells (vals k (fun _ => .string emptyT)).toArray 9)) := bAlloc (Below.refl _ _) _
      have S2 : Hid ((w1.alloc (.cells (vals k (fun _ => .string emptyT)).toArray 9)).heap.size = w.heap.size + 3) := Lib.hid (by rw [World.size_alloc, S1.out])
      have O2 : Hid (Own (w1.alloc (.cells (vals k (fun _ => .string emptyT)).toArray 9)) w.heap.size 3 (.slice (some ⟨w.heap.size + 1, 0, none⟩) k k) k (intsV (P))) := Lib.hid (O1.out.alloc _)
      have P2 : Hid ((w1.alloc (.cells (vals k (fun _ => .string emptyT)).toArray 9)).cell? ⟨w.heap.size, 0, none⟩ = some (.slice A k c)) := Lib.hid (((bcell K2).1 _ _ (by rw [S1.out]; omega)).trans p1)
      have B2 : Hid (Below w.heap.size w (w1.alloc (.cells (vals k (fun _ => .string emptyT)).toArray 9))) := Lib.hid (bAlloc B1.out _)
      have T2 : Hid (Own (w1.alloc (.cells (vals k (fun _ => .string emptyT)).toArray 9)) w.heap.size 9 (.slice (some ⟨w.heap.size + 2, 0, none⟩) k k) k (fun i => if i < 0 then .string (S (P i)) else .string emptyT)) := Lib.hid (by
        have := own_made w1 w.heap.size 9 k (fun _ => .string emptyT) (by rw [S1.out]; omega) (by unfold maxLen; omega)
        rw [S1.out] at this
        exact Own.congr this (fun i _ => by simp))
      have hS2 := fun w2 => hS w2
      have hsl : (Instr.makeSlice 26 (.int .i64 k) (.int .i64 k)).run Try.prog w1 = .ok (.slice (some ⟨w.heap.size + 2, 0, none⟩) k k) (w1.alloc (.cells (vals k (fun _ => .string emptyT)).toArray 9)) := by rw [hS2, S1.out]
      clear hS hS2 hI K2
      obtain ⟨W2, hW2⟩ : ∃ W2, w1.alloc (.cells (vals k (fun _ => .string emptyT)).toArray 9) = W2 := ⟨_, rfl⟩
      rw [hW2] at S2 O2 P2 B2 T2 hsl
      clear hW2
      go_wp2
      go_loopw [30, 7, 8] (fun iv _ _ wr => ∃ i : Nat, i ≤ k ∧ iv = .int .i64 i ∧ Hid (Own wr w.heap.size 9 (.slice (some ⟨w.heap.size + 2, 0, none⟩) k k) k (fun j => if j < i then .string (S (P j)) else .string emptyT)) ∧ Hid (Chg (w.heap.size + 2) W2 wr)) (fun i _ _ _ => k - (intOf i).toNat)
      case atStart => exact ⟨0, by omega, rfl, T2, Lib.hid (Chg.refl _ _)⟩
      case round =>
        obtain ⟨i, hi, rfl, ho, hc⟩ := hrel
        by_cases hlt : i < k
        · have RR : Reads wr w.heap.size A k (textV S) := Recs.below H.out (hc.out.below B2.out (by omega))
          obtain ⟨b, off, rfl, _⟩ := reads_form RR (by omega)
          have c0 : wr.cell? ⟨w.heap.size + 1, i, none⟩ = some (.int .i64 (P i : Nat)) := (own_chg O2.out hc.out (by omega)).cell hlt
          have c1 : wr.cell? ⟨w.heap.size, 0, none⟩ = some (.slice (some ⟨b, off, none⟩) k c) := (hc.out.cell (by omega)).trans P2.out
          have ho2 := L1.out i hlt
          obtain ⟨q, hq⟩ : ∃ q, P i = q := ⟨_, rfl⟩
          rw [hq] at c0 ho2
          have c2 : wr.cell? ⟨b, off + q, none⟩ = some (.string (S q)) := reads_cell RR ho2
          have c3 : wr.cell? ⟨w.heap.size + 2, i, none⟩ = some _ := ho.out.cell hlt
          have f3 := ho.out.free i
          have HN : Hid (Own (wr.setCell ⟨w.heap.size + 2, i, none⟩ (.string (S q))) w.heap.size 9 (.slice (some ⟨w.heap.size + 2, 0, none⟩) k k) k (fun j => if j < i + 1 then .string (S (P j)) else .string emptyT)) := Lib.hid (Own.congr (ho.out.stored (k := i) (.string (S q))) (fun j _ => by
            by_cases e : j = i
            · subst e; rw [if_pos rfl, if_pos (by omega), hq]
            · rw [if_neg e]
              by_cases e2 : j < i
              · rw [if_pos e2, if_pos (by omega)]
              · rw [if_neg e2, if_neg (by omega)]))
          have CN : Hid (Chg (w.heap.size + 2) W2 (wr.setCell ⟨w.heap.size + 2, i, none⟩ (.string (S q)))) := Lib.hid (hc.out.set i _)
          clear ho hc hq RR
          go_wp2
          go_roundw
          case rel => exact ⟨i + 1, by omega, by go_num, HN, CN⟩
          case measure => simp [intOf]; omega
        · obtain rfl : i = k := by omega
          go_wp2
          go_ret2
          exact ⟨_, _, P, rfl, Own.congr ho.out (fun j hj => by rw [if_pos hj]), own_chg O2.out hc.out (by omega), hc.out.below B2.out (by omega), PL.out⟩

/-- what a walk is told of a list of texts that came in -/
structure TextArg (w : World) (A : Option Addr) (n c : Nat) (S : Nat → ByteArray) : Prop where
  rd : Reads w w.heap.size A n (textV S)
  nil_ : A = none → c = 0
  le : n ≤ c
  reach : c ≤ 8796093022208
  sz : ∀ i, i < n → (S i).size ≤ 9223372036854775807
theorem texts_arg {H : Type} {enc : TypeId × Value → H} {P : Program} {w : World} {T E : TypeId} (hT : P.underlying T = some (.slice E)) (hE : P.underlying E = some .string) (hC : P.cellsOf E = 1) (hbE : P.bytesOf E = 16)
    {ts : List TypeId} {ds : List (DataW H)} {j : Nat} {A : Option Addr} {n c : Nat} {d : DataW H} {p : List MemPlace} (hs : (DataW.weightsEach P ts ds).all (· ≤ reachBytes) = true) (ht : ts[j]? = some T) (hd : ds[j]? = some d)
    (h : DataW.Trod enc P w 0 (fun _ => true) true T (.slice A n c) d p) : ∃ S, TextArg w A n c S := by
  obtain ⟨fuel, hf⟩ := h
  rcases open_strings hT hE hC hf with ⟨hcs, hx⟩ | ⟨x, l, c', ss, hcs, _, hl, hm, hz, hx, hcell, hsz⟩
  · simp [Value.cells] at hcs
    obtain ⟨rfl, rfl, rfl⟩ := hcs
    exact ⟨fun _ => emptyT, ⟨⟨fun _ => rfl, fun h0 => absurd h0 (by omega)⟩, fun _ => rfl, Nat.le_refl _, by omega, fun i hi => absurd hi (by omega)⟩⟩
  · simp [Value.cells] at hcs
    obtain ⟨rfl, rfl, rfl⟩ := hcs
    injection hx with hx1 hx2
    subst hx1
    have hz' : ss.length = c := by simpa using hz
    have hr := sized_slice hs ht hd hT
    rw [hbE] at hr
    simp only [strs, List.length_map, List.length_take, List.length_drop, reachBytes] at hr
    refine ⟨fun i => ss.getD i ByteArray.empty, ⟨⟨fun e => (by cases e), fun h0 => ?_⟩, fun e => (by cases e), hl, by omega, fun i hi => ?_⟩⟩
    have h1 := hcell 0 (by omega)
    obtain ⟨b, off, spot⟩ := x
    have hspot : spot = none := by simpa [Addr.add] using World.cell?_spot h1
    subst hspot
    refine ⟨b, off, rfl, ?_, fun i q hi hq => ?_⟩
    · rcases Nat.lt_or_ge b w.heap.size with hlt | hge
      · exact hlt
      · rw [add_form] at h1; simp [World.cell?, Array.getElem?_eq_none hge] at h1
    · obtain rfl : q = 0 := by omega
      have := hcell i (by omega)
      rw [add_form] at this
      rw [Nat.mul_one, Nat.add_zero, this]; rfl
    · have hil : i < ss.length := by omega
      have e : ss.getD i ByteArray.empty = ss[i] := by simp [List.getD, List.getElem?_eq_getElem hil]
      show (ss.getD i ByteArray.empty).size ≤ _
      rw [e]
      have := hsz _ (List.getElem_mem hil)
      unfold maxLen at this; omega
end Go.Proofs.Ytkoifdbbomipbaa.Name
