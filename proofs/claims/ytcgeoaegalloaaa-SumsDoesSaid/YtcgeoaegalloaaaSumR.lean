
/- What the document says is there of things (cohortref17.Of). -/
import Derived.Test.YtcgeoaegalloaaaSumL
import Derived.Test.YtcgeoaegalloaaaSumO
namespace Go.Proofs.Ytcgeoaegalloaaa.Thg
open Go.ChangeShapes Go.WideShapes Go.ChangeAt Go.RowKit
open Mem Arr Lst Rec Inst Grown Sums Opens St0
theorem inSm_list (v : Int) : ∀ (l : List Th) (n : Nat) (s : Sm), InSm n s → (∀ t ∈ l, 1 ≤ t.wt ∧ t.wt ≤ 100) → InSm ((n + l.length : Nat) : Int) (l.foldl (addT v) s) := by
  intro l
  induction l with
  | nil => intro n s h _; exact h
  | cons x l ih =>
    intro n s h hl
    have := ih (n + 1) (addT v s x) (by have := inSm_step v h (hl x List.mem_cons_self); simpa using this) (fun t ht => hl t (List.mem_cons_of_mem _ ht))
    rw [List.foldl_cons, List.length_cons]
    rw [show n + (l.length + 1) = n + 1 + l.length by omega]
    exact this
theorem inSm_sum (v : Int) (l : List Th) (hl : ∀ t ∈ l, 1 ≤ t.wt ∧ t.wt ≤ 100) : InSm l.length (sumT v l) := by
  have := inSm_list v l 0 sm0 ⟨by decide, by decide, by decide, by decide, by decide, by decide⟩ hl
  rw [Nat.zero_add] at this
  exact this
theorem insL_ok {L : Nat → Ins} {n k : Nat} (hm : mayB L n = true) (hk : k ≤ n) : ∀ t ∈ insL L k, 1 ≤ t.wt ∧ t.wt ≤ 100 := by
  intro t ht
  unfold insL at ht
  rw [List.mem_map] at ht
  obtain ⟨i, hi, rfl⟩ := ht
  have y := ok_yes (may_ok hm (show i < n by have := List.mem_range.1 hi; omega))
  exact ⟨y.2.2.2.2.2.1, y.2.2.2.2.2.2.1⟩
theorem lauL_ok {O : Nat → Opn} {m : Nat} : ∀ t ∈ (lau O m).map thO, 1 ≤ t.wt ∧ t.wt ≤ 100 := by
  intro t ht
  rw [List.mem_map] at ht
  obtain ⟨x, hx, rfl⟩ := ht
  have := of_decide_eq_true (lau_ok m x hx)
  exact ⟨this.2.1, this.2.2⟩
/-- what is known of a world in the midst of a round -/
structure St3 (w wr : World) (s : Sm) (x : Ins) (V : World) : Prop where
  r6 : V.heap[w.heap.size]? = some (.cells sm0.cells 31 (0, 0))
  r7 : V.heap[w.heap.size + 1]? = some (.cells s.cells 31 (0, 0))
  rx : V.heap[wr.heap.size]? = some (.cells x.cells 36 (0, 0))
  b : Below w.heap.size w V
  sz : w.heap.size + 2 ≤ wr.heap.size
section
variable {w wr V V' : World} {s s' : Sm} {x : Ins}
theorem lt_of {W : World} {g : Nat} {o : Obj} (h : W.heap[g]? = some o) : g < W.heap.size := (Array.getElem?_eq_some_iff.1 h).1
theorem St3.call (h : St3 w wr s x V) (b : Below V.heap.size V V') : St3 w wr s x V' :=
  ⟨(b.block _ (lt_of h.r6)).trans h.r6, (b.block _ (lt_of h.r7)).trans h.r7, (b.block _ (lt_of h.rx)).trans h.rx, bTrans h.b b, h.sz⟩
theorem St3.set (h : St3 w wr s x V) (k : Nat) (v : Value) (he : s.cells.setIfInBounds k v = s'.cells) : St3 w wr s' x (V.setCell ⟨w.heap.size + 1, k, none⟩ v) :=
  ⟨(set_else (by omega)).trans h.r6, by rw [setCell_row h.r7, he]; exact row_at h.r7, (set_else (by have := h.sz; omega)).trans h.rx, bSet h.b (p := ⟨w.heap.size + 1, k, none⟩) (Nat.le_succ _) v, h.sz⟩
theorem St3.cx (h : St3 w wr s x V) {k : Nat} {v : Value} (hk : x.cells[k]? = some v) : V.cell? ⟨wr.heap.size, k, none⟩ = some v := cell_row h.rx hk
theorem St3.cs (h : St3 w wr s x V) {k : Nat} {v : Value} (hk : s.cells[k]? = some v) : V.cell? ⟨w.heap.size + 1, k, none⟩ = some v := cell_row h.r7 hk
theorem St3.free (h : St3 w wr s x V) : ∀ k, V.frozen? ⟨w.heap.size + 1, k, none⟩ = false := free_row h.r7
end
structure St4 (w : World) (B : Nat) (s : Sm) (A : Option Addr) (q c : Nat) (F : Nat → Opn) (V : World) : Prop where
  r6 : V.heap[w.heap.size]? = some (.cells sm0.cells 31 (0, 0))
  r7 : V.heap[w.heap.size + 1]? = some (.cells s.cells 31 (0, 0))
  b : Below w.heap.size w V
  sz : w.heap.size + 2 ≤ B
  own : Row.Own V B 49 9 (.slice A q c) q (opnV F)
section
variable {w V : World} {s s' : Sm} {B q c : Nat} {A : Option Addr} {F : Nat → Opn}
theorem St4.set (h : St4 w B s A q c F V) (k : Nat) (v : Value) (he : s.cells.setIfInBounds k v = s'.cells) : St4 w B s' A q c F (V.setCell ⟨w.heap.size + 1, k, none⟩ v) :=
  ⟨(set_else (by omega)).trans h.r6, by rw [setCell_row h.r7, he]; exact row_at h.r7, bSet h.b (p := ⟨w.heap.size + 1, k, none⟩) (Nat.le_succ _) v, h.sz, by rw [setCell_row h.r7]; exact own_row h.own (by have := h.sz; omega) _⟩
theorem St4.drew (h : St4 w B s A q c F V) : St4 w B s A q c F V.drew := ⟨h.r6, h.r7, bDrew h.b, h.sz, h.own⟩
theorem St4.cs (h : St4 w B s A q c F V) {k : Nat} {v : Value} (hk : s.cells[k]? = some v) : V.cell? ⟨w.heap.size + 1, k, none⟩ = some v := cell_row h.r7 hk
theorem St4.free (h : St4 w B s A q c F V) : ∀ k, V.frozen? ⟨w.heap.size + 1, k, none⟩ = false := free_row h.r7
theorem St4.co {g : Nat} (h : St4 w B s (some ⟨g, 0, none⟩) q c F V) {k j : Nat} {v : Value} (hk : k < q) (hj : j < 9) (hv : (F k).cells[j]? = some v) : V.cell? ⟨g, k * 9 + j, none⟩ = some v := by
  rw [Row.Own.cell h.own hk hj]; unfold opnV; rw [hv]; rfl
end
theorem take_on {O : Nat → Opn} {m k : Nat} (hk : k < (lau O m).length) : (lau O m).take (k + 1) = (lau O m).take k ++ [lauF O m k] := by
  unfold lauF
  rw [List.getElem?_eq_getElem hk, List.take_succ_eq_append_getElem hk]; rfl
theorem lauF_ok {O : Nat → Opn} {m k : Nat} (hk : k < (lau O m).length) : 1 ≤ (lauF O m k).wt ∧ (lauF O m k).wt ≤ 100 := by
  have h : lauF O m k ∈ lau O m := by unfold lauF; rw [List.getElem?_eq_getElem hk]; exact List.getElem_mem hk
  have := of_decide_eq_true (lau_ok m _ h)
  exact ⟨this.2.1, this.2.2⟩
theorem take_ok {O : Nat → Opn} {m k : Nat} : ∀ t ∈ ((lau O m).take k).map thO, 1 ≤ t.wt ∧ t.wt ≤ 100 := by
  intro t ht
  rw [List.mem_map] at ht
  obtain ⟨x, hx, rfl⟩ := ht
  have := of_decide_eq_true (lau_ok m x (List.mem_of_mem_take hx))
  exact ⟨this.2.1, this.2.2⟩
theorem refMayL_is (A : Option Addr) (n c : Nat) (L : Nat → Ins) (v : Bool) (hv : mayB L n = v) (w : World) (h : Insts w w.heap.size A n L) (hn : n ≤ 9223372036854775807) :
    Calls Try.prog 11 #[.slice A n c] w fun e w' => e = .returned (.bool v) ∧ Below w.heap.size w w' := by
  have := refMayL_any A n c L w h hn; rw [hv] at this; exact this
theorem load_inP {ops : Array Oper} {rest : List Oper} {o : Oper} {a : Act} {w : World} {Q : Exit → Act → World → Prop} (hgd : o.guard = none) (x : Operand) (ho : o.op = .load 36 x)
    (g k : Nat) (hx : a.eval x = .pointer (some ⟨g, k, none⟩)) (c : Inst.Ins) (hc : w.heap[g]? = some (.cells c.cells 36 (0, 0))) (hk : k = 0)
    (h : wpList Try.prog ops Q rest (a.put o.dst c.val) w) : wpList Try.prog ops Q (o :: rest) a w :=
  load_ins hgd x ho g k hx c (by subst hk; exact range_row hc) h
theorem refServes_is (x : Ins) (v : Bool) (hv : Hid (servesB x = v)) (w : World) : Calls Try.prog 27 #[x.val] w fun e w' => e = .returned (.bool v) ∧ Below w.heap.size w w' := by
  have := refServes_any x w; rw [hv.out] at this; exact this
theorem refComes_is (x : Ins) (v : Bool) (hv : Hid (comesB x = v)) (w : World) : Calls Try.prog 28 #[x.val] w fun e w' => e = .returned (.bool v) ∧ Below w.heap.size w w' := by
  have := refComes_any x w; rw [hv.out] at this; exact this

set_option maxHeartbeats 8000000 in
set_option maxRecDepth 100000 in
theorem refOf_any (A : Option Addr) (n c : Nat) (L : Nat → Ins) (C : Option Addr) (m d : Nat) (O : Nat → Opn) (v : Int) (w : World) (h : Insts w w.heap.size A n L) (hO : Opns w w.heap.size C m O) (hn : n ≤ 9223372036854775807) (hmax : m ≤ 9223372036854775807) :
    Calls Try.prog 13 #[.slice A n c, .slice C m d, .int .u32 v] w fun e w' => e = .returned (ofS v L n O m).val ∧ Below w.heap.size w w' := by
  have bb := fun p : Grown ((w.alloc (.cells sm0.cells 31)).alloc (.cells sm0.cells 31)) => bTrans (bAlloc (bAlloc (Below.refl _ w) (.cells sm0.cells 31)) (.cells sm0.cells 31)) p.below
  have h' := fun p : Grown ((w.alloc (.cells sm0.cells 31)).alloc (.cells sm0.cells 31)) => (show Insts p.w1 p.w1.heap.size A n L from Recs.later h (bb p))
  have r6 := fun p : Grown ((w.alloc (.cells sm0.cells 31)).alloc (.cells sm0.cells 31)) => (show p.w1.heap[w.heap.size]? = some (.cells sm0.cells 31 (0, 0)) from (p.below.block _ (by simp; omega)).trans (heap_under (heap_alloc_new w _)))
  have r7 := fun p : Grown ((w.alloc (.cells sm0.cells 31)).alloc (.cells sm0.cells 31)) => (show p.w1.heap[w.heap.size + 1]? = some (.cells sm0.cells 31 (0, 0)) from (p.below.block _ (by simp)).trans (by have := heap_alloc_new (w.alloc (.cells sm0.cells 31)) (.cells sm0.cells 31); simpa using this))
  have BB := Lib.hid bb
  have HO := Lib.hid hO
  have HI := Lib.hid h
  clear hO h bb
  rcases hm : mayB L n with _ | _
  · have M := Lib.hid (fun p : Grown ((w.alloc (.cells sm0.cells 31)).alloc (.cells sm0.cells 31)) => refMayL_is A n c L false hm p.w1 (h' p) hn)
    have HV : Hid (ofS v L n O m = sm0) := Lib.hid (by unfold ofS; rw [hm]; rfl)
    clear hm h'
    go_enter Try.func13, Try.ntmps13
    go_wp2_with fail
    refine (call_grown (p := (⟨_, Below.refl _ _⟩ : Grown ((w.alloc (.cells sm0.cells 31)).alloc (.cells sm0.cells 31)))) (M.out _)).mono ?_
    rintro _ _ ⟨rfl, p, rfl⟩
    have q6 := r6 p
    have R7 := range_row (r7 p)
    go_wp2_with (first | ((with_reducible refine at_load' 31 ?_); (refine wpList_load_mid rfl 31 _ rfl (w.heap.size + 1) 0 rfl sm0.cells.toList _ R7 Try.underlying31 rfl (sizeSum.trans rfl) ?_)) | ((with_reducible refine at_store 31 ?_); (refine store_whole rfl 31 _ _ rfl w.heap.size sm0.cells sm0.cells _ rfl rfl q6 (sizeSum.trans rfl) rfl sm0.one ?_)))
    refine bodyPost_ret (v := sm0.val) (results_cell_row rfl _ _ w.heap.size _ sm0.cells _ _ rfl (row_at q6) Try.underlying31 rfl (sizeSum.trans rfl)) rfl ?_
    exact ⟨by rw [HV.out], below_row _ (BB.out p) (Nat.le_refl _)⟩
  · have M := Lib.hid (fun p : Grown ((w.alloc (.cells sm0.cells 31)).alloc (.cells sm0.cells 31)) => refMayL_is A n c L true hm p.w1 (h' p) hn)
    have HV : Hid (ofS v L n O m = sumT v (thsL L n O m)) := Lib.hid (by unfold ofS; rw [hm]; rfl)
    have hn4 := may_len hm
    have HM := Lib.hid hm
    clear h' hm
    go_enter Try.func13, Try.ntmps13
    go_wp2_with fail
    refine (call_grown (p := (⟨_, Below.refl _ _⟩ : Grown ((w.alloc (.cells sm0.cells 31)).alloc (.cells sm0.cells 31)))) (M.out _)).mono ?_
    rintro _ _ ⟨rfl, p, rfl⟩
    have q6 := r6 p
    have q7 := r7 p
    have hsz : w.heap.size + 2 ≤ p.w1.heap.size := by have := p.below.size; simp at this; omega
    have BP := BB.out p
    clear r6 r7 M BB
    go_wp2_with fail
    go_loopw [8] (fun i wr => ∃ k : Nat, k ≤ n ∧ i = .int .i64 k ∧ wr.heap[w.heap.size]? = some (.cells sm0.cells 31 (0, 0)) ∧ wr.heap[w.heap.size + 1]? = some (.cells (sumT v (insL L k)).cells 31 (0, 0)) ∧ w.heap.size + 2 ≤ wr.heap.size ∧ Below w.heap.size w wr) (fun i _ => n - (intOf i).toNat)
    case atStart => exact ⟨0, by omega, rfl, q6, q7, hsz, BP⟩
    case round =>
      obtain ⟨k, hk, rfl, i6, i7, hsz2, hb⟩ := hrel
      by_cases hlt : k < n
      · obtain ⟨b, off, rfl⟩ := insts_at HI.out (by omega)
        obtain ⟨hbl, R, c0⟩ := ins_cells HI.out hb rfl hlt
        have y := ok_yes (may_ok HM.out hlt)
        have bd := inSm_sum v (insL L k) (insL_ok HM.out hk)
        rw [insL_len] at bd
        have hadd0 : sumT v (insL L (k + 1)) = addT v (sumT v (insL L k)) (thI (L k)) := by rw [insL_succ, sumT_snoc]
        obtain ⟨s, hs⟩ : ∃ s, sumT v (insL L k) = s := ⟨_, rfl⟩
        rw [hs] at i7 bd hadd0
        obtain ⟨b1, b2, b3, b4, b5, b6⟩ := bd
        have Z0 : St3 w wr s (L k) (wr.alloc (.cells (L k).cells 36)) := ⟨heap_under i6, heap_under i7, heap_alloc_new _ _, bAlloc hb _, hsz2⟩
        have FIN : Hid (∀ W' s', St3 w wr s' (L k) W' → addT v s (thI (L k)) = s' → W'.heap[w.heap.size]? = some (.cells sm0.cells 31 (0, 0)) ∧ W'.heap[w.heap.size + 1]? = some (.cells (sumT v (insL L (k + 1))).cells 31 (0, 0)) ∧ w.heap.size + 2 ≤ W'.heap.size ∧ Below w.heap.size w W') := Lib.hid (fun W' s' hT he =>
          ⟨hT.r6, by rw [hadd0, he]; exact hT.r7, by have := lt_of hT.rx; omega, hT.b⟩)
        have dm : 0 ≤ dem (thI (L k)) ∧ dem (thI (L k)) ≤ (L k).wt := dem_bd ⟨y.2.2.2.2.2.1, y.2.2.2.2.2.2.1⟩
        have w5 : IntKind.i64.wrap (s.many + 1) = s.many + 1 := IntWalk.i64_in _ (by omega)
        have w0 : IntKind.i64.wrap (s.live + (L k).wt) = s.live + (L k).wt := IntWalk.i64_in _ (by omega)
        have w1 : IntKind.i64.wrap (s.liveD + dem (thI (L k))) = s.liveD + dem (thI (L k)) := IntWalk.i64_in _ (by omega)
        have w2 : IntKind.i64.wrap (s.com + (L k).wt) = s.com + (L k).wt := IntWalk.i64_in _ (by omega)
        have w3 : IntKind.i64.wrap (s.comD + dem (thI (L k))) = s.comD + dem (thI (L k)) := IntWalk.i64_in _ (by omega)
        have w4 : IntKind.i64.wrap (s.warm + (L k).wt) = s.warm + (L k).wt := IntWalk.i64_in _ (by omega)
        have z11 := Z0.cx (L k).f11
        have z3 := Z0.cx (L k).f3
        have z4 := Z0.cx (L k).f4
        have zm := Z0.cs (k := 5) (v := .int .i64 s.many) (by rfl)
        have zf := Z0.free
        have Z1 := Z0.set (s' := { s with many := s.many + 1 }) 5 (.int .i64 (s.many + 1)) (by rfl)
        have y3 := Z1.cx (L k).f3
        have y4 := Z1.cx (L k).f4
        have RX := Z1.rx
        have HZ := Lib.hid (And.intro Z0 Z1)
        clear Z0 Z1 hb i6 i7 hadd0 b1 b2 b3 b4 b5 b6 y hs dm
        by_cases hv : v = 0
        · subst hv
          have v1 : ((0 : Int) != 0) = false := rfl
          rcases hsp : (L k).spot with _ | _
          · have hd : dem (thI (L k)) = (L k).wt := by unfold dem; rw [show (thI (L k)).spot = false from hsp]; rfl
            rw [hd] at w1 w3
            rw [hsp] at z4 y4
            by_cases q3 : (L k).st = 3
            · have d7 : ((L k).st == 7) = false := by simp [q3]
              have d8 : ((L k).st == 8) = false := by simp [q3]
              have S1 := Lib.hid (refServes_is (L k) true (Lib.hid (decide_eq_true (by omega))))
              have S2 := Lib.hid (refComes_is (L k) false (Lib.hid (decide_eq_false (by omega))))
              go_wp2_with (first | ((with_reducible refine at_load' 36 ?_); (first | (refine load_ins rfl _ rfl _ _ rfl (L k) R ?_) | (refine load_inP rfl _ rfl _ _ rfl (L k) RX rfl ?_) | (refine load_inP rfl _ rfl _ _ rfl (L k) RY rfl ?_))) | ((with_reducible refine at_store 36 ?_); (refine store_inp rfl _ _ rfl (L k) _ _ rfl rfl rfl ?_)))
              refine (S1.out _).mono ?_
              rintro _ u1 ⟨rfl, bu⟩
              have Z2 := HZ.out.2.call bu
              clear bu
              have x0 := Z2.cs (k := 0) (v := .int .i64 s.live) (by rfl)
              have x1 := Z2.cs (k := 1) (v := .int .i64 s.liveD) (by rfl)
              have x3 := Z2.cx (L k).f3
              have xf := Z2.free
              have Z3 := (Z2.set (s' := { s with many := s.many + 1, live := s.live + (L k).wt }) 0 (.int .i64 (s.live + (L k).wt)) (by rfl)).set (s' := { s with many := s.many + 1, live := s.live + (L k).wt, liveD := s.liveD + (L k).wt }) 1 (.int .i64 (s.liveD + (L k).wt)) (by rfl)
              have RY := Z3.rx
              replace Z3 := Lib.hid Z3
              clear Z2
              go_wp2_with (first | ((with_reducible refine at_load' 36 ?_); (first | (refine load_ins rfl _ rfl _ _ rfl (L k) R ?_) | (refine load_inP rfl _ rfl _ _ rfl (L k) RX rfl ?_) | (refine load_inP rfl _ rfl _ _ rfl (L k) RY rfl ?_))) | ((with_reducible refine at_store 36 ?_); (refine store_inp rfl _ _ rfl (L k) _ _ rfl rfl rfl ?_)))
              refine (S2.out _).mono ?_
              rintro _ u2 ⟨rfl, bu⟩
              have Z4 := Z3.out.call bu
              clear bu
              have x5 := Z4.cx (L k).f5
              replace Z4 := Lib.hid Z4
              go_wp2
              go_roundw
              case rel => exact ⟨k + 1, by omega, by go_num, FIN.out _ { s with many := s.many + 1, live := s.live + (L k).wt, liveD := s.liveD + (L k).wt } Z4.out (by unfold addT; rw [if_neg (show ¬ ((0 : Int) ≠ 0 ∧ (thI (L k)).ver ≠ 0) from fun e => e.1 rfl)]; rw [show (thI (L k)).serves = true from decide_eq_true (by omega), hd]; rfl)⟩
              case measure => simp [intOf]; omega
            · by_cases qc : (L k).st = 1 ∨ (L k).st = 2 ∨ (L k).st = 9
              · have d7 : ((L k).st == 7) = false := by simp; omega
                have d8 : ((L k).st == 8) = false := by simp; omega
                have S1 := Lib.hid (refServes_is (L k) false (Lib.hid (decide_eq_false (by omega))))
                have S2 := Lib.hid (refComes_is (L k) true (Lib.hid (decide_eq_true (by omega))))
                go_wp2_with (first | ((with_reducible refine at_load' 36 ?_); (first | (refine load_ins rfl _ rfl _ _ rfl (L k) R ?_) | (refine load_inP rfl _ rfl _ _ rfl (L k) RX rfl ?_) | (refine load_inP rfl _ rfl _ _ rfl (L k) RY rfl ?_))) | ((with_reducible refine at_store 36 ?_); (refine store_inp rfl _ _ rfl (L k) _ _ rfl rfl rfl ?_)))
                refine (S1.out _).mono ?_
                rintro _ u1 ⟨rfl, bu⟩
                have Z2 := HZ.out.2.call bu
                clear bu
                have Z3 := Z2
                have RY := Z3.rx
                replace Z3 := Lib.hid Z3
                clear Z2
                go_wp2_with (first | ((with_reducible refine at_load' 36 ?_); (first | (refine load_ins rfl _ rfl _ _ rfl (L k) R ?_) | (refine load_inP rfl _ rfl _ _ rfl (L k) RX rfl ?_) | (refine load_inP rfl _ rfl _ _ rfl (L k) RY rfl ?_))) | ((with_reducible refine at_store 36 ?_); (refine store_inp rfl _ _ rfl (L k) _ _ rfl rfl rfl ?_)))
                refine (S2.out _).mono ?_
                rintro _ u2 ⟨rfl, bu⟩
                have Z4 := Z3.out.call bu
                clear bu
                have x0 := Z4.cs (k := 2) (v := .int .i64 s.com) (by rfl)
                have x1 := Z4.cs (k := 3) (v := .int .i64 s.comD) (by rfl)
                have x3 := Z4.cx (L k).f3
                have xf := Z4.free
                have Z5 := (Z4.set (s' := { s with many := s.many + 1, com := s.com + (L k).wt }) 2 (.int .i64 (s.com + (L k).wt)) (by rfl)).set (s' := { s with many := s.many + 1, com := s.com + (L k).wt, comD := s.comD + (L k).wt }) 3 (.int .i64 (s.comD + (L k).wt)) (by rfl)
                have x5 := Z5.cx (L k).f5
                replace Z5 := Lib.hid Z5
                clear Z4
                go_wp2
                go_roundw
                case rel => exact ⟨k + 1, by omega, by go_num, FIN.out _ { s with many := s.many + 1, com := s.com + (L k).wt, comD := s.comD + (L k).wt } Z5.out (by unfold addT; rw [if_neg (show ¬ ((0 : Int) ≠ 0 ∧ (thI (L k)).ver ≠ 0) from fun e => e.1 rfl)]; rw [show (thI (L k)).serves = false from decide_eq_false (by omega), show (thI (L k)).comes = true from decide_eq_true (by omega), hd]; rfl)⟩
                case measure => simp [intOf]; omega
              · by_cases q7 : (L k).st = 7
                · have d7 : ((L k).st == 7) = true := by simp [q7]
                  have S1 := Lib.hid (refServes_is (L k) false (Lib.hid (decide_eq_false (by omega))))
                  have S2 := Lib.hid (refComes_is (L k) false (Lib.hid (decide_eq_false (by omega))))
                  go_wp2_with (first | ((with_reducible refine at_load' 36 ?_); (first | (refine load_ins rfl _ rfl _ _ rfl (L k) R ?_) | (refine load_inP rfl _ rfl _ _ rfl (L k) RX rfl ?_) | (refine load_inP rfl _ rfl _ _ rfl (L k) RY rfl ?_))) | ((with_reducible refine at_store 36 ?_); (refine store_inp rfl _ _ rfl (L k) _ _ rfl rfl rfl ?_)))
                  refine (S1.out _).mono ?_
                  rintro _ u1 ⟨rfl, bu⟩
                  have Z2 := HZ.out.2.call bu
                  clear bu
                  have Z3 := Z2
                  have RY := Z3.rx
                  replace Z3 := Lib.hid Z3
                  clear Z2
                  go_wp2_with (first | ((with_reducible refine at_load' 36 ?_); (first | (refine load_ins rfl _ rfl _ _ rfl (L k) R ?_) | (refine load_inP rfl _ rfl _ _ rfl (L k) RX rfl ?_) | (refine load_inP rfl _ rfl _ _ rfl (L k) RY rfl ?_))) | ((with_reducible refine at_store 36 ?_); (refine store_inp rfl _ _ rfl (L k) _ _ rfl rfl rfl ?_)))
                  refine (S2.out _).mono ?_
                  rintro _ u2 ⟨rfl, bu⟩
                  have Z4 := Z3.out.call bu
                  clear bu
                  have x0 := Z4.cs (k := 4) (v := .int .i64 s.warm) (by rfl)
                  have x3 := Z4.cx (L k).f3
                  have x5 := Z4.cx (L k).f5
                  have xf := Z4.free
                  have Z5 := Z4.set (s' := { s with many := s.many + 1, warm := s.warm + (L k).wt }) 4 (.int .i64 (s.warm + (L k).wt)) (by rfl)
                  replace Z5 := Lib.hid Z5
                  clear Z4
                  go_wp2
                  go_roundw
                  case rel => exact ⟨k + 1, by omega, by go_num, FIN.out _ { s with many := s.many + 1, warm := s.warm + (L k).wt } Z5.out (by unfold addT; rw [if_neg (show ¬ ((0 : Int) ≠ 0 ∧ (thI (L k)).ver ≠ 0) from fun e => e.1 rfl)]; rw [show (thI (L k)).serves = false from decide_eq_false (by omega), show (thI (L k)).comes = false from decide_eq_false (by omega), show (thI (L k)).stands = true from decide_eq_true (by omega)]; rfl)⟩
                  case measure => simp [intOf]; omega
                · have d7 : ((L k).st == 7) = false := by simp [q7]
                  by_cases q8 : (L k).st = 8
                  · have d8 : ((L k).st == 8) = true := by simp [q8]
                    have S1 := Lib.hid (refServes_is (L k) false (Lib.hid (decide_eq_false (by omega))))
                    have S2 := Lib.hid (refComes_is (L k) false (Lib.hid (decide_eq_false (by omega))))
                    go_wp2_with (first | ((with_reducible refine at_load' 36 ?_); (first | (refine load_ins rfl _ rfl _ _ rfl (L k) R ?_) | (refine load_inP rfl _ rfl _ _ rfl (L k) RX rfl ?_) | (refine load_inP rfl _ rfl _ _ rfl (L k) RY rfl ?_))) | ((with_reducible refine at_store 36 ?_); (refine store_inp rfl _ _ rfl (L k) _ _ rfl rfl rfl ?_)))
                    refine (S1.out _).mono ?_
                    rintro _ u1 ⟨rfl, bu⟩
                    have Z2 := HZ.out.2.call bu
                    clear bu
                    have Z3 := Z2
                    have RY := Z3.rx
                    replace Z3 := Lib.hid Z3
                    clear Z2
                    go_wp2_with (first | ((with_reducible refine at_load' 36 ?_); (first | (refine load_ins rfl _ rfl _ _ rfl (L k) R ?_) | (refine load_inP rfl _ rfl _ _ rfl (L k) RX rfl ?_) | (refine load_inP rfl _ rfl _ _ rfl (L k) RY rfl ?_))) | ((with_reducible refine at_store 36 ?_); (refine store_inp rfl _ _ rfl (L k) _ _ rfl rfl rfl ?_)))
                    refine (S2.out _).mono ?_
                    rintro _ u2 ⟨rfl, bu⟩
                    have Z4 := Z3.out.call bu
                    clear bu
                    have x0 := Z4.cs (k := 4) (v := .int .i64 s.warm) (by rfl)
                    have x3 := Z4.cx (L k).f3
                    have x5 := Z4.cx (L k).f5
                    have xf := Z4.free
                    have Z5 := Z4.set (s' := { s with many := s.many + 1, warm := s.warm + (L k).wt }) 4 (.int .i64 (s.warm + (L k).wt)) (by rfl)
                    replace Z5 := Lib.hid Z5
                    clear Z4
                    go_wp2
                    go_roundw
                    case rel => exact ⟨k + 1, by omega, by go_num, FIN.out _ { s with many := s.many + 1, warm := s.warm + (L k).wt } Z5.out (by unfold addT; rw [if_neg (show ¬ ((0 : Int) ≠ 0 ∧ (thI (L k)).ver ≠ 0) from fun e => e.1 rfl)]; rw [show (thI (L k)).serves = false from decide_eq_false (by omega), show (thI (L k)).comes = false from decide_eq_false (by omega), show (thI (L k)).stands = true from decide_eq_true (by omega)]; rfl)⟩
                    case measure => simp [intOf]; omega
                  · have d8 : ((L k).st == 8) = false := by simp [q8]
                    have S1 := Lib.hid (refServes_is (L k) false (Lib.hid (decide_eq_false (by omega))))
                    have S2 := Lib.hid (refComes_is (L k) false (Lib.hid (decide_eq_false (by omega))))
                    go_wp2_with (first | ((with_reducible refine at_load' 36 ?_); (first | (refine load_ins rfl _ rfl _ _ rfl (L k) R ?_) | (refine load_inP rfl _ rfl _ _ rfl (L k) RX rfl ?_) | (refine load_inP rfl _ rfl _ _ rfl (L k) RY rfl ?_))) | ((with_reducible refine at_store 36 ?_); (refine store_inp rfl _ _ rfl (L k) _ _ rfl rfl rfl ?_)))
                    refine (S1.out _).mono ?_
                    rintro _ u1 ⟨rfl, bu⟩
                    have Z2 := HZ.out.2.call bu
                    clear bu
                    have Z3 := Z2
                    have RY := Z3.rx
                    replace Z3 := Lib.hid Z3
                    clear Z2
                    go_wp2_with (first | ((with_reducible refine at_load' 36 ?_); (first | (refine load_ins rfl _ rfl _ _ rfl (L k) R ?_) | (refine load_inP rfl _ rfl _ _ rfl (L k) RX rfl ?_) | (refine load_inP rfl _ rfl _ _ rfl (L k) RY rfl ?_))) | ((with_reducible refine at_store 36 ?_); (refine store_inp rfl _ _ rfl (L k) _ _ rfl rfl rfl ?_)))
                    refine (S2.out _).mono ?_
                    rintro _ u2 ⟨rfl, bu⟩
                    have Z4 := Z3.out.call bu
                    clear bu
                    have x5 := Z4.cx (L k).f5
                    replace Z4 := Lib.hid Z4
                    go_wp2
                    go_roundw
                    case rel => exact ⟨k + 1, by omega, by go_num, FIN.out _ { s with many := s.many + 1 } Z4.out (by unfold addT; rw [if_neg (show ¬ ((0 : Int) ≠ 0 ∧ (thI (L k)).ver ≠ 0) from fun e => e.1 rfl)]; rw [show (thI (L k)).serves = false from decide_eq_false (by omega), show (thI (L k)).comes = false from decide_eq_false (by omega), show (thI (L k)).stands = false from decide_eq_false (by omega)]; rfl)⟩
                    case measure => simp [intOf]; omega
          · have hd : dem (thI (L k)) = 0 := by unfold dem; rw [show (thI (L k)).spot = true from hsp]; rfl
            rw [hd, Int.add_zero] at w1 w3
            rw [hsp] at z4 y4
            by_cases q3 : (L k).st = 3
            · have d7 : ((L k).st == 7) = false := by simp [q3]
              have d8 : ((L k).st == 8) = false := by simp [q3]
              have S1 := Lib.hid (refServes_is (L k) true (Lib.hid (decide_eq_true (by omega))))
              have S2 := Lib.hid (refComes_is (L k) false (Lib.hid (decide_eq_false (by omega))))
              go_wp2_with (first | ((with_reducible refine at_load' 36 ?_); (first | (refine load_ins rfl _ rfl _ _ rfl (L k) R ?_) | (refine load_inP rfl _ rfl _ _ rfl (L k) RX rfl ?_) | (refine load_inP rfl _ rfl _ _ rfl (L k) RY rfl ?_))) | ((with_reducible refine at_store 36 ?_); (refine store_inp rfl _ _ rfl (L k) _ _ rfl rfl rfl ?_)))
              refine (S1.out _).mono ?_
              rintro _ u1 ⟨rfl, bu⟩
              have Z2 := HZ.out.2.call bu
              clear bu
              have x0 := Z2.cs (k := 0) (v := .int .i64 s.live) (by rfl)
              have x1 := Z2.cs (k := 1) (v := .int .i64 s.liveD) (by rfl)
              have x3 := Z2.cx (L k).f3
              have xf := Z2.free
              have Z3 := (Z2.set (s' := { s with many := s.many + 1, live := s.live + (L k).wt }) 0 (.int .i64 (s.live + (L k).wt)) (by rfl)).set (s' := { s with many := s.many + 1, live := s.live + (L k).wt, liveD := s.liveD }) 1 (.int .i64 (s.liveD)) (by rfl)
              have RY := Z3.rx
              replace Z3 := Lib.hid Z3
              clear Z2
              go_wp2_with (first | ((with_reducible refine at_load' 36 ?_); (first | (refine load_ins rfl _ rfl _ _ rfl (L k) R ?_) | (refine load_inP rfl _ rfl _ _ rfl (L k) RX rfl ?_) | (refine load_inP rfl _ rfl _ _ rfl (L k) RY rfl ?_))) | ((with_reducible refine at_store 36 ?_); (refine store_inp rfl _ _ rfl (L k) _ _ rfl rfl rfl ?_)))
              refine (S2.out _).mono ?_
              rintro _ u2 ⟨rfl, bu⟩
              have Z4 := Z3.out.call bu
              clear bu
              have x5 := Z4.cx (L k).f5
              replace Z4 := Lib.hid Z4
              go_wp2
              go_roundw
              case rel => exact ⟨k + 1, by omega, by go_num, FIN.out _ { s with many := s.many + 1, live := s.live + (L k).wt, liveD := s.liveD } Z4.out (by unfold addT; rw [if_neg (show ¬ ((0 : Int) ≠ 0 ∧ (thI (L k)).ver ≠ 0) from fun e => e.1 rfl)]; rw [show (thI (L k)).serves = true from decide_eq_true (by omega), hd]; simp only [Int.add_zero]; rfl)⟩
              case measure => simp [intOf]; omega
            · by_cases qc : (L k).st = 1 ∨ (L k).st = 2 ∨ (L k).st = 9
              · have d7 : ((L k).st == 7) = false := by simp; omega
                have d8 : ((L k).st == 8) = false := by simp; omega
                have S1 := Lib.hid (refServes_is (L k) false (Lib.hid (decide_eq_false (by omega))))
                have S2 := Lib.hid (refComes_is (L k) true (Lib.hid (decide_eq_true (by omega))))
                go_wp2_with (first | ((with_reducible refine at_load' 36 ?_); (first | (refine load_ins rfl _ rfl _ _ rfl (L k) R ?_) | (refine load_inP rfl _ rfl _ _ rfl (L k) RX rfl ?_) | (refine load_inP rfl _ rfl _ _ rfl (L k) RY rfl ?_))) | ((with_reducible refine at_store 36 ?_); (refine store_inp rfl _ _ rfl (L k) _ _ rfl rfl rfl ?_)))
                refine (S1.out _).mono ?_
                rintro _ u1 ⟨rfl, bu⟩
                have Z2 := HZ.out.2.call bu
                clear bu
                have Z3 := Z2
                have RY := Z3.rx
                replace Z3 := Lib.hid Z3
                clear Z2
                go_wp2_with (first | ((with_reducible refine at_load' 36 ?_); (first | (refine load_ins rfl _ rfl _ _ rfl (L k) R ?_) | (refine load_inP rfl _ rfl _ _ rfl (L k) RX rfl ?_) | (refine load_inP rfl _ rfl _ _ rfl (L k) RY rfl ?_))) | ((with_reducible refine at_store 36 ?_); (refine store_inp rfl _ _ rfl (L k) _ _ rfl rfl rfl ?_)))
                refine (S2.out _).mono ?_
                rintro _ u2 ⟨rfl, bu⟩
                have Z4 := Z3.out.call bu
                clear bu
                have x0 := Z4.cs (k := 2) (v := .int .i64 s.com) (by rfl)
                have x1 := Z4.cs (k := 3) (v := .int .i64 s.comD) (by rfl)
                have x3 := Z4.cx (L k).f3
                have xf := Z4.free
                have Z5 := (Z4.set (s' := { s with many := s.many + 1, com := s.com + (L k).wt }) 2 (.int .i64 (s.com + (L k).wt)) (by rfl)).set (s' := { s with many := s.many + 1, com := s.com + (L k).wt, comD := s.comD }) 3 (.int .i64 (s.comD)) (by rfl)
                have x5 := Z5.cx (L k).f5
                replace Z5 := Lib.hid Z5
                clear Z4
                go_wp2
                go_roundw
                case rel => exact ⟨k + 1, by omega, by go_num, FIN.out _ { s with many := s.many + 1, com := s.com + (L k).wt, comD := s.comD } Z5.out (by unfold addT; rw [if_neg (show ¬ ((0 : Int) ≠ 0 ∧ (thI (L k)).ver ≠ 0) from fun e => e.1 rfl)]; rw [show (thI (L k)).serves = false from decide_eq_false (by omega), show (thI (L k)).comes = true from decide_eq_true (by omega), hd]; simp only [Int.add_zero]; rfl)⟩
                case measure => simp [intOf]; omega
              · by_cases q7 : (L k).st = 7
                · have d7 : ((L k).st == 7) = true := by simp [q7]
                  have S1 := Lib.hid (refServes_is (L k) false (Lib.hid (decide_eq_false (by omega))))
                  have S2 := Lib.hid (refComes_is (L k) false (Lib.hid (decide_eq_false (by omega))))
                  go_wp2_with (first | ((with_reducible refine at_load' 36 ?_); (first | (refine load_ins rfl _ rfl _ _ rfl (L k) R ?_) | (refine load_inP rfl _ rfl _ _ rfl (L k) RX rfl ?_) | (refine load_inP rfl _ rfl _ _ rfl (L k) RY rfl ?_))) | ((with_reducible refine at_store 36 ?_); (refine store_inp rfl _ _ rfl (L k) _ _ rfl rfl rfl ?_)))
                  refine (S1.out _).mono ?_
                  rintro _ u1 ⟨rfl, bu⟩
                  have Z2 := HZ.out.2.call bu
                  clear bu
                  have Z3 := Z2
                  have RY := Z3.rx
                  replace Z3 := Lib.hid Z3
                  clear Z2
                  go_wp2_with (first | ((with_reducible refine at_load' 36 ?_); (first | (refine load_ins rfl _ rfl _ _ rfl (L k) R ?_) | (refine load_inP rfl _ rfl _ _ rfl (L k) RX rfl ?_) | (refine load_inP rfl _ rfl _ _ rfl (L k) RY rfl ?_))) | ((with_reducible refine at_store 36 ?_); (refine store_inp rfl _ _ rfl (L k) _ _ rfl rfl rfl ?_)))
                  refine (S2.out _).mono ?_
                  rintro _ u2 ⟨rfl, bu⟩
                  have Z4 := Z3.out.call bu
                  clear bu
                  have x0 := Z4.cs (k := 4) (v := .int .i64 s.warm) (by rfl)
                  have x3 := Z4.cx (L k).f3
                  have x5 := Z4.cx (L k).f5
                  have xf := Z4.free
                  have Z5 := Z4.set (s' := { s with many := s.many + 1, warm := s.warm + (L k).wt }) 4 (.int .i64 (s.warm + (L k).wt)) (by rfl)
                  replace Z5 := Lib.hid Z5
                  clear Z4
                  go_wp2
                  go_roundw
                  case rel => exact ⟨k + 1, by omega, by go_num, FIN.out _ { s with many := s.many + 1, warm := s.warm + (L k).wt } Z5.out (by unfold addT; rw [if_neg (show ¬ ((0 : Int) ≠ 0 ∧ (thI (L k)).ver ≠ 0) from fun e => e.1 rfl)]; rw [show (thI (L k)).serves = false from decide_eq_false (by omega), show (thI (L k)).comes = false from decide_eq_false (by omega), show (thI (L k)).stands = true from decide_eq_true (by omega)]; rfl)⟩
                  case measure => simp [intOf]; omega
                · have d7 : ((L k).st == 7) = false := by simp [q7]
                  by_cases q8 : (L k).st = 8
                  · have d8 : ((L k).st == 8) = true := by simp [q8]
                    have S1 := Lib.hid (refServes_is (L k) false (Lib.hid (decide_eq_false (by omega))))
                    have S2 := Lib.hid (refComes_is (L k) false (Lib.hid (decide_eq_false (by omega))))
                    go_wp2_with (first | ((with_reducible refine at_load' 36 ?_); (first | (refine load_ins rfl _ rfl _ _ rfl (L k) R ?_) | (refine load_inP rfl _ rfl _ _ rfl (L k) RX rfl ?_) | (refine load_inP rfl _ rfl _ _ rfl (L k) RY rfl ?_))) | ((with_reducible refine at_store 36 ?_); (refine store_inp rfl _ _ rfl (L k) _ _ rfl rfl rfl ?_)))
                    refine (S1.out _).mono ?_
                    rintro _ u1 ⟨rfl, bu⟩
                    have Z2 := HZ.out.2.call bu
                    clear bu
                    have Z3 := Z2
                    have RY := Z3.rx
                    replace Z3 := Lib.hid Z3
                    clear Z2
                    go_wp2_with (first | ((with_reducible refine at_load' 36 ?_); (first | (refine load_ins rfl _ rfl _ _ rfl (L k) R ?_) | (refine load_inP rfl _ rfl _ _ rfl (L k) RX rfl ?_) | (refine load_inP rfl _ rfl _ _ rfl (L k) RY rfl ?_))) | ((with_reducible refine at_store 36 ?_); (refine store_inp rfl _ _ rfl (L k) _ _ rfl rfl rfl ?_)))
                    refine (S2.out _).mono ?_
                    rintro _ u2 ⟨rfl, bu⟩
                    have Z4 := Z3.out.call bu
                    clear bu
                    have x0 := Z4.cs (k := 4) (v := .int .i64 s.warm) (by rfl)
                    have x3 := Z4.cx (L k).f3
                    have x5 := Z4.cx (L k).f5
                    have xf := Z4.free
                    have Z5 := Z4.set (s' := { s with many := s.many + 1, warm := s.warm + (L k).wt }) 4 (.int .i64 (s.warm + (L k).wt)) (by rfl)
                    replace Z5 := Lib.hid Z5
                    clear Z4
                    go_wp2
                    go_roundw
                    case rel => exact ⟨k + 1, by omega, by go_num, FIN.out _ { s with many := s.many + 1, warm := s.warm + (L k).wt } Z5.out (by unfold addT; rw [if_neg (show ¬ ((0 : Int) ≠ 0 ∧ (thI (L k)).ver ≠ 0) from fun e => e.1 rfl)]; rw [show (thI (L k)).serves = false from decide_eq_false (by omega), show (thI (L k)).comes = false from decide_eq_false (by omega), show (thI (L k)).stands = true from decide_eq_true (by omega)]; rfl)⟩
                    case measure => simp [intOf]; omega
                  · have d8 : ((L k).st == 8) = false := by simp [q8]
                    have S1 := Lib.hid (refServes_is (L k) false (Lib.hid (decide_eq_false (by omega))))
                    have S2 := Lib.hid (refComes_is (L k) false (Lib.hid (decide_eq_false (by omega))))
                    go_wp2_with (first | ((with_reducible refine at_load' 36 ?_); (first | (refine load_ins rfl _ rfl _ _ rfl (L k) R ?_) | (refine load_inP rfl _ rfl _ _ rfl (L k) RX rfl ?_) | (refine load_inP rfl _ rfl _ _ rfl (L k) RY rfl ?_))) | ((with_reducible refine at_store 36 ?_); (refine store_inp rfl _ _ rfl (L k) _ _ rfl rfl rfl ?_)))
                    refine (S1.out _).mono ?_
                    rintro _ u1 ⟨rfl, bu⟩
                    have Z2 := HZ.out.2.call bu
                    clear bu
                    have Z3 := Z2
                    have RY := Z3.rx
                    replace Z3 := Lib.hid Z3
                    clear Z2
                    go_wp2_with (first | ((with_reducible refine at_load' 36 ?_); (first | (refine load_ins rfl _ rfl _ _ rfl (L k) R ?_) | (refine load_inP rfl _ rfl _ _ rfl (L k) RX rfl ?_) | (refine load_inP rfl _ rfl _ _ rfl (L k) RY rfl ?_))) | ((with_reducible refine at_store 36 ?_); (refine store_inp rfl _ _ rfl (L k) _ _ rfl rfl rfl ?_)))
                    refine (S2.out _).mono ?_
                    rintro _ u2 ⟨rfl, bu⟩
                    have Z4 := Z3.out.call bu
                    clear bu
                    have x5 := Z4.cx (L k).f5
                    replace Z4 := Lib.hid Z4
                    go_wp2
                    go_roundw
                    case rel => exact ⟨k + 1, by omega, by go_num, FIN.out _ { s with many := s.many + 1 } Z4.out (by unfold addT; rw [if_neg (show ¬ ((0 : Int) ≠ 0 ∧ (thI (L k)).ver ≠ 0) from fun e => e.1 rfl)]; rw [show (thI (L k)).serves = false from decide_eq_false (by omega), show (thI (L k)).comes = false from decide_eq_false (by omega), show (thI (L k)).stands = false from decide_eq_false (by omega)]; rfl)⟩
                    case measure => simp [intOf]; omega
        · have v1 : (v != 0) = true := by simp [hv]
          by_cases hw : (L k).ver = v
          · have v2 : ((L k).ver != v) = false := by simp [hw]
            rcases hsp : (L k).spot with _ | _
            · have hd : dem (thI (L k)) = (L k).wt := by unfold dem; rw [show (thI (L k)).spot = false from hsp]; rfl
              rw [hd] at w1 w3
              rw [hsp] at z4 y4
              by_cases q3 : (L k).st = 3
              · have d7 : ((L k).st == 7) = false := by simp [q3]
                have d8 : ((L k).st == 8) = false := by simp [q3]
                have S1 := Lib.hid (refServes_is (L k) true (Lib.hid (decide_eq_true (by omega))))
                have S2 := Lib.hid (refComes_is (L k) false (Lib.hid (decide_eq_false (by omega))))
                go_wp2_with (first | ((with_reducible refine at_load' 36 ?_); (first | (refine load_ins rfl _ rfl _ _ rfl (L k) R ?_) | (refine load_inP rfl _ rfl _ _ rfl (L k) RX rfl ?_) | (refine load_inP rfl _ rfl _ _ rfl (L k) RY rfl ?_))) | ((with_reducible refine at_store 36 ?_); (refine store_inp rfl _ _ rfl (L k) _ _ rfl rfl rfl ?_)))
                refine (S1.out _).mono ?_
                rintro _ u1 ⟨rfl, bu⟩
                have Z2 := HZ.out.2.call bu
                clear bu
                have x0 := Z2.cs (k := 0) (v := .int .i64 s.live) (by rfl)
                have x1 := Z2.cs (k := 1) (v := .int .i64 s.liveD) (by rfl)
                have x3 := Z2.cx (L k).f3
                have xf := Z2.free
                have Z3 := (Z2.set (s' := { s with many := s.many + 1, live := s.live + (L k).wt }) 0 (.int .i64 (s.live + (L k).wt)) (by rfl)).set (s' := { s with many := s.many + 1, live := s.live + (L k).wt, liveD := s.liveD + (L k).wt }) 1 (.int .i64 (s.liveD + (L k).wt)) (by rfl)
                have RY := Z3.rx
                replace Z3 := Lib.hid Z3
                clear Z2
                go_wp2_with (first | ((with_reducible refine at_load' 36 ?_); (first | (refine load_ins rfl _ rfl _ _ rfl (L k) R ?_) | (refine load_inP rfl _ rfl _ _ rfl (L k) RX rfl ?_) | (refine load_inP rfl _ rfl _ _ rfl (L k) RY rfl ?_))) | ((with_reducible refine at_store 36 ?_); (refine store_inp rfl _ _ rfl (L k) _ _ rfl rfl rfl ?_)))
                refine (S2.out _).mono ?_
                rintro _ u2 ⟨rfl, bu⟩
                have Z4 := Z3.out.call bu
                clear bu
                have x5 := Z4.cx (L k).f5
                replace Z4 := Lib.hid Z4
                go_wp2
                go_roundw
                case rel => exact ⟨k + 1, by omega, by go_num, FIN.out _ { s with many := s.many + 1, live := s.live + (L k).wt, liveD := s.liveD + (L k).wt } Z4.out (by unfold addT; rw [if_neg (show ¬ (v ≠ 0 ∧ (thI (L k)).ver ≠ v) from fun e => e.2 hw)]; rw [show (thI (L k)).serves = true from decide_eq_true (by omega), hd]; rfl)⟩
                case measure => simp [intOf]; omega
              · by_cases qc : (L k).st = 1 ∨ (L k).st = 2 ∨ (L k).st = 9
                · have d7 : ((L k).st == 7) = false := by simp; omega
                  have d8 : ((L k).st == 8) = false := by simp; omega
                  have S1 := Lib.hid (refServes_is (L k) false (Lib.hid (decide_eq_false (by omega))))
                  have S2 := Lib.hid (refComes_is (L k) true (Lib.hid (decide_eq_true (by omega))))
                  go_wp2_with (first | ((with_reducible refine at_load' 36 ?_); (first | (refine load_ins rfl _ rfl _ _ rfl (L k) R ?_) | (refine load_inP rfl _ rfl _ _ rfl (L k) RX rfl ?_) | (refine load_inP rfl _ rfl _ _ rfl (L k) RY rfl ?_))) | ((with_reducible refine at_store 36 ?_); (refine store_inp rfl _ _ rfl (L k) _ _ rfl rfl rfl ?_)))
                  refine (S1.out _).mono ?_
                  rintro _ u1 ⟨rfl, bu⟩
                  have Z2 := HZ.out.2.call bu
                  clear bu
                  have Z3 := Z2
                  have RY := Z3.rx
                  replace Z3 := Lib.hid Z3
                  clear Z2
                  go_wp2_with (first | ((with_reducible refine at_load' 36 ?_); (first | (refine load_ins rfl _ rfl _ _ rfl (L k) R ?_) | (refine load_inP rfl _ rfl _ _ rfl (L k) RX rfl ?_) | (refine load_inP rfl _ rfl _ _ rfl (L k) RY rfl ?_))) | ((with_reducible refine at_store 36 ?_); (refine store_inp rfl _ _ rfl (L k) _ _ rfl rfl rfl ?_)))
                  refine (S2.out _).mono ?_
                  rintro _ u2 ⟨rfl, bu⟩
                  have Z4 := Z3.out.call bu
                  clear bu
                  have x0 := Z4.cs (k := 2) (v := .int .i64 s.com) (by rfl)
                  have x1 := Z4.cs (k := 3) (v := .int .i64 s.comD) (by rfl)
                  have x3 := Z4.cx (L k).f3
                  have xf := Z4.free
                  have Z5 := (Z4.set (s' := { s with many := s.many + 1, com := s.com + (L k).wt }) 2 (.int .i64 (s.com + (L k).wt)) (by rfl)).set (s' := { s with many := s.many + 1, com := s.com + (L k).wt, comD := s.comD + (L k).wt }) 3 (.int .i64 (s.comD + (L k).wt)) (by rfl)
                  have x5 := Z5.cx (L k).f5
                  replace Z5 := Lib.hid Z5
                  clear Z4
                  go_wp2
                  go_roundw
                  case rel => exact ⟨k + 1, by omega, by go_num, FIN.out _ { s with many := s.many + 1, com := s.com + (L k).wt, comD := s.comD + (L k).wt } Z5.out (by unfold addT; rw [if_neg (show ¬ (v ≠ 0 ∧ (thI (L k)).ver ≠ v) from fun e => e.2 hw)]; rw [show (thI (L k)).serves = false from decide_eq_false (by omega), show (thI (L k)).comes = true from decide_eq_true (by omega), hd]; rfl)⟩
                  case measure => simp [intOf]; omega
                · by_cases q7 : (L k).st = 7
                  · have d7 : ((L k).st == 7) = true := by simp [q7]
                    have S1 := Lib.hid (refServes_is (L k) false (Lib.hid (decide_eq_false (by omega))))
                    have S2 := Lib.hid (refComes_is (L k) false (Lib.hid (decide_eq_false (by omega))))
                    go_wp2_with (first | ((with_reducible refine at_load' 36 ?_); (first | (refine load_ins rfl _ rfl _ _ rfl (L k) R ?_) | (refine load_inP rfl _ rfl _ _ rfl (L k) RX rfl ?_) | (refine load_inP rfl _ rfl _ _ rfl (L k) RY rfl ?_))) | ((with_reducible refine at_store 36 ?_); (refine store_inp rfl _ _ rfl (L k) _ _ rfl rfl rfl ?_)))
                    refine (S1.out _).mono ?_
                    rintro _ u1 ⟨rfl, bu⟩
                    have Z2 := HZ.out.2.call bu
                    clear bu
                    have Z3 := Z2
                    have RY := Z3.rx
                    replace Z3 := Lib.hid Z3
                    clear Z2
                    go_wp2_with (first | ((with_reducible refine at_load' 36 ?_); (first | (refine load_ins rfl _ rfl _ _ rfl (L k) R ?_) | (refine load_inP rfl _ rfl _ _ rfl (L k) RX rfl ?_) | (refine load_inP rfl _ rfl _ _ rfl (L k) RY rfl ?_))) | ((with_reducible refine at_store 36 ?_); (refine store_inp rfl _ _ rfl (L k) _ _ rfl rfl rfl ?_)))
                    refine (S2.out _).mono ?_
                    rintro _ u2 ⟨rfl, bu⟩
                    have Z4 := Z3.out.call bu
                    clear bu
                    have x0 := Z4.cs (k := 4) (v := .int .i64 s.warm) (by rfl)
                    have x3 := Z4.cx (L k).f3
                    have x5 := Z4.cx (L k).f5
                    have xf := Z4.free
                    have Z5 := Z4.set (s' := { s with many := s.many + 1, warm := s.warm + (L k).wt }) 4 (.int .i64 (s.warm + (L k).wt)) (by rfl)
                    replace Z5 := Lib.hid Z5
                    clear Z4
                    go_wp2
                    go_roundw
                    case rel => exact ⟨k + 1, by omega, by go_num, FIN.out _ { s with many := s.many + 1, warm := s.warm + (L k).wt } Z5.out (by unfold addT; rw [if_neg (show ¬ (v ≠ 0 ∧ (thI (L k)).ver ≠ v) from fun e => e.2 hw)]; rw [show (thI (L k)).serves = false from decide_eq_false (by omega), show (thI (L k)).comes = false from decide_eq_false (by omega), show (thI (L k)).stands = true from decide_eq_true (by omega)]; rfl)⟩
                    case measure => simp [intOf]; omega
                  · have d7 : ((L k).st == 7) = false := by simp [q7]
                    by_cases q8 : (L k).st = 8
                    · have d8 : ((L k).st == 8) = true := by simp [q8]
                      have S1 := Lib.hid (refServes_is (L k) false (Lib.hid (decide_eq_false (by omega))))
                      have S2 := Lib.hid (refComes_is (L k) false (Lib.hid (decide_eq_false (by omega))))
                      go_wp2_with (first | ((with_reducible refine at_load' 36 ?_); (first | (refine load_ins rfl _ rfl _ _ rfl (L k) R ?_) | (refine load_inP rfl _ rfl _ _ rfl (L k) RX rfl ?_) | (refine load_inP rfl _ rfl _ _ rfl (L k) RY rfl ?_))) | ((with_reducible refine at_store 36 ?_); (refine store_inp rfl _ _ rfl (L k) _ _ rfl rfl rfl ?_)))
                      refine (S1.out _).mono ?_
                      rintro _ u1 ⟨rfl, bu⟩
                      have Z2 := HZ.out.2.call bu
                      clear bu
                      have Z3 := Z2
                      have RY := Z3.rx
                      replace Z3 := Lib.hid Z3
                      clear Z2
                      go_wp2_with (first | ((with_reducible refine at_load' 36 ?_); (first | (refine load_ins rfl _ rfl _ _ rfl (L k) R ?_) | (refine load_inP rfl _ rfl _ _ rfl (L k) RX rfl ?_) | (refine load_inP rfl _ rfl _ _ rfl (L k) RY rfl ?_))) | ((with_reducible refine at_store 36 ?_); (refine store_inp rfl _ _ rfl (L k) _ _ rfl rfl rfl ?_)))
                      refine (S2.out _).mono ?_
                      rintro _ u2 ⟨rfl, bu⟩
                      have Z4 := Z3.out.call bu
                      clear bu
                      have x0 := Z4.cs (k := 4) (v := .int .i64 s.warm) (by rfl)
                      have x3 := Z4.cx (L k).f3
                      have x5 := Z4.cx (L k).f5
                      have xf := Z4.free
                      have Z5 := Z4.set (s' := { s with many := s.many + 1, warm := s.warm + (L k).wt }) 4 (.int .i64 (s.warm + (L k).wt)) (by rfl)
                      replace Z5 := Lib.hid Z5
                      clear Z4
                      go_wp2
                      go_roundw
                      case rel => exact ⟨k + 1, by omega, by go_num, FIN.out _ { s with many := s.many + 1, warm := s.warm + (L k).wt } Z5.out (by unfold addT; rw [if_neg (show ¬ (v ≠ 0 ∧ (thI (L k)).ver ≠ v) from fun e => e.2 hw)]; rw [show (thI (L k)).serves = false from decide_eq_false (by omega), show (thI (L k)).comes = false from decide_eq_false (by omega), show (thI (L k)).stands = true from decide_eq_true (by omega)]; rfl)⟩
                      case measure => simp [intOf]; omega
                    · have d8 : ((L k).st == 8) = false := by simp [q8]
                      have S1 := Lib.hid (refServes_is (L k) false (Lib.hid (decide_eq_false (by omega))))
                      have S2 := Lib.hid (refComes_is (L k) false (Lib.hid (decide_eq_false (by omega))))
                      go_wp2_with (first | ((with_reducible refine at_load' 36 ?_); (first | (refine load_ins rfl _ rfl _ _ rfl (L k) R ?_) | (refine load_inP rfl _ rfl _ _ rfl (L k) RX rfl ?_) | (refine load_inP rfl _ rfl _ _ rfl (L k) RY rfl ?_))) | ((with_reducible refine at_store 36 ?_); (refine store_inp rfl _ _ rfl (L k) _ _ rfl rfl rfl ?_)))
                      refine (S1.out _).mono ?_
                      rintro _ u1 ⟨rfl, bu⟩
                      have Z2 := HZ.out.2.call bu
                      clear bu
                      have Z3 := Z2
                      have RY := Z3.rx
                      replace Z3 := Lib.hid Z3
                      clear Z2
                      go_wp2_with (first | ((with_reducible refine at_load' 36 ?_); (first | (refine load_ins rfl _ rfl _ _ rfl (L k) R ?_) | (refine load_inP rfl _ rfl _ _ rfl (L k) RX rfl ?_) | (refine load_inP rfl _ rfl _ _ rfl (L k) RY rfl ?_))) | ((with_reducible refine at_store 36 ?_); (refine store_inp rfl _ _ rfl (L k) _ _ rfl rfl rfl ?_)))
                      refine (S2.out _).mono ?_
                      rintro _ u2 ⟨rfl, bu⟩
                      have Z4 := Z3.out.call bu
                      clear bu
                      have x5 := Z4.cx (L k).f5
                      replace Z4 := Lib.hid Z4
                      go_wp2
                      go_roundw
                      case rel => exact ⟨k + 1, by omega, by go_num, FIN.out _ { s with many := s.many + 1 } Z4.out (by unfold addT; rw [if_neg (show ¬ (v ≠ 0 ∧ (thI (L k)).ver ≠ v) from fun e => e.2 hw)]; rw [show (thI (L k)).serves = false from decide_eq_false (by omega), show (thI (L k)).comes = false from decide_eq_false (by omega), show (thI (L k)).stands = false from decide_eq_false (by omega)]; rfl)⟩
                      case measure => simp [intOf]; omega
            · have hd : dem (thI (L k)) = 0 := by unfold dem; rw [show (thI (L k)).spot = true from hsp]; rfl
              rw [hd, Int.add_zero] at w1 w3
              rw [hsp] at z4 y4
              by_cases q3 : (L k).st = 3
              · have d7 : ((L k).st == 7) = false := by simp [q3]
                have d8 : ((L k).st == 8) = false := by simp [q3]
                have S1 := Lib.hid (refServes_is (L k) true (Lib.hid (decide_eq_true (by omega))))
                have S2 := Lib.hid (refComes_is (L k) false (Lib.hid (decide_eq_false (by omega))))
                go_wp2_with (first | ((with_reducible refine at_load' 36 ?_); (first | (refine load_ins rfl _ rfl _ _ rfl (L k) R ?_) | (refine load_inP rfl _ rfl _ _ rfl (L k) RX rfl ?_) | (refine load_inP rfl _ rfl _ _ rfl (L k) RY rfl ?_))) | ((with_reducible refine at_store 36 ?_); (refine store_inp rfl _ _ rfl (L k) _ _ rfl rfl rfl ?_)))
                refine (S1.out _).mono ?_
                rintro _ u1 ⟨rfl, bu⟩
                have Z2 := HZ.out.2.call bu
                clear bu
                have x0 := Z2.cs (k := 0) (v := .int .i64 s.live) (by rfl)
                have x1 := Z2.cs (k := 1) (v := .int .i64 s.liveD) (by rfl)
                have x3 := Z2.cx (L k).f3
                have xf := Z2.free
                have Z3 := (Z2.set (s' := { s with many := s.many + 1, live := s.live + (L k).wt }) 0 (.int .i64 (s.live + (L k).wt)) (by rfl)).set (s' := { s with many := s.many + 1, live := s.live + (L k).wt, liveD := s.liveD }) 1 (.int .i64 (s.liveD)) (by rfl)
                have RY := Z3.rx
                replace Z3 := Lib.hid Z3
                clear Z2
                go_wp2_with (first | ((with_reducible refine at_load' 36 ?_); (first | (refine load_ins rfl _ rfl _ _ rfl (L k) R ?_) | (refine load_inP rfl _ rfl _ _ rfl (L k) RX rfl ?_) | (refine load_inP rfl _ rfl _ _ rfl (L k) RY rfl ?_))) | ((with_reducible refine at_store 36 ?_); (refine store_inp rfl _ _ rfl (L k) _ _ rfl rfl rfl ?_)))
                refine (S2.out _).mono ?_
                rintro _ u2 ⟨rfl, bu⟩
                have Z4 := Z3.out.call bu
                clear bu
                have x5 := Z4.cx (L k).f5
                replace Z4 := Lib.hid Z4
                go_wp2
                go_roundw
                case rel => exact ⟨k + 1, by omega, by go_num, FIN.out _ { s with many := s.many + 1, live := s.live + (L k).wt, liveD := s.liveD } Z4.out (by unfold addT; rw [if_neg (show ¬ (v ≠ 0 ∧ (thI (L k)).ver ≠ v) from fun e => e.2 hw)]; rw [show (thI (L k)).serves = true from decide_eq_true (by omega), hd]; simp only [Int.add_zero]; rfl)⟩
                case measure => simp [intOf]; omega
              · by_cases qc : (L k).st = 1 ∨ (L k).st = 2 ∨ (L k).st = 9
                · have d7 : ((L k).st == 7) = false := by simp; omega
                  have d8 : ((L k).st == 8) = false := by simp; omega
                  have S1 := Lib.hid (refServes_is (L k) false (Lib.hid (decide_eq_false (by omega))))
                  have S2 := Lib.hid (refComes_is (L k) true (Lib.hid (decide_eq_true (by omega))))
                  go_wp2_with (first | ((with_reducible refine at_load' 36 ?_); (first | (refine load_ins rfl _ rfl _ _ rfl (L k) R ?_) | (refine load_inP rfl _ rfl _ _ rfl (L k) RX rfl ?_) | (refine load_inP rfl _ rfl _ _ rfl (L k) RY rfl ?_))) | ((with_reducible refine at_store 36 ?_); (refine store_inp rfl _ _ rfl (L k) _ _ rfl rfl rfl ?_)))
                  refine (S1.out _).mono ?_
                  rintro _ u1 ⟨rfl, bu⟩
                  have Z2 := HZ.out.2.call bu
                  clear bu
                  have Z3 := Z2
                  have RY := Z3.rx
                  replace Z3 := Lib.hid Z3
                  clear Z2
                  go_wp2_with (first | ((with_reducible refine at_load' 36 ?_); (first | (refine load_ins rfl _ rfl _ _ rfl (L k) R ?_) | (refine load_inP rfl _ rfl _ _ rfl (L k) RX rfl ?_) | (refine load_inP rfl _ rfl _ _ rfl (L k) RY rfl ?_))) | ((with_reducible refine at_store 36 ?_); (refine store_inp rfl _ _ rfl (L k) _ _ rfl rfl rfl ?_)))
                  refine (S2.out _).mono ?_
                  rintro _ u2 ⟨rfl, bu⟩
                  have Z4 := Z3.out.call bu
                  clear bu
                  have x0 := Z4.cs (k := 2) (v := .int .i64 s.com) (by rfl)
                  have x1 := Z4.cs (k := 3) (v := .int .i64 s.comD) (by rfl)
                  have x3 := Z4.cx (L k).f3
                  have xf := Z4.free
                  have Z5 := (Z4.set (s' := { s with many := s.many + 1, com := s.com + (L k).wt }) 2 (.int .i64 (s.com + (L k).wt)) (by rfl)).set (s' := { s with many := s.many + 1, com := s.com + (L k).wt, comD := s.comD }) 3 (.int .i64 (s.comD)) (by rfl)
                  have x5 := Z5.cx (L k).f5
                  replace Z5 := Lib.hid Z5
                  clear Z4
                  go_wp2
                  go_roundw
                  case rel => exact ⟨k + 1, by omega, by go_num, FIN.out _ { s with many := s.many + 1, com := s.com + (L k).wt, comD := s.comD } Z5.out (by unfold addT; rw [if_neg (show ¬ (v ≠ 0 ∧ (thI (L k)).ver ≠ v) from fun e => e.2 hw)]; rw [show (thI (L k)).serves = false from decide_eq_false (by omega), show (thI (L k)).comes = true from decide_eq_true (by omega), hd]; simp only [Int.add_zero]; rfl)⟩
                  case measure => simp [intOf]; omega
                · by_cases q7 : (L k).st = 7
                  · have d7 : ((L k).st == 7) = true := by simp [q7]
                    have S1 := Lib.hid (refServes_is (L k) false (Lib.hid (decide_eq_false (by omega))))
                    have S2 := Lib.hid (refComes_is (L k) false (Lib.hid (decide_eq_false (by omega))))
                    go_wp2_with (first | ((with_reducible refine at_load' 36 ?_); (first | (refine load_ins rfl _ rfl _ _ rfl (L k) R ?_) | (refine load_inP rfl _ rfl _ _ rfl (L k) RX rfl ?_) | (refine load_inP rfl _ rfl _ _ rfl (L k) RY rfl ?_))) | ((with_reducible refine at_store 36 ?_); (refine store_inp rfl _ _ rfl (L k) _ _ rfl rfl rfl ?_)))
                    refine (S1.out _).mono ?_
                    rintro _ u1 ⟨rfl, bu⟩
                    have Z2 := HZ.out.2.call bu
                    clear bu
                    have Z3 := Z2
                    have RY := Z3.rx
                    replace Z3 := Lib.hid Z3
                    clear Z2
                    go_wp2_with (first | ((with_reducible refine at_load' 36 ?_); (first | (refine load_ins rfl _ rfl _ _ rfl (L k) R ?_) | (refine load_inP rfl _ rfl _ _ rfl (L k) RX rfl ?_) | (refine load_inP rfl _ rfl _ _ rfl (L k) RY rfl ?_))) | ((with_reducible refine at_store 36 ?_); (refine store_inp rfl _ _ rfl (L k) _ _ rfl rfl rfl ?_)))
                    refine (S2.out _).mono ?_
                    rintro _ u2 ⟨rfl, bu⟩
                    have Z4 := Z3.out.call bu
                    clear bu
                    have x0 := Z4.cs (k := 4) (v := .int .i64 s.warm) (by rfl)
                    have x3 := Z4.cx (L k).f3
                    have x5 := Z4.cx (L k).f5
                    have xf := Z4.free
                    have Z5 := Z4.set (s' := { s with many := s.many + 1, warm := s.warm + (L k).wt }) 4 (.int .i64 (s.warm + (L k).wt)) (by rfl)
                    replace Z5 := Lib.hid Z5
                    clear Z4
                    go_wp2
                    go_roundw
                    case rel => exact ⟨k + 1, by omega, by go_num, FIN.out _ { s with many := s.many + 1, warm := s.warm + (L k).wt } Z5.out (by unfold addT; rw [if_neg (show ¬ (v ≠ 0 ∧ (thI (L k)).ver ≠ v) from fun e => e.2 hw)]; rw [show (thI (L k)).serves = false from decide_eq_false (by omega), show (thI (L k)).comes = false from decide_eq_false (by omega), show (thI (L k)).stands = true from decide_eq_true (by omega)]; rfl)⟩
                    case measure => simp [intOf]; omega
                  · have d7 : ((L k).st == 7) = false := by simp [q7]
                    by_cases q8 : (L k).st = 8
                    · have d8 : ((L k).st == 8) = true := by simp [q8]
                      have S1 := Lib.hid (refServes_is (L k) false (Lib.hid (decide_eq_false (by omega))))
                      have S2 := Lib.hid (refComes_is (L k) false (Lib.hid (decide_eq_false (by omega))))
                      go_wp2_with (first | ((with_reducible refine at_load' 36 ?_); (first | (refine load_ins rfl _ rfl _ _ rfl (L k) R ?_) | (refine load_inP rfl _ rfl _ _ rfl (L k) RX rfl ?_) | (refine load_inP rfl _ rfl _ _ rfl (L k) RY rfl ?_))) | ((with_reducible refine at_store 36 ?_); (refine store_inp rfl _ _ rfl (L k) _ _ rfl rfl rfl ?_)))
                      refine (S1.out _).mono ?_
                      rintro _ u1 ⟨rfl, bu⟩
                      have Z2 := HZ.out.2.call bu
                      clear bu
                      have Z3 := Z2
                      have RY := Z3.rx
                      replace Z3 := Lib.hid Z3
                      clear Z2
                      go_wp2_with (first | ((with_reducible refine at_load' 36 ?_); (first | (refine load_ins rfl _ rfl _ _ rfl (L k) R ?_) | (refine load_inP rfl _ rfl _ _ rfl (L k) RX rfl ?_) | (refine load_inP rfl _ rfl _ _ rfl (L k) RY rfl ?_))) | ((with_reducible refine at_store 36 ?_); (refine store_inp rfl _ _ rfl (L k) _ _ rfl rfl rfl ?_)))
                      refine (S2.out _).mono ?_
                      rintro _ u2 ⟨rfl, bu⟩
                      have Z4 := Z3.out.call bu
                      clear bu
                      have x0 := Z4.cs (k := 4) (v := .int .i64 s.warm) (by rfl)
                      have x3 := Z4.cx (L k).f3
                      have x5 := Z4.cx (L k).f5
                      have xf := Z4.free
                      have Z5 := Z4.set (s' := { s with many := s.many + 1, warm := s.warm + (L k).wt }) 4 (.int .i64 (s.warm + (L k).wt)) (by rfl)
                      replace Z5 := Lib.hid Z5
                      clear Z4
                      go_wp2
                      go_roundw
                      case rel => exact ⟨k + 1, by omega, by go_num, FIN.out _ { s with many := s.many + 1, warm := s.warm + (L k).wt } Z5.out (by unfold addT; rw [if_neg (show ¬ (v ≠ 0 ∧ (thI (L k)).ver ≠ v) from fun e => e.2 hw)]; rw [show (thI (L k)).serves = false from decide_eq_false (by omega), show (thI (L k)).comes = false from decide_eq_false (by omega), show (thI (L k)).stands = true from decide_eq_true (by omega)]; rfl)⟩
                      case measure => simp [intOf]; omega
                    · have d8 : ((L k).st == 8) = false := by simp [q8]
                      have S1 := Lib.hid (refServes_is (L k) false (Lib.hid (decide_eq_false (by omega))))
                      have S2 := Lib.hid (refComes_is (L k) false (Lib.hid (decide_eq_false (by omega))))
                      go_wp2_with (first | ((with_reducible refine at_load' 36 ?_); (first | (refine load_ins rfl _ rfl _ _ rfl (L k) R ?_) | (refine load_inP rfl _ rfl _ _ rfl (L k) RX rfl ?_) | (refine load_inP rfl _ rfl _ _ rfl (L k) RY rfl ?_))) | ((with_reducible refine at_store 36 ?_); (refine store_inp rfl _ _ rfl (L k) _ _ rfl rfl rfl ?_)))
                      refine (S1.out _).mono ?_
                      rintro _ u1 ⟨rfl, bu⟩
                      have Z2 := HZ.out.2.call bu
                      clear bu
                      have Z3 := Z2
                      have RY := Z3.rx
                      replace Z3 := Lib.hid Z3
                      clear Z2
                      go_wp2_with (first | ((with_reducible refine at_load' 36 ?_); (first | (refine load_ins rfl _ rfl _ _ rfl (L k) R ?_) | (refine load_inP rfl _ rfl _ _ rfl (L k) RX rfl ?_) | (refine load_inP rfl _ rfl _ _ rfl (L k) RY rfl ?_))) | ((with_reducible refine at_store 36 ?_); (refine store_inp rfl _ _ rfl (L k) _ _ rfl rfl rfl ?_)))
                      refine (S2.out _).mono ?_
                      rintro _ u2 ⟨rfl, bu⟩
                      have Z4 := Z3.out.call bu
                      clear bu
                      have x5 := Z4.cx (L k).f5
                      replace Z4 := Lib.hid Z4
                      go_wp2
                      go_roundw
                      case rel => exact ⟨k + 1, by omega, by go_num, FIN.out _ { s with many := s.many + 1 } Z4.out (by unfold addT; rw [if_neg (show ¬ (v ≠ 0 ∧ (thI (L k)).ver ≠ v) from fun e => e.2 hw)]; rw [show (thI (L k)).serves = false from decide_eq_false (by omega), show (thI (L k)).comes = false from decide_eq_false (by omega), show (thI (L k)).stands = false from decide_eq_false (by omega)]; rfl)⟩
                      case measure => simp [intOf]; omega
          · have v2 : ((L k).ver != v) = true := by simp [hw]
            go_wp2_with (first | ((with_reducible refine at_load' 36 ?_); (first | (refine load_ins rfl _ rfl _ _ rfl (L k) R ?_) | (refine load_inP rfl _ rfl _ _ rfl (L k) RX rfl ?_) | (refine load_inP rfl _ rfl _ _ rfl (L k) RY rfl ?_))) | ((with_reducible refine at_store 36 ?_); (refine store_inp rfl _ _ rfl (L k) _ _ rfl rfl rfl ?_)))
            go_roundw
            case rel => exact ⟨k + 1, by omega, by go_num, FIN.out _ s HZ.out.1 (by unfold addT; rw [if_pos (show v ≠ 0 ∧ (thI (L k)).ver ≠ v from ⟨hv, hw⟩)])⟩
            case measure => simp [intOf]; omega
      · have e : n = k := by omega
        subst e
        have hO2 := HO.out.later hb
        have hq := lau_len O m
        go_wp2_with fail
        refine (launches_any C m d O wr hO2 hmax).mono ?_
        rintro _ u1 ⟨⟨A', c', rfl, own1⟩, bu⟩
        have Z0 : St4 w wr.heap.size (sumT v (insL L n)) A' (lau O m).length c' (lauF O m) u1 := ⟨(bu.block _ (by omega)).trans i6, (bu.block _ (by omega)).trans i7, bTrans hb bu, hsz2, own1.out⟩
        clear bu hO2 own1 i6 i7 hb
        obtain ⟨q, hqq⟩ : ∃ q, (lau O m).length = q := ⟨_, rfl⟩
        rw [hqq] at Z0 hq ⊢
        obtain ⟨F, hF⟩ : ∃ F, lauF O m = F := ⟨_, rfl⟩
        rw [hF] at Z0
        have HF := Lib.hid hF
        have HQ := Lib.hid hqq
        obtain ⟨Bq, hBq⟩ : ∃ Bq, wr.heap.size = Bq := ⟨_, rfl⟩
        rw [hBq] at Z0
        replace Z0 := Lib.hid Z0
        clear hF hqq hBq hsz2
        go_wp2_with fail
        go_loopw [12] (fun i V => ∃ k : Nat, k ≤ q ∧ i = .int .i64 k ∧ Hid (St4 w Bq (sumT v (insL L n ++ ((lau O m).take k).map thO)) A' q c' F V)) (fun i _ => q - (intOf i).toNat)
        case atStart => exact ⟨0, by omega, rfl, by simpa using Z0⟩
        clear Z0 hlt hk
        case round =>
          obtain ⟨k, hk, rfl, HZ⟩ := hrel
          by_cases hlt : k < q
          · obtain ⟨g, cap, e, hbg, hlg, _, _⟩ := HZ.out.own.form (by omega)
            injection e with e1 e2 e3
            subst e1
            subst e3
            have hlt' : k < (lau O m).length := by rw [HQ.out]; exact hlt
            have y := lauF_ok (O := O) (m := m) hlt'
            rw [HF.out] at y
            have bd := inSm_sum v (insL L n ++ ((lau O m).take k).map thO) (by
              intro t ht
              rcases List.mem_append.1 ht with ht | ht
              · exact insL_ok HM.out (Nat.le_refl _) t ht
              · exact take_ok t ht)
            rw [List.length_append, insL_len, List.length_map, List.length_take_of_le (by omega)] at bd
            have hadd0 : sumT v (insL L n ++ ((lau O m).take (k + 1)).map thO) = addT v (sumT v (insL L n ++ ((lau O m).take k).map thO)) (thO (F k)) := by
              rw [take_on hlt', HF.out, List.map_append, List.map_cons, List.map_nil, ← List.append_assoc, sumT_snoc]
            obtain ⟨s, hs⟩ : ∃ s, sumT v (insL L n ++ ((lau O m).take k).map thO) = s := ⟨_, rfl⟩
            rw [hs] at bd hadd0 HZ
            obtain ⟨b1, b2, b3, b4, b5, b6⟩ := bd
            have FIN : Hid (∀ W' s', St4 w Bq s' (some ⟨g, 0, none⟩) q c' F W' → addT v s (thO (F k)) = s' → Hid (St4 w Bq (sumT v (insL L n ++ ((lau O m).take (k + 1)).map thO)) (some ⟨g, 0, none⟩) q c' F W')) := Lib.hid (fun W' s' hT he => Lib.hid (by rw [hadd0, he]; exact hT))
            have w5 : IntKind.i64.wrap (s.many + 1) = s.many + 1 := IntWalk.i64_in _ (by omega)
            have w2 : IntKind.i64.wrap (s.com + (F k).wt) = s.com + (F k).wt := IntWalk.i64_in _ (by omega)
            have w3 : IntKind.i64.wrap (s.comD + (F k).wt) = s.comD + (F k).wt := IntWalk.i64_in _ (by omega)
            have w4 : IntKind.i64.wrap (s.warm + (F k).wt) = s.warm + (F k).wt := IntWalk.i64_in _ (by omega)
            have c8 := HZ.out.co hlt (by omega) (F k).f8
            have z5 := HZ.out.cs (k := 5) (v := .int .i64 s.many) (by rfl)
            have zf := HZ.out.free
            have Z1 := HZ.out.set (s' := { s with many := s.many + 1 }) 5 (.int .i64 (s.many + 1)) (by rfl)
            have c3 := Z1.co hlt (by omega) (F k).f3
            have c6 := Z1.co hlt (by omega) (F k).f6
            have x4 := Z1.cs (k := 4) (v := .int .i64 s.warm) (by rfl)
            have x2 := Z1.cs (k := 2) (v := .int .i64 s.com) (by rfl)
            have xf := Z1.free
            have Zw := Z1.set (s' := { s with many := s.many + 1, warm := s.warm + (F k).wt }) 4 (.int .i64 (s.warm + (F k).wt)) (by rfl)
            have Zc := Z1.set (s' := { s with many := s.many + 1, com := s.com + (F k).wt }) 2 (.int .i64 (s.com + (F k).wt)) (by rfl)
            have c7 := Zc.co hlt (by omega) (F k).f7
            have c6' := Zc.co hlt (by omega) (F k).f6
            have x3 := Zc.cs (k := 3) (v := .int .i64 s.comD) (by rfl)
            have xf' := Zc.free
            have Zd := Zc.set (s' := { s with many := s.many + 1, com := s.com + (F k).wt, comD := s.comD + (F k).wt }) 3 (.int .i64 (s.comD + (F k).wt)) (by rfl)
            replace Z1 := Lib.hid Z1
            replace Zw := Lib.hid Zw
            replace Zc := Lib.hid Zc
            replace Zd := Lib.hid Zd
            clear b1 b2 b3 b4 b5 b6 hadd0 hs y hlt'
            by_cases hv : v = 0
            · subst hv
              have v1 : ((0 : Int) != 0) = false := rfl
              rcases hw1 : (F k).warm with _ | _
              · rw [hw1] at c3
                rcases hsp : (F k).spot with _ | _
                · rw [hsp] at c7
                  go_upto_region 29 with fail
                  go_region
                  go_upto_region 31 with fail
                  go_region
                  go_wp2
                  all_goals
                    go_roundw
                    case rel => exact ⟨k + 1, by omega, by go_num, FIN.out _ { s with many := s.many + 1, com := s.com + (F k).wt, comD := s.comD + (F k).wt } Zd.out.drew.drew (by unfold addT; rw [if_neg (show ¬ ((0 : Int) ≠ 0 ∧ (thO (F k)).ver ≠ 0) from fun e => e.1 rfl)]; unfold thO dem; rw [hw1, hsp]; rfl)⟩
                    case measure => simp [intOf]; omega
                · rw [hsp] at c7
                  go_upto_region 29 with fail
                  go_region
                  go_wp2
                  all_goals
                    go_roundw
                    case rel => exact ⟨k + 1, by omega, by go_num, FIN.out _ { s with many := s.many + 1, com := s.com + (F k).wt } Zc.out.drew (by unfold addT; rw [if_neg (show ¬ ((0 : Int) ≠ 0 ∧ (thO (F k)).ver ≠ 0) from fun e => e.1 rfl)]; unfold thO dem; rw [hw1, hsp]; simp)⟩
                    case measure => simp [intOf]; omega
              · rw [hw1] at c3
                go_upto_region 28 with fail
                go_region
                go_wp2
                all_goals
                  go_roundw
                  case rel => exact ⟨k + 1, by omega, by go_num, FIN.out _ { s with many := s.many + 1, warm := s.warm + (F k).wt } Zw.out.drew (by unfold addT; rw [if_neg (show ¬ ((0 : Int) ≠ 0 ∧ (thO (F k)).ver ≠ 0) from fun e => e.1 rfl)]; unfold thO dem; rw [hw1]; rfl)⟩
                  case measure => simp [intOf]; omega
            · have v1 : (v != 0) = true := by simp [hv]
              by_cases hw : (F k).ver = v
              · have v2 : ((F k).ver != v) = false := by simp [hw]
                rcases hw1 : (F k).warm with _ | _
                · rw [hw1] at c3
                  rcases hsp : (F k).spot with _ | _
                  · rw [hsp] at c7
                    go_upto_region 29 with fail
                    go_region
                    go_upto_region 31 with fail
                    go_region
                    go_wp2
                    all_goals
                      go_roundw
                      case rel => exact ⟨k + 1, by omega, by go_num, FIN.out _ { s with many := s.many + 1, com := s.com + (F k).wt, comD := s.comD + (F k).wt } Zd.out.drew.drew (by unfold addT; rw [if_neg (show ¬ (v ≠ 0 ∧ (thO (F k)).ver ≠ v) from fun e => e.2 hw)]; unfold thO dem; rw [hw1, hsp]; rfl)⟩
                      case measure => simp [intOf]; omega
                  · rw [hsp] at c7
                    go_upto_region 29 with fail
                    go_region
                    go_wp2
                    all_goals
                      go_roundw
                      case rel => exact ⟨k + 1, by omega, by go_num, FIN.out _ { s with many := s.many + 1, com := s.com + (F k).wt } Zc.out.drew (by unfold addT; rw [if_neg (show ¬ (v ≠ 0 ∧ (thO (F k)).ver ≠ v) from fun e => e.2 hw)]; unfold thO dem; rw [hw1, hsp]; simp)⟩
                      case measure => simp [intOf]; omega
                · rw [hw1] at c3
                  go_upto_region 28 with fail
                  go_region
                  go_wp2
                  all_goals
                    go_roundw
                    case rel => exact ⟨k + 1, by omega, by go_num, FIN.out _ { s with many := s.many + 1, warm := s.warm + (F k).wt } Zw.out.drew (by unfold addT; rw [if_neg (show ¬ (v ≠ 0 ∧ (thO (F k)).ver ≠ v) from fun e => e.2 hw)]; unfold thO dem; rw [hw1]; rfl)⟩
                    case measure => simp [intOf]; omega
              · have v2 : ((F k).ver != v) = true := by simp [hw]
                go_wp2
                all_goals
                  go_roundw
                  case rel => exact ⟨k + 1, by omega, by go_num, FIN.out _ s HZ.out (by unfold addT; rw [if_pos (show v ≠ 0 ∧ (thO (F k)).ver ≠ v from ⟨hv, hw⟩)])⟩
                  case measure => simp [intOf]; omega
          · have e : q = k := by omega
            subst e
            have I6 := HZ.out.r6
            have I7 := HZ.out.r7
            have I9 := Lib.hid HZ.out.b
            rw [← HQ.out, List.take_length] at I7
            have R7 := range_row I7
            clear HZ
            go_wp2_with (first | ((with_reducible refine at_load' 31 ?_); (refine wpList_load_mid rfl 31 _ rfl (w.heap.size + 1) 0 rfl (sumT v (thsL L n O m)).cells.toList _ R7 Try.underlying31 rfl (sizeSum.trans rfl) ?_)) | ((with_reducible refine at_store 31 ?_); (refine store_whole rfl 31 _ _ rfl w.heap.size (sumT v (thsL L n O m)).cells sm0.cells _ rfl rfl I6 (sizeSum.trans rfl) rfl (Sm.one _) ?_)))
            refine bodyPost_ret (v := (sumT v (thsL L n O m)).val) (results_cell_row rfl _ _ w.heap.size _ (sumT v (thsL L n O m)).cells _ _ rfl (row_at I6) Try.underlying31 rfl (sizeSum.trans rfl)) rfl ?_
            exact ⟨by rw [HV.out], below_row _ I9.out (Nat.le_refl _)⟩
end Go.Proofs.Ytcgeoaegalloaaa.Thg
