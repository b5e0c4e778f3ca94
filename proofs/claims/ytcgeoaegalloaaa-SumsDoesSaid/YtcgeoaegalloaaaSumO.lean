
/- What the program says is there of things (sums.Of). -/
import Derived.Test.YtcgeoaegalloaaaThgI
import Derived.Test.YtcgeoaegalloaaaSumV
namespace Go.Proofs.Ytcgeoaegalloaaa.Thg
open Go.RowKit Go.Shelf
open Go.ChangeShapes Go.WideShapes Go.ChangeAt
open Mem Arr Lst Rec Inst Grown Sums Opens St0
attribute [local go_sem] Oper.semAt_some
def ofS (v : Int) (L : Nat → Ins) (n : Nat) (O : Nat → Opn) (m : Nat) : Sm := if mayB L n = true then sumT v (thsL L n O m) else sm0
theorem things_stops (nn n0 e0 : Nat) (A : Option Addr) (n c : Nat) (L : Nat → Ins) (C : Option Addr) (m d : Nat) (O : Nat → Opn) (w0 : World)
    (hI : Recs w0 n0 A n 12 (insV L)) (hO : Recs w0 n0 C m 9 (opnV O)) (hm : mayB L n = true) (hmax : m ≤ 9223372036854775807)
    (h1 : w0.cell? ⟨e0, 0, none⟩ = some (.slice A n c)) (h2 : w0.cell? ⟨e0 + 1, 0, none⟩ = some (.slice C m d)) (hn0 : n0 ≤ w0.heap.size) (he0 : e0 + 2 ≤ w0.heap.size) :
    SeqStopsK Fence.wide nn Try.prog 37 #[.pointer (some ⟨e0, 0, none⟩), .pointer (some ⟨e0 + 1, 0, none⟩)] encs (KX n0 e0) (fun xs => xs.map (·.1) = thsL L n O m) (fun pre => ∃ q, pre.map (·.1) ++ q = thsL L n O m) (n + 4096) w0 :=
  fun l J Jx W hW hJ hJx hY h0 => things_in nn l n0 e0 A n c L C m d O J Jx hY W hJ (hI.below (hW.mono hn0)) (hO.below (hW.mono hn0)) hm hmax
    (((bcell hW).1 _ _ (by omega)).trans h1) (((bcell hW).1 _ _ (by omega)).trans h2) (Nat.le_trans hn0 hW.size) (Nat.le_trans he0 hW.size) h0
/-- whole records inside a fence that lets all by -/
theorem load_midR {F : Fence} (hF : ∀ f, F.fn f) {nn : Nat} {P : Program} {ops : Array Oper} {rest : List Oper} {op : Oper} {a : Act} {w : World} {Q : Exit → Act → World → Prop} (hgd : op.guard = none) (ty : TypeId) (x : Operand) (ho : op.op = .load ty x)
    (b o : Nat) (hx : a.eval x = .pointer (some ⟨b, o, none⟩)) (cs : List Value) (d : TypeDesc) (hc : w.rangeAt b o cs)
    (hu : P.underlying ty = some d) (hd : d.isRow = true) (hi : (P.info? ty).map (·.size) = some cs.length)
    (h : wpListIn F nn P ops Q rest (a.put op.dst (.agg cs.toArray)) w) : wpListIn F nn P ops Q (op :: rest) a w := by
  refine wpListIn_plain hgd fun K hK => ?_
  unfold Oper.wpIn
  refine ⟨fun f _ => hF f, ?_⟩
  rw [Oper.semAt_eq _ _ _ (fun c e => by rw [ho] at e; cases e)]
  unfold execOp
  simp only [ho, hx, Instr.loadAt, Instr.sureAddr, Sem.run_bind, Sem.run_pure, Result.andThen_ok, run_loadVar_mid w b o ty cs d hc hu hd hi]
  exact hK _ _ h
theorem store_rowR {F : Fence} (hF : ∀ f, F.fn f) {nn : Nat} {P : Program} {ops : Array Oper} {rest : List Oper} {o : Oper} {a : Act} {w : World} {Q : Exit → Act → World → Prop} (hgd : o.guard = none) (ty : TypeId) (x y : Operand) (ho : o.op = .store ty x y)
    (g : Nat) (cells : Array Value) (hx : a.eval x = .pointer (some ⟨g, 0, none⟩)) (hy : a.eval y = .agg cells)
    (t : TypeId) (old : Array Value) (hg : w.heap[g]? = some (.cells old t (0, 0))) (hi : (P.info? ty).map (·.size) = some cells.size)
    (hold : old.size = cells.size) (h1 : cells.all (·.oneCell') = true)
    (h : wpListIn F nn P ops Q rest (a.put o.dst undef) (w.setRow g cells)) : wpListIn F nn P ops Q (o :: rest) a w := by
  refine wpListIn_plain hgd fun K hK => ?_
  unfold Oper.wpIn
  refine ⟨fun f _ => hF f, ?_⟩
  rw [Oper.semAt_eq _ _ _ (fun c e => by rw [ho] at e; cases e)]
  unfold execOp
  simp only [ho, hx, hy, Instr.storeAt, Instr.sureAddr, Sem.run_bind, Sem.run_pure, Result.andThen_ok, run_storeVar_row w g t ty old cells hg hi hold h1]
  exact hK _ _ h
theorem store_thR {l : Nat} {nn : Nat} {ops : Array Oper} {rest : List Oper} {o : Oper} {a : Act} {w : World} {Q : Exit → Act → World → Prop} (hgd : o.guard = none) (x y : Operand) (ho : o.op = .store 56 x y)
    (c : Th) (old : Array Value) (t : TypeId) (hx : a.eval x = .pointer (some ⟨w.heap.size, 0, none⟩)) (hy : a.eval y = c.val) (hold : old.size = 8)
    (h : wpListIn (Fence.wide.inRound l) nn Try.prog ops Q rest (a.put o.dst undef) (w.alloc (.cells c.cells t (0, 0)))) : wpListIn (Fence.wide.inRound l) nn Try.prog ops Q (o :: rest) a (w.alloc (.cells old t (0, 0))) :=
  store_rowR (fun _ => trivial) hgd 56 x y ho w.heap.size c.cells hx hy t old (heap_alloc_new w _) (sizeThing.trans rfl) (hold.trans rfl) c.one (by rw [setRow_alloc]; exact h)
theorem load_thR {l : Nat} {nn : Nat} {ops : Array Oper} {rest : List Oper} {o : Oper} {a : Act} {w : World} {Q : Exit → Act → World → Prop} (hgd : o.guard = none) (x : Operand) (ho : o.op = .load 56 x)
    (g k : Nat) (hx : a.eval x = .pointer (some ⟨g, k, none⟩)) (c : Th) (hc : w.rangeAt g k c.cells.toList)
    (h : wpListIn (Fence.wide.inRound l) nn Try.prog ops Q rest (a.put o.dst c.val) w) : wpListIn (Fence.wide.inRound l) nn Try.prog ops Q (o :: rest) a w :=
  load_midR (fun _ => trivial) hgd 56 x ho g k hx c.cells.toList _ hc Try.underlying56 rfl (sizeThing.trans rfl) h
theorem at_storeIn (T : TypeId) {F : Fence} {nn : Nat} {P : Program} {ops : Array Oper} {rest : List Oper} {a : Act} {w : World} {Q : Exit → Act → World → Prop} {x y : Operand} {dst : Option Tmp} {ty : TypeId} {pos : String} {after : Array Edge}
    (h : wpListIn F nn P ops Q ({ dst, op := .store T x y, type := ty, pos, after, guard := none } :: rest) a w) : wpListIn F nn P ops Q ({ dst, op := .store T x y, type := ty, pos, after, guard := none } :: rest) a w := h
section
variable {g : Nat} {C D : Array Value} {W W' W'' : World}
theorem Turned.other (h : Turned g C W W') {k : Nat} (hk : k < W.heap.size) (hne : k ≠ g) : W'.heap[k]? = W.heap[k]? := by
  obtain ⟨w1, b, rfl⟩ := h
  exact (row_else (by omega)).trans (b.block k hk)
theorem Turned.row (h : Turned g C W W') {T : TypeId} {fr : Nat × Nat} (hg : W.heap[g]? = some (.cells D T fr)) : W'.heap[g]? = some (.cells C T fr) := by
  obtain ⟨w1, b, rfl⟩ := h
  exact row_at ((b.block g (Array.getElem?_eq_some_iff.1 hg).1).trans hg)
theorem setRow_size (W : World) (g : Nat) (C : Array Value) : (W.setRow g C).heap.size = W.heap.size := by unfold World.setRow; simp
theorem Turned.size (h : Turned g C W W') : W.heap.size ≤ W'.heap.size := by
  obtain ⟨w1, b, rfl⟩ := h
  rw [setRow_size]; exact b.size
theorem Turned.below (h : Turned g C W W') {n : Nat} (hn : n ≤ g) (hg : n ≤ W.heap.size) : Below n W W' := by
  have hs := h.size
  have ho := fun k hk hne => h.other (k := k) hk hne
  obtain ⟨w1, b, rfl⟩ := h
  exact ⟨b.os, b.tape, b.output, hs, fun k hk => ho k (by omega) (by omega)⟩
theorem Turned.kx (h : Turned g C W W') {n e : Nat} (hn : n ≤ g) (he : g < e) (hs : e + 2 ≤ W.heap.size) : KX n e W W' :=
  ⟨h.below hn (by omega), fun k _ h2 => h.other (by omega) (by omega)⟩
theorem Turned.from (h : Turned g C W W') {B : Nat} (hg : g < B) : KeepsFrom B W W' :=
  ⟨h.size, fun k o hB hk _ => (h.other (Array.getElem?_eq_some_iff.1 hk).1 (by omega)).trans hk⟩
theorem Turned.t (h : Turned g C W W') (k : Turned g D W' W'') {T : TypeId} {fr : Nat × Nat} {E : Array Value} (hg : W.heap[g]? = some (.cells E T fr)) : Turned g D W W'' := by
  have hlt := (Array.getElem?_eq_some_iff.1 hg).1
  obtain ⟨w1, b, rfl⟩ := h
  obtain ⟨w2, c, rfl⟩ := k
  have r1 : w1.heap[g]? = some (.cells E T fr) := (b.block g hlt).trans hg
  have r2 : w2.heap[g]? = some (.cells C T fr) := (c.block g (by rw [setRow_size]; exact (Array.getElem?_eq_some_iff.1 r1).1)).trans (row_at r1)
  have e : w2.setRow g D = (w2.setRow g E).setRow g D := (setRow_setRow _ _ _ _).symm
  refine ⟨w2.setRow g E, ⟨c.os.trans b.os, c.tape.trans b.tape, c.output.trans b.output, ?_, fun k hk => ?_⟩, e⟩
  · have h1 := c.size
    rw [setRow_size] at h1 ⊢
    exact Nat.le_trans b.size h1
  · by_cases hkg : k = g
    · subst hkg; rw [row_at r2]; exact hg.symm
    · rw [row_else (fun e => hkg e.symm), c.block k (by rw [setRow_size]; exact Nat.lt_of_lt_of_le hk b.size), row_else (fun e => hkg e.symm)]
      exact b.block k hk
theorem turned_set {k : Nat} {v : Value} {T : TypeId} {fr : Nat × Nat} (hg : W.heap[g]? = some (.cells C T fr)) : Turned g (C.setIfInBounds k v) W (W.setCell ⟨g, k, none⟩ v) :=
  ⟨W, Below.refl _ _, setCell_row hg⟩
end
theorem mayL_is (A : Option Addr) (n c : Nat) (L : Nat → Ins) (v : Bool) (hv : mayB L n = v) (w : World) (h : Insts w w.heap.size A n L) (hn : n ≤ 9223372036854775807) :
    Calls Try.prog 10 #[.slice A n c] w fun e w' => e = .returned (.bool v) ∧ Below w.heap.size w w' := by
  have := mayL_any A n c L w h hn; rw [hv] at this; exact this
set_option maxHeartbeats 4000000 in
set_option maxRecDepth 100000 in
theorem of_any (A : Option Addr) (n c : Nat) (L : Nat → Ins) (C : Option Addr) (m d : Nat) (O : Nat → Opn) (v : Int) (w : World) (h : Insts w w.heap.size A n L) (hO : Opns w w.heap.size C m O) (hn : n ≤ 9223372036854775807) (hmax : m ≤ 9223372036854775807) :
    Calls Try.prog 12 #[.slice A n c, .slice C m d, .int .u32 v] w fun e w' => e = .returned (ofS v L n O m).val ∧ Below w.heap.size w w' := by
  refine (callsIn_wide (n := 5)).1 ?_
  refine callsIn_of_wp_marks Try.func12 rfl trivial ?_ rfl
  simp only [Try.ntmps12, List.size_toArray, List.length_cons, List.length_nil, Nat.reduceAdd, Nat.reduceSub, Array.replicate_succ, Array.replicate_zero, List.push_toArray, List.append_toArray, List.nil_append, List.cons_append]
  refine wpIn_wide.2 ?_
  have bb := fun p : Grown (((w.alloc (.cells #[.int .u32 v] 24)).alloc (.cells sm0.cells 31)).alloc (.cells sm0.cells 31)) => bTrans (bAlloc (bAlloc (bAlloc (Below.refl _ w) (.cells #[.int .u32 v] 24)) (.cells sm0.cells 31)) (.cells sm0.cells 31)) p.below
  have h' := fun p : Grown (((w.alloc (.cells #[.int .u32 v] 24)).alloc (.cells sm0.cells 31)).alloc (.cells sm0.cells 31)) => (show Insts p.w1 p.w1.heap.size A n L from Recs.later h (bb p))
  have r5 := fun p : Grown (((w.alloc (.cells #[.int .u32 v] 24)).alloc (.cells sm0.cells 31)).alloc (.cells sm0.cells 31)) => (show p.w1.heap[w.heap.size]? = some (.cells #[.int .u32 v] 24 (0, 0)) from (p.below.block _ (by simp; omega)).trans (heap_under (heap_under (heap_alloc_new w _))))
  have r6 := fun p : Grown (((w.alloc (.cells #[.int .u32 v] 24)).alloc (.cells sm0.cells 31)).alloc (.cells sm0.cells 31)) => (show p.w1.heap[w.heap.size + 1]? = some (.cells sm0.cells 31 (0, 0)) from (p.below.block _ (by simp)).trans (heap_under (by have := heap_alloc_new (w.alloc (.cells #[.int .u32 v] 24)) (.cells sm0.cells 31); simpa using this)))
  have r7 := fun p : Grown (((w.alloc (.cells #[.int .u32 v] 24)).alloc (.cells sm0.cells 31)).alloc (.cells sm0.cells 31)) => (show p.w1.heap[w.heap.size + 1 + 1]? = some (.cells sm0.cells 31 (0, 0)) from (p.below.block _ (by simp)).trans (by have := heap_alloc_new ((w.alloc (.cells #[.int .u32 v] 24)).alloc (.cells sm0.cells 31)) (.cells sm0.cells 31); simpa using this))
  have BB := Lib.hid bb
  have HO := Lib.hid hO
  have HI := Lib.hid h
  clear hO h
  rcases hm : mayB L n with _ | _
  · have M := Lib.hid (fun p : Grown (((w.alloc (.cells #[.int .u32 v] 24)).alloc (.cells sm0.cells 31)).alloc (.cells sm0.cells 31)) => mayL_is A n c L false hm p.w1 (h' p) hn)
    have HV : Hid (ofS v L n O m = sm0) := Lib.hid (by unfold ofS; rw [hm]; rfl)
    clear hm h'
    go_wp2_with fail
    refine (call_grown (p := (⟨_, Below.refl _ _⟩ : Grown (((w.alloc (.cells #[.int .u32 v] 24)).alloc (.cells sm0.cells 31)).alloc (.cells sm0.cells 31)))) (M.out _)).mono ?_
    rintro _ _ ⟨rfl, p, rfl⟩
    have q6 := r6 p
    have R7 := range_row (r7 p)
    go_wp2_with (first | ((with_reducible refine at_load 31 ?_); (refine wpList_load_mid rfl 31 _ rfl (w.heap.size + 1 + 1) 0 rfl sm0.cells.toList _ R7 Try.underlying31 rfl (sizeSum.trans rfl) ?_)) | ((with_reducible refine at_store 31 ?_); (refine store_whole rfl 31 _ _ rfl (w.heap.size + 1) sm0.cells sm0.cells _ rfl rfl q6 (sizeSum.trans rfl) rfl sm0.one ?_)))
    refine ⟨_, results_cell_row rfl _ _ (w.heap.size + 1) _ sm0.cells _ _ rfl (row_at q6) Try.underlying31 rfl (sizeSum.trans rfl), ?_⟩
    exact ⟨by rw [HV.out], below_row _ (BB.out p) (Nat.le_succ _)⟩
  · have M := Lib.hid (fun p : Grown (((w.alloc (.cells #[.int .u32 v] 24)).alloc (.cells sm0.cells 31)).alloc (.cells sm0.cells 31)) => mayL_is A n c L true hm p.w1 (h' p) hn)
    have HV : Hid (ofS v L n O m = sumT v (thsL L n O m)) := Lib.hid (by unfold ofS; rw [hm]; rfl)
    clear h'
    go_wp2_with fail
    refine (call_grown (p := (⟨_, Below.refl _ _⟩ : Grown (((w.alloc (.cells #[.int .u32 v] 24)).alloc (.cells sm0.cells 31)).alloc (.cells sm0.cells 31)))) (M.out _)).mono ?_
    rintro _ _ ⟨rfl, p, rfl⟩
    go_wp2_with fail
    refine (things_any A n c C m d p.w1).mono ?_
    rintro _ _ ⟨rfl, rfl⟩
    go_wp2_with fail
    have hsz : w.heap.size + 3 ≤ p.w1.heap.size := by have := p.below.size; simp at this; omega
    obtain ⟨e0, he0⟩ : ∃ e0, p.w1.heap.size = e0 := ⟨_, rfl⟩
    have x1 : ((p.w1.alloc (.cells #[.slice A n c] 22)).alloc (.cells #[.slice C m d] 23)).cell? ⟨p.w1.heap.size, 0, none⟩ = some (.slice A n c) := cell_row (heap_under (heap_alloc_new _ _)) (by rfl)
    have x2 : ((p.w1.alloc (.cells #[.slice A n c] 22)).alloc (.cells #[.slice C m d] 23)).cell? ⟨p.w1.heap.size + 1, 0, none⟩ = some (.slice C m d) := by
      have := heap_alloc_new (p.w1.alloc (.cells #[.slice A n c] 22)) (.cells #[.slice C m d] 23)
      rw [World.size_alloc] at this
      exact cell_row this (by rfl)
    have b2 : Below p.w1.heap.size p.w1 ((p.w1.alloc (.cells #[.slice A n c] 22)).alloc (.cells #[.slice C m d] 23)) := bAlloc (bAlloc (Below.refl _ _) _) _
    have s2 : ((p.w1.alloc (.cells #[.slice A n c] 22)).alloc (.cells #[.slice C m d] 23)).heap.size = p.w1.heap.size + 2 := by simp
    generalize ((p.w1.alloc (.cells #[.slice A n c] 22)).alloc (.cells #[.slice C m d] 23)) = W2 at x1 x2 b2 s2 ⊢
    obtain ⟨p2, rfl⟩ : ∃ p2 : Grown (((w.alloc (.cells #[.int .u32 v] 24)).alloc (.cells sm0.cells 31)).alloc (.cells sm0.cells 31)), W2 = p2.w1 := ⟨⟨W2, bTrans p.below b2⟩, rfl⟩
    rw [he0] at x1 x2 s2 hsz ⊢
    clear b2 he0 p M
    have R5 := r5 p2
    have R6 := r6 p2
    have R7 := r7 p2
    have B2 := BB.out p2
    have hI2 : Recs p2.w1 w.heap.size A n 12 (insV L) := Recs.below HI.out (B2)
    have hO2 : Recs p2.w1 w.heap.size C m 9 (opnV O) := Recs.below HO.out (B2)
    obtain ⟨W2, hW2⟩ : ∃ W2, W2 = p2.w1 := ⟨_, rfl⟩
    rw [← hW2] at x1 x2 s2 R5 R6 R7 B2 hI2 hO2 ⊢
    clear hW2 p2 r5 r6 r7 HI HO BB bb
    refine (wpIn_wide (n := 5)).1 ?_
    refine wpIn_rangeFunc_ownH rfl (by omega) (gf := 37) (lb := #[.pointer (some ⟨e0, 0, none⟩), .pointer (some ⟨e0 + 1, 0, none⟩)]) rfl trivial (enters_of Try.func37 (by kernel_rfl) rfl)
      (things_stops (5 - 1) w.heap.size e0 A n c L C m d O W2 hI2 hO2 hm hmax x1 x2 (by omega) (by omega)) KX.t (KX.b (by omega) (by omega)) (Below.refl _ _) (fun _ => rfl)
      (fun pre W => W.heap[w.heap.size]? = some (.cells #[.int .u32 v] 24 (0, 0)) ∧ W.heap[w.heap.size + 1]? = some (.cells sm0.cells 31 (0, 0)) ∧ W.heap[w.heap.size + 1 + 1]? = some (.cells (sumT v (pre.map (·.1))).cells 31 (0, 0)) ∧ W2.heap.size ≤ W.heap.size ∧ Below w.heap.size w W)
      (fun _ _ _ => False) ?hI (fun _ _ _ _ _ hs _ _ => hs) ⟨R5, R6, R7, Nat.le_refl _, B2⟩
      (fun x a' W => ∃ Bx, e0 + 2 ≤ Bx ∧ W.heap[Bx]? = some (.cells x.1.cells 56 (0, 0)) ∧ a' = { tmps := #[.slice A n c, .slice C m d, .int .u32 v, undef, undef, .pointer (some ⟨w.heap.size, 0, none⟩), .pointer (some ⟨w.heap.size + 1, 0, none⟩), .pointer (some ⟨w.heap.size + 1 + 1, 0, none⟩), .pointer (some ⟨Bx, 0, none⟩), .slice A n c, .bool true, .bool false, undef, .slice A n c, .slice C m d, .func (.func 37) #[] #[.pointer (some ⟨e0, 0, none⟩), .pointer (some ⟨e0 + 1, 0, none⟩)], x.1.val, undef, undef, undef, undef, undef, undef, undef, undef, undef, undef, undef, undef, undef, undef, undef, undef, undef, undef, undef, undef, undef, undef, undef, undef, undef, undef, undef, undef, undef, undef, undef, undef, undef, undef, undef, undef], defers := [] }) ?hA ?assign ?body ?done ?stop
    case hI =>
      intro s X Y row hs hg hr
      obtain ⟨a, b, c, d, e⟩ := hs
      have key : ∀ k o, k < W2.heap.size → X.heap[k]? = some o → Y.heap[k]? = some o := fun k o hk hX =>
        (hg.block k (Array.getElem?_eq_some_iff.1 hX).1 (fun e => by have := (hr k e.symm).1; omega)).trans hX
      exact ⟨key _ _ (by omega) a, key _ _ (by omega) b, key _ _ (by omega) c, Nat.le_trans d hg.size, ownFrom_below (Nat.le_refl _) (by omega) s X Y row e hg hr⟩
    case hA =>
      intro x a' _ X Y row hs hg hr
      obtain ⟨Bx, h1, h2, h3⟩ := hs
      exact ⟨Bx, h1, (hg.block Bx (Array.getElem?_eq_some_iff.1 h2).1 (fun e => by obtain ⟨_, o, ho, hc⟩ := hr Bx e.symm; rw [h2] at ho; cases ho; cases hc)).trans h2, h3⟩
    case assign =>
      intro l pre x W K hi hK
      obtain ⟨I5, I6, I7, I8, I9⟩ := hi
      have hK := Lib.hid hK
      gi_wp2_with ((with_reducible refine at_storeIn 56 ?_); (refine store_thR rfl _ _ rfl x.1 _ _ rfl rfl rfl ?_))
      exact hK.out _ _ ((KeepsOthers.alloc _ _).from _) (KX.of (bAlloc (Below.refl _ _) _) (by omega) (by omega)) ⟨heap_under I5, heap_under I6, heap_under I7, by simp; omega, bAlloc I9 _⟩ ⟨W.heap.size, by omega, heap_alloc_new _ _, rfl⟩
    case body =>
      rintro l pre x a' W hl hlr ⟨I5, I6, I7, I8, I9⟩ ⟨Bx, hBx, rX, rfl⟩ hlen
      have bd := inSm_all v pre
      obtain ⟨s, hs⟩ : ∃ s, sumT v (pre.map (·.1)) = s := ⟨_, rfl⟩
      rw [hs] at I7 bd
      obtain ⟨b1, b2, b3, b4, b5, b6⟩ := bd
      have hn4 := may_len hm
      have hx := x.2
      have FIN : Hid (∀ W' s', Turned (w.heap.size + 1 + 1) s'.cells W W' → addT v s x.1 = s' → KeepsFrom W2.heap.size W W' ∧ KX w.heap.size e0 W W' ∧ W'.heap[w.heap.size]? = some (.cells #[.int .u32 v] 24 (0, 0)) ∧ W'.heap[w.heap.size + 1]? = some (.cells sm0.cells 31 (0, 0)) ∧ W'.heap[w.heap.size + 1 + 1]? = some (.cells (sumT v ((pre ++ [x]).map (·.1))).cells 31 (0, 0)) ∧ W2.heap.size ≤ W'.heap.size ∧ Below w.heap.size w W') := Lib.hid (fun W' s' hT he =>
        ⟨hT.from (by omega), hT.kx (by omega) (by omega) (by omega), (hT.other (by omega) (by omega)).trans I5, (hT.other (by omega) (by omega)).trans I6, by rw [List.map_append, List.map_cons, List.map_nil, sumT_snoc, hs, he]; exact hT.row I7, Nat.le_trans I8 hT.size, I9.trans (hT.below (by omega) (by omega))⟩)
      obtain ⟨s1, hs1⟩ : ∃ s1 : Sm, s1 = { s with many := s.many + 1 } := ⟨_, rfl⟩
      have W1 : IntKind.i64.wrap (s.many + 1) = s.many + 1 := IntWalk.i64_in _ (by omega)
      have W3 : IntKind.i64.wrap (s.warm + x.1.wt) = s.warm + x.1.wt := IntWalk.i64_in _ (by omega)
      have c5 : W.cell? ⟨w.heap.size, 0, none⟩ = some (.int .u32 v) := cell_row I5 (by rfl)
      have x3 := cell_row rX x.1.f3
      have m5 : W.cell? ⟨w.heap.size + 1 + 1, 5, none⟩ = some (.int .i64 s.many) := cell_row I7 (by rfl)
      have fr := free_row I7
      have J7 : (W.setCell ⟨w.heap.size + 1 + 1, 5, none⟩ (.int .i64 (s.many + 1))).heap[w.heap.size + 1 + 1]? = some (.cells s1.cells 31 (0, 0)) := by
        rw [setCell_row I7]; exact (row_at I7).trans (by rw [hs1]; rfl)
      have JX : (W.setCell ⟨w.heap.size + 1 + 1, 5, none⟩ (.int .i64 (s.many + 1))).heap[Bx]? = some (.cells x.1.cells 56 (0, 0)) := (set_else (by omega)).trans rX
      have y1 := cell_row JX x.1.f1
      have y4 := cell_row JX x.1.f4
      have y5 := cell_row JX x.1.f5
      have y6 := cell_row JX x.1.f6
      have n4 : (W.setCell ⟨w.heap.size + 1 + 1, 5, none⟩ (.int .i64 (s.many + 1))).cell? ⟨w.heap.size + 1 + 1, 4, none⟩ = some (.int .i64 s.warm) := cell_row J7 (by rw [hs1]; rfl)
      have fr1 := free_row J7
      have RX1 := range_row JX
      clear I5 I6 I8 I9 rX JX
      by_cases hv : v = 0
      · have v1 : (v != 0) = false := by simp [hv]
        have hadd : addT v s x.1 = addT 0 s x.1 := by rw [hv]
        subst hs1
        rcases h1 : x.1.serves with _ | _
        · rw [h1] at y4
          rcases h2 : x.1.comes with _ | _
          · rw [h2] at y5
            rcases h3 : x.1.stands with _ | _
            · rw [h3] at y6
              gi_wp2
              exact FIN.out _ { s with many := s.many + 1 } (turned_set I7) (by rw [hadd]; unfold addT; rw [if_neg (fun e => e.1 rfl), h1, h2, h3]; rfl)
            · rw [h3] at y6
              gi_wp2
              exact FIN.out _ { s with many := s.many + 1, warm := s.warm + x.1.wt } ((turned_set I7).t (turned_set J7) I7) (by rw [hadd]; unfold addT; rw [if_neg (fun e => e.1 rfl), h1, h2, h3]; rfl)
          · rw [h2] at y5
            gi_wp2_with (first | ((with_reducible refine at_loadIn 56 ?_); (refine load_thR rfl _ rfl Bx 0 rfl x.1 RX1 ?_)) | (refine ⟨trivial, ?_⟩; gi_at_call 32; refine (CallsIn.inRound l (callsIn_wide.2 (add_any (w.heap.size + 1 + 1) 2 3 ({ s with many := s.many + 1 } : Sm).cells 31 s.com s.comD x.1 _ J7 rfl rfl (by decide) ⟨by omega, by omega⟩ ⟨by omega, by omega⟩ x.2))).mono ?_; rintro e W' ⟨⟨_, rfl⟩, hT⟩))
            gi_wp2
            refine FIN.out _ { s with many := s.many + 1, com := s.com + x.1.wt, comD := s.comD + dem x.1 } ((turned_set (k := 5) (v := .int .i64 (s.many + 1)) I7).t ?_ I7) (by rw [hadd]; unfold addT; rw [if_neg (fun e => e.1 rfl), h1, h2]; rfl)
            have e : addC x.1.spot ({ s with many := s.many + 1 } : Sm).cells 2 3 (s.com + x.1.wt) (s.comD + x.1.wt) = ({ s with many := s.many + 1, com := s.com + x.1.wt, comD := s.comD + dem x.1 } : Sm).cells := by
              unfold dem
              rcases x.1.spot with _ | _
              · rfl
              · simp only [if_true, Int.add_zero]; rfl
            rw [← e]; exact hT
        · rw [h1] at y4
          gi_wp2_with (first | ((with_reducible refine at_loadIn 56 ?_); (refine load_thR rfl _ rfl Bx 0 rfl x.1 RX1 ?_)) | (refine ⟨trivial, ?_⟩; gi_at_call 32; refine (CallsIn.inRound l (callsIn_wide.2 (add_any (w.heap.size + 1 + 1) 0 1 ({ s with many := s.many + 1 } : Sm).cells 31 s.live s.liveD x.1 _ J7 rfl rfl (by decide) ⟨by omega, by omega⟩ ⟨by omega, by omega⟩ x.2))).mono ?_; rintro e W' ⟨⟨_, rfl⟩, hT⟩))
          gi_wp2
          refine FIN.out _ { s with many := s.many + 1, live := s.live + x.1.wt, liveD := s.liveD + dem x.1 } ((turned_set (k := 5) (v := .int .i64 (s.many + 1)) I7).t ?_ I7) (by rw [hadd]; unfold addT; rw [if_neg (fun e => e.1 rfl), h1]; rfl)
          have e : addC x.1.spot ({ s with many := s.many + 1 } : Sm).cells 0 1 (s.live + x.1.wt) (s.liveD + x.1.wt) = ({ s with many := s.many + 1, live := s.live + x.1.wt, liveD := s.liveD + dem x.1 } : Sm).cells := by
            unfold dem
            rcases x.1.spot with _ | _
            · rfl
            · simp only [if_true, Int.add_zero]; rfl
          rw [← e]; exact hT
      · have v1 : (v != 0) = true := by simp [hv]
        by_cases hw : x.1.ver = v
        · have v2 : (x.1.ver != v) = false := by simp [hw]
          have hadd : addT v s x.1 = addT 0 s x.1 := by unfold addT; rw [if_neg (show ¬ (v ≠ 0 ∧ x.1.ver ≠ v) from fun e => e.2 hw), if_neg (show ¬ ((0 : Int) ≠ 0 ∧ x.1.ver ≠ 0) from fun e => e.1 rfl)]
          subst hs1
          rcases h1 : x.1.serves with _ | _
          · rw [h1] at y4
            rcases h2 : x.1.comes with _ | _
            · rw [h2] at y5
              rcases h3 : x.1.stands with _ | _
              · rw [h3] at y6
                gi_wp2
                exact FIN.out _ { s with many := s.many + 1 } (turned_set I7) (by rw [hadd]; unfold addT; rw [if_neg (fun e => e.1 rfl), h1, h2, h3]; rfl)
              · rw [h3] at y6
                gi_wp2
                exact FIN.out _ { s with many := s.many + 1, warm := s.warm + x.1.wt } ((turned_set I7).t (turned_set J7) I7) (by rw [hadd]; unfold addT; rw [if_neg (fun e => e.1 rfl), h1, h2, h3]; rfl)
            · rw [h2] at y5
              gi_wp2_with (first | ((with_reducible refine at_loadIn 56 ?_); (refine load_thR rfl _ rfl Bx 0 rfl x.1 RX1 ?_)) | (refine ⟨trivial, ?_⟩; gi_at_call 32; refine (CallsIn.inRound l (callsIn_wide.2 (add_any (w.heap.size + 1 + 1) 2 3 ({ s with many := s.many + 1 } : Sm).cells 31 s.com s.comD x.1 _ J7 rfl rfl (by decide) ⟨by omega, by omega⟩ ⟨by omega, by omega⟩ x.2))).mono ?_; rintro e W' ⟨⟨_, rfl⟩, hT⟩))
              gi_wp2
              refine FIN.out _ { s with many := s.many + 1, com := s.com + x.1.wt, comD := s.comD + dem x.1 } ((turned_set (k := 5) (v := .int .i64 (s.many + 1)) I7).t ?_ I7) (by rw [hadd]; unfold addT; rw [if_neg (fun e => e.1 rfl), h1, h2]; rfl)
              have e : addC x.1.spot ({ s with many := s.many + 1 } : Sm).cells 2 3 (s.com + x.1.wt) (s.comD + x.1.wt) = ({ s with many := s.many + 1, com := s.com + x.1.wt, comD := s.comD + dem x.1 } : Sm).cells := by
                unfold dem
                rcases x.1.spot with _ | _
                · rfl
                · simp only [if_true, Int.add_zero]; rfl
              rw [← e]; exact hT
          · rw [h1] at y4
            gi_wp2_with (first | ((with_reducible refine at_loadIn 56 ?_); (refine load_thR rfl _ rfl Bx 0 rfl x.1 RX1 ?_)) | (refine ⟨trivial, ?_⟩; gi_at_call 32; refine (CallsIn.inRound l (callsIn_wide.2 (add_any (w.heap.size + 1 + 1) 0 1 ({ s with many := s.many + 1 } : Sm).cells 31 s.live s.liveD x.1 _ J7 rfl rfl (by decide) ⟨by omega, by omega⟩ ⟨by omega, by omega⟩ x.2))).mono ?_; rintro e W' ⟨⟨_, rfl⟩, hT⟩))
            gi_wp2
            refine FIN.out _ { s with many := s.many + 1, live := s.live + x.1.wt, liveD := s.liveD + dem x.1 } ((turned_set (k := 5) (v := .int .i64 (s.many + 1)) I7).t ?_ I7) (by rw [hadd]; unfold addT; rw [if_neg (fun e => e.1 rfl), h1]; rfl)
            have e : addC x.1.spot ({ s with many := s.many + 1 } : Sm).cells 0 1 (s.live + x.1.wt) (s.liveD + x.1.wt) = ({ s with many := s.many + 1, live := s.live + x.1.wt, liveD := s.liveD + dem x.1 } : Sm).cells := by
              unfold dem
              rcases x.1.spot with _ | _
              · rfl
              · simp only [if_true, Int.add_zero]; rfl
            rw [← e]; exact hT
        · have v2 : (x.1.ver != v) = true := by simp [hw]
          have hadd : addT v s x.1 = s := by unfold addT; rw [if_pos ⟨hv, hw⟩]
          gi_wp2
          exact FIN.out _ s ⟨W, Below.refl _ _, (St0.setRow_self I7).symm⟩ hadd
    case stop =>
      rintro D c pre W _ _ h _
      exact h.elim
    case done =>
      rintro D ys W hD hS ⟨I5, I6, I7, I8, I9⟩ hK
      rw [hS] at I7
      have R7 := range_row I7
      go_wp2_with (first | ((with_reducible refine at_load 31 ?_); (refine wpList_load_mid rfl 31 _ rfl (w.heap.size + 1 + 1) 0 rfl (sumT v (thsL L n O m)).cells.toList _ R7 Try.underlying31 rfl (sizeSum.trans rfl) ?_)) | ((with_reducible refine at_store 31 ?_); (refine store_whole rfl 31 _ _ rfl (w.heap.size + 1) (sumT v (thsL L n O m)).cells sm0.cells _ rfl rfl I6 (sizeSum.trans rfl) rfl (Sm.one _) ?_)))
      have hK2 : (W.setRow (w.heap.size + 1) (sumT v (thsL L n O m)).cells).heap[D]? = some (.deferred (some [])) := (row_else (by omega)).trans hK
      refine ⟨by simp, .inl ⟨_, _, rfl, run_takeDeferred hK2, ?_⟩⟩
      refine ⟨_, results_cell_row rfl _ _ (w.heap.size + 1) _ (sumT v (thsL L n O m)).cells _ _ rfl ((World.putObj_heap_other (by omega)).trans (row_at I6)) Try.underlying31 rfl (sizeSum.trans rfl), ?_⟩
      exact ⟨by rw [HV.out], (below_row _ I9 (Nat.le_succ _)).trans (belowK_b (w := w) (Nat.le_refl _) _ D _ _ (by omega) hK2 rfl rfl)⟩
end Go.Proofs.Ytcgeoaegalloaaa.Thg
