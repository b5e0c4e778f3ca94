
/- What the program says is the load of pools (sums.Load). -/
import Derived.Test.YtcgeoaegalloaaaLdA
import Derived.BigRegionIn
namespace Go.Proofs.Ytcgeoaegalloaaa.Thg
open Go.RowKit Go.Shelf
open Go.ChangeShapes Go.WideShapes Go.ChangeAt
open Mem Arr Lst Rec Inst Grown Sums Opens St0
attribute [local go_sem] Oper.semAt_some
/-- a list of numbers that was answered -/
def Ints (w : World) (A : Option Addr) (n : Nat) (f : Nat → Int) : Prop := (A = none → n = 0) ∧ (0 < n → ∃ g, A = some ⟨g, 0, none⟩ ∧ g < w.heap.size ∧ ∀ i, i < n → w.cell? ⟨g, i, none⟩ = some (.int .i64 (f i)))
def loadN (L : Nat → Ins) (n : Nat) (P : Int) : Nat := if loadOk L n P = true then P.toNat else 0
theorem Turned.drew {C : Nat} {row : Array Value} {X Y : World} (h : Turned C row X Y) : Turned C row X Y.drew := by
  obtain ⟨Z, h1, h2⟩ := h
  exact ⟨Z.drew, bDrew h1, by rw [h2]; rfl⟩
set_option maxHeartbeats 8000000 in
set_option maxRecDepth 100000 in
theorem load_any (A : Option Addr) (n c : Nat) (L : Nat → Ins) (C : Option Addr) (m d : Nat) (O : Nat → Opn) (v P : Int) (w : World) (h : Insts w w.heap.size A n L) (hO : Opns w w.heap.size C m O) (hn : n ≤ 9223372036854775807) (hmax : m ≤ 9223372036854775807) :
    Calls Try.prog 8 #[.slice A n c, .slice C m d, .int .u32 v, .int .i64 P] w fun e w' => (∃ A' c', e = .returned (.slice A' (loadN L n P) c') ∧ Ints w' A' (loadN L n P) (loadL v P (thsL L n O m))) ∧ Below w.heap.size w w' := by
  refine (callsIn_wide (n := 5)).1 ?_
  refine callsIn_of_wp_marks Try.func8 rfl trivial ?_ rfl
  simp only [Try.ntmps8, List.size_toArray, List.length_cons, List.length_nil, Nat.reduceAdd, Nat.reduceSub, Array.replicate_succ, Array.replicate_zero, List.push_toArray, List.append_toArray, List.nil_append, List.cons_append]
  refine wpIn_wide.2 ?_
  have bb := fun p : Grown ((w.alloc (.cells #[.int .u32 v] 24)).alloc (.cells #[.int .i64 P] 3)) => bTrans (bAlloc (bAlloc (Below.refl _ w) (.cells #[.int .u32 v] 24)) (.cells #[.int .i64 P] 3)) p.below
  have h' := fun p : Grown ((w.alloc (.cells #[.int .u32 v] 24)).alloc (.cells #[.int .i64 P] 3)) => (show Insts p.w1 p.w1.heap.size A n L from Recs.later h (bb p))
  have r6 := fun p : Grown ((w.alloc (.cells #[.int .u32 v] 24)).alloc (.cells #[.int .i64 P] 3)) => (show p.w1.heap[w.heap.size]? = some (.cells #[.int .u32 v] 24 (0, 0)) from (p.below.block _ (by simp; omega)).trans (heap_under (heap_alloc_new w _)))
  have r7 := fun p : Grown ((w.alloc (.cells #[.int .u32 v] 24)).alloc (.cells #[.int .i64 P] 3)) => (show p.w1.heap[w.heap.size + 1]? = some (.cells #[.int .i64 P] 3 (0, 0)) from (p.below.block _ (by simp)).trans (by have := heap_alloc_new (w.alloc (.cells #[.int .u32 v] 24)) (.cells #[.int .i64 P] 3); simpa using this))
  have c7 := fun p : Grown ((w.alloc (.cells #[.int .u32 v] 24)).alloc (.cells #[.int .i64 P] 3)) => cell_row (r7 p) (k := 0) (v := .int .i64 P) (by rfl)
  have BB := Lib.hid bb
  have HO := Lib.hid hO
  have HI := Lib.hid h
  clear hO h
  rcases hm : mayB L n with _ | _
  · have M := Lib.hid (fun p : Grown ((w.alloc (.cells #[.int .u32 v] 24)).alloc (.cells #[.int .i64 P] 3)) => mayL_is A n c L false hm p.w1 (h' p) hn)
    have HV : Hid (loadN L n P = 0) := Lib.hid (by unfold loadN loadOk; rw [hm]; rfl)
    clear hm h' r6 r7
    go_wp2_with fail
    refine (call_grown (p := (⟨_, Below.refl _ _⟩ : Grown ((w.alloc (.cells #[.int .u32 v] 24)).alloc (.cells #[.int .i64 P] 3)))) (M.out _)).mono ?_
    rintro _ _ ⟨rfl, p, rfl⟩
    go_wp2
    refine ⟨_, results_tmp rfl _ _ _, ⟨⟨none, 0, by rw [HV.out]; rfl, by rw [HV.out]; exact ⟨fun _ => rfl, fun e => absurd e (by omega)⟩⟩, BB.out p⟩⟩
  · have M := Lib.hid (fun p : Grown ((w.alloc (.cells #[.int .u32 v] 24)).alloc (.cells #[.int .i64 P] 3)) => mayL_is A n c L true hm p.w1 (h' p) hn)
    by_cases q1 : P < 1
    · have d1 := decide_eq_true q1
      have HV : Hid (loadN L n P = 0) := Lib.hid (by unfold loadN loadOk; rw [hm, decide_eq_false (show ¬ (1 ≤ P ∧ P ≤ 64) by omega)]; rfl)
      clear hm h' r6 r7
      go_wp2_with fail
      refine (call_grown (p := (⟨_, Below.refl _ _⟩ : Grown ((w.alloc (.cells #[.int .u32 v] 24)).alloc (.cells #[.int .i64 P] 3)))) (M.out _)).mono ?_
      rintro _ _ ⟨rfl, p, rfl⟩
      go_wp2
      refine ⟨_, results_tmp rfl _ _ _, ⟨⟨none, 0, by rw [HV.out]; rfl, by rw [HV.out]; exact ⟨fun _ => rfl, fun e => absurd e (by omega)⟩⟩, BB.out p⟩⟩
    · have d1 := decide_eq_false q1
      by_cases q2 : 64 < P
      · have d2 := decide_eq_true q2
        have HV : Hid (loadN L n P = 0) := Lib.hid (by unfold loadN loadOk; rw [hm, decide_eq_false (show ¬ (1 ≤ P ∧ P ≤ 64) by omega)]; rfl)
        clear hm h' r6 r7
        go_wp2_with fail
        refine (call_grown (p := (⟨_, Below.refl _ _⟩ : Grown ((w.alloc (.cells #[.int .u32 v] 24)).alloc (.cells #[.int .i64 P] 3)))) (M.out _)).mono ?_
        rintro _ _ ⟨rfl, p, rfl⟩
        go_wp2
        refine ⟨_, results_tmp rfl _ _ _, ⟨⟨none, 0, by rw [HV.out]; rfl, by rw [HV.out]; exact ⟨fun _ => rfl, fun e => absurd e (by omega)⟩⟩, BB.out p⟩⟩
      · have d2 := decide_eq_false q2
        have HV : Hid (loadN L n P = P.toNat) := Lib.hid (by unfold loadN loadOk; rw [hm, decide_eq_true (show 1 ≤ P ∧ P ≤ 64 by omega)]; rfl)
        obtain ⟨N, rfl⟩ : ∃ N : Nat, P = (N : Int) := ⟨P.toNat, by omega⟩
        have hN1 : 1 ≤ N := by omega
        have hN2 : N ≤ 64 := by omega
        have hmk := fun w => mkL N (by omega) w
        clear h'
        go_wp2_with fail
        refine (call_grown (p := (⟨_, Below.refl _ _⟩ : Grown _)) (M.out _)).mono ?_
        rintro _ _ ⟨rfl, p, rfl⟩
        go_wp2_with fail
        have hsz : w.heap.size + 2 ≤ p.w1.heap.size := by have := p.below.size; simp at this; omega
        refine (things_any A n c C m d _).mono ?_
        rintro _ _ ⟨rfl, rfl⟩
        go_wp2_with fail
        have rL : ((((p.w1.alloc (.cells (rowA (fun _ => 0) N) 2)).alloc (.cells #[.slice (some ⟨p.w1.heap.size, 0, none⟩) N N] 27)).alloc (.cells #[.slice A n c] 22)).alloc (.cells #[.slice C m d] 23)).heap[p.w1.heap.size]? = some (.cells (rowA (fun _ => 0) N) 2 (0, 0)) := heap_under (heap_under (heap_under (heap_alloc_new _ _)))
        have rS : ((((p.w1.alloc (.cells (rowA (fun _ => 0) N) 2)).alloc (.cells #[.slice (some ⟨p.w1.heap.size, 0, none⟩) N N] 27)).alloc (.cells #[.slice A n c] 22)).alloc (.cells #[.slice C m d] 23)).heap[p.w1.heap.size + 1]? = some (.cells #[.slice (some ⟨p.w1.heap.size, 0, none⟩) N N] 27 (0, 0)) := by
          have := heap_alloc_new (p.w1.alloc (.cells (rowA (fun _ => 0) N) 2)) (.cells #[.slice (some ⟨p.w1.heap.size, 0, none⟩) N N] 27)
          rw [World.size_alloc] at this
          exact heap_under (heap_under this)
        have x1 : ((((p.w1.alloc (.cells (rowA (fun _ => 0) N) 2)).alloc (.cells #[.slice (some ⟨p.w1.heap.size, 0, none⟩) N N] 27)).alloc (.cells #[.slice A n c] 22)).alloc (.cells #[.slice C m d] 23)).cell? ⟨p.w1.heap.size + 1 + 1, 0, none⟩ = some (.slice A n c) := by
          have := heap_alloc_new ((p.w1.alloc (.cells (rowA (fun _ => 0) N) 2)).alloc (.cells #[.slice (some ⟨p.w1.heap.size, 0, none⟩) N N] 27)) (.cells #[.slice A n c] 22)
          rw [World.size_alloc, World.size_alloc] at this
          exact cell_row (heap_under this) (by rfl)
        have x2 : ((((p.w1.alloc (.cells (rowA (fun _ => 0) N) 2)).alloc (.cells #[.slice (some ⟨p.w1.heap.size, 0, none⟩) N N] 27)).alloc (.cells #[.slice A n c] 22)).alloc (.cells #[.slice C m d] 23)).cell? ⟨p.w1.heap.size + 1 + 1 + 1, 0, none⟩ = some (.slice C m d) := by
          have := heap_alloc_new (((p.w1.alloc (.cells (rowA (fun _ => 0) N) 2)).alloc (.cells #[.slice (some ⟨p.w1.heap.size, 0, none⟩) N N] 27)).alloc (.cells #[.slice A n c] 22)) (.cells #[.slice C m d] 23)
          rw [World.size_alloc, World.size_alloc, World.size_alloc] at this
          exact cell_row this (by rfl)
        have b2 : Below p.w1.heap.size p.w1 ((((p.w1.alloc (.cells (rowA (fun _ => 0) N) 2)).alloc (.cells #[.slice (some ⟨p.w1.heap.size, 0, none⟩) N N] 27)).alloc (.cells #[.slice A n c] 22)).alloc (.cells #[.slice C m d] 23)) := bAlloc (bAlloc (bAlloc (bAlloc (Below.refl _ _) _) _) _) _
        have s2 : ((((p.w1.alloc (.cells (rowA (fun _ => 0) N) 2)).alloc (.cells #[.slice (some ⟨p.w1.heap.size, 0, none⟩) N N] 27)).alloc (.cells #[.slice A n c] 22)).alloc (.cells #[.slice C m d] 23)).heap.size = p.w1.heap.size + 4 := by simp
        generalize ((((p.w1.alloc (.cells (rowA (fun _ => 0) N) 2)).alloc (.cells #[.slice (some ⟨p.w1.heap.size, 0, none⟩) N N] 27)).alloc (.cells #[.slice A n c] 22)).alloc (.cells #[.slice C m d] 23)) = W2 at rL rS x1 x2 b2 s2 ⊢
        obtain ⟨p2, rfl⟩ : ∃ p2 : Grown ((w.alloc (.cells #[.int .u32 v] 24)).alloc (.cells #[.int .i64 (N : Int)] 3)), W2 = p2.w1 := ⟨⟨W2, bTrans p.below b2⟩, rfl⟩
        obtain ⟨gL, hgL⟩ : ∃ gL, p.w1.heap.size = gL := ⟨_, rfl⟩
        have R6 := r6 p2
        have R7 := r7 p2
        have B2 := BB.out p2
        have hI2 : Recs p2.w1 w.heap.size A n 12 (insV L) := Recs.below HI.out (B2)
        have hO2 : Recs p2.w1 w.heap.size C m 9 (opnV O) := Recs.below HO.out (B2)
        obtain ⟨W2, hW2⟩ : ∃ W2, W2 = p2.w1 := ⟨_, rfl⟩
        rw [← hW2] at rL rS x1 x2 s2 R6 R7 B2 hI2 hO2 ⊢
        rw [hgL] at rL rS x1 x2 s2 hsz ⊢
        clear hW2 b2 p2 r6 r7 c7 HI HO BB bb hgL p M hmk
        refine (wpIn_wide (n := 5)).1 ?_
        obtain ⟨e0, he0⟩ : ∃ e0, gL + 1 + 1 = e0 := ⟨_, rfl⟩
        rw [he0] at x1 x2 ⊢
        refine wpIn_rangeFunc_ownH rfl (by omega) (gf := 37) (lb := #[.pointer (some ⟨e0, 0, none⟩), .pointer (some ⟨e0 + 1, 0, none⟩)]) rfl trivial (enters_of Try.func37 (by kernel_rfl) rfl)
          (things_stops (5 - 1) w.heap.size e0 A n c L C m d O W2 hI2 hO2 hm hmax x1 x2 (by omega) (by omega)) KX.t (KX.b (by omega) (by omega)) (Below.refl _ _) (fun _ => rfl)
          (fun pre W => W.heap[w.heap.size]? = some (.cells #[.int .u32 v] 24 (0, 0)) ∧ W.heap[w.heap.size + 1]? = some (.cells #[.int .i64 (N : Int)] 3 (0, 0)) ∧ W.heap[gL + 1]? = some (.cells #[.slice (some ⟨gL, 0, none⟩) N N] 27 (0, 0)) ∧ W.heap[gL]? = some (.cells (rowA (loadL v N (pre.map (·.1))) N) 2 (0, 0)) ∧ W2.heap.size ≤ W.heap.size ∧ Below w.heap.size w W)
          (fun _ _ _ => False) ?hI (fun _ _ _ _ _ hs _ _ => hs) ⟨R6, R7, rS, rL, Nat.le_refl _, B2⟩
          (fun x a' W => ∃ Bx, e0 + 2 ≤ Bx ∧ W.heap[Bx]? = some (.cells x.1.cells 56 (0, 0)) ∧ a' = { tmps := #[.slice A n c, .slice C m d, .int .u32 v, .int .i64 (N : Int), undef, undef, .pointer (some ⟨w.heap.size, 0, none⟩), .pointer (some ⟨w.heap.size + 1, 0, none⟩), .slice none 0 0, .pointer (some ⟨gL + 1, 0, none⟩), .pointer (some ⟨Bx, 0, none⟩), .slice A n c, .bool true, .bool false, .bool false, .int .i64 (N : Int), .bool false, .bool false, .bool false, .int .i64 (N : Int), .bool false, .bool false, .int .i64 (N : Int), .slice (some ⟨gL, 0, none⟩) N N, .slice A n c, .slice C m d, .func (.func 37) #[] #[.pointer (some ⟨e0, 0, none⟩), .pointer (some ⟨e0 + 1, 0, none⟩)], x.1.val, undef, undef, undef, undef, undef, undef, undef, undef, undef, undef, undef, undef, undef, undef, undef, undef, undef, undef, undef, undef, undef, undef, undef, undef, undef, undef, undef, undef, undef, undef, undef, undef, undef, undef, undef, undef, undef], defers := [] }) ?hA ?assign ?body ?done ?stop
        case hI =>
          intro s X Y row hs hg hr
          obtain ⟨a, b, c, d, e, f⟩ := hs
          have key : ∀ k o, k < W2.heap.size → X.heap[k]? = some o → Y.heap[k]? = some o := fun k o hk hX =>
            (hg.block k (Array.getElem?_eq_some_iff.1 hX).1 (fun e => by have := (hr k e.symm).1; omega)).trans hX
          exact ⟨key _ _ (by omega) a, key _ _ (by omega) b, key _ _ (by omega) c, key _ _ (by omega) d, Nat.le_trans e hg.size, ownFrom_below (Nat.le_refl _) (by omega) s X Y row f hg hr⟩
        case hA =>
          intro x a' _ X Y row hs hg hr
          obtain ⟨Bx, h1, h2, h3⟩ := hs
          exact ⟨Bx, h1, (hg.block Bx (Array.getElem?_eq_some_iff.1 h2).1 (fun e => by obtain ⟨_, o, ho, hc⟩ := hr Bx e.symm; rw [h2] at ho; cases ho; cases hc)).trans h2, h3⟩
        case assign =>
          intro l pre x W K hi hK
          obtain ⟨I5, I6, I7, I8, I9, I10⟩ := hi
          have hK := Lib.hid hK
          gi_wp2_with ((with_reducible refine at_storeIn 56 ?_); (refine store_thR rfl _ _ rfl x.1 _ _ rfl rfl rfl ?_))
          exact hK.out _ _ ((KeepsOthers.alloc _ _).from _) (KX.of (bAlloc (Below.refl _ _) _) (by omega) (by omega)) ⟨heap_under I5, heap_under I6, heap_under I7, heap_under I8, by simp; omega, bAlloc I10 _⟩ ⟨W.heap.size, by omega, heap_alloc_new _ _, rfl⟩
        case body =>
          rintro l pre x a' W hl hlr ⟨I5, I6, I7, I8, I9, I10⟩ ⟨Bx, hBx, rX, rfl⟩ hlen
          have yw := x.2
          have hn4 := may_len hm
          obtain ⟨f, hf⟩ : ∃ f, loadL v N (pre.map (·.1)) = f := ⟨_, rfl⟩
          have fb := fun i => load_in v N (pre.map (·.1)) (by
            intro t ht
            rw [List.mem_map] at ht
            obtain ⟨y, _, rfl⟩ := ht
            exact y.2) i
          rw [hf] at I8 fb
          rw [List.length_map] at fb
          have FIN : Hid (∀ W' f', Turned gL (rowA f' N) W W' → loadT v N f x.1 = f' → KeepsFrom W2.heap.size W W' ∧ KX w.heap.size e0 W W' ∧ W'.heap[w.heap.size]? = some (.cells #[.int .u32 v] 24 (0, 0)) ∧ W'.heap[w.heap.size + 1]? = some (.cells #[.int .i64 (N : Int)] 3 (0, 0)) ∧ W'.heap[gL + 1]? = some (.cells #[.slice (some ⟨gL, 0, none⟩) N N] 27 (0, 0)) ∧ W'.heap[gL]? = some (.cells (rowA (loadL v N ((pre ++ [x]).map (·.1))) N) 2 (0, 0)) ∧ W2.heap.size ≤ W'.heap.size ∧ Below w.heap.size w W') := Lib.hid (fun W' f' hT he =>
            ⟨hT.from (by omega), hT.kx (by omega) (by omega) (by omega), (hT.other (by omega) (by omega)).trans I5, (hT.other (by omega) (by omega)).trans I6, (hT.other (by omega) (by omega)).trans I7, by rw [List.map_append, List.map_cons, List.map_nil, load_snoc, hf, he]; exact hT.row I8, Nat.le_trans I9 hT.size, I10.trans (hT.below (by omega) (by omega))⟩)
          have SAME : Hid (loadB v N x.1 = false → KeepsFrom W2.heap.size W W ∧ KX w.heap.size e0 W W ∧ W.heap[w.heap.size]? = some (.cells #[.int .u32 v] 24 (0, 0)) ∧ W.heap[w.heap.size + 1]? = some (.cells #[.int .i64 (N : Int)] 3 (0, 0)) ∧ W.heap[gL + 1]? = some (.cells #[.slice (some ⟨gL, 0, none⟩) N N] 27 (0, 0)) ∧ W.heap[gL]? = some (.cells (rowA (loadL v N ((pre ++ [x]).map (·.1))) N) 2 (0, 0)) ∧ W2.heap.size ≤ W.heap.size ∧ Below w.heap.size w W) := Lib.hid (fun hb => FIN.out W f ⟨W, Below.refl _ _, (St0.setRow_self I8).symm⟩ (by unfold loadT; rw [hb]; rfl))
          have k6 : W.cell? ⟨w.heap.size, 0, none⟩ = some (.int .u32 v) := cell_row I5 (by rfl)
          have k7 : W.cell? ⟨w.heap.size + 1, 0, none⟩ = some (.int .i64 (N : Int)) := cell_row I6 (by rfl)
          have k9 : W.cell? ⟨gL + 1, 0, none⟩ = some (.slice (some ⟨gL, 0, none⟩) N N) := cell_row I7 (by rfl)
          have x0 := cell_row rX x.1.f0
          have x1' := cell_row rX x.1.f1
          have x3 := cell_row rX x.1.f3
          have x4 := cell_row rX x.1.f4
          have x5 := cell_row rX x.1.f5
          have x7 := cell_row rX x.1.f7
          have fr := free_row I8
          have R8 := Lib.hid I8
          clear I5 I6 I7 I8 I9 I10 rX
          replace s2 := Lib.hid s2
          by_cases q1 : x.1.ver = v
          · have e1 : (x.1.ver == v) = true := by simp [q1]
            by_cases q2 : 0 ≤ x.1.pool
            · have e2 := decide_eq_true q2
              by_cases q3 : x.1.pool < N
              · have e3 := decide_eq_true q3
                obtain ⟨j, hj⟩ : ∃ j : Nat, x.1.pool = (j : Int) := ⟨x.1.pool.toNat, by omega⟩
                have hjN : j < N := by omega
                have cj : W.cell? ⟨gL, j, none⟩ = some (.int .i64 (f j)) := cell_row R8.out (rowA_at hjN)
                have ww : IntKind.i64.wrap (f j + x.1.wt) = f j + x.1.wt := IntWalk.i64_in _ (by have := fb j; omega)
                have TT : Hid (loadB v N x.1 = true → Turned gL (rowA (loadT v N f x.1) N) W (W.setCell ⟨gL, j, none⟩ (.int .i64 (f j + x.1.wt)))) := Lib.hid (fun hb => by
                  have := turned_set (k := j) (v := .int .i64 (f j + x.1.wt)) R8.out
                  rw [rowA_set] at this
                  have e : loadT v N f x.1 = fun i => if i = j then f j + x.1.wt else f i := by
                    funext i
                    unfold loadT
                    rw [hb, if_pos rfl]
                    show (if i = x.1.pool.toNat then f i + x.1.wt else f i) = _
                    rw [hj, Int.toNat_natCast]
                    by_cases hij : i = j
                    · subst hij; simp
                    · rw [if_neg hij, if_neg hij]
                  rw [e]; exact this)
                rw [hj] at x0
                have FINB := Lib.hid (fun (hb : loadB v N x.1 = true) W' (h : Turned gL (rowA (loadT v N f x.1) N) W W') => FIN.out W' _ h rfl)
                have n0 : decide ((j : Int) < 0) = false := decide_eq_false (by omega)
                have n1 : decide (j < N) = true := decide_eq_true hjN
                clear FIN
                have ww' := ww
                have YES := Lib.hid (fun (hb : (x.1.serves || x.1.comes || x.1.opn) = true) => have hl : loadB v N x.1 = true := (by unfold loadB; rw [decide_eq_true ⟨q1, q2, by omega⟩, hb]; rfl); FINB.out hl _ (TT.out hl).drew)
                clear FINB TT
                rcases v4 : x.1.serves with _ | _
                · rw [v4] at x4
                  rcases v5 : x.1.comes with _ | _
                  · rw [v5] at x5
                    rcases v7 : x.1.opn with _ | _
                    · rw [v7] at x7
                      have hb := SAME.out (by unfold loadB; rw [v4, v5, v7]; simp)
                      gi_wp2
                      exact hb
                    · rw [v7] at x7
                      clear SAME
                      gi_wp2
                      gi_region
                      all_goals exact YES.out (by rw [v4, v5, v7]; rfl)
                  · rw [v5] at x5
                    clear SAME
                    gi_wp2
                    gi_region
                    all_goals exact YES.out (by rw [v4, v5]; rfl)
                · rw [v4] at x4
                  clear SAME
                  gi_wp2
                  gi_region
                  all_goals exact YES.out (by rw [v4]; rfl)
              · have e3 := decide_eq_false q3
                have hb := SAME.out (by unfold loadB; rw [decide_eq_false (fun e => q3 e.2.2)]; rfl)
                gi_wp2
                exact hb
            · have e2 := decide_eq_false q2
              have hb := SAME.out (by unfold loadB; rw [decide_eq_false (fun e => q2 e.2.1)]; rfl)
              gi_wp2
              exact hb
          · have e1 : (x.1.ver == v) = false := by simp [q1]
            have hb := SAME.out (by unfold loadB; rw [decide_eq_false (fun e => q1 e.1)]; rfl)
            gi_wp2
            exact hb
        case stop =>
          rintro D c pre W _ _ h _
          exact h.elim
        case done =>
          rintro D ys W hD hS ⟨I5, I6, I7, I8, I9, I10⟩ hK
          rw [hS] at I8
          have cS : W.cell? ⟨gL + 1, 0, none⟩ = some (.slice (some ⟨gL, 0, none⟩) N N) := cell_row I7 (by rfl)
          go_wp2
          refine ⟨by simp, .inl ⟨_, _, rfl, run_takeDeferred hK, ?_⟩⟩
          refine ⟨_, results_tmp rfl _ _ _, ?_⟩
          have hne : D ≠ gL := by omega
          refine ⟨⟨some ⟨gL, 0, none⟩, N, ?_, ?_⟩, I10.trans (belowK_b (w := w) (Nat.le_refl _) _ D _ _ (by omega) hK rfl rfl)⟩
          · rw [HV.out, Int.toNat_natCast]; rfl
          · rw [HV.out, Int.toNat_natCast]
            have hr : (W.putObj D (.deferred none)).heap[gL]? = some (.cells (rowA (loadL v N (thsL L n O m)) N) 2 (0, 0)) := (World.putObj_heap_other (by omega)).trans I8
            exact ⟨fun e => (by cases e), fun _ => ⟨gL, rfl, lt_of hr, fun i hi => cell_row hr (rowA_at hi)⟩⟩
end Go.Proofs.Ytcgeoaegalloaaa.Thg
