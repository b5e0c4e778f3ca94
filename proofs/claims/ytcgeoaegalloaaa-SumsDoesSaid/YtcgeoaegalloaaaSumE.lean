
/- Layer 17: what Add and Drop refuse; the example of the laws. -/
import Derived.Test.YtcgeoaegalloaaaSumR
import Derived.Test.YtcgeoaegalloaaaFnd
namespace Go.Proofs.Ytcgeoaegalloaaa.Thg
open Go.ChangeShapes Go.WideShapes Go.ChangeAt Go.RowKit
open Mem Arr Lst Rec Inst Grown Sums Opens St0
theorem load_sum6 {ops : Array Oper} {rest : List Oper} {o : Oper} {a : Act} {w : World} {Q : Exit → Act → World → Prop} (hgd : o.guard = none) (x : Operand) (ho : o.op = .load 31 x)
    (g : Nat) (hx : a.eval x = .pointer (some ⟨g, 0, none⟩)) (c : Sm) (hc : w.heap[g]? = some (.cells c.cells 31 (0, 0)))
    (h : wpList Try.prog ops Q rest (a.put o.dst (.agg #[.int .i64 c.live, .int .i64 c.liveD, .int .i64 c.com, .int .i64 c.comD, .int .i64 c.warm, .int .i64 c.many])) w) : wpList Try.prog ops Q (o :: rest) a w :=
  wpList_load_mid hgd 31 x ho g 0 hx c.cells.toList _ (range_row hc) Try.underlying31 rfl (sizeSum.trans rfl) h
theorem at_loadg (T : TypeId) {P : Program} {ops : Array Oper} {rest : List Oper} {a : Act} {w : World} {Q : Exit → Act → World → Prop} {x : Operand} {dst : Option Tmp} {ty : TypeId} {pos : String} {after : Array Edge} {g : Option (Nat × Bool)}
    (h : wpList P ops Q ({ dst, op := .load T x, type := ty, pos, after, guard := g } :: rest) a w) : wpList P ops Q ({ dst, op := .load T x, type := ty, pos, after, guard := g } :: rest) a w := h
theorem load_inPg {ops : Array Oper} {rest : List Oper} {o : Oper} {a : Act} {w : World} {Q : Exit → Act → World → Prop} (hw : Region.wanted o (yielded ops a.tmps) = true) (x : Operand) (ho : o.op = .load 36 x)
    (g k : Nat) (hx : a.eval x = .pointer (some ⟨g, k, none⟩)) (c : Inst.Ins) (hc : w.heap[g]? = some (.cells c.cells 36 (0, 0))) (hk : k = 0)
    (h : wpList Try.prog ops Q rest (a.put o.dst c.val) w) : wpList Try.prog ops Q (o :: rest) a w :=
  BigFrame.wpList_want hw fun _ hK => wp_load_mid 36 x ho g k hx c.cells.toList _ (by subst hk; exact range_row hc) Try.underlying36 rfl (Inst.sizeInst.trans rfl) (hK _ _ h)
theorem add_twice (A : Option Addr) (n c : Nat) (L : Nat → Ins) (x : Ins) (w : World) (h : Insts w w.heap.size A n L) (hm : mayB L n = true) (hx : okB x = true) (hk : ∃ k, k < n ∧ (L k).id = x.id) :
    Calls Try.prog 14 #[.slice A n c, x.val] w fun e w' => e = .returned (.tuple #[.slice none 0 0, .int .i64 8]) ∧ Below w.heap.size w w' := by
  have hn : n ≤ 9223372036854775807 := by have := may_len hm; omega
  have M := Lib.hid (fun p : Grown (w.alloc (.cells x.cells 36)) => Fnd.mayL_is A n c L true hm p.w1 (h.later (bTrans (bAlloc (Below.refl _ _) _) p.below)) hn)
  have O := Lib.hid (fun p : Grown (w.alloc (.cells x.cells 36)) => ok_is x true (Lib.hid hx) p.w1)
  have PL := Lib.hid (fun p : Grown (w.alloc (.cells x.cells 36)) => Fnd.place_any A n c L x.id p.w1 (h.later (bTrans (bAlloc (Below.refl _ _) _) p.below)) hm)
  have RX := fun p : Grown (w.alloc (.cells x.cells 36)) => box_row p
  have c0 := fun p : Grown (w.alloc (.cells x.cells 36)) => cell_row (RX p) x.f0
  have HK := Lib.hid hk
  have HM := Lib.hid hm
  clear h hm hx hk
  go_enter Try.func14, Try.ntmps14
  go_wp2_with fail
  refine (call_grown (p := (⟨_, Below.refl _ _⟩ : Grown (w.alloc (.cells x.cells 36)))) (M.out _)).mono ?_
  rintro _ _ ⟨rfl, p, rfl⟩
  have R0 := RX p
  go_wp2_with ((with_reducible refine at_loadg 36 ?_); (refine load_inPg rfl _ rfl _ _ rfl x R0 rfl ?_))
  refine (call_grown (p := p) (O.out p)).mono ?_
  rintro _ _ ⟨rfl, p, rfl⟩
  go_wp2_with fail
  refine (Fnd.call_grown2 (p := p) (PL.out p)).mono ?_
  rintro _ _ ⟨⟨k, t, rfl, hk, h1, h2, h3⟩, p, rfl⟩
  rcases t with _ | _
  · exfalso
    obtain ⟨j, hj, e⟩ := HK.out
    by_cases hjk : j < k
    · have := h1 j hjk; omega
    · have := h3 rfl j (by omega) hj; omega
  · clear h1 h2 h3
    go_wp2
    go_ret2
    exact ⟨rfl, bTrans (bAlloc (Below.refl _ _) _) p.below⟩
theorem drop_none (A : Option Addr) (n c : Nat) (L : Nat → Ins) (id : Int) (w : World) (h : Insts w w.heap.size A n L) (hm : mayB L n = true) (hk : ∀ k, k < n → (L k).id ≠ id) :
    Calls Try.prog 18 #[.slice A n c, .int .u64 id] w fun e w' => e = .returned (.tuple #[.slice none 0 0, .int .i64 7]) ∧ Below w.heap.size w w' := by
  have hn : n ≤ 9223372036854775807 := by have := may_len hm; omega
  have M := Lib.hid (fun p : Grown w => Fnd.mayL_is A n c L true hm p.w1 (h.later p.below) hn)
  have PL := Lib.hid (fun p : Grown w => Fnd.place_any A n c L id p.w1 (h.later p.below) hm)
  have HK := Lib.hid hk
  clear h hm hk
  go_enter Try.func18, Try.ntmps18
  go_wp2_with fail
  refine (call_grown (p := (⟨w, Below.refl _ _⟩ : Grown w)) (M.out _)).mono ?_
  rintro _ _ ⟨rfl, p, rfl⟩
  go_wp2_with fail
  refine (Fnd.call_grown2 (p := p) (PL.out p)).mono ?_
  rintro _ _ ⟨⟨k, t, rfl, hk, h1, h2, h3⟩, p, rfl⟩
  rcases t with _ | _
  · clear h1 h2 h3
    go_wp2
    go_ret2
    exact ⟨rfl, p.below⟩
  · exfalso
    obtain ⟨a, b, _⟩ := h2 rfl
    exact HK.out k a b
def duoL (i : Nat) : Ins := if i = 0 then ⟨1, 0, 0, 2, false, 3, 0, false, 0, false, false, 0⟩ else ⟨2, 0, 0, 3, true, 1, 0, false, 0, false, false, 0⟩
def unoO (_ : Nat) : Opn := ⟨1, 1, 0, false, 0, 0, 1, false, 0⟩
theorem two_any (w : World) : Calls Try.prog 24 #[] w fun e w' => (∃ g, e = .returned (.slice (some ⟨g, 0, none⟩) 2 2) ∧ Insts w' w'.heap.size (some ⟨g, 0, none⟩) 2 duoL) ∧ Below w.heap.size w w' := by
  go_enter Try.func24, Try.ntmps24
  go_wp2
  go_ret
  refine ⟨⟨w.heap.size, rfl, fun e => (by cases e), fun _ => ⟨w.heap.size, 0, rfl, by simp, ?_⟩⟩, bAlloc (Below.refl _ _) _⟩
  intro i j hi hj
  rw [cell_of_row _ _ _ _ _ _ (heap_alloc_new _ _)]
  rcases (by omega : i = 0 ∨ i = 1) with rfl | rfl <;> rcases (by omega : j = 0 ∨ j = 1 ∨ j = 2 ∨ j = 3 ∨ j = 4 ∨ j = 5 ∨ j = 6 ∨ j = 7 ∨ j = 8 ∨ j = 9 ∨ j = 10 ∨ j = 11) with rfl | rfl | rfl | rfl | rfl | rfl | rfl | rfl | rfl | rfl | rfl | rfl <;> rfl
theorem one_any (w : World) : Calls Try.prog 25 #[] w fun e w' => (∃ g, e = .returned (.slice (some ⟨g, 0, none⟩) 1 1) ∧ Opns w' w'.heap.size (some ⟨g, 0, none⟩) 1 unoO) ∧ Below w.heap.size w w' := by
  go_enter Try.func25, Try.ntmps25
  go_wp2
  go_ret
  refine ⟨⟨w.heap.size, rfl, fun e => (by cases e), fun _ => ⟨w.heap.size, 0, rfl, by simp, ?_⟩⟩, bAlloc (Below.refl _ _) _⟩
  intro i j hi hj
  obtain rfl : i = 0 := by omega
  rw [cell_of_row _ _ _ _ _ _ (heap_alloc_new _ _)]
  rcases (by omega : j = 0 ∨ j = 1 ∨ j = 2 ∨ j = 3 ∨ j = 4 ∨ j = 5 ∨ j = 6 ∨ j = 7 ∨ j = 8) with rfl | rfl | rfl | rfl | rfl | rfl | rfl | rfl | rfl <;> rfl
theorem of_is (A : Option Addr) (n c : Nat) (L : Nat → Ins) (C : Option Addr) (m d : Nat) (O : Nat → Opn) (v : Int) (s : Sm) (hs : ofS v L n O m = s) (w : World) (h : Insts w w.heap.size A n L) (hO : Opns w w.heap.size C m O) (hn : n ≤ 9223372036854775807) (hmax : m ≤ 9223372036854775807) :
    Calls Try.prog 12 #[.slice A n c, .slice C m d, .int .u32 v] w fun e w' => e = .returned (.agg #[.int .i64 s.live, .int .i64 s.liveD, .int .i64 s.com, .int .i64 s.comD, .int .i64 s.warm, .int .i64 s.many]) ∧ Below w.heap.size w w' := by
  have := of_any A n c L C m d O v w h hO hn hmax
  rw [hs] at this; exact this
theorem q1 : ofS 0 duoL 2 unoO 1 = ⟨2, 2, 4, 1, 0, 3⟩ := by kernel_rfl
theorem q2 : mayB duoL 2 = true := by kernel_rfl
theorem find_is (A : Option Addr) (n c : Nat) (L : Nat → Ins) (id : Int) (x : Ins) (hm : mayB L n = true) (hx : ∃ k, k < n ∧ (L k).id = id ∧ L k = x) (w : World) (h : Insts w w.heap.size A n L) (hn : n ≤ 9223372036854775807) :
    Calls Try.prog 20 #[.slice A n c, .int .u64 id] w fun e w' => e = .returned (.tuple #[.agg #[.int .u64 x.id, .int .u64 x.tok, .int .i64 x.pool, .int .i64 x.wt, .bool x.spot, .int .u8 x.st, .int .u64 x.due, .bool x.ntd, .int .u64 x.kill, .bool x.risk, .bool x.held, .int .u32 x.ver], .bool true]) ∧ Below w.heap.size w w' := by
  obtain ⟨k, hk, e, rfl⟩ := hx
  have := Fnd.find_any A n c L id w h hn
  rw [(Fnd.fnd_yes hm hk e).1, (Fnd.fnd_yes hm hk e).2] at this; exact this
set_option maxHeartbeats 2000000 in
set_option maxRecDepth 100000 in
theorem lives_any (w : World) : Calls Try.prog 7 #[] w fun e w' => e = .returned (.bool true) ∧ Below w.heap.size w w' := by
  go_enter Try.func7, Try.ntmps7
  go_wp2_with fail
  refine (two_any _).mono ?_
  rintro _ w1 ⟨⟨g1, rfl, i1⟩, b1⟩
  go_wp2_with fail
  refine (one_any _).mono ?_
  rintro _ w2 ⟨⟨g2, rfl, o2⟩, b2⟩
  go_wp2_with fail
  refine (of_is _ 2 2 duoL _ 1 1 unoO 0 _ q1 w2 (i1.later b2) o2 (by omega) (by omega)).mono ?_
  rintro _ w3 ⟨rfl, b3⟩
  clear i1 o2
  go_wp2_with fail
  obtain ⟨w3', hw3⟩ : ∃ w3', w3' = w3.alloc (.cells #[.int .i64 2, .int .i64 2, .int .i64 4, .int .i64 1, .int .i64 0, .int .i64 3] 31) := ⟨_, rfl⟩
  have r3 : w3'.heap[w3.heap.size]? = some (.cells #[.int .i64 2, .int .i64 2, .int .i64 4, .int .i64 1, .int .i64 0, .int .i64 3] 31 (0, 0)) := by rw [hw3]; exact heap_alloc_new _ _
  have b3' : Below w.heap.size w w3' := by rw [hw3]; exact bAlloc (bTrans (bTrans (bTrans b1 b2) b3) (Below.refl _ _)) _
  rw [← hw3]
  clear hw3 b1 b2 b3
  refine (two_any _).mono ?_
  rintro _ w4 ⟨⟨g4, rfl, i4⟩, b4⟩
  go_wp2_with fail
  refine (add_twice _ 2 2 duoL ⟨2, 0, 0, 1, false, 3, 0, false, 0, false, false, 0⟩ w4 i4 q2 (by kernel_rfl) ⟨1, by omega, rfl⟩).mono ?_
  rintro _ w5 ⟨rfl, b5⟩
  clear i4
  go_wp2_with fail
  refine (two_any _).mono ?_
  rintro _ w6 ⟨⟨g6, rfl, i6⟩, b6⟩
  go_wp2_with fail
  refine (drop_none _ 2 2 duoL 7 w6 i6 q2 (fun k hk => by rcases (by omega : k = 0 ∨ k = 1) with rfl | rfl <;> (show (_ : Int) ≠ 7; decide))).mono ?_
  rintro _ w7 ⟨rfl, b7⟩
  clear i6
  go_wp2_with fail
  refine (two_any _).mono ?_
  rintro _ w8 ⟨⟨g8, rfl, i8⟩, b8⟩
  go_wp2_with fail
  refine (find_is _ 2 2 duoL 2 ⟨2, 0, 0, 3, true, 1, 0, false, 0, false, false, 0⟩ q2 ⟨1, by omega, rfl, rfl⟩ w8 i8 (by omega)).mono ?_
  rintro _ w9 ⟨rfl, b9⟩
  clear i8
  have b39 := bTrans (bTrans (bTrans (bTrans (bTrans b4 b5) b6) b7) b8) b9
  have r9 := (b39.block _ (Array.getElem?_eq_some_iff.1 r3).1).trans r3
  have rz : (w9.alloc (.cells (Ins.cells ⟨2, 0, 0, 3, true, 1, 0, false, 0, false, false, 0⟩) 36)).heap[w3.heap.size]? = some (.cells (Sm.cells ⟨2, 2, 4, 1, 0, 3⟩) 31 (0, 0)) := heap_under r9
  have z3 : (w9.alloc (.cells (Ins.cells ⟨2, 0, 0, 3, true, 1, 0, false, 0, false, false, 0⟩) 36)).cell? ⟨w9.heap.size, 3, none⟩ = some (.int .i64 3) := cell_row (heap_alloc_new _ _) rfl
  have B := Lib.hid (bTrans b3' b39)
  clear b39 b4 b5 b6 b7 b8 b9 r3 r9 b3'
  go_wp2_with (first | ((with_reducible refine at_store 36 ?_); (refine store_inp rfl _ _ rfl ⟨2, 0, 0, 3, true, 1, 0, false, 0, false, false, 0⟩ _ _ rfl rfl rfl ?_)) | ((with_reducible refine at_load' 31 ?_); (refine load_sum6 rfl _ rfl w3.heap.size rfl ⟨2, 2, 4, 1, 0, 3⟩ rz ?_)))
  go_ret
  exact ⟨rfl, bAlloc B.out _⟩
end Go.Proofs.Ytcgeoaegalloaaa.Thg
