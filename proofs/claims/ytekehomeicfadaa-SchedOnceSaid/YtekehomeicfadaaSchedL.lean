
/- What the statements of layer 23 build, and what is known of their arguments. -/
import Derived.Test.YtekehomeicfadaaSchedS
namespace Go.Proofs.Ytekehomeicfadaa.Sched
open Go.ChangeShapes Go.WideShapes Go.ChangeAt Go.RowKit
open Mem Arr Lst Rec

/-- the document's two plans -/
def P2 (i : Nat) : Int := if i = 0 then 5 else 7
def E2 (i : Nat) : Int := if i = 0 then 10 else 0
def D2 (i : Nat) : Int := if i = 0 then 3 else 9
def lit2 (a b : Int) (i : Nat) : Int := if i = 0 then a else b
theorem two_any (w : World) :
    Calls Try.prog 12 #[] w fun e w' => ∃ A c, e = .returned (.slice A 2 c) ∧ Plans w' w'.heap.size A 2 P2 E2 D2 ∧ Below w.heap.size w w' := by
  go_enter Try.func12, Try.ntmps12
  go_wp2
  go_ret
  refine ⟨_, 2, rfl, ⟨fun e => (by cases e), fun _ => ⟨w.heap.size, 0, rfl, by simp, fun i j hi hj => ?_⟩⟩, bAlloc (Below.refl _ _) _⟩
  rw [cell_of_row _ _ _ _ _ _ (heap_alloc_new w _)]
  rcases (show i = 0 ∨ i = 1 by omega) with rfl | rfl <;> rcases (show j = 0 ∨ j = 1 ∨ j = 2 by omega) with rfl | rfl | rfl <;> rfl
theorem reads_lit2 (w : World) (a b : Int) (t : TypeId) : Reads (w.alloc (.cells #[.int .u64 a, .int .u64 b] t)) (w.heap.size + 1) (some ⟨w.heap.size, 0, none⟩) 2 (tickV (lit2 a b)) :=
  ⟨fun e => (by cases e), fun _ => ⟨w.heap.size, 0, rfl, by omega, fun i j hi hj => by
    rw [cell_of_row _ _ _ _ _ _ (heap_alloc_new w _)]
    obtain rfl : j = 0 := by omega
    rcases (show i = 0 ∨ i = 1 by omega) with rfl | rfl <;> rfl⟩⟩
theorem reads_lit (w : World) (a b : Int) (t : TypeId) : Reads (w.alloc (.cells #[.int .u64 a, .int .u64 b] t)) (w.alloc (.cells #[.int .u64 a, .int .u64 b] t)).heap.size (some ⟨w.heap.size, 0, none⟩) 2 (tickV (lit2 a b)) := by
  rw [World.size_alloc]; exact reads_lit2 w a b t
theorem later1 {w : World} (o : Obj) : Below w.heap.size w (w.alloc o) := bAlloc (Below.refl _ _) o
theorem pe2 : ∀ i, i < 2 → 0 ≤ P2 i ∧ 0 ≤ E2 i := by decide
theorem due_is (A : Option Addr) (n c : Nat) (P E D : Nat → Int) (A' : Option Addr) (m c' : Nat) (N : Nat → Int) (now : Int) (dv : Int) (ib : Bool) (w : World) (h : Plans w w.heap.size A n P E D) (hn : n ≤ 9223372036854775807) (hnow : 0 ≤ now) (hpe : ∀ i, i < n → 0 ≤ P i ∧ 0 ≤ E i)
    (h' : Reads w w.heap.size A' m (tickV N)) (hnil : A' = none → c' = 0) (hm : m ≤ 17592186044415) (hv : Hid (dueD P E D N n m now = dv ∧ dueI P E N n m now = ib)) :
    Calls Try.prog 7 #[.slice A n c, .slice A' m c', .int .u64 now] w fun e w' => ∃ v, e = .returned (.tuple #[.int .i64 dv, .bool ib, v]) ∧ Own w' w.heap.size 24 v m (tickV (dueN P E N n m now)) ∧ Below w.heap.size w w' := by
  have := due_any A n c P E D A' m c' N now w h hn hnow hpe h' hnil hm
  rw [hv.out.1, hv.out.2] at this; exact this

set_option maxHeartbeats 1000000 in
theorem lives_any (w : World) : Calls Try.prog 6 #[] w fun e w' => e = .returned (.bool true) ∧ Below w.heap.size w w' := by
  have HB : Hid (beginN P2 E2 2 5 = 2) := Lib.hid (by decide)
  have V1 : Hid (dueD P2 E2 D2 (lit2 5 7) 2 2 7 = 9 ∧ dueI P2 E2 (lit2 5 7) 2 2 7 = true) := Lib.hid (by decide)
  have V2 : Hid (dueD P2 E2 D2 (lit2 15 0) 2 2 100 = 3 ∧ dueI P2 E2 (lit2 15 0) 2 2 100 = true) := Lib.hid (by decide)
  have S1 : Hid (∀ i, i < 2 → nexts P2 E2 5 i = lit2 15 7 i) := Lib.hid (by decide)
  have S2 : Hid (∀ i, i < 2 → dueN P2 E2 (lit2 5 7) 2 2 7 i = lit2 15 0 i) := Lib.hid (by decide)
  have S3 : Hid (∀ i, i < 2 → dueN P2 E2 (lit2 15 0) 2 2 100 i = lit2 105 0 i) := Lib.hid (by decide)
  go_enter Try.func6, Try.ntmps6
  go_wp2_with fail
  refine (two_any _).mono ?_; rintro e w1 ⟨A1, c1, rfl, d1, B1⟩
  go_wp2_with fail
  refine (begin_any _ _ _ _ _ _ _ _ d1 (by omega) (by omega) pe2).mono ?_; rintro e w2 ⟨v1, rfl, o1, b2⟩
  rw [HB.out] at o1
  have r1 := o1.reads'
  have B2 := bTrans B1 b2
  clear d1 B1 b2
  go_wp2_with fail
  refine (two_any _).mono ?_; rintro e w3 ⟨A2, c2, rfl, d2, b3⟩
  have B3 := bTrans B2 b3
  have r2 := r1.later b3
  clear B2 b3 r1 o1
  go_wp2_with fail
  refine (due_is _ _ _ _ _ _ _ _ _ _ _ _ _ _ (d2.later (later1 _)) (by omega) (by omega) pe2 (reads_lit _ _ _ _) (fun e => (by cases e)) (by omega) V1).mono ?_; rintro e w4 ⟨v2, rfl, o2, b4⟩
  have B4 := bTrans (bAlloc B3 _) b4
  have r3 := (r2.later (later1 _)).later b4
  have q3 := o2.reads'
  clear B3 b4 r2 o2 d2
  go_wp2_with fail
  refine (two_any _).mono ?_; rintro e w5 ⟨A3, c3, rfl, d3, b5⟩
  have B5 := bTrans B4 b5
  have r4 := r3.later b5
  have q4 := q3.later b5
  clear B4 b5 r3 q3
  go_wp2_with fail
  refine (due_is _ _ _ _ _ _ _ _ _ _ _ _ _ _ (d3.later (later1 _)) (by omega) (by omega) pe2 (reads_lit _ _ _ _) (fun e => (by cases e)) (by omega) V2).mono ?_; rintro e w6 ⟨v3, rfl, o3, b6⟩
  have B6 := bTrans (bAlloc B5 _) b6
  have r5 := (r4.later (later1 _)).later b6
  have q5 := (q4.later (later1 _)).later b6
  have s5 := o3.reads'
  clear B5 b6 r4 q4 o3 d3
  obtain ⟨A4, c4, rfl, r6, -, -, -⟩ := r5
  obtain ⟨A5, c5, rfl, q6, -, -, -⟩ := q5
  obtain ⟨A6, c6, rfl, s6, -, -, -⟩ := s5
  go_wp2_with fail
  refine (same_true _ _ _ _ _ _ _ _ _ (r6.later (later1 _)) (reads_lit _ _ _ _) rfl S1.out (by omega)).mono ?_; rintro e w7 ⟨rfl, b7⟩
  have B7 := bTrans (bAlloc B6 _) b7
  have q7 := (q6.later (later1 _)).later b7
  have s7 := (s6.later (later1 _)).later b7
  clear B6 b7 q6 s6 r6
  go_wp2_with fail
  refine (same_true _ _ _ _ _ _ _ _ _ (q7.later (later1 _)) (reads_lit _ _ _ _) rfl S2.out (by omega)).mono ?_; rintro e w8 ⟨rfl, b8⟩
  have B8 := bTrans (bAlloc B7 _) b8
  have s8 := (s7.later (later1 _)).later b8
  clear B7 b8 q7 s7
  go_wp2_with fail
  refine (same_true _ _ _ _ _ _ _ _ _ (s8.later (later1 _)) (reads_lit _ _ _ _) rfl S3.out (by omega)).mono ?_; rintro e w9 ⟨rfl, b9⟩
  have B9 := bTrans (bAlloc B8 _) b9
  clear B8 b9 s8
  go_wp2
  go_ret
  exact ⟨rfl, B9⟩

/-- what a walk is told of a list of plans that came in -/
structure PlanArg (w : World) (A : Option Addr) (n c : Nat) (P E D : Nat → Int) : Prop where
  plans : Plans w w.heap.size A n P E D
  le : n ≤ c
  cap : c ≤ 9223372036854775807
  inP : ∀ i, i < n → 0 ≤ P i ∧ P i ≤ 18446744073709551615
  inE : ∀ i, i < n → 0 ≤ E i ∧ E i ≤ 18446744073709551615
  inD : ∀ i, i < n → -9223372036854775808 ≤ D i ∧ D i ≤ 9223372036854775807
theorem plans_arg {H : Type} {enc : TypeId × Value → H} {w : World} {A : Option Addr} {n c : Nat} {d : DataW H} {p : List MemPlace} (h : DataW.Trod enc Try.prog w 0 (fun _ => true) true 22 (.slice A n c) d p) : ∃ P E D, PlanArg w A n c P E D := by
  obtain ⟨V, hr, _, hl, hm, he⟩ := recs_of (sz := 3) Try.underlying22 (by kernel_rfl) (by omega) h
  have h0 : ∀ i, i < n → V i 0 = .int .u64 (intV (V i 0)) ∧ (Lit.int .u64 (intV (V i 0))).wf = true := fun i hi => elem_int (he i hi) Try.underlying33 (by kernel_rfl) 0 rfl (by omega) Try.underlying24
  have h1 : ∀ i, i < n → V i 1 = .int .u64 (intV (V i 1)) ∧ (Lit.int .u64 (intV (V i 1))).wf = true := fun i hi => elem_int (he i hi) Try.underlying33 (by kernel_rfl) 1 rfl (by omega) Try.underlying24
  have h2 : ∀ i, i < n → V i 2 = .int .i64 (intV (V i 2)) ∧ (Lit.int .i64 (intV (V i 2))).wf = true := fun i hi => elem_int (he i hi) Try.underlying33 (by kernel_rfl) 2 rfl (by omega) Try.underlying2
  refine ⟨fun i => intV (V i 0), fun i => intV (V i 1), fun i => intV (V i 2), ⟨⟨hr.1, fun h0' => ?_⟩, hl, by unfold maxLen at hm; omega, fun i hi => bounds_u64 (h0 i hi).2, fun i hi => bounds_u64 (h1 i hi).2, fun i hi => bounds_i64 (h2 i hi).2⟩⟩
  obtain ⟨b, off, e, hlt, hc⟩ := hr.2 h0'
  refine ⟨b, off, e, hlt, fun i j hi hj => ?_⟩
  rw [hc i j hi hj]
  rcases (show j = 0 ∨ j = 1 ∨ j = 2 by omega) with rfl | rfl | rfl
  · rw [(h0 i hi).1]; rfl
  · rw [(h1 i hi).1]; rfl
  · rw [(h2 i hi).1]; rfl
theorem ticks_arg {H : Type} {enc : TypeId × Value → H} {w : World} {A : Option Addr} {n c : Nat} {d : DataW H} {p : List MemPlace} (h : DataW.Trod enc Try.prog w 0 (fun _ => true) true 23 (.slice A n c) d p) : ∃ f : Nat → Int, IntsArg .u64 8 w A n c f :=
  ints_arg Try.underlying23 Try.underlying24 (by kernel_rfl) h
end Go.Proofs.Ytekehomeicfadaa.Sched
