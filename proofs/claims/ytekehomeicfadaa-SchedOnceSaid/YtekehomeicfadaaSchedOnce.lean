
/- A plan is due just at its ticks, however long it is waited between: for every input the law returns true. No condition. -/
import Derived.Test.YtekehomeicfadaaSchedL
namespace Go.Proofs.Ytekehomeicfadaa.schedOnce
open Go.ChangeShapes Go.WideShapes Go.ChangeAt Go.RowKit
open Mem Arr Lst Rec Sched
set_option linter.unusedVariables false

/-- is t a tick of the plan? -/
def tickB (p e t : Int) : Bool := decide (t = p ∨ (p < t ∧ 0 < e ∧ (t - p) % e = 0))
/-- is one of the k ticks behind was a tick of the plan? -/
def someT (p e was : Int) : Nat → Bool
  | 0 => false
  | k + 1 => if tickB p e (was + 1 + k) = true then true else someT p e was k
theorem some_iff {p e was : Int} : ∀ k : Nat, someT p e was k = true ↔ ∃ s, was < s ∧ s ≤ was + k ∧ tickB p e s = true := by
  intro k
  induction k with
  | zero =>
    refine ⟨fun h => (by cases h), ?_⟩
    rintro ⟨s, h1, h2, _⟩
    omega
  | succ k ih =>
    unfold someT
    split
    · refine ⟨fun _ => ⟨was + 1 + k, by omega, by omega, ‹_›⟩, fun _ => rfl⟩
    · rw [ih]
      constructor
      · rintro ⟨s, h1, h2, h3⟩; exact ⟨s, h1, by omega, h3⟩
      · rintro ⟨s, h1, h2, h3⟩
        by_cases hs : s = was + 1 + k
        · subst hs; exact absurd h3 ‹_›
        · exact ⟨s, h1, by omega, h3⟩
/-- x is the plan's least tick behind was; 0, if there is none -/
def Least (p e was x : Int) : Prop := (x = 0 ∧ ∀ s, was < s → tickB p e s = false) ∨ (was < x ∧ tickB p e x = true ∧ ∀ s, was < s → s < x → tickB p e s = false)
theorem least_behind {p e was : Int} (hp : 0 ≤ p) (hp' : p ≤ 255) (he : 0 ≤ e) (he' : e ≤ 19) (hw : 0 ≤ was) (hw' : was ≤ 400) : Least p e was (behindV p e was) := by
  unfold behindV
  by_cases h1 : was < p
  · rw [if_pos h1]
    refine .inr ⟨h1, decide_eq_true (.inl rfl), fun s hs hs' => decide_eq_false (by omega)⟩
  · rw [if_neg h1]
    by_cases h2 : e = 0
    · rw [if_pos h2]
      exact .inl ⟨rfl, fun s hs => decide_eq_false (by omega)⟩
    · rw [if_neg h2]
      obtain ⟨m1, m2, m3, m4⟩ := mul_bd (now := was) hp (show 1 ≤ e by omega) (by omega) (by omega) (by omega)
      have q1 : (was - p) / e ≤ was - p := Int.ediv_le_self e (by omega)
      have e1 : ((was - p) / e + 1) * e = (was - p) / e * e + e := by rw [Int.add_mul, Int.one_mul]
      have q2 : (was - p) / e * e ≤ was - p := Int.ediv_mul_le (was - p) (by omega)
      have ab := above (p := p) (now := was) (show 1 ≤ e by omega)
      rw [Int.mul_comm] at ab
      rw [if_neg (by omega)]
      refine .inr ⟨ab, decide_eq_true (.inr ⟨by omega, by omega, ?_⟩), fun s hs hs' => decide_eq_false ?_⟩
      · rw [show p + ((was - p) / e + 1) * e - p = ((was - p) / e + 1) * e by omega]; exact Int.mul_emod_left _ _
      · rintro (h | ⟨_, _, h⟩)
        · omega
        · have hb := Int.mul_ediv_cancel' (Int.dvd_of_emod_eq_zero h)
          generalize (s - p) / e = m at hb
          have c1 : e * m < e * ((was - p) / e + 1) := by rw [Int.mul_comm e ((was - p) / e + 1)]; omega
          have c2 : m < (was - p) / e + 1 := Int.lt_of_mul_lt_mul_left c1 (by omega)
          have c3 : e * m ≤ e * ((was - p) / e) := Int.mul_le_mul_of_nonneg_left (by omega) (by omega)
          rw [Int.mul_comm e ((was - p) / e)] at c3
          omega
theorem least_only {p e was x y : Int} (hw : 0 ≤ was) (h : Least p e was x) (h' : Least p e was y) : x = y := by
  rcases h with ⟨h1, h2⟩ | ⟨h1, h2, h3⟩ <;> rcases h' with ⟨k1, k2⟩ | ⟨k1, k2, k3⟩
  · omega
  · rw [h2 y k1] at k2; cases k2
  · rw [k2 x h1] at h2; cases h2
  · rcases Int.lt_trichotomy x y with hl | he | hg
    · rw [k3 x h1 hl] at h2; cases h2
    · exact he
    · rw [h3 y k1 hg] at k2; cases k2
theorem least_later {p e was now x : Int} (h : Least p e was x) (hle : was ≤ now) (hx : ¬ (1 ≤ x ∧ x ≤ now)) (hw : 0 ≤ was) : Least p e now x := by
  rcases h with ⟨h1, h2⟩ | ⟨h1, h2, h3⟩
  · exact .inl ⟨h1, fun s hs => h2 s (by omega)⟩
  · exact .inr ⟨by omega, h2, fun s hs hs' => h3 s (by omega) hs'⟩
/-- whether it is due, told by its least tick, is whether one of the ticks is one of its -/
theorem some_due {p e was x : Int} {k : Nat} (h : Least p e was x) (hw : 0 ≤ was) : someT p e was k = decide (1 ≤ x ∧ x ≤ was + k) := by
  rw [Bool.eq_iff_iff, some_iff, decide_eq_true_eq]
  rcases h with ⟨h1, h2⟩ | ⟨h1, h2, h3⟩
  · constructor
    · rintro ⟨s, a, _, b⟩; rw [h2 s a] at b; cases b
    · omega
  · constructor
    · rintro ⟨s, a, b, c⟩
      refine ⟨by omega, ?_⟩
      rcases Int.lt_or_le s x with hl | hl
      · rw [h3 s a hl] at c; cases c
      · omega
    · rintro ⟨_, b⟩; exact ⟨x, h1, b, h2⟩

theorem plan1 (w : World) (p e d : Int) : Plans (w.alloc (.cells #[.int .u64 p, .int .u64 e, .int .i64 d] 33)) (w.alloc (.cells #[.int .u64 p, .int .u64 e, .int .i64 d] 33)).heap.size (some ⟨w.heap.size, 0, none⟩) 1 (fun _ => p) (fun _ => e) (fun _ => d) :=
  ⟨fun e => (by cases e), fun _ => ⟨w.heap.size, 0, rfl, by simp, fun i j hi hj => by
    rw [cell_of_row _ _ _ _ _ _ (heap_alloc_new w _)]
    obtain rfl : i = 0 := by omega
    rcases (show j = 0 ∨ j = 1 ∨ j = 2 by omega) with rfl | rfl | rfl <;> rfl⟩⟩
theorem gaps_arg {H : Type} {enc : TypeId × Value → H} {w : World} {A : Option Addr} {n c : Nat} {d : DataW H} {p : List MemPlace} (h : DataW.Trod enc Try.prog w 0 (fun _ => true) true 31 (.slice A n c) d p) : ∃ f : Nat → Int, IntsArg .u8 8 w A n c f :=
  ints_arg Try.underlying31 Try.underlying5 (by kernel_rfl) h
theorem rd_one {w : World} {base : Nat} {v : Value} {f : Nat → Int} {y : Int} (h : Own w base 24 v 1 (tickV f)) (e : f 0 = y) : RdV w v 1 (tickV (fun _ => y)) := by
  refine (h.congr (g := tickV (fun _ => y)) (fun i hi => ?_)).reads'
  obtain rfl : i = 0 := by omega
  unfold tickV; rw [e]
theorem may_one {p e now : Int} (hp : p ≤ 255) (he : e ≤ 19) (hn : now ≤ 400) : mayB (fun _ => p) (fun _ => e) 1 now = true :=
  decide_eq_true ⟨by omega, by omega, fun _ _ => decide_eq_true (show p ≤ 1099511627776 ∧ e ≤ 65536 from ⟨by omega, by omega⟩)⟩
theorem due_one {p e d x now : Int} (hp : p ≤ 255) (he : e ≤ 19) (hn : now ≤ 400) : dueI (fun _ => p) (fun _ => e) (fun _ => x) 1 1 now = decide (1 ≤ x ∧ x ≤ now) ∧ dueD (fun _ => p) (fun _ => e) (fun _ => d) (fun _ => x) 1 1 now = (if 1 ≤ x ∧ x ≤ now then d else 0) ∧ dueN (fun _ => p) (fun _ => e) (fun _ => x) 1 1 now 0 = (if 1 ≤ x ∧ x ≤ now then behindV p e now else x) := by
  have hok : dueOK (fun _ => p) (fun _ => e) 1 1 now = true := by
    unfold dueOK; rw [may_one hp he hn]; rfl
  refine ⟨?_, ?_, ?_⟩
  · unfold dueI; rw [if_pos hok]
    show (if dueB (fun _ => x) now 0 = true then true else false) = _
    unfold dueB; by_cases h : 1 ≤ x ∧ x ≤ now <;> simp [h]
  · unfold dueD; rw [if_pos hok]
    show (if dueB (fun _ => x) now 0 = true then d else 0) = _
    unfold dueB; by_cases h : 1 ≤ x ∧ x ≤ now <;> simp [h]
  · unfold dueN afterV; rw [if_pos hok]
    unfold dueB; by_cases h : 1 ≤ x ∧ x ≤ now <;> simp [h]

set_option maxRecDepth 100000 in
set_option maxHeartbeats 8000000 in
theorem walk (a0 a1 a2 : Int) (A3 : Option Addr) (n3 c3 : Nat) (g : Nat → Int) (w : World) (w0 : (Lit.int .u8 a0).wf = true) (w1 : (Lit.int .u8 a1).wf = true) (w2 : (Lit.int .i64 a2).wf = true) (b3 : IntsArg .u8 8 w A3 n3 c3 g) :
    Calls Try.prog 4 #[.int .u8 a0, .int .u8 a1, .int .i64 a2, .slice A3 n3 c3] w fun e w' => e = .returned (.bool true) ∧ Below w.heap.size w w' := by
  have hn : n3 ≤ 9223372036854775807 := by have := b3.le; have := b3.cap; omega
  obtain ⟨_, _⟩ := bounds_u8 w0
  obtain ⟨_, _⟩ := bounds_u8 w1
  have HR := Lib.hid b3.rd
  have hg : ∀ i, i < n3 → 0 ≤ g i ∧ g i ≤ 255 := fun i hi => bounds_u8 (b3.wf i hi)
  have HG := Lib.hid hg
  clear b3 w0 w1 w2 hg
  obtain ⟨e, he⟩ : ∃ e, a1 % 20 = e := ⟨_, rfl⟩
  have he0 : 0 ≤ e := by omega
  have he1 : e ≤ 19 := by omega
  have HE := Lib.hid he
  clear he
  have HPE : Hid (∀ i, i < 1 → 0 ≤ a0 ∧ 0 ≤ e) := Lib.hid (fun _ _ => ⟨by omega, by omega⟩)
  have HP1 := Lib.hid (plan1 w a0 e a2)
  have HB1 : Hid (beginN (fun _ => a0) (fun _ => e) 1 0 = 1) := Lib.hid (if_pos (may_one (by omega) (by omega) (by omega)))
  go_enter Try.func4, Try.ntmps4
  go_wp2_with fail
  rw [HE.out]
  refine (begin_any _ _ _ (fun _ => a0) (fun _ => e) (fun _ => a2) _ _ HP1.out (by omega) (by omega) HPE.out).mono ?_; rintro x w1 ⟨v1, rfl, o1, B1⟩
  rw [HB1.out] at o1
  have r1 : RdV w1 v1 1 (tickV (fun _ => behindV a0 e 0)) := o1.reads'
  clear o1
  go_wp2
  go_loopw [10, 11, 12] (fun nx nw i wr => ∃ (k : Nat) (now : Int), k ≤ n3 ∧ i = .int .i64 k ∧ nw = .int .u64 now ∧ 0 ≤ now ∧ now ≤ 310 ∧ RdV wr nx 1 (tickV (fun _ => behindV a0 e now)) ∧ Below (w.alloc (.cells #[.int .u64 a0, .int .u64 e, .int .i64 a2] 33)).heap.size (w.alloc (.cells #[.int .u64 a0, .int .u64 e, .int .i64 a2] 33)) wr) (fun _ _ i _ => n3 - (intOf i).toNat)
  case atStart => exact ⟨0, 0, by omega, rfl, rfl, by omega, by omega, r1, B1⟩
  case round =>
    obtain ⟨k, now, hk, rfl, rfl, hn0, hn1, hr, hbr⟩ := hrel
    have hb0 : Below w.heap.size w wr := bTrans (later1 _) hbr
    by_cases hgo : k < n3 ∧ now < 300
    · obtain ⟨hlt, hlt2⟩ := hgo
      obtain ⟨b, off, rfl, _⟩ := reads_form HR.out (by omega)
      obtain ⟨_, d0⟩ := reads_at HR.out hb0 rfl hlt
      obtain ⟨g0, g1⟩ := HG.out k hlt
      obtain ⟨G, hG⟩ : ∃ G : Nat, (G : Int) = 1 + g k % 9 := ⟨(1 + g k % 9).toNat, by omega⟩
      have hG1 : (G : Int) ≤ 9 := by omega
      have hsum : now + 1 + g k % 9 = now + (G : Int) := by omega
      have HS := Lib.hid hsum
      clear hsum hG
      obtain ⟨_, p0, p1, p2⟩ := plan_cells HP1.out hbr rfl (show 0 < 1 by omega)
      rw [Nat.zero_mul, Nat.add_zero] at p0 p1 p2
      have hleast := least_behind (p := a0) (e := e) (was := now) (by omega) (by omega) he0 he1 hn0 (by omega)
      have HL := Lib.hid hleast
      clear hleast
      go_wp2
      rw [HS.out]
      go_loop [14, 15] (fun d t => ∃ K : Nat, (K : Int) ≤ (G : Int) ∧ t = .int .u64 (now + 1 + (K : Int)) ∧ d = .bool (someT a0 e now K)) (fun _ t => (now + 1 + (G : Int) - intOf t).toNat)
      case atStart => exact ⟨0, by omega, by simp, rfl⟩
      case round =>
        obtain ⟨K, hK, rfl, rfl⟩ := hrel
        by_cases hin : (K : Int) < (G : Int)
        · rcases hs : someT a0 e now K with _ | _
          · by_cases q1 : now + 1 + (K : Int) = a0
            · have ST : Hid (someT a0 e now (K + 1) = true) := Lib.hid (if_pos (decide_eq_true (.inl q1)))
              have y1 : (now + 1 + (K : Int) == a0) = true := by simpa using q1
              clear hs q1
              go_wp2
              go_round
              case rel => exact ⟨K + 1, by omega, by go_num, by rw [ST.out]⟩
              case measure => simp [intOf]; omega
            · have y1 : (now + 1 + (K : Int) == a0) = false := by simpa using q1
              by_cases q2 : a0 < now + 1 + (K : Int)
              · by_cases q3 : e = 0
                · have ST : Hid (someT a0 e now (K + 1) = false) := Lib.hid ((if_neg (by unfold tickB; simp; omega)).trans hs)
                  have y2 : decide (0 < e) = false := decide_eq_false (by omega)
                  have y3 : e ≤ 0 := by omega
                  clear hs q1 q3
                  go_wp2
                  go_round
                  case rel => exact ⟨K + 1, by omega, by go_num, by rw [ST.out]⟩
                  case measure => simp [intOf]; omega
                · have z1 : (e == 0) = false := by simpa using q3
                  have z2 : 1 ≤ e := by omega
                  have z3 : 0 ≤ now + 1 + (K : Int) - a0 := by omega
                  by_cases q4 : (now + 1 + (K : Int) - a0) % e = 0
                  · have ST : Hid (someT a0 e now (K + 1) = true) := Lib.hid (if_pos (decide_eq_true (.inr ⟨q2, by omega, q4⟩)))
                    have y4 : ((now + 1 + (K : Int) - a0) % e == 0) = true := by simpa using q4
                    clear hs q1 q3 q4
                    go_wp2
                    go_round
                    case rel => exact ⟨K + 1, by omega, by go_num, by rw [ST.out]⟩
                    case measure => simp [intOf]; omega
                  · have ST : Hid (someT a0 e now (K + 1) = false) := Lib.hid ((if_neg (by
                      have : tickB a0 e (now + 1 + (K : Int)) = false := decide_eq_false (by rintro (h | ⟨_, _, h⟩) <;> contradiction)
                      rw [this]; simp)).trans hs)
                    have y4 : ((now + 1 + (K : Int) - a0) % e == 0) = false := by simpa using q4
                    clear hs q1 q3 q4
                    go_wp2
                    go_round
                    case rel => exact ⟨K + 1, by omega, by go_num, by rw [ST.out]⟩
                    case measure => simp [intOf]; omega
              · have ST : Hid (someT a0 e now (K + 1) = false) := Lib.hid ((if_neg (by
                  have : tickB a0 e (now + 1 + (K : Int)) = false := decide_eq_false (by omega)
                  rw [this]; simp)).trans hs)
                have y2 : now + 1 + (K : Int) ≤ a0 := by omega
                clear hs q1
                go_wp2
                go_round
                case rel => exact ⟨K + 1, by omega, by go_num, by rw [ST.out]⟩
                case measure => simp [intOf]; omega
          · have ST : Hid (someT a0 e now (K + 1) = true) := Lib.hid (by unfold someT; rw [hs]; split <;> rfl)
            clear hs
            go_wp2
            go_round
            case rel => exact ⟨K + 1, by omega, by go_num, by rw [ST.out]⟩
            case measure => simp [intOf]; omega
        · obtain rfl : K = G := by omega
          have hx := some_due (k := K) HL.out hn0
          obtain ⟨t1, t2, t3⟩ := due_one (p := a0) (e := e) (d := a2) (x := behindV a0 e now) (now := now + (K : Int)) (by omega) he1 (by omega)
          obtain ⟨An, cn, rfl, rn, hln, -, -⟩ := hr
          have HLN := Lib.hid hln
          have RN := Lib.hid rn
          have hl2 := least_behind (p := a0) (e := e) (was := now + (K : Int)) (by omega) (by omega) he0 he1 (by omega) (by omega)
          clear rn hln
          by_cases hd : 1 ≤ behindV a0 e now ∧ behindV a0 e now ≤ now + (K : Int)
          · rw [decide_eq_true hd] at hx t1
            rw [if_pos hd] at t2 t3
            have HD := Lib.hid (And.intro t2 t1)
            have T3 := Lib.hid t3
            have hy : behindV a0 e (now + (K : Int)) = 0 ∨ now + (K : Int) < behindV a0 e (now + (K : Int)) := by rcases hl2 with ⟨h, _⟩ | ⟨h, _⟩; exact .inl h; exact .inr h
            rw [hx]
            clear hx t1 t2 t3 hl2 HL hd
            go_wp2_with fail
            refine (due_is _ _ _ (fun _ => a0) (fun _ => e) (fun _ => a2) _ _ _ (fun _ => behindV a0 e now) _ _ _ _ (HP1.out.later hbr) (by omega) (by omega) HPE.out RN.out HLN.out (by omega) HD).mono ?_; rintro x w2 ⟨va, rfl, oa, b2⟩
            obtain ⟨ga, cap, rfl, hga1, hga2, -, -⟩ := oa.form (by omega)
            have ca := oa.cell (show 0 < 1 by omega)
            unfold tickV at ca
            rw [T3.out] at ca
            have ra := rd_one oa T3.out
            have B2 := bTrans hbr b2
            clear oa b2 hbr
            generalize hyy : behindV a0 e (now + (K : Int)) = y at *
            have HY := Lib.hid hyy
            clear hyy
            rcases hy with hy | hy
            · have z : (y != 0) = false := by simp [hy]
              clear hy
              go_wp2
              go_roundw
              case rel => exact ⟨k + 1, now + (K : Int), by omega, by go_num, rfl, by omega, by omega, (by rw [HY.out]; exact ra), B2⟩
              case measure => simp [intOf]; omega
            · have z : (y != 0) = true := by simp; omega
              go_wp2
              go_roundw
              case rel => exact ⟨k + 1, now + (K : Int), by omega, by go_num, rfl, by omega, by omega, (by rw [HY.out]; exact ra), B2⟩
              case measure => simp [intOf]; omega
          · rw [decide_eq_false hd] at hx t1
            rw [if_neg hd] at t2 t3
            have HD := Lib.hid (And.intro t2 t1)
            have T3 := Lib.hid t3
            have T4 : Hid (behindV a0 e (now + (K : Int)) = behindV a0 e now) := Lib.hid (least_only (by omega) hl2 (least_later HL.out (by omega) hd hn0))
            have hy : behindV a0 e now = 0 ∨ now + (K : Int) < behindV a0 e now := by rw [← T4.out]; rcases hl2 with ⟨h, _⟩ | ⟨h, _⟩; exact .inl h; exact .inr h
            rw [hx]
            clear hx t1 t2 t3 hl2 HL hd
            go_wp2_with fail
            refine (due_is _ _ _ (fun _ => a0) (fun _ => e) (fun _ => a2) _ _ _ (fun _ => behindV a0 e now) _ _ _ _ (HP1.out.later hbr) (by omega) (by omega) HPE.out RN.out HLN.out (by omega) HD).mono ?_; rintro x w2 ⟨va, rfl, oa, b2⟩
            obtain ⟨ga, cap, rfl, hga1, hga2, -, -⟩ := oa.form (by omega)
            have ca := oa.cell (show 0 < 1 by omega)
            unfold tickV at ca
            rw [T3.out] at ca
            obtain ⟨Ax, cx, ex, ra, -, -, -⟩ := rd_one oa T3.out
            injection ex with ex1 ex2 ex3
            subst ex1
            have ra' : RdV w2 (.slice (some ⟨ga, 0, none⟩) 1 cap) 1 (tickV (fun _ => behindV a0 e now)) := rd_one oa T3.out
            have B2 := bTrans hbr b2
            have SM := Lib.hid (same_true _ 1 cap _ _ 1 cn _ w2 ra (RN.out.later b2) rfl (fun _ _ => rfl) (by omega))
            clear oa b2 hbr ra ex3
            generalize hyy : behindV a0 e now = y at *
            have HY := Lib.hid hyy
            clear hyy
            rcases hy with hy | hy
            · have z : (y != 0) = false := by simp [hy]
              clear hy
              go_wp2_with fail
              refine SM.out.mono ?_; rintro x w3 ⟨rfl, b3⟩
              have B3 := bTrans B2 b3
              have ra3 := ra'.later b3
              go_wp2
              go_roundw
              case rel => exact ⟨k + 1, now + (K : Int), by omega, by go_num, rfl, by omega, by omega, (by rw [T4.out]; exact ra3), B3⟩
              case measure => simp [intOf]; omega
            · have z : (y != 0) = true := by simp; omega
              go_wp2_with fail
              refine SM.out.mono ?_; rintro x w3 ⟨rfl, b3⟩
              have B3 := bTrans B2 b3
              have ra3 := ra'.later b3
              go_wp2
              go_roundw
              case rel => exact ⟨k + 1, now + (K : Int), by omega, by go_num, rfl, by omega, by omega, (by rw [T4.out]; exact ra3), B3⟩
              case measure => simp [intOf]; omega
    · have Bn : Below w.heap.size w wr := hb0
      by_cases hlt : k < n3
      · have hlt2 : 300 ≤ now := by omega
        clear hgo
        go_wp2_with (first
            | (go_at_call 6; refine (lives_any _).mono ?_; rintro e wn ⟨rfl, bn⟩; (first | (have gn := kept_hid bn (by assumption)) | (have gn := new_hid bn) | skip); (first | (have Bn : Below w.heap.size w _ := bTrans (by assumption) bn) | (have Bn : Below w.heap.size w _ := bTrans (bDrew (by assumption)) bn) | (have Bn : Below w.heap.size w _ := bTrans (bDrewN _ (by assumption)) bn) | (have Bn : Below w.heap.size w _ := bTrans (bAlloc (by assumption) _) bn) | (have Bn : Below w.heap.size w _ := bTrans (bAlloc (bDrew (by assumption)) _) bn) | (have Bn : Below w.heap.size w _ := bTrans (bDrew (bAlloc (by assumption) _)) bn) | (have Bn : Below w.heap.size w _ := bTrans (Below.refl _ _) bn) | (have Bn : Below w.heap.size w _ := bTrans (bDrew (Below.refl _ _)) bn) | (have Bn : Below w.heap.size w _ := bTrans (bAlloc (Below.refl _ _) _) bn) | (have Bn : Below w.heap.size w _ := bTrans (bAlloc (bAlloc (Below.refl _ _) _) _) bn))))
        go_ret
        exact ⟨rfl, by assumption⟩
      · clear hgo
        go_wp2_with (first
            | (go_at_call 6; refine (lives_any _).mono ?_; rintro e wn ⟨rfl, bn⟩; (first | (have gn := kept_hid bn (by assumption)) | (have gn := new_hid bn) | skip); (first | (have Bn : Below w.heap.size w _ := bTrans (by assumption) bn) | (have Bn : Below w.heap.size w _ := bTrans (bDrew (by assumption)) bn) | (have Bn : Below w.heap.size w _ := bTrans (bDrewN _ (by assumption)) bn) | (have Bn : Below w.heap.size w _ := bTrans (bAlloc (by assumption) _) bn) | (have Bn : Below w.heap.size w _ := bTrans (bAlloc (bDrew (by assumption)) _) bn) | (have Bn : Below w.heap.size w _ := bTrans (bDrew (bAlloc (by assumption) _)) bn) | (have Bn : Below w.heap.size w _ := bTrans (Below.refl _ _) bn) | (have Bn : Below w.heap.size w _ := bTrans (bDrew (Below.refl _ _)) bn) | (have Bn : Below w.heap.size w _ := bTrans (bAlloc (Below.refl _ _) _) bn) | (have Bn : Below w.heap.size w _ := bTrans (bAlloc (bAlloc (Below.refl _ _) _) _) bn))))
        go_ret
        exact ⟨rfl, by assumption⟩

/-! The row's step, by the frame. -/
theorem own : ownKnob Try.prog.godebug = none := by kernel_rfl
theorem laidOut : laidOutB Try.prog = true := by kernel_rfl
set_option maxRecDepth 100000 in
theorem lifted (os : Os) (started : os.Started) (H : Type) (enc : TypeId × Value → H) :
    ReturnsInHanded {} Try.checked os 4 .any (Rows.schedOnceSpec.pre6 enc Try.prog Try.f4 Rows.schedOnceRow.domain false) (Rows.schedOnceSpec.post enc Try.prog Try.f4 false true false false) := by
  refine returnsInHanded_of_change_sized (C := Try.checked) own started (by kernel_rfl) Try.func4
    (ChangeSpec.witness6 (enc := enc) (C := Try.checked) false ⟨#[], #[.int .u8 0, .int .u8 0, .int .i64 0, .slice none 0 0], []⟩ 8 (by kernel_rfl) (by kernel_rfl) (by kernel_rfl) (by kernel_rfl)) ?_
  intro W base args ds gs before hval0 hW _ hsz0 _
  have hsz : (DataW.weightsEach Try.prog (Try.f4.params.toList ++ Rows.schedOnceSpec.plain.varTypes Try.prog) (ds ++ gs)).all (· ≤ reachBytes) = true := hsz0
  have hval : ∀ (j : Nat) t v, Try.f4.params[j]? = some t → args[j]? = some v → Value.okWide Try.prog W .any base t v := hval0
  have hW' := hW
  obtain ⟨p, q, hA0, hV, rfl, hfz, hnd⟩ := hW
  have hA : DataW.TrodAll enc Try.prog W 0 (fun _ => true) true Try.f4.params.toList args.toList ds p := hA0
  rw [Try.params4] at hA hval hsz
  obtain ⟨v0, vs0, d0, ds0, p0, q0, hargs, rfl, rfl, h0, r0⟩ := trodAll_cons hA
  obtain ⟨v1, vs1, d1, ds1, p1, q1, rfl, rfl, rfl, h1, r1⟩ := trodAll_cons r0
  obtain ⟨v2, vs2, d2, ds2, p2, q2, rfl, rfl, rfl, h2, r2⟩ := trodAll_cons r1
  obtain ⟨v3, vs3, d3, ds3, p3, q3, rfl, rfl, rfl, h3, r3⟩ := trodAll_cons r2
  obtain ⟨rfl, rfl, rfl⟩ := trodAll_nil r3
  obtain rfl : args = #[v0, v1, v2, v3] := by cases args; simp_all
  obtain ⟨rfl, rfl⟩ := trodVars_none hV
  obtain ⟨a0, rfl, rfl, rfl, w0⟩ := open_int Try.underlying5 (hval 0 5 v0 rfl rfl) h0
  obtain ⟨a1, rfl, rfl, rfl, w1⟩ := open_int Try.underlying5 (hval 1 5 v1 rfl rfl) h1
  obtain ⟨a2, rfl, rfl, rfl, w2⟩ := open_int Try.underlying2 (hval 2 2 v2 rfl rfl) h2
  obtain ⟨A3, n3, c3, rfl⟩ := okWide_slice Try.underlying31 (hval 3 31 v3 rfl rfl)
  have k3 := h3
  have lt3 : ∀ x ∈ p3, x.block < W.heap.size := by obtain ⟨m, hm⟩ := k3; exact DataW.trod_lt m _ _ _ hm
  obtain ⟨g3, b3⟩ := gaps_arg h3
  clear hA0 hval0 hsz0
  refine (walk a0 a1 a2 A3 n3 c3 g3 W w0 w1 w2 b3).mono fun e W' ⟨he, bel⟩ => ?_
  subst he
  exact ⟨_, rfl, _, _, _, [], _, [], hW', trodAll_mk1 (shut_bool Try.underlying4 _), (trodAll_cons_mk (shut_int Try.underlying5 w0) (trodAll_cons_mk (shut_int Try.underlying5 w1) (trodAll_cons_mk (shut_int Try.underlying2 w2) (trodAll_cons_mk (Below.trod laidOut (by kernel_rfl) (of_decide_eq_true (by kernel_rfl)) k3 bel lt3) trodAll_mk0)))), rfl, bel.frame _, fun h => by cases h⟩

/-- The statement. -/
theorem proved : Rows.SchedOnceSaid :=
  OpenClaim.holds_of_wide 4 Try.f4 rfl rfl rfl rfl rfl rfl rfl ⟨rfl, rfl, rfl, rfl, rfl⟩ rfl rfl rfl rfl rfl (by kernel_rfl) Try.func4 (by kernel_rfl)
    (of_decide_eq_true (by kernel_rfl)) (by unfold Func.isWrapper; first | (rw [if_pos (by decide +kernel)]; kernel_rfl) | (rw [if_neg (by decide +kernel)]; exact ⟨rfl, rfl⟩))
    (fun os started H enc _ => lifted os started H enc)
end Go.Proofs.Ytekehomeicfadaa.schedOnce
