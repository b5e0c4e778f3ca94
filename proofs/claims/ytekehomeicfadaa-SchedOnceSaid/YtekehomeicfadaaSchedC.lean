
/- Contracts of layer 23: what is due. -/
import Derived.Test.YtekehomeicfadaaSchedB
namespace Go.Proofs.Ytekehomeicfadaa.Sched
open Go.ChangeShapes Go.WideShapes Go.ChangeAt Go.RowKit
open Mem Arr Lst Rec

def dueB (N : Nat → Int) (now : Int) (i : Nat) : Bool := decide (1 ≤ N i ∧ N i ≤ now)
/-- what the last plan of the first k that is due tells -/
def lastD (N D : Nat → Int) (now : Int) : Nat → Int
  | 0 => 0
  | k + 1 => if dueB N now k = true then D k else lastD N D now k
def anyB (N : Nat → Int) (now : Int) : Nat → Bool
  | 0 => false
  | k + 1 => if dueB N now k = true then true else anyB N now k
def afterV (P E N : Nat → Int) (now : Int) (i : Nat) : Int := if dueB N now i = true then behindV (P i) (E i) now else N i
def dueOK (P E : Nat → Int) (n m : Nat) (now : Int) : Bool := decide (m = n) && mayB P E n now
def dueD (P E D N : Nat → Int) (n m : Nat) (now : Int) : Int := if dueOK P E n m now = true then lastD N D now n else 0
def dueI (P E N : Nat → Int) (n m : Nat) (now : Int) : Bool := if dueOK P E n m now = true then anyB N now n else false
def dueN (P E N : Nat → Int) (n m : Nat) (now : Int) (i : Nat) : Int := if dueOK P E n m now = true then afterV P E N now i else N i
theorem ret_due {k : IntKind} {a b : Int} {p q : Bool} {v u : Value} (h : a = b) (h' : p = q) (h'' : v = u) : Ending.returned (.tuple #[.int k a, .bool p, v]) = .returned (.tuple #[.int k b, .bool q, u]) := by rw [h, h', h'']

set_option maxHeartbeats 2000000 in
theorem due_any (A : Option Addr) (n c : Nat) (P E D : Nat → Int) (A' : Option Addr) (m c' : Nat) (N : Nat → Int) (now : Int) (w : World) (h : Plans w w.heap.size A n P E D) (hn : n ≤ 9223372036854775807) (hnow : 0 ≤ now) (hpe : ∀ i, i < n → 0 ≤ P i ∧ 0 ≤ E i)
    (h' : Reads w w.heap.size A' m (tickV N)) (hnil : A' = none → c' = 0) (hm : m ≤ 17592186044415) :
    Calls Try.prog 7 #[.slice A n c, .slice A' m c', .int .u64 now] w fun e w' => ∃ v, e = .returned (.tuple #[.int .i64 (dueD P E D N n m now), .bool (dueI P E N n m now), v]) ∧ Own w' w.heap.size 24 v m (tickV (dueN P E N n m now)) ∧ Below w.heap.size w w' := by
  have H := Lib.hid h
  have H' := Lib.hid h'
  have HP := Lib.hid hpe
  have CL := Lib.hid (clone_any A' m c' N w h' hnil hm)
  clear h h' hpe hnil
  by_cases hmn : m = n
  · rcases hb : mayB P E n now with _ | _
    · have hok : dueOK P E n m now = false := by unfold dueOK; rw [hb]; simp
      have HV : Hid (dueD P E D N n m now = 0 ∧ dueI P E N n m now = false ∧ dueN P E N n m now = N) := Lib.hid (by
        refine ⟨?_, ?_, ?_⟩
        · unfold dueD; rw [hok]; rfl
        · unfold dueI; rw [hok]; rfl
        · funext i; unfold dueN; rw [hok]; rfl)
      have M := Lib.hid hb
      have z : ((m : Int) != (n : Int)) = false := by simp [hmn]
      clear hb hok hmn
      go_enter Try.func7, Try.ntmps7
      go_wp2_with (first | (go_at_call 13; refine CL.out.mono ?_; rintro e w1 ⟨v, rfl, hown, hb1⟩) | (go_at_call 14; refine (may_is _ _ _ _ _ _ _ _ _ (H.out.later hb1) hn M).mono ?_; rintro e w2 ⟨rfl, hb2⟩))
      go_ret3
      exact ⟨v, ret_due HV.out.1.symm HV.out.2.1.symm rfl, by rw [HV.out.2.2]; exact hown.later hb2 (Nat.le_refl _), bTrans hb1 hb2⟩
    · have hok : dueOK P E n m now = true := by unfold dueOK; rw [hb, decide_eq_true hmn]; rfl
      have HV : Hid (dueD P E D N n m now = lastD N D now n ∧ dueI P E N n m now = anyB N now n ∧ dueN P E N n m now = afterV P E N now) := Lib.hid (by
        refine ⟨?_, ?_, ?_⟩
        · unfold dueD; rw [if_pos hok]
        · unfold dueI; rw [if_pos hok]
        · funext i; unfold dueN; rw [if_pos hok])
      obtain ⟨y1, y2, y3⟩ := may_yes hb
      have Y3 := Lib.hid y3
      have M := Lib.hid hb
      have z : ((m : Int) != (n : Int)) = false := by simp [hmn]
      have hmn1 : m ≤ n := by omega
      have hmn2 : n ≤ m := by omega
      clear hb hok hmn y3
      go_enter Try.func7, Try.ntmps7
      go_wp2_with (first | (go_at_call 13; refine CL.out.mono ?_; rintro e w1 ⟨v, rfl, hown0, hb1⟩) | (go_at_call 14; refine (may_is _ _ _ _ _ _ _ _ _ (H.out.later hb1) hn M).mono ?_; rintro e w2 ⟨rfl, hb2⟩))
      have hown2 : Own w2 w.heap.size 24 v m (part 0 (afterV P E N now) N) := (hown0.later hb2 (Nat.le_refl _)).congr (fun i _ => by unfold part tickV; rw [if_neg (by omega)])
      have hbb := bTrans hb1 hb2
      clear hown0 hb1 hb2
      go_loopw [6, 7, 27] (fun d s i wr => ∃ k : Nat, k ≤ n ∧ i = .int .i64 k ∧ d = .int .i64 (lastD N D now k) ∧ s = .bool (anyB N now k) ∧ Own wr w.heap.size 24 v m (part k (afterV P E N now) N) ∧ Below w.heap.size w wr) (fun _ _ i _ => n - (intOf i).toNat)
      case atStart => exact ⟨0, by omega, rfl, rfl, rfl, hown2, hbb⟩
      case round =>
        obtain ⟨k, hk, rfl, rfl, rfl, hown, hbr⟩ := hrel
        by_cases hlt : k < n
        · obtain ⟨b, off, rfl⟩ := plans_at H.out (by omega)
          obtain ⟨hbl, c0, c1, c2⟩ := plan_cells H.out hbr rfl hlt
          obtain ⟨b', off', rfl, _⟩ := reads_form H'.out (by omega)
          obtain ⟨hbl', d0⟩ := reads_at H'.out hbr rfl (show k < m by omega)
          unfold tickV at d0
          obtain ⟨p0, p1⟩ := HP.out k hlt
          obtain ⟨p2, p3⟩ := Y3.out k hlt
          have C := Lib.hid (fun w => behind_any (P k) (E k) (D k) now w p0 p2 p1 p3 hnow y1)
          obtain ⟨g, cap, rfl, hg1, hg2, hcap, hcm⟩ := hown.form (by omega)
          by_cases hd1 : 1 ≤ N k
          · by_cases hd2 : N k ≤ now
            · have hdue : dueB N now k = true := decide_eq_true ⟨hd1, hd2⟩
              have EV : Hid (afterV P E N now k = behindV (P k) (E k) now ∧ lastD N D now (k + 1) = D k ∧ anyB N now (k + 1) = true) := Lib.hid ⟨if_pos hdue, if_pos hdue, if_pos hdue⟩
              clear hdue
              go_wp2_with (first | (go_at_call 15; refine (C.out _).mono ?_; rintro e w3 ⟨rfl, b3⟩; have own3 := (hown.alloc (.cells #[.int .u64 (P k), .int .u64 (E k), .int .i64 (D k)] 33)).later b3 (Nat.le_refl _); have hc3 := own3.cell (show k < m by omega); have hf3 := own3.free k))
              go_roundw
              case rel =>
                refine ⟨k + 1, by omega, by go_num, by rw [EV.out.2.1], by rw [EV.out.2.2], ?_, bSet (bTrans (bAlloc hbr _) b3) (by simpa using hg1) _⟩
                rw [← EV.out.1]
                exact (own3.stored _).congr (fun i hi => part_step k _ _ i)
              case measure => simp [intOf]; omega
            · have hdue : ¬ dueB N now k = true := by unfold dueB; simp; omega
              have EV : Hid (afterV P E N now k = N k ∧ lastD N D now k = lastD N D now (k + 1) ∧ anyB N now k = anyB N now (k + 1)) := Lib.hid ⟨if_neg hdue, (if_neg hdue).symm, (if_neg hdue).symm⟩
              clear hdue
              go_wp2
              go_roundw
              case rel => exact ⟨k + 1, by omega, by go_num, by rw [EV.out.2.1], by rw [EV.out.2.2], (hown.congr (fun i hi => part_keep k _ _ EV.out.1 i)).alloc _, bAlloc hbr _⟩
              case measure => simp [intOf]; omega
          · have hdue : ¬ dueB N now k = true := by unfold dueB; simp; omega
            have EV : Hid (afterV P E N now k = N k ∧ lastD N D now k = lastD N D now (k + 1) ∧ anyB N now k = anyB N now (k + 1)) := Lib.hid ⟨if_neg hdue, (if_neg hdue).symm, (if_neg hdue).symm⟩
            clear hdue
            go_wp2
            go_roundw
            case rel => exact ⟨k + 1, by omega, by go_num, by rw [EV.out.2.1], by rw [EV.out.2.2], (hown.congr (fun i hi => part_keep k _ _ EV.out.1 i)).alloc _, bAlloc hbr _⟩
            case measure => simp [intOf]; omega
        · obtain rfl : k = n := by omega
          go_wp2
          go_ret3
          refine ⟨v, ret_due HV.out.1.symm HV.out.2.1.symm rfl, ?_, hbr⟩
          rw [HV.out.2.2]
          exact hown.congr (fun i hi => by unfold part tickV; rw [if_pos (by omega)])
  · have hok : dueOK P E n m now = false := by unfold dueOK; rw [decide_eq_false hmn]; rfl
    have HV : Hid (dueD P E D N n m now = 0 ∧ dueI P E N n m now = false ∧ dueN P E N n m now = N) := Lib.hid (by
      refine ⟨?_, ?_, ?_⟩
      · unfold dueD; rw [hok]; rfl
      · unfold dueI; rw [hok]; rfl
      · funext i; unfold dueN; rw [hok]; rfl)
    have z : ((m : Int) != (n : Int)) = true := by simp; omega
    clear hok hmn
    go_enter Try.func7, Try.ntmps7
    go_wp2_with (first | (go_at_call 13; refine CL.out.mono ?_; rintro e w1 ⟨v, rfl, hown, hb1⟩))
    go_ret3
    exact ⟨v, ret_due HV.out.1.symm HV.out.2.1.symm rfl, by rw [HV.out.2.2]; exact hown, hb1⟩
end Go.Proofs.Ytekehomeicfadaa.Sched
