
/- What the document says is the load of pools (cohortref17.Load). -/
import Derived.Test.YtcgeoaegalloaaaLdB
import Derived.BigRegion
namespace Go.Proofs.Ytcgeoaegalloaaa.Thg
open Go.ChangeShapes Go.WideShapes Go.ChangeAt Go.RowKit
open Mem Arr Lst Rec Inst Grown Sums Opens St0
theorem Ints.kept {w w' : World} {A : Option Addr} {n : Nat} {f : Nat → Int} (h : Ints w A n f) (b : Below w.heap.size w w') : Ints w' A n f :=
  ⟨h.1, fun hn => by obtain ⟨g, e, hg, hc⟩ := h.2 hn; exact ⟨g, e, Nat.lt_of_lt_of_le hg b.size, fun i hi => (b.cell (p := ⟨g, i, none⟩) hg).trans (hc i hi)⟩⟩
/-- what is known of a world in a round of the first loop -/
structure Ld5 (w : World) (g N : Nat) (f : Nat → Int) (V : World) : Prop where
  r : V.heap[g]? = some (.cells (rowA f N) 2 (0, 0))
  b : Below w.heap.size w V
  le : w.heap.size ≤ g
section
variable {w V V' : World} {g N : Nat} {f f' : Nat → Int}
theorem Ld5.call (h : Ld5 w g N f V) (b : Below V.heap.size V V') : Ld5 w g N f V' := ⟨(b.block _ (lt_of h.r)).trans h.r, bTrans h.b b, h.le⟩
theorem Ld5.set (h : Ld5 w g N f V) (j : Nat) (z : Int) (he : (fun i => if i = j then z else f i) = f') : Ld5 w g N f' (V.setCell ⟨g, j, none⟩ (.int .i64 z)) :=
  ⟨by rw [setCell_row h.r, rowA_set, he]; exact row_at h.r, bSet h.b (p := ⟨g, j, none⟩) h.le _, h.le⟩
theorem Ld5.drew (h : Ld5 w g N f V) : Ld5 w g N f V.drew := ⟨h.r, bDrew h.b, h.le⟩
theorem Ld5.cell (h : Ld5 w g N f V) {j : Nat} (hj : j < N) : V.cell? ⟨g, j, none⟩ = some (.int .i64 (f j)) := cell_row h.r (rowA_at hj)
theorem Ld5.free (h : Ld5 w g N f V) : ∀ k, V.frozen? ⟨g, k, none⟩ = false := free_row h.r
end
structure Ld6 (w : World) (g N : Nat) (f : Nat → Int) (B : Nat) (A : Option Addr) (q c : Nat) (F : Nat → Opn) (V : World) : Prop where
  r : V.heap[g]? = some (.cells (rowA f N) 2 (0, 0))
  b : Below w.heap.size w V
  le : w.heap.size ≤ g
  lt : g < B
  own : Row.Own V B 49 9 (.slice A q c) q (opnV F)
section
variable {w V V' : World} {g N B q c : Nat} {f f' : Nat → Int} {A : Option Addr} {F : Nat → Opn}
theorem Ld6.set (h : Ld6 w g N f B A q c F V) (j : Nat) (z : Int) (he : (fun i => if i = j then z else f i) = f') : Ld6 w g N f' B A q c F (V.setCell ⟨g, j, none⟩ (.int .i64 z)) :=
  ⟨by rw [setCell_row h.r, rowA_set, he]; exact row_at h.r, bSet h.b (p := ⟨g, j, none⟩) h.le _, h.le, h.lt, by rw [setCell_row h.r]; exact own_row h.own h.lt _⟩
theorem Ld6.drew (h : Ld6 w g N f B A q c F V) : Ld6 w g N f B A q c F V.drew := ⟨h.r, bDrew h.b, h.le, h.lt, h.own⟩
theorem Ld6.cell (h : Ld6 w g N f B A q c F V) {j : Nat} (hj : j < N) : V.cell? ⟨g, j, none⟩ = some (.int .i64 (f j)) := cell_row h.r (rowA_at hj)
theorem Ld6.free (h : Ld6 w g N f B A q c F V) : ∀ k, V.frozen? ⟨g, k, none⟩ = false := free_row h.r
theorem Ld6.co {p : Nat} (h : Ld6 w g N f B (some ⟨p, 0, none⟩) q c F V) {k j : Nat} {v : Value} (hk : k < q) (hj : j < 9) (hv : (F k).cells[j]? = some v) : V.cell? ⟨p, k * 9 + j, none⟩ = some v := by
  rw [Row.Own.cell h.own hk hj]; unfold opnV; rw [hv]; rfl
end
theorem loadT_no {v p : Int} {f : Nat → Int} {t : Th} (h : loadB v p t = false) : loadT v p f t = f := by unfold loadT; rw [h]; rfl
theorem loadT_yes {v p : Int} {f : Nat → Int} {t : Th} {j : Nat} (h : loadB v p t = true) (hj : t.pool = (j : Int)) : (fun i => if i = j then f j + t.wt else f i) = loadT v p f t := by
  funext i
  unfold loadT
  rw [h, if_pos rfl]
  show _ = (if i = t.pool.toNat then f i + t.wt else f i)
  rw [hj, Int.toNat_natCast]
  by_cases hij : i = j
  · subst hij; simp
  · rw [if_neg hij, if_neg hij]
section
attribute [local go_sem ↓] exec_ins Go.wp_at_zero Go.wp_at_succ
set_option maxHeartbeats 8000000 in
set_option maxRecDepth 100000 in
theorem refLoad_any (A : Option Addr) (n c : Nat) (L : Nat → Ins) (C : Option Addr) (m d : Nat) (O : Nat → Opn) (v P : Int) (w : World) (h : Insts w w.heap.size A n L) (hO : Opns w w.heap.size C m O) (hn : n ≤ 9223372036854775807) (hmax : m ≤ 9223372036854775807) :
    Calls Try.prog 9 #[.slice A n c, .slice C m d, .int .u32 v, .int .i64 P] w fun e w' => (∃ A' c', e = .returned (.slice A' (loadN L n P) c') ∧ Ints w' A' (loadN L n P) (loadL v P (thsL L n O m))) ∧ Below w.heap.size w w' := by
  have HO := Lib.hid hO
  have HI := Lib.hid h
  clear hO
  by_cases q1 : P < 1
  · have d1 := decide_eq_true q1
    have HV : Hid (loadN L n P = 0) := Lib.hid (by unfold loadN loadOk; rw [decide_eq_false (show ¬ (1 ≤ P ∧ P ≤ 64) by omega), Bool.and_false]; rfl)
    go_enter Try.func9, Try.ntmps9
    go_wp2
    go_ret
    (first | refine ⟨⟨none, 0, by rw [HV.out]; rfl, ?_⟩, Below.refl _ _⟩ | refine ⟨⟨none, ⟨0, by rw [HV.out]; rfl⟩, ?_⟩, Below.refl _ _⟩); rw [HV.out]; exact ⟨fun _ => rfl, fun e => absurd e (by omega)⟩
  have d1 := decide_eq_false q1
  by_cases q2 : 64 < P
  · have d2 := decide_eq_true q2
    have HV : Hid (loadN L n P = 0) := Lib.hid (by unfold loadN loadOk; rw [decide_eq_false (show ¬ (1 ≤ P ∧ P ≤ 64) by omega), Bool.and_false]; rfl)
    go_enter Try.func9, Try.ntmps9
    go_wp2
    go_ret
    (first | refine ⟨⟨none, 0, by rw [HV.out]; rfl, ?_⟩, Below.refl _ _⟩ | refine ⟨⟨none, ⟨0, by rw [HV.out]; rfl⟩, ?_⟩, Below.refl _ _⟩); rw [HV.out]; exact ⟨fun _ => rfl, fun e => absurd e (by omega)⟩
  have d2 := decide_eq_false q2
  rcases hm : mayB L n with _ | _
  · have M := Lib.hid (refMayL_is A n c L false hm w h hn)
    have HV : Hid (loadN L n P = 0) := Lib.hid (by unfold loadN loadOk; rw [hm]; rfl)
    clear hm h
    go_enter Try.func9, Try.ntmps9
    go_wp2_with fail
    refine M.out.mono ?_
    rintro _ u ⟨rfl, bu⟩
    have BU := Lib.hid bu
    clear bu
    go_wp2
    go_ret
    refine ⟨⟨none, 0, by rw [HV.out]; rfl, ?_⟩, BU.out⟩; rw [HV.out]; exact ⟨fun _ => rfl, fun e => absurd e (by omega)⟩
  · have M := Lib.hid (refMayL_is A n c L true hm w h hn)
    have HV : Hid (loadN L n P = P.toNat) := Lib.hid (by unfold loadN loadOk; rw [hm, decide_eq_true (show 1 ≤ P ∧ P ≤ 64 by omega)]; rfl)
    have hn4 := may_len hm
    have HM := Lib.hid hm
    obtain ⟨N, rfl⟩ : ∃ N : Nat, P = (N : Int) := ⟨P.toNat, by omega⟩
    have hN1 : 1 ≤ N := by omega
    have hN2 : N ≤ 64 := by omega
    have hmk := fun w => mkL N (by omega) w
    clear hm h
    go_enter Try.func9, Try.ntmps9
    go_wp2_with fail
    refine M.out.mono ?_
    rintro _ u0 ⟨rfl, bu⟩
    have Z0 : Hid (Ld5 w u0.heap.size N (fun _ => 0) (u0.alloc (.cells (rowA (fun _ => 0) N) 2))) := Lib.hid ⟨heap_alloc_new _ _, bAlloc bu _, bu.size⟩
    clear bu M
    go_wp2_with fail
    obtain ⟨gL, hgL⟩ : ∃ gL, u0.heap.size = gL := ⟨_, rfl⟩
    rw [hgL] at Z0 ⊢
    clear hmk
    go_loopw [10] (fun i wr => ∃ k : Nat, k ≤ n ∧ i = .int .i64 k ∧ Hid (Ld5 w gL N (loadL v N (insL L k)) wr)) (fun i _ => n - (intOf i).toNat)
    case atStart => exact ⟨0, by omega, rfl, Z0⟩
    clear Z0 hgL
    case round =>
      obtain ⟨k, hk, rfl, HZ⟩ := hrel
      by_cases hlt : k < n
      · obtain ⟨b, off, rfl⟩ := insts_at HI.out (by omega)
        obtain ⟨hbl, R0, _⟩ := ins_cells HI.out HZ.out.b rfl hlt
        have R1 := run_ins R0
        have y := ok_yes (may_ok HM.out hlt)
        have fb := fun i => load_in v N (insL L k) (insL_ok HM.out hk) i
        rw [insL_len] at fb
        have hadd0 : loadL v N (insL L (k + 1)) = loadT v N (loadL v N (insL L k)) (thI (L k)) := by rw [insL_succ, load_snoc]
        obtain ⟨f, hf⟩ : ∃ f, loadL v N (insL L k) = f := ⟨_, rfl⟩
        rw [hf] at HZ hadd0 fb
        obtain ⟨j, hj⟩ : ∃ j : Nat, (L k).pool = (j : Int) := ⟨(L k).pool.toNat, by omega⟩
        have FIN : Hid (∀ W' f', Ld5 w gL N f' W' → f' = loadT v N f (thI (L k)) → Hid (Ld5 w gL N (loadL v N (insL L (k + 1))) W')) := Lib.hid (fun W' f' hT he => Lib.hid (by rw [hadd0, ← he]; exact hT))
        have SAME : Hid (∀ W', Ld5 w gL N f W' → loadB v N (thI (L k)) = false → Hid (Ld5 w gL N (loadL v N (insL L (k + 1))) W')) := Lib.hid (fun W' hT hb => FIN.out W' f hT (loadT_no hb).symm)
        have z2 := R0 2 _ (by simpa using (L k).f2)
        have z11 := R0 11 _ (by simpa using (L k).f11)
        rw [hj] at z2
        by_cases q3 : (L k).ver = v
        · have e1 : ((L k).ver == v) = true := by simp [q3]
          by_cases q4 : j < N
          · have e2 : decide ((j : Int) < N) = true := decide_eq_true (by omega)
            have n0 : decide ((j : Int) < 0) = false := decide_eq_false (by omega)
            have n1 : decide (j < N) = true := decide_eq_true q4
            have ww : IntKind.i64.wrap (f j + (L k).wt) = f j + (L k).wt := IntWalk.i64_in _ (by have := fb j; omega)
            have YES : Hid (∀ W', Ld5 w gL N f W' → (servesB (L k) || comesB (L k)) = true → Hid (Ld5 w gL N (loadL v N (insL L (k + 1))) ((W'.setCell ⟨gL, j, none⟩ (.int .i64 (f j + (L k).wt))).drew))) := Lib.hid (fun W' hT hb => by
              have hl : loadB v N (thI (L k)) = true := by
                unfold loadB
                rw [decide_eq_true (show (thI (L k)).ver = v ∧ 0 ≤ (thI (L k)).pool ∧ (thI (L k)).pool < N from ⟨q3, by show 0 ≤ (L k).pool; omega, by show (L k).pool < N; omega⟩)]
                show (true && (servesB (L k) || comesB (L k) || false)) = true
                rw [hb]; rfl
              exact FIN.out _ _ (hT.set j _ (loadT_yes hl hj)).drew rfl)
            have e0 : ∀ {bs bc : Bool}, servesB (L k) = bs → comesB (L k) = bc → (bs || bc) = false → loadB v N (thI (L k)) = false := by
              intro bs bc hs hc hb
              unfold loadB
              show (_ && (servesB (L k) || comesB (L k) || false)) = false
              rw [hs, hc, hb]; simp
            have cal : Hid (∀ W', Below wr.heap.size wr W' → Ld5 w gL N f W') := Lib.hid (fun W' b => HZ.out.call b)
            clear fb hadd0 y hf
            rcases hs : servesB (L k) with _ | _
            · have S1 := Lib.hid (refServes_is (L k) false (Lib.hid hs))
              go_wp2_with fail
              refine (S1.out _).mono ?_
              rintro _ u1 ⟨rfl, bu⟩
              have Z1 := HZ.out.call bu
              clear R1
              have R1 := run_ins (ins_cells HI.out Z1.b rfl hlt).2.1
              have ZH := Lib.hid Z1
              clear Z1 bu
              rcases hc : comesB (L k) with _ | _
              · have S2 := Lib.hid (refComes_is (L k) false (Lib.hid hc))
                go_wp2_with fail
                refine (S2.out _).mono ?_
                rintro _ u2 ⟨rfl, bu⟩
                have Z2 := Lib.hid (ZH.out.call bu)
                clear bu
                go_wp2
                go_roundw
                case rel => exact ⟨k + 1, by omega, by go_num, SAME.out _ Z2.out (e0 hs hc rfl)⟩
                case measure => simp [intOf]; omega
              · have S2 := Lib.hid (refComes_is (L k) true (Lib.hid hc))
                go_wp2_with fail
                refine (S2.out _).mono ?_
                rintro _ u2 ⟨rfl, bu⟩
                have Z2 := ZH.out.call bu
                clear bu
                obtain ⟨_, R2, _⟩ := ins_cells HI.out Z2.b rfl hlt
                have y2 := R2 2 _ (by simpa using (L k).f2)
                have y3 := R2 3 _ (by simpa using (L k).f3)
                rw [hj] at y2
                have cj := Z2.cell q4
                have zf := Z2.free
                have Z3 := Lib.hid (YES.out _ Z2 (by rw [hs]; rw [hc]; rfl))
                clear Z2 YES FIN SAME e0 cal HZ R0 R2
                go_upto_region 8 with fail
                go_region
                go_wp2
                go_roundw
                case rel => exact ⟨k + 1, by omega, by go_num, Z3.out⟩
                case measure => simp [intOf]; omega
            · have S1 := Lib.hid (refServes_is (L k) true (Lib.hid hs))
              go_wp2_with fail
              refine (S1.out _).mono ?_
              rintro _ u1 ⟨rfl, bu⟩
              have Z2 := HZ.out.call bu
              clear bu R1
              obtain ⟨_, R2, _⟩ := ins_cells HI.out Z2.b rfl hlt
              have y2 := R2 2 _ (by simpa using (L k).f2)
              have y3 := R2 3 _ (by simpa using (L k).f3)
              rw [hj] at y2
              have cj := Z2.cell q4
              have zf := Z2.free
              have Z3 := Lib.hid (YES.out _ Z2 (by rw [hs]; rfl))
              clear Z2 YES FIN SAME e0 cal HZ R0 R2
              go_upto_region 8 with fail
              go_region
              go_wp2
              go_roundw
              case rel => exact ⟨k + 1, by omega, by go_num, Z3.out⟩
              case measure => simp [intOf]; omega
          · have e2 : decide ((j : Int) < N) = false := decide_eq_false (by omega)
            go_wp2
            go_roundw
            case rel => exact ⟨k + 1, by omega, by go_num, SAME.out _ HZ.out (by unfold loadB; rw [decide_eq_false (fun e => q4 (by have := e.2.2; have : (L k).pool < N := this; omega))]; rfl)⟩
            case measure => simp [intOf]; omega
        · have e1 : ((L k).ver == v) = false := by simp [q3]
          go_wp2
          go_roundw
          case rel => exact ⟨k + 1, by omega, by go_num, SAME.out _ HZ.out (by unfold loadB; rw [decide_eq_false (fun e => q3 e.1)]; rfl)⟩
          case measure => simp [intOf]; omega
      · have e : n = k := by omega
        subst e
        have hO2 := HO.out.later HZ.out.b
        have hq := lau_len O m
        have hgl := lt_of HZ.out.r
        go_wp2_with fail
        refine (launches_any C m d O wr hO2 hmax).mono ?_
        rintro _ u1 ⟨⟨A', c', rfl, own1⟩, bu⟩
        have Z0 : Ld6 w gL N (loadL v N (insL L n)) wr.heap.size A' (lau O m).length c' (lauF O m) u1 := ⟨(bu.block _ hgl).trans HZ.out.r, bTrans HZ.out.b bu, HZ.out.le, hgl, own1.out⟩
        clear bu hO2 own1 HZ hgl
        obtain ⟨q, hqq⟩ : ∃ q, (lau O m).length = q := ⟨_, rfl⟩
        rw [hqq] at Z0 hq ⊢
        obtain ⟨F, hF⟩ : ∃ F, lauF O m = F := ⟨_, rfl⟩
        rw [hF] at Z0
        have HF := Lib.hid hF
        have HQ := Lib.hid hqq
        obtain ⟨Bq, hBq⟩ : ∃ Bq, wr.heap.size = Bq := ⟨_, rfl⟩
        rw [hBq] at Z0
        replace Z0 := Lib.hid Z0
        clear hF hqq hBq
        go_wp2_with fail
        go_loopw [12] (fun i V => ∃ k : Nat, k ≤ q ∧ i = .int .i64 k ∧ Hid (Ld6 w gL N (loadL v N (insL L n ++ ((lau O m).take k).map thO)) Bq A' q c' F V)) (fun i _ => q - (intOf i).toNat)
        case atStart => exact ⟨0, by omega, rfl, by simpa using Z0⟩
        clear Z0 hlt hk
        case round =>
          obtain ⟨k, hk, rfl, HZ⟩ := hrel
          by_cases hlt : k < q
          · obtain ⟨g, cap, e, hbg, hlg, _, _⟩ := HZ.out.own.form (by omega)
            injection e with e1 e2 e3
            subst e1
            subst e3
            have hlt' : k < (lau O m).length := by rw [HQ.out]; exact hlt
            have y := lauF_ok (O := O) (m := m) hlt'
            rw [HF.out] at y
            have fb := fun i => load_in v N (insL L n ++ ((lau O m).take k).map thO) (by
              intro t ht
              rcases List.mem_append.1 ht with ht | ht
              · exact insL_ok HM.out (Nat.le_refl _) t ht
              · exact take_ok t ht) i
            rw [List.length_append, insL_len, List.length_map, List.length_take_of_le (by omega)] at fb
            have hadd0 : loadL v N (insL L n ++ ((lau O m).take (k + 1)).map thO) = loadT v N (loadL v N (insL L n ++ ((lau O m).take k).map thO)) (thO (F k)) := by
              rw [take_on hlt', HF.out, List.map_append, List.map_cons, List.map_nil, ← List.append_assoc, load_snoc]
            obtain ⟨f, hf⟩ : ∃ f, loadL v N (insL L n ++ ((lau O m).take k).map thO) = f := ⟨_, rfl⟩
            rw [hf] at fb hadd0 HZ
            have FIN : Hid (∀ W' f', Ld6 w gL N f' Bq (some ⟨g, 0, none⟩) q c' F W' → f' = loadT v N f (thO (F k)) → Hid (Ld6 w gL N (loadL v N (insL L n ++ ((lau O m).take (k + 1)).map thO)) Bq (some ⟨g, 0, none⟩) q c' F W')) := Lib.hid (fun W' f' hT he => Lib.hid (by rw [hadd0, ← he]; exact hT))
            have c8 := HZ.out.co hlt (by omega) (F k).f8
            have c6 := HZ.out.co hlt (by omega) (F k).f6
            have c2 := HZ.out.co hlt (by omega) (F k).f2
            by_cases q3 : (F k).ver = v
            · have e1 : ((F k).ver == v) = true := by simp [q3]
              by_cases q4 : 0 ≤ (F k).pool
              · have e2 := decide_eq_true q4
                by_cases q5 : (F k).pool < N
                · have e3 := decide_eq_true q5
                  obtain ⟨j, hj⟩ : ∃ j : Nat, (F k).pool = (j : Int) := ⟨(F k).pool.toNat, by omega⟩
                  have hjN : j < N := by omega
                  rw [hj] at c2
                  have cj := HZ.out.cell hjN
                  have zf := HZ.out.free
                  have n0 : decide ((j : Int) < 0) = false := decide_eq_false (by omega)
                  have n1 : decide (j < N) = true := decide_eq_true hjN
                  have ww : IntKind.i64.wrap (f j + (F k).wt) = f j + (F k).wt := IntWalk.i64_in _ (by have := fb j; omega)
                  have hl : loadB v N (thO (F k)) = true := by
                    unfold loadB
                    rw [decide_eq_true (show (thO (F k)).ver = v ∧ 0 ≤ (thO (F k)).pool ∧ (thO (F k)).pool < N from ⟨q3, q4, q5⟩)]
                    show (true && (_ || _ || true)) = true
                    simp
                  have Z1 := Lib.hid (FIN.out _ _ (HZ.out.set j _ (loadT_yes (t := thO (F k)) hl hj)).drew rfl)
                  rw [hj] at e2 e3
                  clear FIN HZ hadd0 hf fb hl y hlt'
                  go_upto_region 14 with fail
                  go_region
                  go_wp2
                  go_roundw
                  case rel => exact ⟨k + 1, by omega, by go_num, Z1.out⟩
                  case measure => simp [intOf]; omega
                · have e3 := decide_eq_false q5
                  go_wp2
                  go_roundw
                  case rel => exact ⟨k + 1, by omega, by go_num, FIN.out _ _ HZ.out (loadT_no (by unfold loadB; rw [decide_eq_false (fun e => q5 e.2.2)]; rfl)).symm⟩
                  case measure => simp [intOf]; omega
              · have e2 := decide_eq_false q4
                go_wp2
                go_roundw
                case rel => exact ⟨k + 1, by omega, by go_num, FIN.out _ _ HZ.out (loadT_no (by unfold loadB; rw [decide_eq_false (fun e => q4 e.2.1)]; rfl)).symm⟩
                case measure => simp [intOf]; omega
            · have e1 : ((F k).ver == v) = false := by simp [q3]
              go_wp2
              go_roundw
              case rel => exact ⟨k + 1, by omega, by go_num, FIN.out _ _ HZ.out (loadT_no (by unfold loadB; rw [decide_eq_false (fun e => q3 e.1)]; rfl)).symm⟩
              case measure => simp [intOf]; omega
          · have e : q = k := by omega
            subst e
            have I6 := HZ.out.r
            have I9 := Lib.hid HZ.out.b
            rw [← HQ.out, List.take_length] at I6
            replace I6 := Lib.hid I6
            clear HZ
            go_wp2
            go_ret
            refine ⟨⟨some ⟨gL, 0, none⟩, N, by rw [HV.out, Int.toNat_natCast]; rfl, ?_⟩, I9.out⟩
            rw [HV.out, Int.toNat_natCast]
            exact ⟨fun e => (by cases e), fun _ => ⟨gL, rfl, lt_of I6.out, fun i hi => cell_row I6.out (rowA_at hi)⟩⟩
end
end Go.Proofs.Ytcgeoaegalloaaa.Thg
