
/- A state that came in: its fields, and what is known of them. No code of the program. -/
import Derived.Test.YtflnamahaclidaaSt
import Derived.Test.YtflnamahaclidaaOpens
import Derived.Test.YtflnamahaclidaaCfgA
namespace Go.Proofs.Ytflnamahaclidaa.StA
open Go.ChangeShapes Go.WideShapes Go.ChangeAt Go.RowKit Go.Deep
open Mem Arr Lst Rec Grown Inst Sums St Opens
section
variable {H : Type} {enc : TypeId × Value → H} {P : Program} {w : World} {base : Nat} {spare : Nat → Bool} {held : Bool}
theorem cut (l : List Value) (k n m : Nat) (hm : k + n = m) : l.drop k = (l.drop k).take n ++ l.drop m := by
  subst hm
  have h := (List.take_append_drop n (l.drop k)).symm
  rw [List.drop_drop] at h
  exact h
/-- a field of a record, of however many cells -/
theorem fld {t : TypeId} {fs : Array Field} {fuel : Nat} {cs : List Value} {x : DataW H × List MemPlace} (h : DataW.trod enc P w base spare held fuel t cs = some x) (ht : P.underlying t = some (.struct fs)) (i o n : Nat) {f : Field} (hf : fs[i]? = some f) (ho : f.offset = o) (hn : P.cellsOf f.type = n) :
    ∃ m y, DataW.trod enc P w base spare held m f.type ((cs.drop o).take n) = some y := by
  obtain ⟨xs, m, _, _, _, hxl, hg⟩ := DataW.trod_struct ht h
  have h1 := hg i f hf
  rw [ho, hn] at h1
  have hi : i < xs.length := by rw [hxl]; exact (Array.getElem?_eq_some_iff.1 hf).1
  rw [List.getElem?_eq_getElem hi] at h1
  exact ⟨m, _, h1⟩
theorem flen {t : TypeId} {fs : Array Field} {fuel : Nat} {cs : List Value} {x : DataW H × List MemPlace} (h : DataW.trod enc P w base spare held fuel t cs = some x) (ht : P.underlying t = some (.struct fs)) {n : Nat} (hn : P.cellsOf t = n) : cs.length = n := by
  obtain ⟨_, _, _, _, hl, _⟩ := DataW.trod_struct ht h
  exact hl.trans hn
theorem f_int {k : IntKind} {t : TypeId} {m : Nat} {l : List Value} {y : DataW H × List MemPlace} (h : DataW.trod enc P w base spare held m t l = some y) (hk : P.underlying t = some (.int k)) : ∃ z, l = [.int k z] ∧ (Lit.int k z).wf = true := by
  obtain ⟨z, hz, _, hw⟩ := DataW.trod_int hk h
  exact ⟨z, hz, hw⟩
theorem f_bool {t : TypeId} {m : Nat} {l : List Value} {y : DataW H × List MemPlace} (h : DataW.trod enc P w base spare held m t l = some y) (hk : P.underlying t = some .bool) : ∃ z, l = [.bool z] := by
  obtain ⟨z, hz, _⟩ := DataW.trod_bool hk h
  exact ⟨z, hz⟩
theorem f_slice {t E : TypeId} {m : Nat} {l : List Value} {y : DataW H × List MemPlace} (h : DataW.trod enc P w base spare held m t l = some y) (hk : P.underlying t = some (.slice E)) : ∃ A n c, l = [.slice A n c] ∧ ∃ d p, DataW.Trod enc P w base spare held t (.slice A n c) d p := by
  rcases open_slice hk h with ⟨rfl, _⟩ | ⟨a, len, cap, _, _, _, _, rfl, _⟩
  · exact ⟨none, 0, 0, rfl, y.1, y.2, m, h⟩
  · exact ⟨some a, len, cap, rfl, y.1, y.2, m, h⟩
theorem end_of (l : List Value) (n : Nat) (h : l.length = n) : l.drop n = [] := by rw [← h]; simp
/-- the elements of a list of records, as records -/
theorem as_records {X : Type} (d : X) (cells : X → Array Value) {n sz : Nat} {V : Nat → Nat → Value} {ok : X → Prop} (h : ∀ i, i < n → ∃ x, ok x ∧ ∀ j, j < sz → V i j = ((cells x)[j]?).getD undef) :
    ∃ L : Nat → X, (∀ i, i < n → ok (L i)) ∧ ∀ i j, i < n → j < sz → V i j = ((cells (L i))[j]?).getD undef := by
  refine ⟨fun i => if hi : i < n then Classical.choose (h i hi) else d, fun i hi => ?_, fun i j hi hj => ?_⟩
  · simp only [hi, dif_pos]
    exact (Classical.choose_spec (h i hi)).1
  · simp only [hi, dif_pos]
    exact (Classical.choose_spec (h i hi)).2 j hj
theorem recs_like {w : World} {B n sz : Nat} {A : Option Addr} {V V' : Nat → Nat → Value} (h : Recs w B A n sz V) (he : ∀ i j, i < n → j < sz → V i j = V' i j) : Recs w B A n sz V' :=
  ⟨h.1, fun hn => by
    obtain ⟨b, off, e, hlt, hc⟩ := h.2 hn
    exact ⟨b, off, e, hlt, fun i j hi hj => by rw [← he i j hi hj]; exact hc i j hi hj⟩⟩
theorem elem_as {E : TypeId} {sz : Nat} {V : Nat → Value} (h : Elem enc P w E sz V) {cells : Array Value} (hs : ∀ (cs : List Value) (m : Nat) (x : DataW H × List MemPlace), cs.length = sz → DataW.trod enc P w 0 (fun _ => true) true m E cs = some x → cs = cells.toList) :
    ∀ j, j < sz → V j = (cells[j]?).getD undef := by
  obtain ⟨cs, m, x, hl, hv, ht⟩ := h
  intro j hj
  have e := hs cs m x hl ht
  have := hv j hj
  rw [e] at this
  rw [Array.getElem?_toList] at this
  rw [this]; rfl
end

/-- a configuration's slices are laid out in w -/
def CfgIn {H : Type} (enc : TypeId × Value → H) (w : World) (c : Cfg) : Prop := CfgOk c ∧ (∃ d p, DataW.Trod enc Try.prog w 0 (fun _ => true) true 22 (.slice c.pA c.pN c.pC) d p) ∧ (∃ d p, DataW.Trod enc Try.prog w 0 (fun _ => true) true 24 (.slice c.bA c.bN c.bC) d p) ∧ (∃ d p, DataW.Trod enc Try.prog w 0 (fun _ => true) true 25 (.slice c.lA c.lN c.lC) d p)
theorem cfg_of {H : Type} {enc : TypeId × Value → H} {w : World} {m : Nat} {x : DataW H × List MemPlace} {cs : List Value} (h : DataW.trod enc Try.prog w 0 (fun _ => true) true m 27 cs = some x) : ∃ c : Cfg, cs = cfgL c ∧ CfgIn enc w c := by
  have hl := flen h Try.underlying27 (n := 20) (by kernel_rfl)
  obtain ⟨_, _, t0⟩ := fld h Try.underlying27 0 0 1 rfl rfl (by kernel_rfl)
  obtain ⟨a0, n0, c0, e0, s0⟩ := f_slice t0 Try.underlying22
  obtain ⟨_, _, t1⟩ := fld h Try.underlying27 1 1 1 rfl rfl (by kernel_rfl)
  obtain ⟨z1, e1, w1⟩ := f_int t1 Try.underlying5
  obtain ⟨_, _, t2⟩ := fld h Try.underlying27 2 2 1 rfl rfl (by kernel_rfl)
  obtain ⟨z2, e2, w2⟩ := f_int t2 Try.underlying2
  obtain ⟨_, _, t3⟩ := fld h Try.underlying27 3 3 1 rfl rfl (by kernel_rfl)
  obtain ⟨z3, e3⟩ := f_bool t3 Try.underlying4
  obtain ⟨_, _, t4⟩ := fld h Try.underlying27 4 4 1 rfl rfl (by kernel_rfl)
  obtain ⟨z4, e4, w4⟩ := f_int t4 Try.underlying2
  obtain ⟨_, _, t5⟩ := fld h Try.underlying27 5 5 1 rfl rfl (by kernel_rfl)
  obtain ⟨z5, e5, w5⟩ := f_int t5 Try.underlying2
  obtain ⟨_, _, t6⟩ := fld h Try.underlying27 6 6 1 rfl rfl (by kernel_rfl)
  obtain ⟨z6, e6, w6⟩ := f_int t6 Try.underlying2
  obtain ⟨_, _, t7⟩ := fld h Try.underlying27 7 7 1 rfl rfl (by kernel_rfl)
  obtain ⟨z7, e7, w7⟩ := f_int t7 Try.underlying2
  obtain ⟨_, _, t8⟩ := fld h Try.underlying27 8 8 1 rfl rfl (by kernel_rfl)
  obtain ⟨z8, e8, w8⟩ := f_int t8 Try.underlying2
  obtain ⟨_, _, t9⟩ := fld h Try.underlying27 9 9 1 rfl rfl (by kernel_rfl)
  obtain ⟨z9, e9, w9⟩ := f_int t9 Try.underlying2
  obtain ⟨_, _, t10⟩ := fld h Try.underlying27 10 10 1 rfl rfl (by kernel_rfl)
  obtain ⟨z10, e10, w10⟩ := f_int t10 Try.underlying23
  obtain ⟨_, _, t11⟩ := fld h Try.underlying27 11 11 1 rfl rfl (by kernel_rfl)
  obtain ⟨z11, e11, w11⟩ := f_int t11 Try.underlying23
  obtain ⟨_, _, t12⟩ := fld h Try.underlying27 12 12 1 rfl rfl (by kernel_rfl)
  obtain ⟨z12, e12, w12⟩ := f_int t12 Try.underlying23
  obtain ⟨_, _, t13⟩ := fld h Try.underlying27 13 13 1 rfl rfl (by kernel_rfl)
  obtain ⟨z13, e13, w13⟩ := f_int t13 Try.underlying23
  obtain ⟨_, _, t14⟩ := fld h Try.underlying27 14 14 1 rfl rfl (by kernel_rfl)
  obtain ⟨z14, e14, w14⟩ := f_int t14 Try.underlying23
  obtain ⟨_, _, t15⟩ := fld h Try.underlying27 15 15 1 rfl rfl (by kernel_rfl)
  obtain ⟨z15, e15, w15⟩ := f_int t15 Try.underlying23
  obtain ⟨_, _, t16⟩ := fld h Try.underlying27 16 16 1 rfl rfl (by kernel_rfl)
  obtain ⟨z16, e16⟩ := f_bool t16 Try.underlying4
  obtain ⟨_, _, t17⟩ := fld h Try.underlying27 17 17 1 rfl rfl (by kernel_rfl)
  obtain ⟨z17, e17, w17⟩ := f_int t17 Try.underlying2
  obtain ⟨_, _, t18⟩ := fld h Try.underlying27 18 18 1 rfl rfl (by kernel_rfl)
  obtain ⟨a18, n18, c18, e18, s18⟩ := f_slice t18 Try.underlying24
  obtain ⟨_, _, t19⟩ := fld h Try.underlying27 19 19 1 rfl rfl (by kernel_rfl)
  obtain ⟨a19, n19, c19, e19, s19⟩ := f_slice t19 Try.underlying25
  refine ⟨⟨a0, n0, c0, z1, z2, z3, z4, z5, z6, z7, z8, z9, z10, z11, z12, z13, z14, z15, z16, z17, a18, n18, c18, a19, n19, c19⟩, ?_, ⟨w1, w2, w4, w5, w6, w7, w8, w9, w10, w11, w12, w13, w14, w15, w17⟩, s0, s18, s19⟩
  have q0 := cut cs 0 1 1 rfl
  rw [e0] at q0
  have q1 := cut cs 1 1 2 rfl
  rw [e1] at q1
  have q2 := cut cs 2 1 3 rfl
  rw [e2] at q2
  have q3 := cut cs 3 1 4 rfl
  rw [e3] at q3
  have q4 := cut cs 4 1 5 rfl
  rw [e4] at q4
  have q5 := cut cs 5 1 6 rfl
  rw [e5] at q5
  have q6 := cut cs 6 1 7 rfl
  rw [e6] at q6
  have q7 := cut cs 7 1 8 rfl
  rw [e7] at q7
  have q8 := cut cs 8 1 9 rfl
  rw [e8] at q8
  have q9 := cut cs 9 1 10 rfl
  rw [e9] at q9
  have q10 := cut cs 10 1 11 rfl
  rw [e10] at q10
  have q11 := cut cs 11 1 12 rfl
  rw [e11] at q11
  have q12 := cut cs 12 1 13 rfl
  rw [e12] at q12
  have q13 := cut cs 13 1 14 rfl
  rw [e13] at q13
  have q14 := cut cs 14 1 15 rfl
  rw [e14] at q14
  have q15 := cut cs 15 1 16 rfl
  rw [e15] at q15
  have q16 := cut cs 16 1 17 rfl
  rw [e16] at q16
  have q17 := cut cs 17 1 18 rfl
  rw [e17] at q17
  have q18 := cut cs 18 1 19 rfl
  rw [e18] at q18
  have q19 := cut cs 19 1 20 rfl
  rw [e19] at q19
  show cs.drop 0 = _
  rw [q0, q1, q2, q3, q4, q5, q6, q7, q8, q9, q10, q11, q12, q13, q14, q15, q16, q17, q18, q19, end_of cs 20 hl]
  rfl
structure StOk (s : State) : Prop where
  ver : (Lit.int .u32 s.ver).wf = true
  now : (Lit.int .u64 s.now).wf = true
  desired : (Lit.int .i64 s.desired).wf = true
  tok : (Lit.int .u64 s.tok).wf = true
  til : (Lit.int .u64 s.til).wf = true
  least : (Lit.int .i64 s.least).wf = true
  most : (Lit.int .i64 s.most).wf = true
  stop : (Lit.int .i64 s.stop).wf = true
theorem state_of {H : Type} {enc : TypeId × Value → H} {w : World} {m : Nat} {x : DataW H × List MemPlace} {cs : List Value} (h : DataW.trod enc Try.prog w 0 (fun _ => true) true m 36 cs = some x) : ∃ s : State, cs = cellL s ∧ StOk s ∧ CfgIn enc w s.c ∧ CfgIn enc w s.b ∧ (∃ d p, DataW.Trod enc Try.prog w 0 (fun _ => true) true 29 (.slice s.qA s.qN s.qC) d p) ∧ (∃ d p, DataW.Trod enc Try.prog w 0 (fun _ => true) true 30 (.slice s.iA s.iN s.iC) d p) ∧ (∃ d p, DataW.Trod enc Try.prog w 0 (fun _ => true) true 31 (.slice s.oA s.oN s.oC) d p) ∧ (∃ d p, DataW.Trod enc Try.prog w 0 (fun _ => true) true 34 (.slice s.nA s.nN s.nC) d p) := by
  have hl := flen h Try.underlying36 (n := 55) (by kernel_rfl)
  obtain ⟨_, _, tc⟩ := fld h Try.underlying36 0 0 20 rfl rfl (by kernel_rfl)
  obtain ⟨cc, ec, kc⟩ := cfg_of tc
  obtain ⟨_, _, tb⟩ := fld h Try.underlying36 1 20 20 rfl rfl (by kernel_rfl)
  obtain ⟨cb, eb, kb⟩ := cfg_of tb
  obtain ⟨_, _, t40⟩ := fld h Try.underlying36 2 40 1 rfl rfl (by kernel_rfl)
  obtain ⟨z40, e40, w40⟩ := f_int t40 Try.underlying28
  obtain ⟨_, _, t41⟩ := fld h Try.underlying36 3 41 1 rfl rfl (by kernel_rfl)
  obtain ⟨z41, e41, w41⟩ := f_int t41 Try.underlying23
  obtain ⟨_, _, t42⟩ := fld h Try.underlying36 4 42 1 rfl rfl (by kernel_rfl)
  obtain ⟨z42, e42, w42⟩ := f_int t42 Try.underlying2
  obtain ⟨_, _, t43⟩ := fld h Try.underlying36 5 43 1 rfl rfl (by kernel_rfl)
  obtain ⟨z43, e43, w43⟩ := f_int t43 Try.underlying23
  obtain ⟨_, _, t44⟩ := fld h Try.underlying36 6 44 1 rfl rfl (by kernel_rfl)
  obtain ⟨z44, e44, w44⟩ := f_int t44 Try.underlying23
  obtain ⟨_, _, t45⟩ := fld h Try.underlying36 7 45 1 rfl rfl (by kernel_rfl)
  obtain ⟨a45, n45, c45, e45, s45⟩ := f_slice t45 Try.underlying29
  obtain ⟨_, _, t46⟩ := fld h Try.underlying36 8 46 1 rfl rfl (by kernel_rfl)
  obtain ⟨a46, n46, c46, e46, s46⟩ := f_slice t46 Try.underlying30
  obtain ⟨_, _, t47⟩ := fld h Try.underlying36 9 47 1 rfl rfl (by kernel_rfl)
  obtain ⟨a47, n47, c47, e47, s47⟩ := f_slice t47 Try.underlying31
  obtain ⟨_, _, tr⟩ := fld h Try.underlying36 10 48 6 rfl rfl (by kernel_rfl)
  obtain ⟨_, _, t54⟩ := fld h Try.underlying36 11 54 1 rfl rfl (by kernel_rfl)
  obtain ⟨a54, n54, c54, e54, s54⟩ := f_slice t54 Try.underlying34
  have hr := flen tr Try.underlying33 (n := 6) (by kernel_rfl)
  generalize er : (cs.drop 48).take 6 = rs at tr hr
  obtain ⟨_, _, t48⟩ := fld tr Try.underlying33 0 0 1 rfl rfl (by kernel_rfl)
  obtain ⟨z48, e48⟩ := f_bool t48 Try.underlying4
  obtain ⟨_, _, t49⟩ := fld tr Try.underlying33 1 1 1 rfl rfl (by kernel_rfl)
  obtain ⟨z49, e49, w49⟩ := f_int t49 Try.underlying2
  obtain ⟨_, _, t50⟩ := fld tr Try.underlying33 2 2 1 rfl rfl (by kernel_rfl)
  obtain ⟨z50, e50, w50⟩ := f_int t50 Try.underlying2
  obtain ⟨_, _, t51⟩ := fld tr Try.underlying33 3 3 1 rfl rfl (by kernel_rfl)
  obtain ⟨z51, e51, w51⟩ := f_int t51 Try.underlying2
  obtain ⟨_, _, t52⟩ := fld tr Try.underlying33 4 4 1 rfl rfl (by kernel_rfl)
  obtain ⟨z52, e52⟩ := f_bool t52 Try.underlying4
  obtain ⟨_, _, t53⟩ := fld tr Try.underlying33 5 5 1 rfl rfl (by kernel_rfl)
  obtain ⟨z53, e53⟩ := f_bool t53 Try.underlying4
  have q48 := cut rs 0 1 1 rfl
  rw [e48] at q48
  have q49 := cut rs 1 1 2 rfl
  rw [e49] at q49
  have q50 := cut rs 2 1 3 rfl
  rw [e50] at q50
  have q51 := cut rs 3 1 4 rfl
  rw [e51] at q51
  have q52 := cut rs 4 1 5 rfl
  rw [e52] at q52
  have q53 := cut rs 5 1 6 rfl
  rw [e53] at q53
  have er2 : rs.drop 0 = [.bool z48, .int .i64 z49, .int .i64 z50, .int .i64 z51, .bool z52, .bool z53] := by
    rw [q48, q49, q50, q51, q52, q53, end_of rs 6 hr]
    rfl
  have er3 := er.trans er2
  refine ⟨⟨cc, cb, z40, z41, z42, z43, z44, a45, n45, c45, a46, n46, c46, a47, n47, c47, z48, z49, z50, z51, z52, z53, a54, n54, c54⟩, ?_, ⟨w40, w41, w42, w43, w44, w49, w50, w51⟩, kc, kb, s45, s46, s47, s54⟩
  have pc := cut cs 0 20 20 rfl
  rw [ec] at pc
  have pb := cut cs 20 20 40 rfl
  rw [eb] at pb
  have p40 := cut cs 40 1 41 rfl
  rw [e40] at p40
  have p41 := cut cs 41 1 42 rfl
  rw [e41] at p41
  have p42 := cut cs 42 1 43 rfl
  rw [e42] at p42
  have p43 := cut cs 43 1 44 rfl
  rw [e43] at p43
  have p44 := cut cs 44 1 45 rfl
  rw [e44] at p44
  have p45 := cut cs 45 1 46 rfl
  rw [e45] at p45
  have p46 := cut cs 46 1 47 rfl
  rw [e46] at p46
  have p47 := cut cs 47 1 48 rfl
  rw [e47] at p47
  have p48 := cut cs 48 6 54 rfl
  rw [er3] at p48
  have p54 := cut cs 54 1 55 rfl
  rw [e54] at p54
  show cs.drop 0 = _
  rw [pc, pb, p40, p41, p42, p43, p44, p45, p46, p47, p48, p54, end_of cs 55 hl]
  rfl
theorem state_arg {H : Type} {enc : TypeId × Value → H} {w : World} {r : Reach} {b0 : Nat} {v : Value} {d : DataW H} {p : List MemPlace} (hv : Value.okWide Try.prog w r b0 36 v) (h : DataW.Trod enc Try.prog w 0 (fun _ => true) true 36 v d p) :
    ∃ s : State, v = s.val ∧ StOk s ∧ CfgIn enc w s.c ∧ CfgIn enc w s.b ∧ (∃ d p, DataW.Trod enc Try.prog w 0 (fun _ => true) true 29 (.slice s.qA s.qN s.qC) d p) ∧ (∃ d p, DataW.Trod enc Try.prog w 0 (fun _ => true) true 30 (.slice s.iA s.iN s.iC) d p) ∧ (∃ d p, DataW.Trod enc Try.prog w 0 (fun _ => true) true 31 (.slice s.oA s.oN s.oC) d p) ∧ (∃ d p, DataW.Trod enc Try.prog w 0 (fun _ => true) true 34 (.slice s.nA s.nN s.nC) d p) := by
  obtain ⟨cs, rfl, _⟩ := okWide_struct Try.underlying36 hv
  obtain ⟨fuel, hf⟩ := h
  obtain ⟨s, e, k⟩ := state_of (cs := cs.toList) hf
  exact ⟨s, congrArg Value.agg (by
    show cs = (cellL s).toArray
    rw [← e]), k⟩
structure InsOk (x : Ins) : Prop where
  id : (Lit.int .u64 x.id).wf = true
  tok : (Lit.int .u64 x.tok).wf = true
  pool : (Lit.int .i64 x.pool).wf = true
  wt : (Lit.int .i64 x.wt).wf = true
  st : (Lit.int .u8 x.st).wf = true
  due : (Lit.int .u64 x.due).wf = true
  kill : (Lit.int .u64 x.kill).wf = true
  ver : (Lit.int .u32 x.ver).wf = true
theorem ins_of {H : Type} {enc : TypeId × Value → H} {w : World} {m : Nat} {x : DataW H × List MemPlace} {cs : List Value} (h : DataW.trod enc Try.prog w 0 (fun _ => true) true m 44 cs = some x) : ∃ i : Ins, cs = i.cells.toList ∧ InsOk i := by
  have hl := flen h Try.underlying44 (n := 12) (by kernel_rfl)
  obtain ⟨_, _, t0⟩ := fld h Try.underlying44 0 0 1 rfl rfl (by kernel_rfl)
  obtain ⟨z0, e0, w0⟩ := f_int t0 Try.underlying23
  obtain ⟨_, _, t1⟩ := fld h Try.underlying44 1 1 1 rfl rfl (by kernel_rfl)
  obtain ⟨z1, e1, w1⟩ := f_int t1 Try.underlying23
  obtain ⟨_, _, t2⟩ := fld h Try.underlying44 2 2 1 rfl rfl (by kernel_rfl)
  obtain ⟨z2, e2, w2⟩ := f_int t2 Try.underlying3
  obtain ⟨_, _, t3⟩ := fld h Try.underlying44 3 3 1 rfl rfl (by kernel_rfl)
  obtain ⟨z3, e3, w3⟩ := f_int t3 Try.underlying2
  obtain ⟨_, _, t4⟩ := fld h Try.underlying44 4 4 1 rfl rfl (by kernel_rfl)
  obtain ⟨z4, e4⟩ := f_bool t4 Try.underlying4
  obtain ⟨_, _, t5⟩ := fld h Try.underlying44 5 5 1 rfl rfl (by kernel_rfl)
  obtain ⟨z5, e5, w5⟩ := f_int t5 Try.underlying5
  obtain ⟨_, _, t6⟩ := fld h Try.underlying44 6 6 1 rfl rfl (by kernel_rfl)
  obtain ⟨z6, e6, w6⟩ := f_int t6 Try.underlying23
  obtain ⟨_, _, t7⟩ := fld h Try.underlying44 7 7 1 rfl rfl (by kernel_rfl)
  obtain ⟨z7, e7⟩ := f_bool t7 Try.underlying4
  obtain ⟨_, _, t8⟩ := fld h Try.underlying44 8 8 1 rfl rfl (by kernel_rfl)
  obtain ⟨z8, e8, w8⟩ := f_int t8 Try.underlying23
  obtain ⟨_, _, t9⟩ := fld h Try.underlying44 9 9 1 rfl rfl (by kernel_rfl)
  obtain ⟨z9, e9⟩ := f_bool t9 Try.underlying4
  obtain ⟨_, _, t10⟩ := fld h Try.underlying44 10 10 1 rfl rfl (by kernel_rfl)
  obtain ⟨z10, e10⟩ := f_bool t10 Try.underlying4
  obtain ⟨_, _, t11⟩ := fld h Try.underlying44 11 11 1 rfl rfl (by kernel_rfl)
  obtain ⟨z11, e11, w11⟩ := f_int t11 Try.underlying28
  have q0 := cut cs 0 1 1 rfl
  rw [e0] at q0
  have q1 := cut cs 1 1 2 rfl
  rw [e1] at q1
  have q2 := cut cs 2 1 3 rfl
  rw [e2] at q2
  have q3 := cut cs 3 1 4 rfl
  rw [e3] at q3
  have q4 := cut cs 4 1 5 rfl
  rw [e4] at q4
  have q5 := cut cs 5 1 6 rfl
  rw [e5] at q5
  have q6 := cut cs 6 1 7 rfl
  rw [e6] at q6
  have q7 := cut cs 7 1 8 rfl
  rw [e7] at q7
  have q8 := cut cs 8 1 9 rfl
  rw [e8] at q8
  have q9 := cut cs 9 1 10 rfl
  rw [e9] at q9
  have q10 := cut cs 10 1 11 rfl
  rw [e10] at q10
  have q11 := cut cs 11 1 12 rfl
  rw [e11] at q11
  refine ⟨⟨z0, z1, z2, z3, z4, z5, z6, z7, z8, z9, z10, z11⟩, ?_, ⟨w0, w1, w2, w3, w5, w6, w8, w11⟩⟩
  show cs.drop 0 = _
  rw [q0, q1, q2, q3, q4, q5, q6, q7, q8, q9, q10, q11, end_of cs 12 hl]
  rfl
theorem ins_arg {H : Type} {enc : TypeId × Value → H} {w : World} {r : Reach} {b0 : Nat} {v : Value} {d : DataW H} {p : List MemPlace} (hv : Value.okWide Try.prog w r b0 44 v) (h : DataW.Trod enc Try.prog w 0 (fun _ => true) true 44 v d p) :
    ∃ i : Ins, v = i.val ∧ InsOk i := by
  obtain ⟨cs, rfl, _⟩ := okWide_struct Try.underlying44 hv
  obtain ⟨fuel, hf⟩ := h
  obtain ⟨i, e, k⟩ := ins_of (cs := cs.toList) hf
  exact ⟨i, congrArg Value.agg (by
    have e2 := congrArg List.toArray e
    simpa using e2), k⟩
/-- a list of instances that came in -/
theorem insts_in {H : Type} {enc : TypeId × Value → H} {w : World} {A : Option Addr} {n c : Nat} (h : ∃ d p, DataW.Trod enc Try.prog w 0 (fun _ => true) true 30 (.slice A n c) d p) :
    ∃ L : Nat → Ins, Insts w w.heap.size A n L ∧ (∀ i, i < n → InsOk (L i)) ∧ (A = none → c = 0) ∧ n ≤ c ∧ c ≤ maxLen := by
  obtain ⟨d, p, h⟩ := h
  obtain ⟨V, hr, h0, h1, h2, he⟩ := recs_of Try.underlying30 (sz := 12) (by kernel_rfl) (by omega) h
  obtain ⟨L, hk, hL⟩ := as_records Inst.none_ Ins.cells (ok := InsOk) (V := V) (n := n) (sz := 12) (fun i hi => by
    obtain ⟨cs, m, x, hl, hv, ht⟩ := he i hi
    obtain ⟨y, e, k⟩ := ins_of ht
    refine ⟨y, k, fun j hj => ?_⟩
    have := hv j hj
    rw [e, Array.getElem?_toList] at this
    rw [this]; rfl)
  exact ⟨L, recs_like hr hL, hk, h0, h1, h2⟩
structure OpnOk (x : Opn) : Prop where
  kind : (Lit.int .u8 x.kind).wf = true
  tok : (Lit.int .u64 x.tok).wf = true
  pool : (Lit.int .i64 x.pool).wf = true
  id : (Lit.int .u64 x.id).wf = true
  since : (Lit.int .u64 x.since).wf = true
  wt : (Lit.int .i64 x.wt).wf = true
  ver : (Lit.int .u32 x.ver).wf = true
theorem opn_of {H : Type} {enc : TypeId × Value → H} {w : World} {m : Nat} {x : DataW H × List MemPlace} {cs : List Value} (h : DataW.trod enc Try.prog w 0 (fun _ => true) true m 72 cs = some x) : ∃ i : Opn, cs = i.cells.toList ∧ OpnOk i := by
  have hl := flen h Try.underlying72 (n := 9) (by kernel_rfl)
  obtain ⟨_, _, tr⟩ := fld h Try.underlying72 0 0 5 rfl rfl (by kernel_rfl)
  obtain ⟨_, _, t5⟩ := fld h Try.underlying72 1 5 1 rfl rfl (by kernel_rfl)
  obtain ⟨z5, e5, w5⟩ := f_int t5 Try.underlying23
  obtain ⟨_, _, t6⟩ := fld h Try.underlying72 2 6 1 rfl rfl (by kernel_rfl)
  obtain ⟨z6, e6, w6⟩ := f_int t6 Try.underlying2
  obtain ⟨_, _, t7⟩ := fld h Try.underlying72 3 7 1 rfl rfl (by kernel_rfl)
  obtain ⟨z7, e7⟩ := f_bool t7 Try.underlying4
  obtain ⟨_, _, t8⟩ := fld h Try.underlying72 4 8 1 rfl rfl (by kernel_rfl)
  obtain ⟨z8, e8, w8⟩ := f_int t8 Try.underlying28
  have hr := flen tr Try.underlying70 (n := 5) (by kernel_rfl)
  generalize er : (cs.drop 0).take 5 = rs at tr hr
  obtain ⟨_, _, t0⟩ := fld tr Try.underlying70 0 0 1 rfl rfl (by kernel_rfl)
  obtain ⟨z0, e0, w0⟩ := f_int t0 Try.underlying5
  obtain ⟨_, _, t1⟩ := fld tr Try.underlying70 1 1 1 rfl rfl (by kernel_rfl)
  obtain ⟨z1, e1, w1⟩ := f_int t1 Try.underlying23
  obtain ⟨_, _, t2⟩ := fld tr Try.underlying70 2 2 1 rfl rfl (by kernel_rfl)
  obtain ⟨z2, e2, w2⟩ := f_int t2 Try.underlying3
  obtain ⟨_, _, t3⟩ := fld tr Try.underlying70 3 3 1 rfl rfl (by kernel_rfl)
  obtain ⟨z3, e3⟩ := f_bool t3 Try.underlying4
  obtain ⟨_, _, t4⟩ := fld tr Try.underlying70 4 4 1 rfl rfl (by kernel_rfl)
  obtain ⟨z4, e4, w4⟩ := f_int t4 Try.underlying23
  have q0 := cut rs 0 1 1 rfl
  rw [e0] at q0
  have q1 := cut rs 1 1 2 rfl
  rw [e1] at q1
  have q2 := cut rs 2 1 3 rfl
  rw [e2] at q2
  have q3 := cut rs 3 1 4 rfl
  rw [e3] at q3
  have q4 := cut rs 4 1 5 rfl
  rw [e4] at q4
  have er2 : rs.drop 0 = [.int .u8 z0, .int .u64 z1, .int .i64 z2, .bool z3, .int .u64 z4] := by
    rw [q0, q1, q2, q3, q4, end_of rs 5 hr]
    rfl
  have er3 := er.trans er2
  refine ⟨⟨z0, z1, z2, z3, z4, z5, z6, z7, z8⟩, ?_, ⟨w0, w1, w2, w4, w5, w6, w8⟩⟩
  have p0 := cut cs 0 5 5 rfl
  rw [er3] at p0
  have p5 := cut cs 5 1 6 rfl
  rw [e5] at p5
  have p6 := cut cs 6 1 7 rfl
  rw [e6] at p6
  have p7 := cut cs 7 1 8 rfl
  rw [e7] at p7
  have p8 := cut cs 8 1 9 rfl
  rw [e8] at p8
  show cs.drop 0 = _
  rw [p0, p5, p6, p7, p8, end_of cs 9 hl]
  rfl
/-- a list of open requests that came in -/
theorem opns_in {H : Type} {enc : TypeId × Value → H} {w : World} {A : Option Addr} {n c : Nat} (h : ∃ d p, DataW.Trod enc Try.prog w 0 (fun _ => true) true 31 (.slice A n c) d p) :
    ∃ O : Nat → Opn, Opns w w.heap.size A n O ∧ (∀ i, i < n → OpnOk (O i)) ∧ (A = none → c = 0) ∧ n ≤ c ∧ c ≤ maxLen := by
  obtain ⟨d, p, h⟩ := h
  obtain ⟨V, hr, h0, h1, h2, he⟩ := recs_of Try.underlying31 (sz := 9) (by kernel_rfl) (by omega) h
  obtain ⟨L, hk, hL⟩ := as_records Opens.none_ Opn.cells (ok := OpnOk) (V := V) (n := n) (sz := 9) (fun i hi => by
    obtain ⟨cs, m, x, hl, hv, ht⟩ := he i hi
    obtain ⟨y, e, k⟩ := opn_of ht
    refine ⟨y, k, fun j hj => ?_⟩
    have := hv j hj
    rw [e, Array.getElem?_toList] at this
    rw [this]; rfl)
  exact ⟨L, recs_like hr hL, hk, h0, h1, h2⟩
end Go.Proofs.Ytflnamahaclidaa.StA
