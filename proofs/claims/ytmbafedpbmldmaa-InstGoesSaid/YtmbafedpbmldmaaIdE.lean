
/- What becomes of an instance: the document's answer, part by part. -/
import Derived.Test.YtmbafedpbmldmaaIdD
namespace Go.Proofs.Ytmbafedpbmldmaa.Does
open Go.RowKit Go.ChangeShapes Go.WideShapes Go.ChangeAt
open Mem Arr Lst Rec Inst Grown Opens St0
attribute [local go_sem] Oper.semAt_some
/-- the block of an instance that came in by value, and the block of the one that goes out -/
structure Bx (w : World) (x : Ins) (g : Nat) (z : Array Value) (W : World) : Prop where
  b : Below w.heap.size w W
  x : W.heap[w.heap.size]? = some (.cells x.cells 25 (0, 0))
  z : W.heap[g]? = some (.cells z 25 (0, 0))
  lt : w.heap.size < g
theorem Bx.call {w W W' : World} {x : Ins} {z : Array Value} {g : Nat} (h : Bx w x g z W) (hb : Below W.heap.size W W') : Bx w x g z W' :=
  ⟨bTrans h.b hb, kept_box hb h.x, kept_box hb h.z, h.lt⟩
theorem Bx.set {w W : World} {x y : Ins} {z : Array Value} {g k : Nat} {v : Value} (h : Bx w x g z W) (e : x.cells.setIfInBounds k v = y.cells) : Bx w y g z (W.setCell ⟨w.heap.size, k, none⟩ v) := by
  have hl := h.lt
  rw [setCell_row h.x, e]
  exact ⟨below_row _ h.b (Nat.le_refl _), row_at h.x, (row_else (by omega)).trans h.z, hl⟩
theorem Bx.out {w W : World} {x : Ins} {z z' : Array Value} {g : Nat} (h : Bx w x g z W) : Bx w x g z' (W.setRow g z') := by
  have hl := h.lt
  exact ⟨below_row _ h.b (by omega), (row_else (by omega)).trans h.x, row_at h.z, hl⟩
theorem Bx.new2 (w : World) (x : Ins) : Bx w x (w.heap.size + 1) Inst.none_.cells ((w.alloc (.cells x.cells 25)).alloc (.cells Inst.none_.cells 25)) := by
  have RZ := heap_alloc_new (w.alloc (.cells x.cells 25)) (.cells Inst.none_.cells 25)
  rw [World.size_alloc] at RZ
  exact ⟨bAlloc (bAlloc (Below.refl _ w) _) _, heap_under (heap_alloc_new _ _), RZ, by omega⟩
theorem Bx.new3 (w : World) (x : Ins) (c : Cfg) : Bx w x (w.heap.size + 1 + 1) Inst.none_.cells (((w.alloc (.cells x.cells 25)).alloc (.cells c.cells 30)).alloc (.cells Inst.none_.cells 25)) ∧
    (((w.alloc (.cells x.cells 25)).alloc (.cells c.cells 30)).alloc (.cells Inst.none_.cells 25)).heap[w.heap.size + 1]? = some (.cells c.cells 30 (0, 0)) := by
  have RZ := heap_alloc_new ((w.alloc (.cells x.cells 25)).alloc (.cells c.cells 30)) (.cells Inst.none_.cells 25)
  rw [World.size_alloc, World.size_alloc] at RZ
  have RC := heap_alloc_new (w.alloc (.cells x.cells 25)) (.cells c.cells 30)
  rw [World.size_alloc] at RC
  exact ⟨⟨bAlloc (bAlloc (bAlloc (Below.refl _ w) _) _) _, heap_under (heap_under (heap_alloc_new _ _)), RZ, by omega⟩, heap_under RC⟩
def toX (x : Ins) (s d : Int) : Ins := { x with st := s, due := d }
def leavesA (x : Ins) (now : Int) (c : Cfg) : Ans := if 0 < c.hookOut then ⟨toX x 5 (now + c.hookOut), 0, 0⟩ else ⟨toX x 6 0, 2, 0⟩
def readyA (x : Ins) (now : Int) (c : Cfg) : Ans := if x.st = 7 then ⟨toX x 7 (now + c.deadline), 3, 0⟩ else if x.st ≠ 1 ∧ x.st ≠ 9 then ⟨x, 0, 12⟩ else if 0 < c.hookIn then ⟨toX x 2 (now + c.hookIn), 0, 0⟩ else ⟨toX x 3 0, 0, 0⟩
def notX (x : Ins) (at_ : Int) : Ins := { x with ntd := true, kill := at_ }
def noticeA (x : Ins) (now at_ : Int) (c : Cfg) : Ans := if x.st = 6 then ⟨x, 0, 12⟩ else if x.st = 3 then ⟨toX (notX x at_) 4 (now + c.drain), 0, 0⟩ else if x.st = 4 ∨ x.st = 5 then ⟨notX x at_, 0, 0⟩ else ⟨toX (notX x at_) 6 0, 2, 0⟩
def tickA (x : Ins) (now : Int) (c : Cfg) : Ans := if x.st = 3 ∨ x.st = 8 ∨ x.st = 6 ∨ now < x.due then ⟨x, 0, 0⟩ else if x.st = 4 then leavesA x now c else ⟨toX x 6 0, 2, 0⟩
def dueX (x : Ins) (d : Int) : Ins := { x with due := d }
def beatA (x : Ins) (now : Int) (c : Cfg) : Ans := if x.st = 2 then ⟨dueX x (now + c.hookIn), 0, 0⟩ else if x.st ≠ 5 then ⟨x, 0, 12⟩ else if x.ntd = false then ⟨dueX x (now + c.hookOut), 0, 0⟩ else ⟨x, 0, 0⟩
def oneA (x : Ins) (is s d ask : Int) : Ans := if x.st ≠ is then ⟨x, 0, 12⟩ else ⟨toX x s d, ask, 0⟩
theorem results_row_tmp {fn : Func} {p u : Tmp} {ty : TypeId} (h : fn.results = #[.cell p ty, .tmp u]) (tmps : Array Value) {P : Program} (w : World) (g : Nat) (t : TypeId) (cs : Array Value) (fr : Nat × Nat) {d : TypeDesc}
    (hx : tmps.getD p undef = .pointer (some ⟨g, 0, none⟩)) (hg : w.heap[g]? = some (.cells cs t fr)) (hu : P.underlying ty = some d) (hd : d.isRow = true) (hi : (P.info? ty).map (·.size) = some cs.size) :
    (results fn tmps).run P w = .ok (.tuple #[.agg cs, tmps.getD u undef]) w := by
  rw [results_cell_tmp h, hx]
  simp only [asAddr, Sem.run_pure, Result.andThen_ok, run_loadVar_mid w g 0 ty cs.toList d (range_row hg) hu hd (by rw [hi]; simp)]
set_option maxHeartbeats 2000000 in
theorem to_any (x : Ins) (s d : Int) (w : World) : Calls Try.prog 25 #[x.val, .int .u8 s, .int .u64 d] w fun e w' => e = .returned (toX x s d).val ∧ Below w.heap.size w w' := by
  have H := Bx.new2 w x
  have fr := free_row H.x
  have d5 := cell_row H.x x.f5
  have d6 := cell_row H.x x.f6
  have H2 := Bx.new2 w (toX x s d)
  have R := range_row H2.x
  go_enter Try.func25, Try.ntmps25
  go_wp2_with (first | ((with_reducible refine at_load' 25 ?_); (refine load_ins rfl _ rfl _ _ rfl (toX x s d) R ?_)) | ((with_reducible refine at_store 25 ?_); (refine store_whole rfl 25 _ _ rfl (w.heap.size + 1) (toX x s d).cells _ _ rfl rfl H2.z (sizeInst.trans rfl) rfl (toX x s d).one ?_)))
  refine bodyPost_ret (v := (toX x s d).val) (results_cell_row rfl _ _ (w.heap.size + 1) _ (toX x s d).cells _ _ rfl (row_at H2.z) Try.underlying25 rfl (sizeInst.trans rfl)) rfl ?_
  exact ⟨rfl, below_row _ H2.b (by omega)⟩
set_option maxHeartbeats 4000000 in
theorem leaves_any (x : Ins) (now : Int) (c : Cfg) (h : InC now c) (w : World) : Calls Try.prog 30 #[x.val, .int .u64 now, c.val] w fun e w' => e = .returned (.tuple #[(leavesA x now c).x.val, .int .u8 (leavesA x now c).ask]) ∧ Below w.heap.size w w' := by
  obtain ⟨n0, n1, a0, a1, b0, b1, dd0, dd1, e0, e1⟩ := h
  have w10 : IntKind.u64.wrap (now + c.drain) = now + c.drain := IntWalk.u64_in _ (by omega)
  have w11 : IntKind.u64.wrap (now + c.hookIn) = now + c.hookIn := IntWalk.u64_in _ (by omega)
  have w12 : IntKind.u64.wrap (now + c.hookOut) = now + c.hookOut := IntWalk.u64_in _ (by omega)
  have w14 : IntKind.u64.wrap (now + c.deadline) = now + c.deadline := IntWalk.u64_in _ (by omega)
  clear n0 n1 a0 a1 b0 b1 dd0 dd1 e0 e1
  have HC := (Bx.new3 w x c).2
  have H0 := (Bx.new3 w x c).1
  have c10 := cell_row HC c.f10
  have g10 := c.f10
  have c11 := cell_row HC c.f11
  have g11 := c.f11
  have c12 := cell_row HC c.f12
  have g12 := c.f12
  have c14 := cell_row HC c.f14
  have g14 := c.f14
  have fr := free_row H0.x
  have d5 := cell_row H0.x x.f5
  have d6 := cell_row H0.x x.f6
  have d7 := cell_row H0.x x.f7
  have d8 := cell_row H0.x x.f8
  have f5 := x.f5
  have f6 := x.f6
  have f7 := x.f7
  have f8 := x.f8
  by_cases q1 : 0 < c.hookOut
  · have p0 := decide_eq_true q1
    have HV : Hid (leavesA x now c = ⟨toX x 5 (now + c.hookOut), 0, 0⟩) := Lib.hid (by simp [leavesA, q1])
    clear q1
    have HX := (Bx.new3 w (x) c).1
    go_enter Try.func30, Try.ntmps30
    go_wp2_with (first | (refine load_cfg rfl _ rfl _ rfl c _ _ HC ?_) | ((with_reducible refine at_load' 25 ?_); (refine load_ins rfl _ rfl _ _ rfl (x) (range_row HX.x) ?_)))
    refine (to_any x 5 (now + c.hookOut) _).mono ?_
    rintro _ u ⟨rfl, bu⟩
    have HU := HX.call bu
    clear bu
    go_wp2_with ((with_reducible refine at_store 25 ?_); (refine store_whole rfl 25 _ _ rfl (w.heap.size + 1 + 1) (toX x 5 (now + c.hookOut)).cells _ _ rfl rfl HU.z (sizeInst.trans rfl) rfl (toX x 5 (now + c.hookOut)).one ?_))
    refine bodyPost_ret (v := .tuple #[(toX x 5 (now + c.hookOut)).val, .int .u8 0]) (results_row_tmp (fn := Try.f30) (p := 6) (u := 7) rfl _ _ (w.heap.size + 1 + 1) _ (toX x 5 (now + c.hookOut)).cells _ rfl (row_at HU.z) Try.underlying25 rfl (sizeInst.trans rfl)) rfl ?_
    exact ⟨by rw [HV.out], below_row _ HU.b (by have := HU.lt; omega)⟩
  · have p0 := decide_eq_false q1
    have HV : Hid (leavesA x now c = ⟨toX x 6 0, 2, 0⟩) := Lib.hid (by simp [leavesA, q1])
    clear q1
    have HX := (Bx.new3 w (x) c).1
    go_enter Try.func30, Try.ntmps30
    go_wp2_with (first | (refine load_cfg rfl _ rfl _ rfl c _ _ HC ?_) | ((with_reducible refine at_load' 25 ?_); (refine load_ins rfl _ rfl _ _ rfl (x) (range_row HX.x) ?_)))
    refine (to_any x 6 0 _).mono ?_
    rintro _ u ⟨rfl, bu⟩
    have HU := HX.call bu
    clear bu
    go_wp2_with ((with_reducible refine at_store 25 ?_); (refine store_whole rfl 25 _ _ rfl (w.heap.size + 1 + 1) (toX x 6 0).cells _ _ rfl rfl HU.z (sizeInst.trans rfl) rfl (toX x 6 0).one ?_))
    refine bodyPost_ret (v := .tuple #[(toX x 6 0).val, .int .u8 2]) (results_row_tmp (fn := Try.f30) (p := 6) (u := 7) rfl _ _ (w.heap.size + 1 + 1) _ (toX x 6 0).cells _ rfl (row_at HU.z) Try.underlying25 rfl (sizeInst.trans rfl)) rfl ?_
    exact ⟨by rw [HV.out], below_row _ HU.b (by have := HU.lt; omega)⟩
set_option maxHeartbeats 4000000 in
theorem ready_any (x : Ins) (now : Int) (c : Cfg) (h : InC now c) (w : World) : Calls Try.prog 22 #[x.val, .int .u64 now, c.val] w fun e w' => e = .returned (readyA x now c).val ∧ Below w.heap.size w w' := by
  obtain ⟨n0, n1, a0, a1, b0, b1, dd0, dd1, e0, e1⟩ := h
  have w10 : IntKind.u64.wrap (now + c.drain) = now + c.drain := IntWalk.u64_in _ (by omega)
  have w11 : IntKind.u64.wrap (now + c.hookIn) = now + c.hookIn := IntWalk.u64_in _ (by omega)
  have w12 : IntKind.u64.wrap (now + c.hookOut) = now + c.hookOut := IntWalk.u64_in _ (by omega)
  have w14 : IntKind.u64.wrap (now + c.deadline) = now + c.deadline := IntWalk.u64_in _ (by omega)
  clear n0 n1 a0 a1 b0 b1 dd0 dd1 e0 e1
  have HC := (Bx.new3 w x c).2
  have H0 := (Bx.new3 w x c).1
  have c10 := cell_row HC c.f10
  have g10 := c.f10
  have c11 := cell_row HC c.f11
  have g11 := c.f11
  have c12 := cell_row HC c.f12
  have g12 := c.f12
  have c14 := cell_row HC c.f14
  have g14 := c.f14
  have fr := free_row H0.x
  have d5 := cell_row H0.x x.f5
  have d6 := cell_row H0.x x.f6
  have d7 := cell_row H0.x x.f7
  have d8 := cell_row H0.x x.f8
  have f5 := x.f5
  have f6 := x.f6
  have f7 := x.f7
  have f8 := x.f8
  by_cases q1 : x.st = 7
  · have s7 : (x.st == 7) = true := by simp [q1]
    have z7 : (x.st != 7) = false := by simp [q1]
    have HV : Hid (readyA x now c = ⟨toX x 7 (now + c.deadline), 3, 0⟩) := Lib.hid (by simp [readyA, q1])
    clear q1
    have HX := (Bx.new3 w (x) c).1
    go_enter Try.func22, Try.ntmps22
    go_wp2_with (first | (refine load_cfg rfl _ rfl _ rfl c _ _ HC ?_) | ((with_reducible refine at_load' 25 ?_); (refine load_ins rfl _ rfl _ _ rfl (x) (range_row HX.x) ?_)))
    refine (to_any x 7 (now + c.deadline) _).mono ?_
    rintro _ u ⟨rfl, bu⟩
    have HU := HX.call bu
    clear bu
    go_wp2_with ((with_reducible refine at_store 25 ?_); (refine store_whole rfl 25 _ _ rfl (w.heap.size + 1 + 1) (toX x 7 (now + c.deadline)).cells _ _ rfl rfl HU.z (sizeInst.trans rfl) rfl (toX x 7 (now + c.deadline)).one ?_))
    refine bodyPost_ret (v := Ans.val ⟨toX x 7 (now + c.deadline), 3, 0⟩) (results_row_tmp2 (fn := Try.f22) (p := 6) (u := 7) (v := 8) rfl _ _ (w.heap.size + 1 + 1) _ (toX x 7 (now + c.deadline)).cells _ rfl (row_at HU.z) Try.underlying25 rfl (sizeInst.trans rfl)) rfl ?_
    exact ⟨by rw [HV.out], below_row _ HU.b (by have := HU.lt; omega)⟩
  · have s7 : (x.st == 7) = false := by simp [q1]
    have z7 : (x.st != 7) = true := by simp [q1]
    by_cases q2 : x.st = 1
    · have s1 : (x.st == 1) = true := by simp [q2]
      have z1 : (x.st != 1) = false := by simp [q2]
      by_cases q4 : 0 < c.hookIn
      · have p0 := decide_eq_true q4
        have HV : Hid (readyA x now c = ⟨toX x 2 (now + c.hookIn), 0, 0⟩) := Lib.hid (by simp [readyA, q2, q4])
        clear q2 q4
        have HX := (Bx.new3 w (x) c).1
        go_enter Try.func22, Try.ntmps22
        go_wp2_with (first | (refine load_cfg rfl _ rfl _ rfl c _ _ HC ?_) | ((with_reducible refine at_load' 25 ?_); (refine load_ins rfl _ rfl _ _ rfl (x) (range_row HX.x) ?_)))
        refine (to_any x 2 (now + c.hookIn) _).mono ?_
        rintro _ u ⟨rfl, bu⟩
        have HU := HX.call bu
        clear bu
        go_wp2_with ((with_reducible refine at_store 25 ?_); (refine store_whole rfl 25 _ _ rfl (w.heap.size + 1 + 1) (toX x 2 (now + c.hookIn)).cells _ _ rfl rfl HU.z (sizeInst.trans rfl) rfl (toX x 2 (now + c.hookIn)).one ?_))
        refine bodyPost_ret (v := Ans.val ⟨toX x 2 (now + c.hookIn), 0, 0⟩) (results_row_tmp2 (fn := Try.f22) (p := 6) (u := 7) (v := 8) rfl _ _ (w.heap.size + 1 + 1) _ (toX x 2 (now + c.hookIn)).cells _ rfl (row_at HU.z) Try.underlying25 rfl (sizeInst.trans rfl)) rfl ?_
        exact ⟨by rw [HV.out], below_row _ HU.b (by have := HU.lt; omega)⟩
      · have p0 := decide_eq_false q4
        have HV : Hid (readyA x now c = ⟨toX x 3 0, 0, 0⟩) := Lib.hid (by simp [readyA, q2, q4])
        clear q2 q4
        have HX := (Bx.new3 w (x) c).1
        go_enter Try.func22, Try.ntmps22
        go_wp2_with (first | (refine load_cfg rfl _ rfl _ rfl c _ _ HC ?_) | ((with_reducible refine at_load' 25 ?_); (refine load_ins rfl _ rfl _ _ rfl (x) (range_row HX.x) ?_)))
        refine (to_any x 3 0 _).mono ?_
        rintro _ u ⟨rfl, bu⟩
        have HU := HX.call bu
        clear bu
        go_wp2_with ((with_reducible refine at_store 25 ?_); (refine store_whole rfl 25 _ _ rfl (w.heap.size + 1 + 1) (toX x 3 0).cells _ _ rfl rfl HU.z (sizeInst.trans rfl) rfl (toX x 3 0).one ?_))
        refine bodyPost_ret (v := Ans.val ⟨toX x 3 0, 0, 0⟩) (results_row_tmp2 (fn := Try.f22) (p := 6) (u := 7) (v := 8) rfl _ _ (w.heap.size + 1 + 1) _ (toX x 3 0).cells _ rfl (row_at HU.z) Try.underlying25 rfl (sizeInst.trans rfl)) rfl ?_
        exact ⟨by rw [HV.out], below_row _ HU.b (by have := HU.lt; omega)⟩
    · have s1 : (x.st == 1) = false := by simp [q2]
      have z1 : (x.st != 1) = true := by simp [q2]
      by_cases q3 : x.st = 9
      · have s9 : (x.st == 9) = true := by simp [q3]
        have z9 : (x.st != 9) = false := by simp [q3]
        by_cases q4 : 0 < c.hookIn
        · have p0 := decide_eq_true q4
          have HV : Hid (readyA x now c = ⟨toX x 2 (now + c.hookIn), 0, 0⟩) := Lib.hid (by simp [readyA, q3, q4])
          clear q3 q4
          have HX := (Bx.new3 w (x) c).1
          go_enter Try.func22, Try.ntmps22
          go_wp2_with (first | (refine load_cfg rfl _ rfl _ rfl c _ _ HC ?_) | ((with_reducible refine at_load' 25 ?_); (refine load_ins rfl _ rfl _ _ rfl (x) (range_row HX.x) ?_)))
          refine (to_any x 2 (now + c.hookIn) _).mono ?_
          rintro _ u ⟨rfl, bu⟩
          have HU := HX.call bu
          clear bu
          go_wp2_with ((with_reducible refine at_store 25 ?_); (refine store_whole rfl 25 _ _ rfl (w.heap.size + 1 + 1) (toX x 2 (now + c.hookIn)).cells _ _ rfl rfl HU.z (sizeInst.trans rfl) rfl (toX x 2 (now + c.hookIn)).one ?_))
          refine bodyPost_ret (v := Ans.val ⟨toX x 2 (now + c.hookIn), 0, 0⟩) (results_row_tmp2 (fn := Try.f22) (p := 6) (u := 7) (v := 8) rfl _ _ (w.heap.size + 1 + 1) _ (toX x 2 (now + c.hookIn)).cells _ rfl (row_at HU.z) Try.underlying25 rfl (sizeInst.trans rfl)) rfl ?_
          exact ⟨by rw [HV.out], below_row _ HU.b (by have := HU.lt; omega)⟩
        · have p0 := decide_eq_false q4
          have HV : Hid (readyA x now c = ⟨toX x 3 0, 0, 0⟩) := Lib.hid (by simp [readyA, q3, q4])
          clear q3 q4
          have HX := (Bx.new3 w (x) c).1
          go_enter Try.func22, Try.ntmps22
          go_wp2_with (first | (refine load_cfg rfl _ rfl _ rfl c _ _ HC ?_) | ((with_reducible refine at_load' 25 ?_); (refine load_ins rfl _ rfl _ _ rfl (x) (range_row HX.x) ?_)))
          refine (to_any x 3 0 _).mono ?_
          rintro _ u ⟨rfl, bu⟩
          have HU := HX.call bu
          clear bu
          go_wp2_with ((with_reducible refine at_store 25 ?_); (refine store_whole rfl 25 _ _ rfl (w.heap.size + 1 + 1) (toX x 3 0).cells _ _ rfl rfl HU.z (sizeInst.trans rfl) rfl (toX x 3 0).one ?_))
          refine bodyPost_ret (v := Ans.val ⟨toX x 3 0, 0, 0⟩) (results_row_tmp2 (fn := Try.f22) (p := 6) (u := 7) (v := 8) rfl _ _ (w.heap.size + 1 + 1) _ (toX x 3 0).cells _ rfl (row_at HU.z) Try.underlying25 rfl (sizeInst.trans rfl)) rfl ?_
          exact ⟨by rw [HV.out], below_row _ HU.b (by have := HU.lt; omega)⟩
      · have s9 : (x.st == 9) = false := by simp [q3]
        have z9 : (x.st != 9) = true := by simp [q3]
        have HV : Hid (readyA x now c = ⟨x, 0, 12⟩) := Lib.hid (by simp [readyA, q1, q2, q3])
        clear q1 q2 q3
        have HX := (Bx.new3 w (x) c).1
        go_enter Try.func22, Try.ntmps22
        go_wp2_with (first | (refine load_cfg rfl _ rfl _ rfl c _ _ HC ?_) | ((with_reducible refine at_load' 25 ?_); (refine load_ins rfl _ rfl _ _ rfl (x) (range_row HX.x) ?_)) | ((with_reducible refine at_store 25 ?_); (refine store_whole rfl 25 _ _ rfl (w.heap.size + 1 + 1) (x).cells _ _ rfl rfl HX.z (sizeInst.trans rfl) rfl (x).one ?_)))
        refine bodyPost_ret (v := Ans.val ⟨x, 0, 12⟩) (results_row_tmp2 (fn := Try.f22) (p := 6) (u := 7) (v := 8) rfl _ _ (w.heap.size + 1 + 1) _ (x).cells _ rfl (row_at HX.z) Try.underlying25 rfl (sizeInst.trans rfl)) rfl ?_
        exact ⟨by rw [HV.out], below_row _ HX.b (by have := HX.lt; omega)⟩
set_option maxHeartbeats 4000000 in
theorem notice_any (x : Ins) (now at_ : Int) (c : Cfg) (h : InC now c) (w : World) : Calls Try.prog 23 #[x.val, .int .u64 now, .int .u64 at_, c.val] w fun e w' => e = .returned (noticeA x now at_ c).val ∧ Below w.heap.size w w' := by
  obtain ⟨n0, n1, a0, a1, b0, b1, dd0, dd1, e0, e1⟩ := h
  have w10 : IntKind.u64.wrap (now + c.drain) = now + c.drain := IntWalk.u64_in _ (by omega)
  have w11 : IntKind.u64.wrap (now + c.hookIn) = now + c.hookIn := IntWalk.u64_in _ (by omega)
  have w12 : IntKind.u64.wrap (now + c.hookOut) = now + c.hookOut := IntWalk.u64_in _ (by omega)
  have w14 : IntKind.u64.wrap (now + c.deadline) = now + c.deadline := IntWalk.u64_in _ (by omega)
  clear n0 n1 a0 a1 b0 b1 dd0 dd1 e0 e1
  have HC := (Bx.new3 w x c).2
  have H0 := (Bx.new3 w x c).1
  have c10 := cell_row HC c.f10
  have g10 := c.f10
  have c11 := cell_row HC c.f11
  have g11 := c.f11
  have c12 := cell_row HC c.f12
  have g12 := c.f12
  have c14 := cell_row HC c.f14
  have g14 := c.f14
  have fr := free_row H0.x
  have d5 := cell_row H0.x x.f5
  have d6 := cell_row H0.x x.f6
  have d7 := cell_row H0.x x.f7
  have d8 := cell_row H0.x x.f8
  have f5 := x.f5
  have f6 := x.f6
  have f7 := x.f7
  have f8 := x.f8
  by_cases q1 : x.st = 6
  · have s6 : (x.st == 6) = true := by simp [q1]
    have z6 : (x.st != 6) = false := by simp [q1]
    have HV : Hid (noticeA x now at_ c = ⟨x, 0, 12⟩) := Lib.hid (by simp [noticeA, q1])
    clear q1
    have HX := (Bx.new3 w (x) c).1
    go_enter Try.func23, Try.ntmps23
    go_wp2_with (first | (refine load_cfg rfl _ rfl _ rfl c _ _ HC ?_) | ((with_reducible refine at_load' 25 ?_); (refine load_ins rfl _ rfl _ _ rfl (x) (range_row HX.x) ?_)) | ((with_reducible refine at_store 25 ?_); (refine store_whole rfl 25 _ _ rfl (w.heap.size + 1 + 1) (x).cells _ _ rfl rfl HX.z (sizeInst.trans rfl) rfl (x).one ?_)))
    refine bodyPost_ret (v := Ans.val ⟨x, 0, 12⟩) (results_row_tmp2 (fn := Try.f23) (p := 8) (u := 9) (v := 10) rfl _ _ (w.heap.size + 1 + 1) _ (x).cells _ rfl (row_at HX.z) Try.underlying25 rfl (sizeInst.trans rfl)) rfl ?_
    exact ⟨by rw [HV.out], below_row _ HX.b (by have := HX.lt; omega)⟩
  · have s6 : (x.st == 6) = false := by simp [q1]
    have z6 : (x.st != 6) = true := by simp [q1]
    by_cases q2 : x.st = 3
    · have s3 : (x.st == 3) = true := by simp [q2]
      have z3 : (x.st != 3) = false := by simp [q2]
      have HV : Hid (noticeA x now at_ c = ⟨toX (notX x at_) 4 (now + c.drain), 0, 0⟩) := Lib.hid (by simp [noticeA, q2])
      clear q2
      have HX := (Bx.new3 w (notX x at_) c).1
      go_enter Try.func23, Try.ntmps23
      go_wp2_with (first | (refine load_cfg rfl _ rfl _ rfl c _ _ HC ?_) | ((with_reducible refine at_load' 25 ?_); (refine load_ins rfl _ rfl _ _ rfl (notX x at_) (range_row HX.x) ?_)))
      refine (to_any (notX x at_) 4 (now + c.drain) _).mono ?_
      rintro _ u ⟨rfl, bu⟩
      have HU := HX.call bu
      clear bu
      go_wp2_with ((with_reducible refine at_store 25 ?_); (refine store_whole rfl 25 _ _ rfl (w.heap.size + 1 + 1) (toX (notX x at_) 4 (now + c.drain)).cells _ _ rfl rfl HU.z (sizeInst.trans rfl) rfl (toX (notX x at_) 4 (now + c.drain)).one ?_))
      refine bodyPost_ret (v := Ans.val ⟨toX (notX x at_) 4 (now + c.drain), 0, 0⟩) (results_row_tmp2 (fn := Try.f23) (p := 8) (u := 9) (v := 10) rfl _ _ (w.heap.size + 1 + 1) _ (toX (notX x at_) 4 (now + c.drain)).cells _ rfl (row_at HU.z) Try.underlying25 rfl (sizeInst.trans rfl)) rfl ?_
      exact ⟨by rw [HV.out], below_row _ HU.b (by have := HU.lt; omega)⟩
    · have s3 : (x.st == 3) = false := by simp [q2]
      have z3 : (x.st != 3) = true := by simp [q2]
      by_cases q3 : x.st = 4
      · have s4 : (x.st == 4) = true := by simp [q3]
        have z4 : (x.st != 4) = false := by simp [q3]
        have HV : Hid (noticeA x now at_ c = ⟨notX x at_, 0, 0⟩) := Lib.hid (by simp [noticeA, q3])
        clear q3
        have HX := (Bx.new3 w (notX x at_) c).1
        go_enter Try.func23, Try.ntmps23
        go_wp2_with (first | (refine load_cfg rfl _ rfl _ rfl c _ _ HC ?_) | ((with_reducible refine at_load' 25 ?_); (refine load_ins rfl _ rfl _ _ rfl (notX x at_) (range_row HX.x) ?_)) | ((with_reducible refine at_store 25 ?_); (refine store_whole rfl 25 _ _ rfl (w.heap.size + 1 + 1) (notX x at_).cells _ _ rfl rfl HX.z (sizeInst.trans rfl) rfl (notX x at_).one ?_)))
        refine bodyPost_ret (v := Ans.val ⟨notX x at_, 0, 0⟩) (results_row_tmp2 (fn := Try.f23) (p := 8) (u := 9) (v := 10) rfl _ _ (w.heap.size + 1 + 1) _ (notX x at_).cells _ rfl (row_at HX.z) Try.underlying25 rfl (sizeInst.trans rfl)) rfl ?_
        exact ⟨by rw [HV.out], below_row _ HX.b (by have := HX.lt; omega)⟩
      · have s4 : (x.st == 4) = false := by simp [q3]
        have z4 : (x.st != 4) = true := by simp [q3]
        by_cases q4 : x.st = 5
        · have s5 : (x.st == 5) = true := by simp [q4]
          have z5 : (x.st != 5) = false := by simp [q4]
          have HV : Hid (noticeA x now at_ c = ⟨notX x at_, 0, 0⟩) := Lib.hid (by simp [noticeA, q4])
          clear q4
          have HX := (Bx.new3 w (notX x at_) c).1
          go_enter Try.func23, Try.ntmps23
          go_wp2_with (first | (refine load_cfg rfl _ rfl _ rfl c _ _ HC ?_) | ((with_reducible refine at_load' 25 ?_); (refine load_ins rfl _ rfl _ _ rfl (notX x at_) (range_row HX.x) ?_)) | ((with_reducible refine at_store 25 ?_); (refine store_whole rfl 25 _ _ rfl (w.heap.size + 1 + 1) (notX x at_).cells _ _ rfl rfl HX.z (sizeInst.trans rfl) rfl (notX x at_).one ?_)))
          refine bodyPost_ret (v := Ans.val ⟨notX x at_, 0, 0⟩) (results_row_tmp2 (fn := Try.f23) (p := 8) (u := 9) (v := 10) rfl _ _ (w.heap.size + 1 + 1) _ (notX x at_).cells _ rfl (row_at HX.z) Try.underlying25 rfl (sizeInst.trans rfl)) rfl ?_
          exact ⟨by rw [HV.out], below_row _ HX.b (by have := HX.lt; omega)⟩
        · have s5 : (x.st == 5) = false := by simp [q4]
          have z5 : (x.st != 5) = true := by simp [q4]
          have HV : Hid (noticeA x now at_ c = ⟨toX (notX x at_) 6 0, 2, 0⟩) := Lib.hid (by simp [noticeA, q1, q2, q3, q4])
          clear q1 q2 q3 q4
          have HX := (Bx.new3 w (notX x at_) c).1
          go_enter Try.func23, Try.ntmps23
          go_wp2_with (first | (refine load_cfg rfl _ rfl _ rfl c _ _ HC ?_) | ((with_reducible refine at_load' 25 ?_); (refine load_ins rfl _ rfl _ _ rfl (notX x at_) (range_row HX.x) ?_)))
          refine (to_any (notX x at_) 6 0 _).mono ?_
          rintro _ u ⟨rfl, bu⟩
          have HU := HX.call bu
          clear bu
          go_wp2_with ((with_reducible refine at_store 25 ?_); (refine store_whole rfl 25 _ _ rfl (w.heap.size + 1 + 1) (toX (notX x at_) 6 0).cells _ _ rfl rfl HU.z (sizeInst.trans rfl) rfl (toX (notX x at_) 6 0).one ?_))
          refine bodyPost_ret (v := Ans.val ⟨toX (notX x at_) 6 0, 2, 0⟩) (results_row_tmp2 (fn := Try.f23) (p := 8) (u := 9) (v := 10) rfl _ _ (w.heap.size + 1 + 1) _ (toX (notX x at_) 6 0).cells _ rfl (row_at HU.z) Try.underlying25 rfl (sizeInst.trans rfl)) rfl ?_
          exact ⟨by rw [HV.out], below_row _ HU.b (by have := HU.lt; omega)⟩
set_option maxHeartbeats 4000000 in
theorem beat_any (x : Ins) (now : Int) (c : Cfg) (h : InC now c) (w : World) : Calls Try.prog 24 #[x.val, .int .u64 now, c.val] w fun e w' => e = .returned (beatA x now c).val ∧ Below w.heap.size w w' := by
  obtain ⟨n0, n1, a0, a1, b0, b1, dd0, dd1, e0, e1⟩ := h
  have w10 : IntKind.u64.wrap (now + c.drain) = now + c.drain := IntWalk.u64_in _ (by omega)
  have w11 : IntKind.u64.wrap (now + c.hookIn) = now + c.hookIn := IntWalk.u64_in _ (by omega)
  have w12 : IntKind.u64.wrap (now + c.hookOut) = now + c.hookOut := IntWalk.u64_in _ (by omega)
  have w14 : IntKind.u64.wrap (now + c.deadline) = now + c.deadline := IntWalk.u64_in _ (by omega)
  clear n0 n1 a0 a1 b0 b1 dd0 dd1 e0 e1
  have HC := (Bx.new3 w x c).2
  have H0 := (Bx.new3 w x c).1
  have c10 := cell_row HC c.f10
  have g10 := c.f10
  have c11 := cell_row HC c.f11
  have g11 := c.f11
  have c12 := cell_row HC c.f12
  have g12 := c.f12
  have c14 := cell_row HC c.f14
  have g14 := c.f14
  have fr := free_row H0.x
  have d5 := cell_row H0.x x.f5
  have d6 := cell_row H0.x x.f6
  have d7 := cell_row H0.x x.f7
  have d8 := cell_row H0.x x.f8
  have f5 := x.f5
  have f6 := x.f6
  have f7 := x.f7
  have f8 := x.f8
  by_cases q1 : x.st = 2
  · have s2 : (x.st == 2) = true := by simp [q1]
    have z2 : (x.st != 2) = false := by simp [q1]
    have HV : Hid (beatA x now c = ⟨dueX x (now + c.hookIn), 0, 0⟩) := Lib.hid (by simp [beatA, q1])
    clear q1
    have HX := (Bx.new3 w (dueX x (now + c.hookIn)) c).1
    go_enter Try.func24, Try.ntmps24
    go_wp2_with (first | (refine load_cfg rfl _ rfl _ rfl c _ _ HC ?_) | ((with_reducible refine at_load' 25 ?_); (refine load_ins rfl _ rfl _ _ rfl (dueX x (now + c.hookIn)) (range_row HX.x) ?_)) | ((with_reducible refine at_store 25 ?_); (refine store_whole rfl 25 _ _ rfl (w.heap.size + 1 + 1) (dueX x (now + c.hookIn)).cells _ _ rfl rfl HX.z (sizeInst.trans rfl) rfl (dueX x (now + c.hookIn)).one ?_)))
    refine bodyPost_ret (v := Ans.val ⟨dueX x (now + c.hookIn), 0, 0⟩) (results_row_tmp2 (fn := Try.f24) (p := 6) (u := 7) (v := 8) rfl _ _ (w.heap.size + 1 + 1) _ (dueX x (now + c.hookIn)).cells _ rfl (row_at HX.z) Try.underlying25 rfl (sizeInst.trans rfl)) rfl ?_
    exact ⟨by rw [HV.out], below_row _ HX.b (by have := HX.lt; omega)⟩
  · have s2 : (x.st == 2) = false := by simp [q1]
    have z2 : (x.st != 2) = true := by simp [q1]
    by_cases q2 : x.st = 5
    · have s5 : (x.st == 5) = true := by simp [q2]
      have z5 : (x.st != 5) = false := by simp [q2]
      rcases hn : x.ntd with _ | _
      · rw [hn] at d7 f7
        have HV : Hid (beatA x now c = ⟨dueX x (now + c.hookOut), 0, 0⟩) := Lib.hid (by simp [beatA, q2, hn])
        clear q2 hn
        have HX := (Bx.new3 w (dueX x (now + c.hookOut)) c).1
        go_enter Try.func24, Try.ntmps24
        go_wp2_with (first | (refine load_cfg rfl _ rfl _ rfl c _ _ HC ?_) | ((with_reducible refine at_load' 25 ?_); (refine load_ins rfl _ rfl _ _ rfl (dueX x (now + c.hookOut)) (range_row HX.x) ?_)) | ((with_reducible refine at_store 25 ?_); (refine store_whole rfl 25 _ _ rfl (w.heap.size + 1 + 1) (dueX x (now + c.hookOut)).cells _ _ rfl rfl HX.z (sizeInst.trans rfl) rfl (dueX x (now + c.hookOut)).one ?_)))
        refine bodyPost_ret (v := Ans.val ⟨dueX x (now + c.hookOut), 0, 0⟩) (results_row_tmp2 (fn := Try.f24) (p := 6) (u := 7) (v := 8) rfl _ _ (w.heap.size + 1 + 1) _ (dueX x (now + c.hookOut)).cells _ rfl (row_at HX.z) Try.underlying25 rfl (sizeInst.trans rfl)) rfl ?_
        exact ⟨by rw [HV.out], below_row _ HX.b (by have := HX.lt; omega)⟩
      · rw [hn] at d7 f7
        have HV : Hid (beatA x now c = ⟨x, 0, 0⟩) := Lib.hid (by simp [beatA, q2, hn])
        clear q2 hn
        have HX := (Bx.new3 w (x) c).1
        go_enter Try.func24, Try.ntmps24
        go_wp2_with (first | (refine load_cfg rfl _ rfl _ rfl c _ _ HC ?_) | ((with_reducible refine at_load' 25 ?_); (refine load_ins rfl _ rfl _ _ rfl (x) (range_row HX.x) ?_)) | ((with_reducible refine at_store 25 ?_); (refine store_whole rfl 25 _ _ rfl (w.heap.size + 1 + 1) (x).cells _ _ rfl rfl HX.z (sizeInst.trans rfl) rfl (x).one ?_)))
        refine bodyPost_ret (v := Ans.val ⟨x, 0, 0⟩) (results_row_tmp2 (fn := Try.f24) (p := 6) (u := 7) (v := 8) rfl _ _ (w.heap.size + 1 + 1) _ (x).cells _ rfl (row_at HX.z) Try.underlying25 rfl (sizeInst.trans rfl)) rfl ?_
        exact ⟨by rw [HV.out], below_row _ HX.b (by have := HX.lt; omega)⟩
    · have s5 : (x.st == 5) = false := by simp [q2]
      have z5 : (x.st != 5) = true := by simp [q2]
      have HV : Hid (beatA x now c = ⟨x, 0, 12⟩) := Lib.hid (by simp [beatA, q1, q2])
      clear q1 q2
      have HX := (Bx.new3 w (x) c).1
      go_enter Try.func24, Try.ntmps24
      go_wp2_with (first | (refine load_cfg rfl _ rfl _ rfl c _ _ HC ?_) | ((with_reducible refine at_load' 25 ?_); (refine load_ins rfl _ rfl _ _ rfl (x) (range_row HX.x) ?_)) | ((with_reducible refine at_store 25 ?_); (refine store_whole rfl 25 _ _ rfl (w.heap.size + 1 + 1) (x).cells _ _ rfl rfl HX.z (sizeInst.trans rfl) rfl (x).one ?_)))
      refine bodyPost_ret (v := Ans.val ⟨x, 0, 12⟩) (results_row_tmp2 (fn := Try.f24) (p := 6) (u := 7) (v := 8) rfl _ _ (w.heap.size + 1 + 1) _ (x).cells _ rfl (row_at HX.z) Try.underlying25 rfl (sizeInst.trans rfl)) rfl ?_
      exact ⟨by rw [HV.out], below_row _ HX.b (by have := HX.lt; omega)⟩
set_option maxHeartbeats 4000000 in
theorem one_any (x : Ins) (is s d ask : Int) (w : World) : Calls Try.prog 26 #[x.val, .int .u8 is, .int .u8 s, .int .u64 d, .int .u8 ask] w fun e w' => e = .returned (oneA x is s d ask).val ∧ Below w.heap.size w w' := by
  have H0 := Bx.new2 w x
  have fr := free_row H0.x
  have d5 := cell_row H0.x x.f5
  have d6 := cell_row H0.x x.f6
  have d7 := cell_row H0.x x.f7
  have d8 := cell_row H0.x x.f8
  have f5 := x.f5
  have f6 := x.f6
  have f7 := x.f7
  have f8 := x.f8
  by_cases q1 : x.st = is
  · have s1 : (x.st == is) = true := by simp [q1]
    have HV : Hid (oneA x is s d ask = ⟨toX x s d, ask, 0⟩) := Lib.hid (by simp [oneA, q1])
    clear q1
    have HX := Bx.new2 w (x)
    go_enter Try.func26, Try.ntmps26
    go_wp2_with (first | ((with_reducible refine at_load' 25 ?_); (refine load_ins rfl _ rfl _ _ rfl (x) (range_row HX.x) ?_)))
    refine (to_any x s d _).mono ?_
    rintro _ u ⟨rfl, bu⟩
    have HU := HX.call bu
    clear bu
    go_wp2_with ((with_reducible refine at_store 25 ?_); (refine store_whole rfl 25 _ _ rfl (w.heap.size + 1) (toX x s d).cells _ _ rfl rfl HU.z (sizeInst.trans rfl) rfl (toX x s d).one ?_))
    refine bodyPost_ret (v := Ans.val ⟨toX x s d, ask, 0⟩) (results_row_tmp2 (fn := Try.f26) (p := 10) (u := 11) (v := 12) rfl _ _ (w.heap.size + 1) _ (toX x s d).cells _ rfl (row_at HU.z) Try.underlying25 rfl (sizeInst.trans rfl)) rfl ?_
    exact ⟨by rw [HV.out], below_row _ HU.b (by have := HU.lt; omega)⟩
  · have s1 : (x.st == is) = false := by simp [q1]
    have HV : Hid (oneA x is s d ask = ⟨x, 0, 12⟩) := Lib.hid (by simp [oneA, q1])
    clear q1
    have HX := Bx.new2 w (x)
    go_enter Try.func26, Try.ntmps26
    go_wp2_with (first | ((with_reducible refine at_load' 25 ?_); (refine load_ins rfl _ rfl _ _ rfl (x) (range_row HX.x) ?_)) | ((with_reducible refine at_store 25 ?_); (refine store_whole rfl 25 _ _ rfl (w.heap.size + 1) (x).cells _ _ rfl rfl HX.z (sizeInst.trans rfl) rfl (x).one ?_)))
    refine bodyPost_ret (v := Ans.val ⟨x, 0, 12⟩) (results_row_tmp2 (fn := Try.f26) (p := 10) (u := 11) (v := 12) rfl _ _ (w.heap.size + 1) _ (x).cells _ rfl (row_at HX.z) Try.underlying25 rfl (sizeInst.trans rfl)) rfl ?_
    exact ⟨by rw [HV.out], below_row _ HX.b (by have := HX.lt; omega)⟩
end Go.Proofs.Ytmbafedpbmldmaa.Does
