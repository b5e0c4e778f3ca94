
/- Slices of bytes: one that reads as a list (Rd), one that is the call's own row (ownsRow); how they are kept. No code of the program. -/
import Derived.WalkKit
import Derived.ProofKit
import Derived.OpenShut
import Derived.Lib.Hide
import Derived.Laws.BytesArg
import Derived.Laws.OwnMore
import Derived.Laws.AppendOwnNone
import Derived.Below
import Derived.WalkSpells
import Derived.SizedLaws
import Derived.Deep.QuietTactic
import Derived.BigQuiet
namespace Go.Proofs.Ytoiofdoipmdajaa.Mem
open Go.ChangeShapes Go.WideShapes Go.ChangeAt Go.RowKit

/-- bytes as cells -/
def bytesV (bs : List Int) : List Value := bs.map (Value.int .u8)
theorem bytesV_length (bs : List Int) : (bytesV bs).length = bs.length := by simp [bytesV]
theorem bytesV_append (a b : List Int) : bytesV (a ++ b) = bytesV a ++ bytesV b := by simp [bytesV]
theorem bytesV_one (bs : List Int) : ∀ u ∈ bytesV bs, u.oneCell' = true := by
  intro u hu
  simp only [bytesV, List.mem_map] at hu
  obtain ⟨n, _, rfl⟩ := hu
  rfl
theorem bytesV_get {bs : List Int} {j : Nat} {u : Value} (h : (bytesV bs)[j]? = some u) : j < bs.length ∧ u = .int .u8 (bs.getD j 0) := by
  have hj : j < bs.length := by
    rcases Nat.lt_or_ge j bs.length with h' | h'
    · exact h'
    · rw [List.getElem?_eq_none (by rw [bytesV_length]; exact h')] at h; cases h
  refine ⟨hj, ?_⟩
  simp only [bytesV, List.getElem?_map, List.getElem?_eq_getElem hj, Option.map_some, Option.some.injEq] at h
  rw [← h]; simp [List.getD, List.getElem?_eq_getElem hj]
theorem bytesV_at {bs : List Int} {j : Nat} (h : j < bs.length) : (bytesV bs)[j]? = some (.int .u8 (bs.getD j 0)) := by
  simp [bytesV, List.getElem?_eq_getElem h, List.getD]

/-- the slice value '.slice A n _' holds the bytes bs, below block B -/
def Rd (w : World) (B : Nat) (A : Option Addr) (n : Nat) (bs : List Int) : Prop :=
  bs.length = n ∧ (A = none → n = 0) ∧ (0 < n → ∃ b off, A = some ⟨b, off, none⟩ ∧ b < B ∧ ∀ i, i < n → w.cell? ⟨b, off + i, none⟩ = some (.int .u8 (bs.getD i 0)))

section
variable {w w' : World} {B B' n : Nat} {A : Option Addr} {bs : List Int}

theorem Rd.below (h : Rd w B A n bs) (hb : Below B w w') : Rd w' B A n bs :=
  ⟨h.1, h.2.1, fun hn => by
    obtain ⟨b, off, e, hlt, hc⟩ := h.2.2 hn
    exact ⟨b, off, e, hlt, fun i hi => (hb.cell (p := ⟨b, off + i, none⟩) hlt).trans (hc i hi)⟩⟩
theorem Rd.more (h : Rd w B A n bs) (hB : B ≤ B') : Rd w B' A n bs :=
  ⟨h.1, h.2.1, fun hn => by
    obtain ⟨b, off, e, hlt, hc⟩ := h.2.2 hn
    exact ⟨b, off, e, by omega, hc⟩⟩
theorem Rd.nil_ (w : World) (B : Nat) : Rd w B none 0 [] := ⟨rfl, fun _ => rfl, fun h => absurd h (by omega)⟩
/-- where it begins, and its cells -/
theorem Rd.cells (h : Rd w B A n bs) (hA : A ≠ none) : ∃ ad, A = some ad ∧ ∀ j u, (bytesV bs)[j]? = some u → w.cell? (ad.add j) = some u := by
  rcases A with _ | ad
  · exact absurd rfl hA
  · refine ⟨ad, rfl, fun j u hu => ?_⟩
    obtain ⟨hj, rfl⟩ := bytesV_get hu
    obtain ⟨b, off, e, _, hc⟩ := h.2.2 (by rw [← h.1]; omega)
    injection e with e
    subst e
    have : (⟨b, off, none⟩ : Addr).add j = ⟨b, off + j, none⟩ := by unfold Addr.add; split <;> simp_all
    rw [this]
    exact hc j (by rw [← h.1]; exact hj)
/-- of a row of the call's own -/
theorem Rd.of_own {base : Nat} {e : TypeId} {c : Nat} (h : w.ownsRow base e 1 (.slice A n c) n (bytesV bs)) : Rd w w.heap.size A n bs := by
  have hl : bs.length = n := by have := h.1; rw [bytesV_length] at this; omega
  rcases h.2 with ⟨h', hn⟩ | ⟨g, cap, cur, h', hb, hg, hnc, hcm, hcs, ht⟩
  · injection h' with h1 h2 h3
    subst h1
    exact ⟨hl, fun _ => hn, fun h0 => absurd h0 (by omega)⟩
  · injection h' with h1 h2 h3
    subst h1
    subst h3
    refine ⟨hl, fun h0 => (by cases h0), fun _ => ⟨g, 0, rfl, ?_, fun i hi => ?_⟩⟩
    · rcases Nat.lt_or_ge g w.heap.size with hlt | hge
      · exact hlt
      · rw [Array.getElem?_eq_none hge] at hg; cases hg
    · have := h.cellAt i (by omega)
      rw [show (0 : Nat) + i = i by omega, this]
      exact bytesV_at (by omega)
/-- a row of the call's own begins at the head of a block -/
theorem own_form {base : Nat} {e : TypeId} {v : Value} (h : w.ownsRow base e 1 v n (bytesV bs)) (hn : 0 < n) :
    ∃ g cap, v = .slice (some ⟨g, 0, none⟩) n cap ∧ base ≤ g ∧ g < w.heap.size ∧ n ≤ cap ∧ cap ≤ 9223372036854775807 := by
  rcases h.2 with ⟨_, h0⟩ | ⟨g, cap, cur, h', hb, hg, hnc, hm, _⟩
  · omega
  · refine ⟨g, cap, h', hb, ?_, hnc, by unfold maxLen at hm; omega⟩
    rcases Nat.lt_or_ge g w.heap.size with hlt | hge
    · exact hlt
    · rw [Array.getElem?_eq_none hge] at hg; cases hg

/-- what is read ahead -/
theorem Rd.ahead {m : Nat} (h : Rd w B A n bs) (hm : m ≤ n) : Rd w B A m (bs.take m) :=
  ⟨by rw [List.length_take, h.1]; omega, fun e => by have := h.2.1 e; omega, fun h0 => by
    obtain ⟨b, off, e, hlt, hc⟩ := h.2.2 (by omega)
    refine ⟨b, off, e, hlt, fun i hi => ?_⟩
    rw [hc i (by omega)]
    simp [List.getD, hi]⟩
/-- the cells of a block that was just laid -/
theorem new_cells (w : World) (bs : List Int) (t : TypeId) : ∀ j u, (bytesV bs)[j]? = some u → (w.alloc (.cells (bytesV bs).toArray t)).cell? ((⟨w.heap.size, 0, none⟩ : Addr).add j) = some u := by
  intro j u hu
  have e : (⟨w.heap.size, 0, none⟩ : Addr).add j = ⟨w.heap.size, j, none⟩ := by unfold Addr.add; split <;> simp_all
  rw [e, cell_of_row _ _ _ _ _ _ (heap_alloc_new w _)]
  simpa using hu
theorem run_str (P : Program) (w : World) (src e dst : TypeId) (hs : P.underlying src = some (.slice e)) (he : P.underlying e = some (.int .u8)) (hd : P.underlying dst = some .string)
    (c : Nat) (h : Rd w B A n bs) : (convert src dst (.slice A n c)).run P w = .ok (.string (strOfNums bs)) w := by
  obtain ⟨hl, _, hc⟩ := h
  by_cases hn : 0 < n
  · obtain ⟨b, off, rfl, _, hcell⟩ := hc hn
    exact run_convert_bytes_arg w src e hs he b off n c bs hl hcell dst hd
  · obtain rfl : n = 0 := by omega
    obtain rfl : bs = [] := List.eq_nil_of_length_eq_zero hl
    rcases A with _ | a
    · exact run_convert_bytes_nil w src e hs he 0 c dst hd
    · rw [run_convert_bytes_string w src dst e _ 0 c hs he hd, run_bytesToString w a 0 c [] rfl]; rfl
end

theorem grownBy_same (w : World) (row : Option Nat) : w.grownBy w row := ⟨rfl, rfl, rfl, Nat.le_refl _, fun _ _ _ => rfl⟩
/-- an append of bytes, nil or not, to a row of the call's own -/
theorem append_bytes {P : Program} {w : World} {ops : Array Oper} {rest : List Oper} {o : Oper} {a : Act} {Q : Exit → Act → World → Prop} (hgd : o.guard = none) (s x : Operand) (t : TypeId)
    (ho : o.op = .call { callee := .builtin .append, args := #[s, x], argTypes := #[t, t] })
    (base : Nat) (e : TypeId) (i : TypeInfo) (ht : P.underlying t = some (.slice e)) (hi : P.info? e = some i) (hz : i.zero = some (.int .u8 0)) (hsize : i.size = 1) (hby : i.bytes = 1)
    (v : Value) (n : Nat) (xs : List Int) (hs : a.eval s = v) (hown : w.ownsRow base e 1 v n (bytesV xs))
    (B : Nat) (A : Option Addr) (m c : Nat) (news : List Int) (hx : a.eval x = .slice A m c) (hr : Rd w B A m news) (hnil : A = none → c = 0)
    (hn : n + m ≤ 140737488355328) (hbase : base ≤ w.heap.size)
    (h : ∀ v' w', w'.ownsRow base e 1 v' (n + m) (bytesV (xs ++ news)) → w.grownBy w' v.ownBlock → wpList P ops Q rest (a.put o.dst v') w') : wpList P ops Q (o :: rest) a w := by
  by_cases hA : A = none
  · subst hA
    obtain rfl := hnil rfl
    obtain rfl := hr.2.1 rfl
    obtain rfl : news = [] := List.eq_nil_of_length_eq_zero hr.1
    exact wpList_append_own_none hgd s x t ho base e i 1 ht hi v n (bytesV xs) hs hown hx (h v w (by simpa using hown) (grownBy_same w _))
  · obtain ⟨ad, rfl, hc⟩ := hr.cells hA
    refine wpList_append_own w hgd s x t ho base e i (.int .u8 0) 1 1 ht hi hz hsize hby rfl (by decide) v n (bytesV xs) hs hown ad m c (bytesV news) hx (by rw [bytesV_length, hr.1]; omega) hc (bytesV_one _) (by unfold maxLen; omega) (by omega) hbase ?_
    intro v' w' h1 h2 _
    exact h v' w' (by rw [bytesV_append]; exact h1) h2

/-- what a walk is told of a slice of bytes that came in: bs are its bytes -/
structure ByteArg (w : World) (A : Option Addr) (n c : Nat) (bs : List Int) : Prop where
  rd : Rd w w.heap.size A n bs
  nil_ : A = none → c = 0
  le : n ≤ c
  reach : c ≤ 140737488351232
  byte : ∀ i, 0 ≤ bs.getD i 0 ∧ bs.getD i 0 ≤ 255

theorem byteArg_of {H : Type} {enc : TypeId × Value → H} {P : Program} {w : World} {T E : TypeId} (hT : P.underlying T = some (.slice E)) (hE : P.underlying E = some (.int .u8)) (hcE : P.cellsOf E = 1) (hbE : P.bytesOf E = 1)
    {ts : List TypeId} {ds : List (DataW H)} {j : Nat} {A : Option Addr} {n c : Nat} {d : DataW H} {p : List MemPlace} (h : DataW.Trod enc P w 0 (fun _ => true) true T (.slice A n c) d p)
    (hs : (DataW.weightsEach P ts ds).all (· ≤ reachBytes) = true) (ht : ts[j]? = some T) (hd : ds[j]? = some d) : ∃ bs, ByteArg w A n c bs ∧ (d = .nil ∧ n = 0 ∨ ∃ sp, d = .slice (lits .u8 bs) sp) := by
  obtain ⟨fuel, hf⟩ := h
  rcases open_ints hT hE hcE hf with ⟨hcs, hx⟩ | ⟨x, l, c', zs, hcs, _, hl, hm, hz, hx, hcell, hwz⟩
  · simp [Value.cells] at hcs
    obtain ⟨rfl, rfl, rfl⟩ := hcs
    refine ⟨[], ⟨Rd.nil_ _ _, fun _ => rfl, Nat.le_refl _, by omega, fun i => by simp⟩, .inl ⟨?_, rfl⟩⟩
    injection hx
  · simp [Value.cells] at hcs
    obtain ⟨rfl, rfl, rfl⟩ := hcs
    injection hx with hx1 hx2
    subst hx1
    have hz' : zs.length = c := by simpa using hz
    have hr := sized_slice hs ht hd hT
    rw [hbE] at hr
    simp only [lits, List.length_map, List.length_take, List.length_drop, reachBytes] at hr
    have hb : ∀ i, 0 ≤ (zs.take n).getD i 0 ∧ (zs.take n).getD i 0 ≤ 255 := by
      intro i
      rcases Nat.lt_or_ge i (zs.take n).length with hi | hi
      · have e : (zs.take n).getD i 0 = (zs.take n)[i] := by simp [List.getD, List.getElem?_eq_getElem hi]
        rw [e]
        exact bounds_u8 (hwz _ (List.mem_of_mem_take (List.getElem_mem hi)))
      · have e : (zs.take n).getD i 0 = 0 := by simp only [List.getD, List.getElem?_eq_none hi]; rfl
        rw [e]; omega
    refine ⟨zs.take n, ⟨⟨by rw [List.length_take]; omega, fun e => (by cases e), fun h0 => ?_⟩, fun e => (by cases e), hl, by omega, hb⟩, .inr ⟨_, rfl⟩⟩
    obtain ⟨b, off, rfl, hc⟩ := ints_at hcell (by omega)
    refine ⟨b, off, rfl, ?_, fun i hi => ?_⟩
    · have h1 := hc 0 (by omega)
      rcases Nat.lt_or_ge b w.heap.size with hlt | hge
      · exact hlt
      · simp [World.cell?, Array.getElem?_eq_none hge] at h1
    · rw [hc i (by omega)]; simp [List.getD, hi]
/-! Keeping 'Below' over what a walk does. -/
theorem bAlloc {a w : World} (h : Below a.heap.size a w) (o : Obj) : Below a.heap.size a (w.alloc o) := h.alloc h.size o
theorem bSet {a w : World} (h : Below a.heap.size a w) {p : Addr} (hp : a.heap.size ≤ p.block) (u : Value) : Below a.heap.size a (w.setCell p u) := h.setCell hp u
theorem bDrew {a w : World} (h : Below a.heap.size a w) : Below a.heap.size a w.drew := h.drew
theorem bTrans {a b c : World} (h : Below a.heap.size a b) (k : Below b.heap.size b c) : Below a.heap.size a c := h.trans (k.mono h.size)
theorem bDrewN {a w : World} (n : Nat) (h : Below a.heap.size a w) : Below a.heap.size a (w.drewN n) := ⟨h.os, h.tape, h.output, h.size, h.block⟩
/-- a quiet call in a region that draws its order -/
theorem quietL {P : Program} {f : FuncId} {args : Array Value} {w : World} {n : Nat} {v : Value} (h : Calls P f args (w.drewN n) fun e w' => e = .returned v ∧ w.drewN n = w') : Calls P f args (w.drewN n) fun e w'' => e = .returned v ∧ ∃ m, w'' = w.drewN m :=
  h.mono fun _ _ ⟨he, hm⟩ => ⟨he, n, hm.symm⟩
theorem bSize {a b : World} (h : Below a.heap.size a b) : a.heap.size ≤ b.heap.size := h.size
theorem bLt {w w1 : World} {o : Obj} (hb : Below (w.alloc o).heap.size (w.alloc o) w1) : w.heap.size < w1.heap.size := by have := hb.size; simp only [World.size_alloc] at this; omega
/-- all old cells and marks read as before -/
theorem bcell {W w1 : World} (hb : Below W.heap.size W w1) : (∀ b o, b < W.heap.size → w1.cell? ⟨b, o, none⟩ = W.cell? ⟨b, o, none⟩) ∧ (∀ b o, b < W.heap.size → w1.frozen? ⟨b, o, none⟩ = W.frozen? ⟨b, o, none⟩) :=
  ⟨fun b o h => hb.cell (p := ⟨b, o, none⟩) h, fun b o h => hb.frozen (p := ⟨b, o, none⟩) h⟩
end Go.Proofs.Ytoiofdoipmdajaa.Mem
