
/- 'append(b, make([]byte, m)...)' behind a row of bytes of the call's own. No code of the program. -/
import Derived.Test.YtpdaggkhnmiioaaDoorMem
import Derived.Lib.AppendZeros
namespace Go.Proofs.YtpdaggkhnmiioaaDoor.Mem
open Go.ChangeShapes Go.WideShapes Go.ChangeAt Go.RowKit

theorem zeroCells_byte (m : Nat) : Builtin.zeroCells #[.int .u8 0] m = (bytesV (List.replicate m 0)).toArray := by
  apply Array.ext_getElem?
  intro i
  rcases Nat.lt_or_ge i m with h | h
  · simp [Builtin.zeroCells, bytesV, h, Nat.mod_one]
  · simp [Builtin.zeroCells, bytesV, h]
theorem run_append_zeros {P : Program} (w : World) (base : Nat) (t tn ty e : TypeId) (i : TypeInfo) (k kn : IntKind) (ht : P.underlying t = some (.slice e)) (htn : P.underlying tn = some (.int kn)) (hi : P.info? e = some i) (hz : i.zero = some (.int .u8 0)) (hsize : i.size = 1) (hby : i.bytes = 1)
    (v : Value) (n : Nat) (xs : List Int) (hown : w.ownsRow base e 1 v n (bytesV xs)) (hn0 : 0 < n) (m : Nat) (hm : n + m ≤ 1048576) (hbase : base ≤ w.heap.size) :
    ∃ v' w', (Builtin.append_ #[t, tn] ty #[v, .int k m]).run P w = .ok v' w' ∧ w'.ownsRow base e 1 v' (n + m) (bytesV (xs ++ List.replicate m 0)) ∧ w.grownBy w' v.ownBlock := by
  have hw : IntKind.i64.wrap (m : Int) = m := by rw [IntKind.wrap_i64]; omega
  have hneg : ¬ ((m : Int) < 0) := by omega
  have hbig : ¬ (281474976710656 < (m : Int)) := by omega
  have hxl : xs.length = n := by have := hown.1; rw [bytesV_length] at this; omega
  have hlen : (bytesV (xs ++ List.replicate m 0)).length = (n + m) * 1 := by rw [bytesV_length, List.length_append, List.length_replicate, hxl]; omega
  have hzc : (Value.int IntKind.u8 0).cells = #[.int .u8 0] := rfl
  rcases hown.2 with ⟨_, h0⟩ | ⟨g, cap, cur, rfl, hbg, hg, hnc, hcm, hcs, htake⟩
  · omega
  · have zv : ∀ w : World, (zeroValue e).run P w = .ok (.int .u8 0) w := by
      intro w
      simp [zeroValue, typeInfo, hi, hz]
    by_cases hm0 : m = 0
    · subst hm0
      refine ⟨.slice (some ⟨g, 0, none⟩) n cap, w, ?_, by simpa using hown, grownBy_same w _⟩
      have hw0 : IntKind.i64.wrap 0 = 0 := by rw [IntKind.wrap_i64]; omega
      have hr0 : ∀ w : World, (storeCells ⟨g, n, none⟩ []).run P w = .ok () w := fun w => rfl
      simp [Builtin.append_, run_underlying ht, run_underlying htn, sizeOf, typeInfo, hi, asInt, asIntOf, hw0, hsize, hby, hnc, Addr.add_lit, hr0]
    by_cases hroom : n + m ≤ cap
    · have hst := run_storeCells_at P g n e (bytesV (List.replicate m 0)) 0 cur w hg (by rw [bytesV_length, List.length_replicate, hcs]; omega) (bytesV_one _)
      simp only [Nat.add_zero] at hst
      refine ⟨.slice (some ⟨g, 0, none⟩) (n + m) cap, w.setRow g (cur.toList.take n ++ bytesV (List.replicate m 0) ++ cur.toList.drop (n + (bytesV (List.replicate m 0)).length)).toArray, ?_, ?_, ?_⟩
      · simp [Builtin.append_, run_underlying ht, run_underlying htn, sizeOf, typeInfo, hi, asInt, asIntOf, hw, hneg, hbig, hsize, hby, hroom, zv, hm0, Value.cells, zeroCells_byte, Addr.add_lit, hst]
      · refine ⟨hlen, .inr ⟨g, cap, _, rfl, hbg, setRow_heap w g cur _ e _ hg, hroom, hcm, ?_, ?_⟩⟩
        · have hz1 : (bytesV (List.replicate m (0 : Int))).length = m := by rw [bytesV_length, List.length_replicate]
          simp only [List.size_toArray, List.length_append, List.length_take, List.length_drop, Array.length_toList, hz1]
          omega
        · have ht1 : cur.toList.take n = bytesV xs := by rw [← htake, Nat.mul_one]
          show (cur.toList.take n ++ bytesV (List.replicate m 0) ++ _).take ((n + m) * 1) = _
          rw [ht1, ← bytesV_append, ← hlen]
          exact List.take_left
      · exact ⟨rfl, rfl, rfl, by simp, fun k _ hk => setRow_other w g k _ (fun e => hk (by simp [Value.ownBlock, e]))⟩
    · have holds : ∀ j u, (bytesV xs)[j]? = some u → w.cell? ((⟨g, 0, none⟩ : Addr).add j) = some u := hown.cells (g := g) rfl
      have hfo := run_firstCells_some (P := P) w.drew 1 n ⟨g, 0, none⟩ n cap (bytesV xs) hown.1 (by simpa using holds)
      have h63' : ¬ (9223372036854775807 < ((n : Int) + (m : Int))) := by omega
      have h48 := growslice_fits (need := n + m) (old := cap) (bytes := 1) (by omega) (by omega)
      have h48' : ¬ (281474976710656 < Builtin.nextslicecap (n + m) cap) := by omega
      refine ⟨.slice (some ⟨w.heap.size, 0, none⟩) (n + m) (grownCap w (n + m) cap e), w.drew.alloc (.cells ((bytesV xs).toArray ++ (bytesV (List.replicate m 0)).toArray ++ Builtin.zeroCells #[.int .u8 0] (grownCap w (n + m) cap e - (n + m))) e), ?_, ?_, ?_⟩
      · simp [Builtin.append_, run_underlying ht, run_underlying htn, sizeOf, typeInfo, hi, asInt, asIntOf, hw, hneg, hbig, hsize, hby, hroom, h63', h48', Question.forced, hfo, newRow, grownCap, zv, hm0, Value.cells, zeroCells_byte]
      · have hge := grownCap_ge w (n + m) cap e
        have hcm' : grownCap w (n + m) cap e ≤ maxLen := grownCap_le_maxLen w (n + m) cap e (by unfold maxLen; omega)
        refine ⟨hlen, .inr ⟨w.heap.size, _, _, rfl, hbase, heap_alloc_new w.drew _, hge, hcm', ?_, ?_⟩⟩
        · simp only [Array.size_append, List.size_toArray, size_zeroCells, bytesV_length, List.length_replicate, hxl]
          simp only [List.length_singleton]
          omega
        · simp only [Array.toList_append, List.append_assoc]
          rw [← List.append_assoc, ← bytesV_append, ← hlen]
          exact List.take_left
      · exact ⟨rfl, rfl, rfl, by simp, fun k hk _ => by first | exact heap_alloc_old w.drew _ hk | exact heap_alloc_old w.drew _ k hk⟩
theorem append_zeros {P : Program} {w : World} {ops : Array Oper} {rest : List Oper} {o : Oper} {a : Act} {Q : Exit → Act → World → Prop} (hgd : o.guard = none) (s x : Operand) (t tn : TypeId)
    (ho : o.op = .call { callee := .builtin .append, args := #[s, x], argTypes := #[t, tn] })
    (base : Nat) (e : TypeId) (i : TypeInfo) (k kn : IntKind) (ht : P.underlying t = some (.slice e)) (htn : P.underlying tn = some (.int kn)) (hi : P.info? e = some i) (hz : i.zero = some (.int .u8 0)) (hsize : i.size = 1) (hby : i.bytes = 1)
    (v : Value) (n : Nat) (xs : List Int) (hs : a.eval s = v) (hown : w.ownsRow base e 1 v n (bytesV xs)) (hn0 : 0 < n) (m : Nat) (z : Int) (hx : a.eval x = .int k z) (hzm : z = (m : Int)) (hm : n + m ≤ 1048576) (hbase : base ≤ w.heap.size)
    (h : ∀ v' w', w'.ownsRow base e 1 v' (n + m) (bytesV (xs ++ List.replicate m 0)) → w.grownBy w' v.ownBlock → wpList P ops Q rest (a.put o.dst v') w') : wpList P ops Q (o :: rest) a w := by
  subst hzm
  obtain ⟨v', w', hr, h1, h2⟩ := run_append_zeros (P := P) w base t tn o.type e i k kn ht htn hi hz hsize hby v n xs hown hn0 m hm hbase
  exact Lib.wpList_append_run w hgd s x t tn ho v (.int k m) hs hx v' w' hr (h v' w' h1 h2)
end Go.Proofs.YtpdaggkhnmiioaaDoor.Mem
