
/- Contracts of layer 7: what a sealed block says, the program's and the document's. -/
import Derived.Test.YtpdaggkhnmiioaaDoorBlk
import Derived.Test.YtpdaggkhnmiioaaDoorCrc
import Derived.Test.YtpdaggkhnmiioaaDoorNumQ
import Derived.Outline
namespace Go.Proofs.YtpdaggkhnmiioaaDoor.Seal
open Go.ChangeShapes Go.WideShapes Go.ChangeAt Go.RowKit Go.Deep
open Mem Rec Crc Blk Ref00
set_option linter.unusedVariables false

theorem infoB1 : (Tryd.prog.info? 5).map (·.size) = some 1 := by kernel_rfl
/-- the number that fills a field -/
def fld (bs : List Int) (k : Nat) : Int := NumA.getV k bs 0 k
theorem field_any (A : Option Addr) (k c : Nat) (bs : List Int) (w : World) (B : Nat) (h : Rd w B A k bs) (hb : ∀ i, 0 ≤ bs.getD i 0 ∧ bs.getD i 0 ≤ 255) (hc : k ≤ c) (hk : k ≤ 64) (hc' : c ≤ 9223372036854775807) :
    Calls Tryd.prog 29 #[.slice A k c] w fun e w' => e = .returned (.int .u64 (fld bs k)) ∧ w = w' := by
  have C := Lib.hid (NumA.get_all B A k c bs 0 k w h hb hc (by omega) hc')
  clear h hb
  go_enter Tryd.func29, Tryd.ntmps29
  go_wp2_with fail
  refine C.out.mono ?_
  rintro e w1 ⟨rfl, rfl⟩
  go_wp2
  go_ret
  exact ⟨rfl, rfl⟩
def nA (L : List Int) : Int := fld ((L.drop 4).take 8) 8
def nB (L : List Int) : Int := fld ((L.drop 56).take 8) 8
def sA (L : List Int) : Int := fld ((L.drop 0).take 4) 4
def sB (L : List Int) : Int := CrcM.num (CrcM.sumB 0xffffffff#32 ((L.drop 4).take 60))
/-- what Get tells: its error, its number, its body -/
def gE (L : List Int) : Int := if nA L ≠ nB L ∨ nA L = 0 then 5 else if sA L ≠ sB L then 6 else 0
def gN (L : List Int) : Int := if gE L = 0 then nA L else 0
def gB (L : List Int) : List Int := if gE L = 0 then (L.drop 12).take 44 else []
def Got (w : World) (L : List Int) (e : Ending) (w' : World) : Prop :=
  ∃ A m c, e = .returned (.tuple #[.int .u64 (gN L), .slice A m c, .int .i64 (gE L)]) ∧ (A = none → c = 0) ∧ Rd w' w'.heap.size A m (gB L) ∧ Below w.heap.size w w'
theorem got_none {w w' : World} {L : List Int} {k : Int} (h : gE L = k) (hk : k ≠ 0) (hb : Below w.heap.size w w') : Got w L (.returned (.tuple #[.int .u64 0, .slice none 0 0, .int .i64 k])) w' := by
  refine ⟨none, 0, 0, ?_, fun _ => rfl, ?_, hb⟩
  · unfold gN; rw [h, if_neg hk]
  · unfold gB; rw [h, if_neg hk]; exact Rd.nil_ _ _
theorem got_all {w w' : World} {L : List Int} {A : Option Addr} {c : Nat} (h : gE L = 0) (hA : A = none → c = 0) (hr : Rd w' w'.heap.size A 44 ((L.drop 12).take 44)) (hb : Below w.heap.size w w') : Got w L (.returned (.tuple #[.int .u64 (nA L), .slice A 44 c, .int .i64 0])) w' := by
  refine ⟨A, 44, c, ?_, hA, ?_, hb⟩
  · unfold gN; rw [h, if_pos rfl]
  · unfold gB; rw [h, if_pos rfl]; exact hr
theorem part_get {L : List Int} {n : Nat} (hL : L.length = n) (o k : Nat) (h : o + k ≤ n) {j : Nat} {v : Value} (hj : (bytesV ((L.drop o).take k))[j]? = some v) : (blkC L)[o + j]? = some v := by
  obtain ⟨h1, rfl⟩ := bytesV_get hj
  rw [List.length_take, List.length_drop] at h1
  rw [blkC_get (by omega)]
  have : j < k := by omega
  simp [List.getD, this]
def zs (k : Nat) : List Int := List.replicate k 0
theorem zs_len (k : Nat) : (zs k).length = k := List.length_replicate
theorem new_at {X : World} {o : Obj} {k : Nat} (h : X.heap.size = k) : (X.alloc o).heap[k]? = some o := by subst h; exact heap_alloc_new _ _
theorem rd_row {w : World} {g : Nat} {bs : List Int} {t : TypeId} {fr : Nat × Nat} {n : Nat} (h : w.heap[g]? = some (.cells (bytesV bs).toArray t fr)) (hn : bs.length = n) : Rd w w.heap.size (some ⟨g, 0, none⟩) n bs := by
  have := blk_rd (L := bs) (t := t) (fr := fr) h 0 n (by omega)
  rw [List.drop_zero, List.take_of_length_le (by omega)] at this
  exact this
/-- a quiet call in a second region that draws its order -/
theorem quietL2 {P : Program} {f : FuncId} {args : Array Value} {w : World} {q n : Nat} {v : Value} (h : Calls P f args (w.drewN (q + n)) fun e w' => e = .returned v ∧ w.drewN (q + n) = w') : Calls P f args (w.drewN (q + n)) fun e w'' => e = .returned v ∧ ∃ m, w'' = w.drewN (q + m) :=
  h.mono fun _ _ ⟨he, hm⟩ => ⟨he, n, hm.symm⟩
theorem laid_drewN {w : World} (h : Laid w) (m : Nat) : Laid (w.drewN m) := h
set_option maxHeartbeats 1000000 in
theorem get_form (L : List Int) (w : World) (hL : okL L) (Ld : Laid w) (k : Int) (hk : gE L = k) (h5 : nA L ≠ nB L ∨ nA L = 0) :
    Calls Tryd.prog 13 #[blkV L] w (Got w L) := by
  have hg : (w.alloc (.cells (blkC L) 26)).heap[w.heap.size]? = some (.cells (blkC L) 26 (0, 0)) := heap_alloc_new _ _
  have hl := hL.1
  have F1 := fun m => field_any (some ⟨w.heap.size, 4, none⟩) 8 8 _ ((w.alloc (.cells (blkC L) 26)).drewN m) _ (blk_rd hg 4 8 (by omega)) (part_bytes hL.2 4 8) (by omega) (by omega) (by omega)
  have F2 := fun m => field_any (some ⟨w.heap.size, 56, none⟩) 8 8 _ ((w.alloc (.cells (blkC L) 26)).drewN m) _ (blk_rd hg 56 8 (by omega)) (part_bytes hL.2 56 8) (by omega) (by omega) (by omega)
  have hG : gE L = 5 := by unfold gE; rw [if_pos h5]
  have HG := Lib.hid hG
  change ∀ m, Calls _ _ _ _ (fun e w' => e = .returned (.int .u64 (nA L)) ∧ _ = w') at F1
  change ∀ m, Calls _ _ _ _ (fun e w' => e = .returned (.int .u64 (nB L)) ∧ _ = w') at F2
  generalize nA L = x at F1 h5
  generalize nB L = y at F2 h5
  have F1 := Lib.hid F1
  have F2 := Lib.hid F2
  clear hg hl hG hk
  by_cases hxy : x = y
  · obtain rfl : x = 0 := by omega
    subst hxy
    clear h5
    go_enter Tryd.func13, Tryd.ntmps13
    go_wp2_with fail
    go_quiet (first | (go_at_call_of 29 (Value.slice (some ⟨w.heap.size, 4, none⟩) 8 8); exact quietL (F1.out _)) | (go_at_call_of 29 (Value.slice (some ⟨w.heap.size, 56, none⟩) 8 8); exact quietL (F2.out _)))
    go_wp2_with fail
    go_ret3
    exact got_none HG.out (by omega) (bDrewN _ (bAlloc (Below.refl _ _) _))
  · clear h5
    go_enter Tryd.func13, Tryd.ntmps13
    go_wp2_with fail
    go_quiet (first | (go_at_call_of 29 (Value.slice (some ⟨w.heap.size, 4, none⟩) 8 8); exact quietL (F1.out _)) | (go_at_call_of 29 (Value.slice (some ⟨w.heap.size, 56, none⟩) 8 8); exact quietL (F2.out _)))
    go_wp2_with fail
    go_ret3
    exact got_none HG.out (by omega) (bDrewN _ (bAlloc (Below.refl _ _) _))
set_option maxHeartbeats 1000000 in
theorem get_fine (L : List Int) (w : World) (hL : okL L) (Ld : Laid w) (h5 : ¬ (nA L ≠ nB L ∨ nA L = 0)) :
    Calls Tryd.prog 13 #[blkV L] w (Got w L) := by
  have hg : (w.alloc (.cells (blkC L) 26)).heap[w.heap.size]? = some (.cells (blkC L) 26 (0, 0)) := heap_alloc_new _ _
  have hl := hL.1
  have B0 := bAlloc (Below.refl w.heap.size w) (.cells (blkC L) 26)
  have F1 := fun m => field_any (some ⟨w.heap.size, 4, none⟩) 8 8 _ ((w.alloc (.cells (blkC L) 26)).drewN m) _ (blk_rd hg 4 8 (by omega)) (part_bytes hL.2 4 8) (by omega) (by omega) (by omega)
  have F2 := fun m => field_any (some ⟨w.heap.size, 56, none⟩) 8 8 _ ((w.alloc (.cells (blkC L) 26)).drewN m) _ (blk_rd hg 56 8 (by omega)) (part_bytes hL.2 56 8) (by omega) (by omega) (by omega)
  have F3 := fun m => field_any (some ⟨w.heap.size, 0, none⟩) 4 4 _ ((w.alloc (.cells (blkC L) 26)).drewN m) _ (blk_rd hg 0 4 (by omega)) (part_bytes hL.2 0 4) (by omega) (by omega) (by omega)
  have F4 := fun m => of_any (some ⟨w.heap.size, 4, none⟩) 60 60 _ ((w.alloc (.cells (blkC L) 26)).drewN m) _ (laid_drewN (Ld.below B0) m) (blk_rd hg 4 60 (by omega)) (part_bytes hL.2 4 60) (by omega)
  change ∀ m, Calls _ _ _ _ (fun e w' => e = .returned (.int .u64 (nA L)) ∧ _ = w') at F1
  change ∀ m, Calls _ _ _ _ (fun e w' => e = .returned (.int .u64 (nB L)) ∧ _ = w') at F2
  change ∀ m, Calls _ _ _ _ (fun e w' => e = .returned (.int .u64 (sA L)) ∧ _ = w') at F3
  change ∀ m, Calls _ _ _ _ (fun e w' => e = .returned (.int .u32 (sB L)) ∧ _ = w') at F4
  have c0 : 0 ≤ sB L := CrcM.num_lo _
  have c1 : sB L ≤ 4294967295 := CrcM.num_hi _
  have hxy : nA L = nB L := by omega
  have hx0 : nA L ≠ 0 := by omega
  have hG : gE L = if sA L ≠ sB L then 6 else 0 := by unfold gE; rw [if_neg h5]
  have HA : Hid (∀ x, nA L = x → x = nA L) := Lib.hid (fun x e => e.symm)
  rw [← hxy] at F2
  have HR := Lib.hid (fun m => blk_rd (w := (w.alloc (.cells (blkC L) 26)).drewN m) hg 12 44 (by omega))
  by_cases hs : sA L = sB L
  · have HG : Hid (gE L = 0) := Lib.hid (by rw [hG, if_neg (by omega)])
    have HN : Hid (∀ (w w' : World) (A : Option Addr) (c : Nat), (A = none → c = 0) → Rd w' w'.heap.size A 44 ((L.drop 12).take 44) → Below w.heap.size w w' → Got w L (.returned (.tuple #[.int .u64 (nA L), .slice A 44 c, .int .i64 0])) w') := Lib.hid (fun w w' A c h1 h2 h3 => got_all HG.out h1 h2 h3)
    rw [hs] at F3
    clear hG HG
    generalize nA L = x at F1 F2 hx0 HN
    generalize sB L = s at F3 F4 c0 c1
    have F1 := Lib.hid F1
    have F2 := Lib.hid F2
    have F3 := Lib.hid F3
    have F4 := Lib.hid F4
    have hmk : ∀ w, (Instr.makeSlice 23 (.int .i64 44) (.int .i64 44)).run Tryd.prog w = .ok (.slice (some ⟨w.heap.size, 0, none⟩) 44 44) (w.alloc (.cells (bytesV (zs 44)).toArray 5)) := fun _ => by kernel_rfl
    have HLl := Lib.hid hl
    clear hg hl hs hxy h5 Ld hL HA B0
    go_enter Tryd.func13, Tryd.ntmps13
    go_wp2_with fail
    go_quiet (first | (go_at_call_of 29 (Value.slice (some ⟨w.heap.size, 4, none⟩) 8 8); exact quietL (F1.out _)) | (go_at_call_of 29 (Value.slice (some ⟨w.heap.size, 56, none⟩) 8 8); exact quietL (F2.out _)))
    go_wp2_with fail
    go_quiet (first | (go_at_call 29; exact quietL2 (F3.out _)) | (go_at_call 25; exact quietL2 (F4.out _)))
    go_wp2_with (with_reducible refine wpList_copy_splice rfl (.tmp 24) (.tmp 25) 23 23 rfl 5 Tryd.underlying23 infoB1 (some ⟨w.heap.size + 1, 0, none⟩) (some ⟨w.heap.size, 12, none⟩) 44 44 44 44 ?c1 ?c2 (w.heap.size + 1) 0 (bytesV (zs 44)) 5 ?c3 (bytesV ((L.drop 12).take 44)) ?c4 ?c5 ?c6 (bytesV_one _) w.heap.size w ?c7 ?c8 ?_)
    case c1 => rfl
    case c2 => rfl
    case c3 => exact new_at (by simp)
    case c4 => rw [bytesV_length, List.length_take, List.length_drop, HLl.out]; rfl
    case c5 => exact fun _ j v hj => part_get HLl.out 12 44 (by omega) hj
    case c6 => rw [bytesV_length, bytesV_length, List.length_take, List.length_drop, HLl.out, zs_len]; omega
    case c7 => exact bAlloc (bDrewN _ (bAlloc (Below.refl _ _) _)) _
    case c8 => omega
    intro w4 h4 b4
    go_wp2_with fail
    go_ret3
    have e4 : splice (bytesV (zs 44)) 0 (bytesV ((L.drop 12).take 44)) = bytesV ((L.drop 12).take 44) := by
      rw [splice_bytes]
      congr 1
      have : ((L.drop 12).take 44).length = 44 := by rw [List.length_take, List.length_drop, HLl.out]; rfl
      unfold splice
      rw [this]; simp [zs]
    have h5 := h4.out
    rw [e4] at h5
    exact HN.out _ _ _ _ (fun e => (by cases e)) (rd_row h5 (by rw [List.length_take, List.length_drop, HLl.out]; rfl)) b4
  · have HG : Hid (gE L = 6) := Lib.hid (by rw [hG, if_pos (by omega)])
    clear hG
    generalize nA L = x at F1 F2 hx0
    generalize sB L = s at F4 c0 c1 hs
    generalize sA L = s' at F3 hs
    have F1 := Lib.hid F1
    have F2 := Lib.hid F2
    have F3 := Lib.hid F3
    have F4 := Lib.hid F4
    clear hg hl hxy h5 Ld hL HA B0
    go_enter Tryd.func13, Tryd.ntmps13
    go_wp2_with fail
    go_quiet (first | (go_at_call_of 29 (Value.slice (some ⟨w.heap.size, 4, none⟩) 8 8); exact quietL (F1.out _)) | (go_at_call_of 29 (Value.slice (some ⟨w.heap.size, 56, none⟩) 8 8); exact quietL (F2.out _)))
    go_wp2_with fail
    go_quiet (first | (go_at_call 29; exact quietL2 (F3.out _)) | (go_at_call 25; exact quietL2 (F4.out _)))
    go_wp2_with fail
    go_ret3
    exact got_none HG.out (by omega) (bDrewN _ (bDrewN _ (bAlloc (Below.refl _ _) _)))
theorem get_any (L : List Int) (w : World) (hL : okL L) (Ld : Laid w) : Calls Tryd.prog 13 #[blkV L] w (Got w L) := by
  by_cases h : nA L ≠ nB L ∨ nA L = 0
  · exact get_form L w hL Ld _ rfl h
  · exact get_fine L w hL Ld h
end Go.Proofs.YtpdaggkhnmiioaaDoor.Seal
