
/- What the bound on the bulk of all arguments gives: the length of a slice of bytes. -/
import Derived.Test.YtpbapcjgaeifjaaDoorRows
import Derived.Test.YtpbapcjgaeifjaaDoorMem
import Derived.JoinedCond
import Derived.Deep.CondSized
namespace Go.Proofs.YtpbapcjgaeifjaaDoor.Upto
open Go.ChangeShapes Go.WideShapes Go.ChangeAt Go.RowKit
open Mem

theorem bulk_mem {H : Type} : ∀ {ds : List (DataW H)} {j : Nat} {d : DataW H}, ds[j]? = some d → Rows.uptoBulk d ≤ Rows.uptoBulkAll ds
  | d0 :: ds, 0, d, h => by
    simp only [List.getElem?_cons_zero, Option.some.injEq] at h
    subst h
    simp only [Rows.uptoBulkAll]; omega
  | d0 :: ds, j + 1, d, h => by
    simp only [List.getElem?_cons_succ] at h
    have := bulk_mem h
    simp only [Rows.uptoBulkAll]; omega
  | [], _, _, h => by simp at h
theorem bulk_lits {H : Type} : ∀ (bs : List Int), bs.length ≤ Rows.uptoBulkAll (lits .u8 bs : List (DataW H))
  | [] => by simp
  | b :: bs => by
    have := bulk_lits (H := H) bs
    simp only [lits, List.map_cons, Rows.uptoBulkAll, Rows.uptoBulk, List.length_cons] at this ⊢
    omega
theorem bulk_bytes {H : Type} {w : World} {A : Option Addr} {n c : Nat} {bs : List Int} {ds : List (DataW H)} {d : DataW H} (hk : Rows.uptoSmall H ds = true) {j : Nat} (hd : ds[j]? = some d)
    (h : ByteArg w A n c bs) (u : d = .nil ∧ n = 0 ∨ ∃ sp, d = .slice (lits .u8 bs) sp) : n ≤ 1048576 := by
  rcases u with ⟨_, h0⟩ | ⟨sp, rfl⟩
  · omega
  · have h1 := bulk_mem hd
    have h2 : Rows.uptoBulkAll ds ≤ 1048576 := of_decide_eq_true hk
    have h3 := bulk_lits (H := H) bs
    simp only [Rows.uptoBulk] at h1
    have := h.rd.1
    omega
end Go.Proofs.YtpbapcjgaeifjaaDoor.Upto
