/- Slices of bytes that read as lists; Same of two such slices; the numbers that the document tells ('lives'). -/
import Derived.Test.YteglmjongdpagaaNumB
import Derived.Laws.BytesArg
import Derived.Below
import Derived.WalkSpells
namespace Go.Proofs.Yteglmjongdpagaa.NumA
open Go.ChangeShapes Go.WideShapes Go.ChangeAt Go.RowKit
open NumM

/-- the slice value '.slice A n _' holds the bytes bs, below block B -/
def Rd (w : World) (B : Nat) (A : Option Addr) (n : Nat) (bs : List Int) : Prop :=
  bs.length = n ∧ (0 < n → ∃ b off, A = some ⟨b, off, none⟩ ∧ b < B ∧ ∀ i, i < n → w.cell? ⟨b, off + i, none⟩ = some (.int .u8 (bs.getD i 0)))

theorem Rd.below {w w' : World} {B B' : Nat} {A : Option Addr} {n : Nat} {bs : List Int} (h : Rd w B A n bs) (hb : Below B w w') (hB : B ≤ B') : Rd w' B' A n bs :=
  ⟨h.1, fun hn => by
    obtain ⟨b, off, e, hlt, hc⟩ := h.2 hn
    exact ⟨b, off, e, by omega, fun i hi => (hb.cell (p := ⟨b, off + i, none⟩) hlt).trans (hc i hi)⟩⟩

theorem run_str (P : Program) (w : World) (src e dst : TypeId) (hs : P.underlying src = some (.slice e)) (he : P.underlying e = some (.int .u8)) (hd : P.underlying dst = some .string)
    (B : Nat) (A : Option Addr) (n c : Nat) (bs : List Int) (h : Rd w B A n bs) : (convert src dst (.slice A n c)).run P w = .ok (.string (strOfNums bs)) w := by
  obtain ⟨hl, hc⟩ := h
  by_cases hn : 0 < n
  · obtain ⟨b, off, rfl, _, hcell⟩ := hc hn
    exact run_convert_bytes_arg w src e hs he b off n c bs hl hcell dst hd
  · obtain rfl : n = 0 := by omega
    obtain rfl : bs = [] := List.eq_nil_of_length_eq_zero hl
    rcases A with _ | a
    · exact run_convert_bytes_nil w src e hs he 0 c dst hd
    · rw [run_convert_bytes_string w src dst e _ 0 c hs he hd, run_bytesToString w a 0 c [] rfl]; rfl

theorem same_true (A A' : Option Addr) (n n' c c' : Nat) (bs : List Int) (w : World) (B B' : Nat) (h : Rd w B A n bs) (h' : Rd w B' A' n' bs) :
    Calls Try.prog 24 #[.slice A n c, .slice A' n' c'] w fun e w' => e = .returned (.bool true) ∧ w = w' := by
  have k1 := run_str Try.prog w 29 5 9 Try.underlying29 Try.underlying5 Try.underlying9 B A n c bs h
  have k2 := run_str Try.prog w 29 5 9 Try.underlying29 Try.underlying5 Try.underlying9 B' A' n' c' bs h'
  clear h h'
  go_enter Try.func24, Try.ntmps24
  go_wp2
  go_ret
  exact ⟨rfl, rfl⟩
end Go.Proofs.Yteglmjongdpagaa.NumA
