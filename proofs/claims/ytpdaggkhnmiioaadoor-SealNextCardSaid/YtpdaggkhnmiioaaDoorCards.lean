/-
  DERIVED. GIVEN WITH THE SEED: THE CARDS: each row of YtpdaggkhnmiioaaDoorRows.lean that lists a variable, with what it lists TIED to the program's text (the seventh form; the later family's looks); each row that meets fmt, with fmt's text TOLD by the authors' own Lean function (tested against real Go, not proved from fmt's source: count such statements apart). THE CARD IS WHAT COUNTS. Prove the row's statement (the work); the ties are given (YtpdaggkhnmiioaaDoorTie.lean); close each card by the builder's one call (the guide's Derived/Test/ToyasCard.lean, 'card_holds'). Laid BY PROGRAM, IN A SANDBOX (cutbox-door.mjs). By AI agents, Wed Nov 11 2026. No macro, syntax, notation, axiom, sorry.
-/
import Derived.Test.YtpdaggkhnmiioaaDoorRows
import GoSem.ClaimSeven
namespace Go.Proofs.YtpdaggkhnmiioaaDoor
namespace Rows

/-- THE TIED CARD OF 'cohortlaw07.SealPuts'. -/
def sealPutsCard : Claim7 := { stood := { row := sealPutsRow, standIns := [], harness := (true, "e5b4d34a13af76d5ae223c0674d68566480c51f76194857d1bfa6cf11dd94b21"), looks := false }, kinds := [], alts := [], laidByText := true, laidKinds := [.data], laidTests := true, laidLooks := .later }
def SealPutsCardSaid : Prop := Claim7.holds Tryd.pinned (.plain (OpenSpec.ofChange sealPutsSpec)) sealPutsCard

/-- THE TIED CARD OF 'cohortlaw07.SealGets'. -/
def sealGetsCard : Claim7 := { stood := { row := sealGetsRow, standIns := [], harness := (true, "e5b4d34a13af76d5ae223c0674d68566480c51f76194857d1bfa6cf11dd94b21"), looks := false }, kinds := [], alts := [], laidByText := true, laidKinds := [.data], laidTests := true, laidLooks := .later }
def SealGetsCardSaid : Prop := Claim7.holds Tryd.pinned (.plain (OpenSpec.ofChange sealGetsSpec)) sealGetsCard

/-- THE TIED CARD OF 'cohortlaw07.SealBack'. -/
def sealBackCard : Claim7 := { stood := { row := sealBackRow, standIns := [], harness := (true, "e5b4d34a13af76d5ae223c0674d68566480c51f76194857d1bfa6cf11dd94b21"), looks := false }, kinds := [], alts := [], laidByText := true, laidKinds := [.data], laidTests := true, laidLooks := .later }
def SealBackCardSaid : Prop := Claim7.holds Tryd.pinned (.plain (OpenSpec.ofChange sealBackSpec)) sealBackCard

/-- THE TIED CARD OF 'cohortlaw07.SealTorn'. -/
def sealTornCard : Claim7 := { stood := { row := sealTornRow, standIns := [], harness := (true, "e5b4d34a13af76d5ae223c0674d68566480c51f76194857d1bfa6cf11dd94b21"), looks := false }, kinds := [], alts := [], laidByText := true, laidKinds := [.data], laidTests := true, laidLooks := .later }
def SealTornCardSaid : Prop := Claim7.holds Tryd.pinned (.plain (OpenSpec.ofChange sealTornSpec)) sealTornCard

/-- THE TIED CARD OF 'cohortlaw07.SealNext'. -/
def sealNextCard : Claim7 := { stood := { row := sealNextRow, standIns := [], harness := (true, "e5b4d34a13af76d5ae223c0674d68566480c51f76194857d1bfa6cf11dd94b21"), looks := false }, kinds := [], alts := [], laidByText := true, laidKinds := [.data], laidTests := true, laidLooks := .later }
def SealNextCardSaid : Prop := Claim7.holds Tryd.pinned (.plain (OpenSpec.ofChange sealNextSpec)) sealNextCard

/-- THE SECOND FORM's CARD OF 'cohortlaw07.SealPuts'. -/
def sealPutsUptoCard : Claim7 := { stood := { row := sealPutsUptoRow, standIns := [], harness := (true, "e5b4d34a13af76d5ae223c0674d68566480c51f76194857d1bfa6cf11dd94b21"), looks := false }, kinds := [], alts := [], laidByText := true, laidKinds := [.data], laidTests := true, laidLooks := .later }
def SealPutsUptoCardSaid : Prop := Claim7.holds Tryd.pinned (.plain (OpenSpec.upto sealPutsSpec)) sealPutsUptoCard

/-- THE SECOND FORM's CARD OF 'cohortlaw07.SealGets'. -/
def sealGetsUptoCard : Claim7 := { stood := { row := sealGetsUptoRow, standIns := [], harness := (true, "e5b4d34a13af76d5ae223c0674d68566480c51f76194857d1bfa6cf11dd94b21"), looks := false }, kinds := [], alts := [], laidByText := true, laidKinds := [.data], laidTests := true, laidLooks := .later }
def SealGetsUptoCardSaid : Prop := Claim7.holds Tryd.pinned (.plain (OpenSpec.upto sealGetsSpec)) sealGetsUptoCard

/-- THE SECOND FORM's CARD OF 'cohortlaw07.SealBack'. -/
def sealBackUptoCard : Claim7 := { stood := { row := sealBackUptoRow, standIns := [], harness := (true, "e5b4d34a13af76d5ae223c0674d68566480c51f76194857d1bfa6cf11dd94b21"), looks := false }, kinds := [], alts := [], laidByText := true, laidKinds := [.data], laidTests := true, laidLooks := .later }
def SealBackUptoCardSaid : Prop := Claim7.holds Tryd.pinned (.plain (OpenSpec.upto sealBackSpec)) sealBackUptoCard

/-- THE SECOND FORM's CARD OF 'cohortlaw07.SealTorn'. -/
def sealTornUptoCard : Claim7 := { stood := { row := sealTornUptoRow, standIns := [], harness := (true, "e5b4d34a13af76d5ae223c0674d68566480c51f76194857d1bfa6cf11dd94b21"), looks := false }, kinds := [], alts := [], laidByText := true, laidKinds := [.data], laidTests := true, laidLooks := .later }
def SealTornUptoCardSaid : Prop := Claim7.holds Tryd.pinned (.plain (OpenSpec.upto sealTornSpec)) sealTornUptoCard

/-- THE SECOND FORM's CARD OF 'cohortlaw07.SealNext'. -/
def sealNextUptoCard : Claim7 := { stood := { row := sealNextUptoRow, standIns := [], harness := (true, "e5b4d34a13af76d5ae223c0674d68566480c51f76194857d1bfa6cf11dd94b21"), looks := false }, kinds := [], alts := [], laidByText := true, laidKinds := [.data], laidTests := true, laidLooks := .later }
def SealNextUptoCardSaid : Prop := Claim7.holds Tryd.pinned (.plain (OpenSpec.upto sealNextSpec)) sealNextUptoCard
end Rows
end Go.Proofs.YtpdaggkhnmiioaaDoor
