
/- What a row that lists the table gives a walk; a world for the witness. -/
import Derived.Test.YtpdaggkhnmiioaaDoorCards
import Derived.Test.YtpdaggkhnmiioaaDoorTie
import Derived.Test.YtpdaggkhnmiioaaDoorCrc
import Derived.Deep.DeepHandedRow
import Derived.Lib.LaidTab
import Derived.LaidMore
namespace Go.Proofs.YtpdaggkhnmiioaaDoor.Crc
open Go.ChangeShapes Go.WideShapes Go.ChangeAt Go.RowKit
open Mem CrcM

theorem gTab : Tryd.prog.globalNamed "cohort/crc.halves" = some 0 := by kernel_rfl
theorem gTabType : (Tryd.prog.globals[0]?).map (·.type) = some 60 := by kernel_rfl
theorem cellsTab : Tryd.prog.cellsOf 60 = 16 := by kernel_rfl
theorem cellsU32 : Tryd.prog.cellsOf 41 = 1 := by kernel_rfl
def halves : List Int := [0, 79764919, 159529838, 222504665, 319059676, 398814059, 445009330, 507990021, 638119352, 583659535, 797628118, 726387553, 890018660, 835552979, 1015980042, 944750013]
theorem halves_is : ∀ i, i < 16 → halves.getD i 0 = num (T i) := by decide +kernel
theorem laid_of {W : World} (h : laidMetH Tryd.prog [("cohort/crc.halves", Rows.laid_cohort_crc_halves)] W) : Laid W := by
  have t : Lib.TabIs Tryd.prog W "cohort/crc.halves" .u32 halves := Lib.tabIs_of_head (rest := []) gTab gTabType Tryd.underlying60 Tryd.underlying41 cellsU32 cellsTab h
  intro i hi
  rw [t.cell gTab i hi, ← halves_is i hi]
noncomputable def doorWorld (os : Os) : World := World.doorLaid Tryd.prog 14 os
end Go.Proofs.YtpdaggkhnmiioaaDoor.Crc
