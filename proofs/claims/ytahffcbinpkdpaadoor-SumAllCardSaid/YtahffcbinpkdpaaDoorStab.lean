/-
  What the row's condition says of package sum's table.
-/
import Derived.Test.YtahffcbinpkdpaaDoorSgo
import Derived.Lib.LaidTab
namespace Go.Proofs.YtahffcbinpkdpaaDoor
open Go Go.RowKit

/-- The list that every row of this seat bears. -/
abbrev LAID : List (String × DataW Unit) := [("escapement/sum.steps", Rows.laid_escapement_sum_steps)]

theorem steps_number : Tryd.prog.globalNamed "escapement/sum.steps" = some 1 := by kernel_rfl
theorem steps_type : (Tryd.prog.globals[1]?).map (·.type) = some 62 := by kernel_rfl
theorem cells_u32 : Tryd.prog.cellsOf 38 = 1 := by kernel_rfl
theorem cells_tab : Tryd.prog.cellsOf 62 = 16 := by kernel_rfl

def stepsZ : List Int := (List.range 16).map fun r => ((crcBits 4 r : Nat) : Int)

theorem steps_same : (Rows.laid_escapement_sum_steps : DataW Unit) = Lib.tabData .u32 stepsZ := by
  unfold Rows.laid_escapement_sum_steps Lib.tabData
  rfl

theorem tab_of {W : World} (h : laidMet Tryd.prog LAID W) : Tab W := by
  unfold LAID at h
  rw [steps_same] at h
  have ht := Lib.tabIs_of_head steps_number steps_type Tryd.underlying62 Tryd.underlying38 cells_u32 cells_tab h
  intro r hr
  rw [ht.cell steps_number r (by simpa [stepsZ] using hr)]
  have e : stepsZ.getD r 0 = ((crcBits 4 r : Nat) : Int) := by simp [stepsZ, hr]
  rw [e]

end Go.Proofs.YtahffcbinpkdpaaDoor
