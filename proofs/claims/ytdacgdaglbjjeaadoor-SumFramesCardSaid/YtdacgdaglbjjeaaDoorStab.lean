/-
  What the row's condition says of package sum's table.
-/
import Derived.Test.YtdacgdaglbjjeaaDoorSgo
import Derived.Lib.LaidTab
namespace Go.Proofs.YtdacgdaglbjjeaaDoor
open Go Go.RowKit

/-- The list that every row of this seat bears. -/
abbrev LAID : List (String × DataW Unit) := [("escapement/sum.steps", Rows.laid_escapement_sum_steps)]

theorem steps_number : Tryd.prog.globalNamed "escapement/sum.steps" = some 0 := by kernel_rfl
theorem steps_type : (Tryd.prog.globals[0]?).map (·.type) = some 46 := by kernel_rfl
theorem cells_u32 : Tryd.prog.cellsOf 31 = 1 := by kernel_rfl
theorem cells_tab : Tryd.prog.cellsOf 46 = 16 := by kernel_rfl

def stepsZ : List Int := (List.range 16).map fun r => ((crcBits 4 r : Nat) : Int)

theorem steps_same : (Rows.laid_escapement_sum_steps : DataW Unit) = Lib.tabData .u32 stepsZ := by
  unfold Rows.laid_escapement_sum_steps Lib.tabData
  rfl

theorem tab_of {W : World} (h : laidMet Tryd.prog LAID W) : Tab W := by
  unfold LAID at h
  rw [steps_same] at h
  have ht := Lib.tabIs_of_head steps_number steps_type Tryd.underlying46 Tryd.underlying31 cells_u32 cells_tab h
  intro r hr
  rw [ht.cell steps_number r (by simpa [stepsZ] using hr)]
  have e : stepsZ.getD r 0 = ((crcBits 4 r : Nat) : Int) := by simp [stepsZ, hr]
  rw [e]

end Go.Proofs.YtdacgdaglbjjeaaDoor
