/-
  What the row's list gives: the table of steps.
-/
import Derived.Test.YtnidmllipiiakaaDoorCards
import Derived.Test.YtnidmllipiiakaaDoorSumW
import Derived.Deep.DeepHandedRow
import Derived.Stop.LaidErr
namespace Go.Proofs.YtnidmllipiiakaaDoor
theorem gStepsType : (Tryd.prog.globals[0]?).map (·.type) = some 47 := by kernel_rfl
theorem cells47 : Tryd.prog.cellsOf 47 = 16 := by kernel_rfl
theorem cells29 : Tryd.prog.cellsOf 29 = 1 := by kernel_rfl
theorem tabS_of {W : World} {rest : List _} (h : laidMet Tryd.prog (("loop.example/g00290/impl.sumSteps", Lib.tabData .u32 stepsI) :: rest) W) : TabS W :=
  Lib.tabIs_of_head gSteps gStepsType Tryd.underlying47 Tryd.underlying29 cells29 cells47 h
end Go.Proofs.YtnidmllipiiakaaDoor
