/-
  The table of powers of ten, as the row's list lays it.
-/
import Derived.Test.YtgbplfahbkdalaaDoorRows
import Derived.Test.YtgbplfahbkdalaaDoorDecI
import Derived.Lib.LaidTab
import Derived.Stop.LaidErr
import Derived.Deep.DeepHandedRow
namespace Go.Proofs.YtgbplfahbkdalaaDoor
open Go.RowKit

theorem gPowType : (Tryd.prog.globals[0]?).map (·.type) = some 61 := by kernel_rfl
theorem cellsTab : Tryd.prog.cellsOf 61 = 20 := by kernel_rfl
theorem cellsU64 : Tryd.prog.cellsOf 54 = 1 := by kernel_rfl

/-- What the row's list gives: the table of powers of ten. -/
theorem pow_table {W : World} (h : laidMetH Tryd.prog Rows.fnNumbersRow.laid W) : Lib.TabIs Tryd.prog W "internal/strconv.uint64pow10" .u64 Lib.pow10Tab :=
  Lib.tabIs_of_head (rest := []) gPow gPowType Tryd.underlying61 Tryd.underlying54 cellsU64 cellsTab (laidMet.tail (laidMet.tail h))
end Go.Proofs.YtgbplfahbkdalaaDoor
