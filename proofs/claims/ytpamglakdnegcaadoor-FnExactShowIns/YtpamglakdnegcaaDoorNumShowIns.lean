/-
  The table of powers of ten, as the row's list lays it.
-/
import Derived.Test.YtpamglakdnegcaaDoorRows
import Derived.Test.YtpamglakdnegcaaDoorShelfItoa
import Derived.Lib.LaidTab
import Derived.Stop.LaidErr
import Derived.Deep.DeepHandedRow
namespace Go.Proofs.YtpamglakdnegcaaDoor
open Go.RowKit

theorem gPowType : (Tryd.prog.globals[1]?).map (·.type) = some 84 := by kernel_rfl
theorem cellsTab : Tryd.prog.cellsOf 84 = 20 := by kernel_rfl
theorem cellsU64 : Tryd.prog.cellsOf 77 = 1 := by kernel_rfl

/-- What the row's list gives: the table of powers of ten. -/
theorem pow_table {W : World} (h : laidMetH Tryd.prog Rows.fnExactShowInsRow.laid W) : Lib.TabIs Tryd.prog W "internal/strconv.uint64pow10" .u64 Lib.pow10Tab :=
  Lib.tabIs_of_head (rest := []) gPow gPowType Tryd.underlying84 Tryd.underlying77 cellsU64 cellsTab (laidMet.tail (laidMet.tail h))
end Go.Proofs.YtpamglakdnegcaaDoor
