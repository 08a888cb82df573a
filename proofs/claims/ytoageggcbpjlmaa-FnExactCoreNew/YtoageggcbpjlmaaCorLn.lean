/-
  A law's walk with both sides' contracts.
-/
import Derived.Test.YtoageggcbpjlmaaCorW
import Derived.Test.YtoageggcbpjlmaaLwCa
import Derived.Test.YtoageggcbpjlmaaWkD
namespace Go.Proofs.Ytoageggcbpjlmaa
open Go.RowKit

theorem lawCoreNew_whole (w : World) :
    Calls Try.prog 3 #[] w fun e w' => e = .returned (.bool true) ∧ Below w.heap.size w w' :=
  lawCoreNew w (specCoreNew_any) implCoreNew_any ⟨by simp [coreNewE]⟩
end Go.Proofs.Ytoageggcbpjlmaa
