/-
  The law's walk for GateNew, with both sides' contracts.
-/
import Derived.Test.YtnedpcgdepiakaaGmiA
import Derived.Test.YtnedpcgdepiakaaGatW
import Derived.Test.YtnedpcgdepiakaaLwGa
namespace Go.Proofs.Ytnedpcgdepiakaa
open Go.RowKit

theorem lawGateNew_whole (n : Int) (_hn : (Lit.int .i64 n).wf = true) (w : World) :
    Calls Try.prog 3 #[.int .i64 n] w fun e w' => e = .returned (.bool true) ∧ Below w.heap.size w w' :=
  lawGateNew n w (specGateNew_any n) (implGateNew_any n) (gateNewE_len n)
end Go.Proofs.Ytnedpcgdepiakaa
