/-
  The law's walk for GateOk, with both sides' contracts.
-/
import Derived.Test.YtnedpcgdepiakaaGmiC
import Derived.Test.YtnedpcgdepiakaaGatL
import Derived.Test.YtnedpcgdepiakaaLwGa
namespace Go.Proofs.Ytnedpcgdepiakaa
open Go.RowKit

theorem lawGateOk_whole (v1 v2 : Value) (x : Gt) (w : World) (h : GtAt w v1 v2 x) (m : GtMax x) :
    Calls Try.prog 4 #[.agg #[.int .i64 x.owner, v1, v2]] w fun e w' => e = .returned (.bool true) ∧ Below w.heap.size w w' :=
  lawGateOk v1 v2 x w h m (fun hl a b z _ hc => specGateOk_any a b x z hc.at (szGt_len hl)) (fun hl a b z _ hc => implGateOk_any a b x z hc.at (szGt_len hl))
end Go.Proofs.Ytnedpcgdepiakaa
