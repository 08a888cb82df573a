/-
  The law's walk for Arrive, with both sides' contracts.
-/
import Derived.Test.YtnedpcgdepiakaaGmiI
import Derived.Test.YtnedpcgdepiakaaGatF
import Derived.Test.YtnedpcgdepiakaaLwGb
namespace Go.Proofs.Ytnedpcgdepiakaa
open Go.RowKit

theorem lawArrive_whole (v1 v2 : Value) (x : Gt) (n : Int) (w : World) (h : GtAt w v1 v2 x) (m : GtMax x) :
    Calls Try.prog 5 #[.agg #[.int .i64 x.owner, v1, v2], .int .i64 n] w fun e w' => e = .returned (.bool true) ∧ Below w.heap.size w w' :=
  lawArrive v1 v2 x n w h m (fun hl a b z _ hc => specArrive_any a b x n z hc.at (szGt_len hl)) (fun hl a b z _ hc => implArrive_any a b x n z hc.at (szGt_len hl)) (fun hl => arriveE_len hl n)
end Go.Proofs.Ytnedpcgdepiakaa
