/-
  The law's walk for Leave, with both sides' contracts.
-/
import Derived.Test.YtnedpcgdepiakaaGmiF
import Derived.Test.YtnedpcgdepiakaaGatC
import Derived.Test.YtnedpcgdepiakaaLwGc
namespace Go.Proofs.Ytnedpcgdepiakaa
open Go.RowKit

theorem lawLeave_whole (v1 v2 : Value) (x : Gt) (w : World) (h : GtAt w v1 v2 x) (m : GtMax x) :
    Calls Try.prog 6 #[.agg #[.int .i64 x.owner, v1, v2]] w fun e w' => e = .returned (.bool true) ∧ Below w.heap.size w w' :=
  lawLeave v1 v2 x w h m (fun hl a b z _ hc => specLeave_any a b x z hc.at (szGt_len hl)) (fun hl a b z _ hc => implLeave_any a b x z hc.at (szGt_len hl)) (fun hl => leaveE_len hl)
end Go.Proofs.Ytnedpcgdepiakaa
