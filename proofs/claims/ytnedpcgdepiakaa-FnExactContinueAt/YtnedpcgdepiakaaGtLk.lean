/-
  The law's walk for ContinueAt, with both sides' contracts.
-/
import Derived.Test.YtnedpcgdepiakaaGmiH
import Derived.Test.YtnedpcgdepiakaaGatE
import Derived.Test.YtnedpcgdepiakaaLwGe
namespace Go.Proofs.Ytnedpcgdepiakaa
open Go.RowKit

theorem lawContinueAt_whole (v1 v2 : Value) (x : Gt) (n : Int) (w : World) (h : GtAt w v1 v2 x) (m : GtMax x) :
    Calls Try.prog 8 #[.agg #[.int .i64 x.owner, v1, v2], .int .i64 n] w fun e w' => e = .returned (.bool true) ∧ Below w.heap.size w w' :=
  lawContinueAt v1 v2 x n w h m (fun hl a b z _ hc => specContinueAt_any a b x n z hc.at (szGt_len hl)) (fun hl a b z _ hc => implContinueAt_any a b x n z hc.at (szGt_len hl)) (fun hl => contE_len hl n)
end Go.Proofs.Ytnedpcgdepiakaa
