/-
  The law's walk for DelayIn, with both sides' contracts.
-/
import Derived.Test.YtnedpcgdepiakaaGmiG
import Derived.Test.YtnedpcgdepiakaaGatD
import Derived.Test.YtnedpcgdepiakaaLwGd
namespace Go.Proofs.Ytnedpcgdepiakaa
open Go.RowKit

theorem lawDelayIn_whole (v1 v2 : Value) (x : Gt) (n : Int) (w : World) (h : GtAt w v1 v2 x) (m : GtMax x) :
    Calls Try.prog 7 #[.agg #[.int .i64 x.owner, v1, v2], .int .i64 n] w fun e w' => e = .returned (.bool true) ∧ Below w.heap.size w w' :=
  lawDelayIn v1 v2 x n w h m (fun hl a b z _ hc => specDelayIn_any a b x n z hc.at (szGt_len hl)) (fun hl a b z _ hc => implDelayIn_any a b x n z hc.at (szGt_len hl)) (fun hl => delayE_len hl n)
end Go.Proofs.Ytnedpcgdepiakaa
