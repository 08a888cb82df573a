/-
  A law's walk with both sides' contracts.
-/
import Derived.Test.YtoageggcbpjlmaaCorW
import Derived.Test.YtoageggcbpjlmaaLwCb
import Derived.Test.YtoageggcbpjlmaaCoOf
import Derived.Test.YtoageggcbpjlmaaWkC
namespace Go.Proofs.Ytoageggcbpjlmaa
open Go.RowKit

theorem lawCoreOk_whole (v : Value) (x : Co) (w : World) (h : CoAt w v x) (m : CoMax x) :
    Calls Try.prog 4 #[.agg #[v, .int .i64 x.pc, .int .i64 x.process]] w fun e w' => e = .returned (.bool true) ∧ Below w.heap.size w w' :=
  lawCoreOk v x w h m (fun hl a z _ hc => specCoreOk_any a x z hc.at (szCo_len hl)) (fun hl a z _ hc => implCoreOk_any a x z hc.at (szCo_len hl))
end Go.Proofs.Ytoageggcbpjlmaa
