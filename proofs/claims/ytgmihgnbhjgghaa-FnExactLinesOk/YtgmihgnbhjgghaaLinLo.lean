/-
  A law's walk with both sides' contracts.
-/
import Derived.Test.YtgmihgnbhjgghaaLinX
import Derived.Test.YtgmihgnbhjgghaaLwLc
import Derived.Test.YtgmihgnbhjgghaaLbY
namespace Go.Proofs.Ytgmihgnbhjgghaa
open Go.RowKit

theorem lawLinesOk_whole (v : Value) (x : Rln) (w : World) (h : RlnAt w v x) (m : RlnMax x) :
    Calls Try.prog 3 #[v] w fun e w' => e = .returned (.bool true) ∧ Below w.heap.size w w' :=
  lawLinesOk v x w h m (fun hl a z _ hc => specLinesOk_any a x.row z hc.at.a0 (szRln_len hl).l0) (fun hl a z _ hc => implLinesOk_any a x.row z hc.at.a0 (szRln_len hl).l0 (ln_labels hl) (ln_targets hl))
end Go.Proofs.Ytgmihgnbhjgghaa
