/-
  A law's walk with both sides' contracts.
-/
import Derived.Test.YtgmihgnbhjgghaaLinW
import Derived.Test.YtgmihgnbhjgghaaLwLa
import Derived.Test.YtgmihgnbhjgghaaLbY
namespace Go.Proofs.Ytgmihgnbhjgghaa
open Go.RowKit

theorem lawCountOf_whole (v : Value) (x : Rln) (w : World) (h : RlnAt w v x) (m : RlnMax x) :
    Calls Try.prog 4 #[v] w fun e w' => e = .returned (.bool true) ∧ Below w.heap.size w w' :=
  lawCountOf v x w h m (fun hl a z _ hc => (specCountOf_any a x.row z hc.at.a0 (szRln_len hl).l0).mono fun _ _ h => ⟨h.1, by rw [h.2]; exact Below.refl _ _⟩) (fun hl a z _ hc => implCountOf_any a x.row z hc.at.a0 (szRln_len hl).l0)
end Go.Proofs.Ytgmihgnbhjgghaa
