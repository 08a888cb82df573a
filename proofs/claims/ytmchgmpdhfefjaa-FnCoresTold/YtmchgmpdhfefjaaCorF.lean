/-
  The law FnCoresTold with the program's contracts.
-/
import Derived.Test.YtmchgmpdhfefjaaLwCg
import Derived.Test.YtmchgmpdhfefjaaWkL
namespace Go.Proofs.Ytmchgmpdhfefjaa
open Go.RowKit

theorem lawCoresTold_whole (w : World) (v : Value) (n : Nat) (H : CodeAt w w.heap.size v n) :
    Calls Try.prog 4 #[v] w fun e w' => e = .returned (.bool true) ∧ Below w.heap.size w w' :=
  lawCoresTold (fun v tv mv x text mem w h hl ht htl hm hml => implStepCore_any v tv mv x text mem w h hl ht htl hm hml) (fun w => implCoreNew_any w) (fun v x w h hl => implCoreOk_any v x w h hl) (fun v xs pc w h hl => implTouchOf_any v xs pc w h hl) w v n H
end Go.Proofs.Ytmchgmpdhfefjaa
