/-
  The law FnCores with the program's contract.
-/
import Derived.Test.YtmchgmpdhfefjaaLwCf
import Derived.Test.YtmchgmpdhfefjaaWkL
namespace Go.Proofs.Ytmchgmpdhfefjaa
open Go.RowKit

theorem lawCores_whole (w : World) (v : Value) (n : Nat) (H : CodeAt w w.heap.size v n) :
    Calls Try.prog 3 #[v] w fun e w' => e = .returned (.bool true) ∧ Below w.heap.size w w' :=
  lawCores (fun v tv mv x text mem w h hl ht htl hm hml => implStepCore_any v tv mv x text mem w h hl ht htl hm hml) w v n H
end Go.Proofs.Ytmchgmpdhfefjaa
