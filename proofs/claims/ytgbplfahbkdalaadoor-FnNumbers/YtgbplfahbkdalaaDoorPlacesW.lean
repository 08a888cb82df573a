/-
  Walks: the twelve drawn numbers.
-/
import Derived.Test.YtgbplfahbkdalaaDoorCurN
namespace Go.Proofs.YtgbplfahbkdalaaDoor
open Go.RowKit

/-- What the loop over drawn numbers keeps. -/
def PlacesRel (w : World) (base : Nat) (v i : Value) (wr : World) : Prop :=
  ∃ (k : Nat) (xs : List Nat), k ≤ 12 ∧ i = .int .i64 k ∧ xs.length = k ∧ (∀ x ∈ xs, x < 10000) ∧ wr.ownsRow (w.heap.size + 1) 3 1 v k (xs.map fun (x : Nat) => Value.int .i64 (x : Int)) ∧ Below w.heap.size w wr ∧ Cur wr base w.heap.size

end Go.Proofs.YtgbplfahbkdalaaDoor
