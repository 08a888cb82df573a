/-
  Walks: Env copied, by the specification.
-/
import Derived.Test.YtgeomgghecmkbaaFlE
import Derived.Test.YtgeomgghecmkbaaCopP
import Derived.Test.YtgeomgghecmkbaaNameW
import Derived.BigQuiet
namespace Go.Proofs.Ytgeomgghecmkbaa
open Go.RowKit

end Go.Proofs.Ytgeomgghecmkbaa

namespace Go.Proofs.Ytgeomgghecmkbaa
open Go.RowKit

def eqS (s y : ByteArray) : Bool := decide (y = s)
def GeR (W : World) (x : Ev) (s : ByteArray) (iv : Value) (wr : World) : Prop := ∃ i : Nat, i ≤ (x.names.take x.vals.length).length ∧ iv = .int .i64 i ∧ wr = W ∧ Hid (NoneTo (eqS s) (x.names.take x.vals.length) i)
theorem str_cmp (x s : ByteArray) : (x.toList == s.toList) = eqS s x := by
  by_cases h : x = s
  · rw [eqS, decide_eq_true h]; exact str_beq.2 h
  · rw [eqS, decide_eq_false h, Bool.eq_false_iff]; exact fun q => h (str_beq.1 q)

end Go.Proofs.Ytgeomgghecmkbaa
