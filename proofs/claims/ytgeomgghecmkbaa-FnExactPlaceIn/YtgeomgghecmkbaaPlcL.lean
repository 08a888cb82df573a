/-
  The law of PlaceIn with both sides' contracts.
-/
import Derived.Test.YtgeomgghecmkbaaLwQa
import Derived.Test.YtgeomgghecmkbaaPlcW
import Derived.Test.YtgeomgghecmkbaaPlcI
namespace Go.Proofs.Ytgeomgghecmkbaa
open Go.RowKit

theorem placeIn_whole (v0 v1 : Value) (x : Plc) (s : ByteArray) (w : World) (h : PlcAt w v0 v1 x) (m : PlcMax x) (hs : s.size ≤ maxLen) :
    Calls Try.prog 3 #[.agg #[v0, v1], .string s] w fun e w' => e = .returned (.bool true) ∧ Below w.heap.size w w' :=
  lawPlaceIn v0 v1 x s w h m hs (fun hl _ a b z _ hc => specPlaceIn_any a b x s z hc.at (szPlc_len hl)) (fun hl _ a b z _ hc => implPlaceIn_any a b x s z hc.at (szPlc_len hl))
end Go.Proofs.Ytgeomgghecmkbaa
