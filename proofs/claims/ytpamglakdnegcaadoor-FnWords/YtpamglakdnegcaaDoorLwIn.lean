/-
  The laws of words, over what both sides answer.
-/
import Derived.Test.YtpamglakdnegcaaDoorInsX
import Derived.Deep.Cut
namespace Go.Proofs.YtpamglakdnegcaaDoor
open Go.RowKit

abbrev insV (x : In4) : Value := .agg #[.int .i64 x.op, .int .i64 x.a, .int .i64 x.b, .int .i64 x.c]

set_option maxRecDepth 100000 in
set_option maxHeartbeats 2000000 in
theorem toIns_any (op a b c : Int) (w : World) :
    Calls Tryd.prog 6 #[.agg #[.int .i64 op, .int .i64 a, .int .i64 b, .int .i64 c]] w fun e w' => e = .returned (.agg #[.int .i64 op, .int .i64 a, .int .i64 b, .int .i64 c]) ∧ Below w.heap.size w w' := by
  go_enter Tryd.func6, Tryd.ntmps6
  go_wp2
  refine box_ret (g := w.heap.size + 1) (t := 25) (cs := #[.int .i64 op, .int .i64 a, .int .i64 b, .int .i64 c]) rfl rfl ?_ _ Tryd.underlying25 rfl (by kernel_rfl) rfl ?_
  · exact (Box.madeAt (by simp) _ _).stays ((Below.refl _ _).alloc (Nat.le_refl _) _)
  · exact ⟨rfl, by go_grown⟩

end Go.Proofs.YtpamglakdnegcaaDoor
