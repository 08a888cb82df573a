/-
  A law's walk with both sides' contracts.
-/
import Derived.Test.YtoageggcbpjlmaaCorZ
import Derived.Test.YtoageggcbpjlmaaLwCd
import Derived.Test.YtoageggcbpjlmaaCoOf
import Derived.Test.YtoageggcbpjlmaaWkL
namespace Go.Proofs.Ytoageggcbpjlmaa
open Go.RowKit

theorem stepE_lens (x : Co) (text mem : List Int) : (stepE x text mem).1.regs.length = x.regs.length ∧ (stepE x text mem).2.1.length = mem.length := by
  unfold stepE stepIns stepMem stepCalc
  repeat (first | split | simp)
theorem lawStepCore_whole (v0 v1 v2 : Value) (x : Co) (t m : Ri) (w : World) (h0 : CoAt w v0 x) (m0 : CoMax x) (h1 : RiAt w v1 t) (m1 : RiMax t) (h2 : RiAt w v2 m) (m2 : RiMax m) :
    Calls Try.prog 5 #[.agg #[v0, .int .i64 x.pc, .int .i64 x.process], v1, v2] w fun e w' => e = .returned (.bool true) ∧ Below w.heap.size w w' :=
  lawStepCore v0 v1 v2 x t m w h0 m0 h1 m1 h2 m2 (fun hl ht hm a b c z _ _ _ hc hk hj => specStepCore_any a b c x t.row m.row z hc.at (szCo_len hl) hk.at.a0 ht hj.at.a0 hm) (fun hl ht hm a b c z _ _ _ hc hk hj => implStepCore_any a b c x t.row m.row z hc.at (szCo_len hl) hk.at.a0 ht hj.at.a0 hm)
    (fun hl _ _ => ⟨by rw [(stepE_lens x t.row m.row).1]; exact (szCo_len hl).l0⟩) (fun _ _ hm => ⟨by rw [show (Ri.mk (stepE x t.row m.row).2.1).row = (stepE x t.row m.row).2.1 from rfl, (stepE_lens x t.row m.row).2]; exact hm⟩)
end Go.Proofs.Ytoageggcbpjlmaa
