/-
  Walks of the program: is there such a process, such a monitor?
-/
import Derived.Test.YthhmonkfhjfagaaTreeX
namespace Go.Proofs.Ythhmonkfhjfagaa
open Go.RowKit

set_option maxHeartbeats 1000000 in
theorem hasMon_any (nv pv : Value) (mo : Option Addr) (n mc : Nat) (k : Int) (w : World) :
    Calls Try.prog 16 #[.agg #[nv, .slice mo n mc, pv], .int .i64 k] w fun e w' => e = .returned (.bool (decide (0 ≤ k) && decide (k < (n : Int)))) ∧ Below w.heap.size w w' := by
  have hb1 : Below w.heap.size w (w.alloc (.cells #[nv, .slice mo n mc, pv] 33)) := (Below.refl _ _).alloc (Nat.le_refl _) _
  have HB := hide hb1
  have c1 := (Boxed.made w nv (.slice mo n mc) pv 33).c1
  clear hb1
  by_cases h0 : 0 ≤ k
  · by_cases h1 : k < (n : Int)
    · go_enter Try.func16, Try.ntmps16
      go_wp2
      go_ret
      exact ⟨by simp [h0, h1], HB.out⟩
    · go_enter Try.func16, Try.ntmps16
      go_wp2
      go_ret
      exact ⟨by simp [h1], HB.out⟩
  · go_enter Try.func16, Try.ntmps16
    go_wp2
    go_ret
    exact ⟨by simp; omega, HB.out⟩
end Go.Proofs.Ythhmonkfhjfagaa
