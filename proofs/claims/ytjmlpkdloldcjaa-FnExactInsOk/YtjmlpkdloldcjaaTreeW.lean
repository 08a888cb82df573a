/-
  Walks: kids of a node, by the specification.
-/
import Derived.Test.YtjmlpkdloldcjaaTreeP
import Derived.Test.YtjmlpkdloldcjaaChecked
import Derived.BigQuiet
import Derived.WalkSmall
import Derived.Deep.RegionHeld3
namespace Go.Proofs.Ytjmlpkdloldcjaa
open Go.RowKit

theorem l01In_gen (x lo hi : Int) (w : World) : Calls Try.prog 14 #[.int .i64 x, .int .i64 lo, .int .i64 hi] w fun e w' => e = .returned (.bool (inZ lo hi x)) ∧ w' = w := by
  by_cases h1 : lo ≤ x
  · have e : inZ lo hi x = decide (x ≤ hi) := by simp [inZ, h1]
    rw [e]
    go_enter Try.func14, Try.ntmps14
    go_wp2
    go_ret
    exact ⟨rfl, rfl⟩
  · have e : inZ lo hi x = false := by simp [inZ, h1]
    rw [e]
    go_enter Try.func14, Try.ntmps14
    go_wp2
    go_ret
    exact ⟨rfl, rfl⟩

end Go.Proofs.Ytjmlpkdloldcjaa
