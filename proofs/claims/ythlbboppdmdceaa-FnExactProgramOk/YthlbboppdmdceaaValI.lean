/-
  Walks: values and operations that are known, by the program.
-/
import Derived.Test.YthlbboppdmdceaaProg
import Derived.Test.YthlbboppdmdceaaAid
import Derived.WalkKit
import Derived.Deep.RegionHeld3
namespace Go.Proofs.Ythlbboppdmdceaa
open Go.RowKit

/-- A value. -/
def vok (n : Int) : Bool := decide (-1000000 ≤ n) && decide (n ≤ 1000000)
theorem vok_iff (n : Int) : vok n = true ↔ -1000000 ≤ n ∧ n ≤ 1000000 := by simp [vok]
theorem vok_not (n : Int) : vok n = false ↔ ¬ (-1000000 ≤ n ∧ n ≤ 1000000) := by rw [← vok_iff]; simp

theorem implValOk (n : Int) (w : World) : Calls Try.prog 52 #[.int .i64 n] w fun e w' => e = .returned (.bool (vok n)) ∧ w = w' := by
  by_cases h1 : -1000000 ≤ n
  · have b1 : decide (-1000000 ≤ n) = true := decide_eq_true h1
    have e : vok n = decide (n ≤ 1000000) := by simp [vok, b1]
    rw [e]
    clear h1 e
    go_enter Try.func52, Try.ntmps52
    go_wp2
    go_ret
    exact ⟨rfl, rfl⟩
  · have b1 : decide (-1000000 ≤ n) = false := decide_eq_false h1
    have e : vok n = false := by simp [vok, b1]
    rw [e]
    clear h1 e
    go_enter Try.func52, Try.ntmps52
    go_wp2
    go_ret
    exact ⟨rfl, rfl⟩
theorem implKnown (op : Int) (w : World) : Calls Try.prog 54 #[.int .i64 op] w fun e w' => e = .returned (.bool (decide (1 ≤ op) && decide (op ≤ 9))) ∧ w = w' := by
  by_cases h1 : 1 ≤ op
  · go_enter Try.func54, Try.ntmps54
    go_wp2
    go_ret
    exact ⟨by simp [h1], rfl⟩
  · go_enter Try.func54, Try.ntmps54
    go_wp2
    go_ret
    exact ⟨by simp; omega, rfl⟩
end Go.Proofs.Ythlbboppdmdceaa
