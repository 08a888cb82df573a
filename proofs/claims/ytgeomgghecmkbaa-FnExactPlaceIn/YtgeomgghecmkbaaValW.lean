/-
  Walks: values, what comes out of two of them, by the specification and by the program.
-/
import Derived.Test.YtgeomgghecmkbaaProg
import Derived.Test.YtgeomgghecmkbaaAid
import Derived.WalkKit
import Derived.Deep.RegionHeld3
namespace Go.Proofs.Ytgeomgghecmkbaa
open Go.RowKit

/-- A value. -/
def vok (n : Int) : Bool := decide (-1000000 ≤ n) && decide (n ≤ 1000000)
theorem vok_iff (n : Int) : vok n = true ↔ -1000000 ≤ n ∧ n ≤ 1000000 := by simp [vok]
theorem vok_not (n : Int) : vok n = false ↔ ¬ (-1000000 ≤ n ∧ n ≤ 1000000) := by rw [← vok_iff]; simp

/-- What comes out of two values. -/
def calcO (op a b : Int) : Int :=
  if op = 1 then a + b else if op = 2 then a - b else if op = 3 then a * b else if op = 4 then a.tdiv b else if op = 5 then a.tmod b
  else if op = 6 then (if decide (a < b) then 1 else 0) else if op = 7 then (if decide (a = b) then 1 else 0)
  else if op = 8 then (if decide (a ≠ 0) && decide (b ≠ 0) then 1 else 0) else (if decide (a ≠ 0) || decide (b ≠ 0) then 1 else 0)

theorem mul_small {a b : Int} (ha1 : -1000000 ≤ a) (ha2 : a ≤ 1000000) (hb1 : -1000000 ≤ b) (hb2 : b ≤ 1000000) : -1000000000000 ≤ a * b ∧ a * b ≤ 1000000000000 := by
  have h : (a * b).natAbs ≤ 1000000 * 1000000 := by rw [Int.natAbs_mul]; exact Nat.mul_le_mul (by omega) (by omega)
  omega
theorem tdiv_small {a : Int} (b : Int) (ha1 : -1000000 ≤ a) (ha2 : a ≤ 1000000) : -1000000 ≤ a.tdiv b ∧ a.tdiv b ≤ 1000000 := by
  have h : (a.tdiv b).natAbs ≤ 1000000 := by rw [Int.natAbs_tdiv]; exact Nat.le_trans (Nat.div_le_self _ _) (by omega)
  omega
theorem wrap_mul {a b : Int} (ha1 : -1000000 ≤ a) (ha2 : a ≤ 1000000) (hb1 : -1000000 ≤ b) (hb2 : b ≤ 1000000) : wrap64 (a * b) = a * b := by
  have h := mul_small ha1 ha2 hb1 hb2
  exact IntWalk.wrap64_in _ (by omega)
theorem wrap_tdiv {a : Int} (b : Int) (ha1 : -1000000 ≤ a) (ha2 : a ≤ 1000000) : wrap64 (a.tdiv b) = a.tdiv b := by
  have h := tdiv_small b ha1 ha2
  exact IntWalk.wrap64_in _ (by omega)

end Go.Proofs.Ytgeomgghecmkbaa
