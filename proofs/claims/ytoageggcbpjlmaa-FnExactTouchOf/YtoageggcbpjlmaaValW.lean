/-
  Walks: values, what comes out of two of them, by the specification and by the program.
-/
import Derived.Test.YtoageggcbpjlmaaProg
import Derived.Test.YtoageggcbpjlmaaAid
import Derived.WalkKit
import Derived.Deep.RegionHeld3
namespace Go.Proofs.Ytoageggcbpjlmaa
open Go.RowKit

/-- A value. -/
def vok (n : Int) : Bool := decide (-1000000 ≤ n) && decide (n ≤ 1000000)
theorem vok_iff (n : Int) : vok n = true ↔ -1000000 ≤ n ∧ n ≤ 1000000 := by simp [vok]
theorem vok_not (n : Int) : vok n = false ↔ ¬ (-1000000 ≤ n ∧ n ≤ 1000000) := by rw [← vok_iff]; simp

theorem implValOk (n : Int) (w : World) : Calls Try.prog 62 #[.int .i64 n] w fun e w' => e = .returned (.bool (vok n)) ∧ w = w' := by
  by_cases h1 : -1000000 ≤ n
  · have b1 : decide (-1000000 ≤ n) = true := decide_eq_true h1
    have e : vok n = decide (n ≤ 1000000) := by simp [vok, b1]
    rw [e]
    clear h1 e
    go_enter Try.func62, Try.ntmps62
    go_wp2
    go_ret
    exact ⟨rfl, rfl⟩
  · have b1 : decide (-1000000 ≤ n) = false := decide_eq_false h1
    have e : vok n = false := by simp [vok, b1]
    rw [e]
    clear h1 e
    go_enter Try.func62, Try.ntmps62
    go_wp2
    go_ret
    exact ⟨rfl, rfl⟩
theorem specIn (n lo hi : Int) (w : World) : Calls Try.prog 27 #[.int .i64 n, .int .i64 lo, .int .i64 hi] w fun e w' => e = .returned (.bool (decide (lo ≤ n) && decide (n ≤ hi))) ∧ w = w' := by
  by_cases h1 : lo ≤ n
  · go_enter Try.func27, Try.ntmps27
    go_wp2
    go_ret
    exact ⟨by simp [h1], rfl⟩
  · go_enter Try.func27, Try.ntmps27
    go_wp2
    go_ret
    exact ⟨by simp; omega, rfl⟩
theorem specValOk (n : Int) (w : World) : Calls Try.prog 26 #[.int .i64 n] w fun e w' => e = .returned (.bool (vok n)) ∧ w = w' := by
  have S := hide (specIn n (-1000000) 1000000 w)
  go_enter Try.func26, Try.ntmps26
  go_wp2_with (go_at_call 27; refine (unhide S).mono ?_; rintro e w1 ⟨rfl, rfl⟩)
  go_ret
  exact ⟨rfl, rfl⟩
theorem implOne (b : Bool) (w : World) : Calls Try.prog 65 #[.bool b] w fun e w' => e = .returned (.int .i64 (if b then 1 else 0)) ∧ w = w' := by
  cases b <;> go_enter Try.func65, Try.ntmps65 <;> go_wp2 <;> go_ret <;> exact ⟨rfl, rfl⟩
theorem specOne (b : Bool) (w : World) : Calls Try.prog 55 #[.bool b] w fun e w' => e = .returned (.int .i64 (if b then 1 else 0)) ∧ w = w' := by
  cases b <;> go_enter Try.func55, Try.ntmps55 <;> go_wp2 <;> go_ret <;> exact ⟨rfl, rfl⟩

theorem implKnown (op : Int) (w : World) : Calls Try.prog 61 #[.int .i64 op] w fun e w' => e = .returned (.bool (decide (1 ≤ op) && decide (op ≤ 9))) ∧ w = w' := by
  by_cases h1 : 1 ≤ op
  · go_enter Try.func61, Try.ntmps61
    go_wp2
    go_ret
    exact ⟨by simp [h1], rfl⟩
  · go_enter Try.func61, Try.ntmps61
    go_wp2
    go_ret
    exact ⟨by simp; omega, rfl⟩
theorem implDivides (op : Int) (w : World) : Calls Try.prog 63 #[.int .i64 op] w fun e w' => e = .returned (.bool (decide (op = 4) || decide (op = 5))) ∧ w = w' := by
  by_cases h1 : op = 4
  all_goals go_enter Try.func63, Try.ntmps63
  all_goals go_wp2
  all_goals go_ret
  all_goals exact ⟨by by_cases h5 : op = 5 <;> simp_all, rfl⟩

/-- What comes out of two values. -/
def calcO (op a b : Int) : Int :=
  if op = 1 then a + b else if op = 2 then a - b else if op = 3 then a * b else if op = 4 then a.tdiv b else if op = 5 then a.tmod b
  else if op = 6 then (if decide (a < b) then 1 else 0) else if op = 7 then (if decide (a = b) then 1 else 0)
  else if op = 8 then (if decide (a ≠ 0) && decide (b ≠ 0) then 1 else 0) else (if decide (a ≠ 0) || decide (b ≠ 0) then 1 else 0)

theorem mul_small {a b : Int} (ha1 : -1000000 ≤ a) (ha2 : a ≤ 1000000) (hb1 : -1000000 ≤ b) (hb2 : b ≤ 1000000) : -1000000000000 ≤ a * b ∧ a * b ≤ 1000000000000 := by
  have h : (a * b).natAbs ≤ 1000000 * 1000000 := by rw [Int.natAbs_mul]; exact Nat.mul_le_mul (by omega) (by omega)
  omega
theorem tdiv_small {a : Int} (b : Int) (ha1 : -1000000 ≤ a) (ha2 : a ≤ 1000000) : -1000000 ≤ a.tdiv b ∧ a.tdiv b ≤ 1000000 := by
  have h : (a.tdiv b).natAbs ≤ 1000000 := by rw [Int.natAbs_tdiv]; exact Nat.le_trans (Nat.div_le_self _ _) (by omega)
  omega
theorem wrap_mul {a b : Int} (ha1 : -1000000 ≤ a) (ha2 : a ≤ 1000000) (hb1 : -1000000 ≤ b) (hb2 : b ≤ 1000000) : wrap64 (a * b) = a * b := by
  have h := mul_small ha1 ha2 hb1 hb2
  exact IntWalk.wrap64_in _ (by omega)
theorem wrap_tdiv {a : Int} (b : Int) (ha1 : -1000000 ≤ a) (ha2 : a ≤ 1000000) : wrap64 (a.tdiv b) = a.tdiv b := by
  have h := tdiv_small b ha1 ha2
  exact IntWalk.wrap64_in _ (by omega)

theorem implOf (op a b : Int) (w : World) (h1 : 1 ≤ op) (h9 : op ≤ 9) (ha : -1000000 ≤ a ∧ a ≤ 1000000) (hb : -1000000 ≤ b ∧ b ≤ 1000000) (hz : op = 4 ∨ op = 5 → b ≠ 0) :
    Calls Try.prog 64 #[.int .i64 op, .int .i64 a, .int .i64 b] w fun e w' => e = .returned (.int .i64 (calcO op a b)) ∧ w = w' := by
  obtain ⟨ha1, ha2⟩ := ha
  obtain ⟨hb1, hb2⟩ := hb
  obtain h | h | h | h | h | h | h | h | h : op = 1 ∨ op = 2 ∨ op = 3 ∨ op = 4 ∨ op = 5 ∨ op = 6 ∨ op = 7 ∨ op = 8 ∨ op = 9 := by omega
  · subst h; clear h1 h9 hz
    go_enter Try.func64, Try.ntmps64
    go_wp2
    go_ret
    exact ⟨rfl, rfl⟩
  · subst h; clear h1 h9 hz
    go_enter Try.func64, Try.ntmps64
    go_wp2
    go_ret
    exact ⟨rfl, rfl⟩
  · subst h; clear h1 h9 hz
    have hm := wrap_mul ha1 ha2 hb1 hb2
    go_enter Try.func64, Try.ntmps64
    go_wp2
    go_ret
    exact ⟨congrArg (fun z => Ending.returned (Value.int .i64 z)) hm, rfl⟩
  · subst h; have hb0 := hz (.inl rfl); have hm := wrap_tdiv b ha1 ha2; clear h1 h9 hz
    go_enter Try.func64, Try.ntmps64
    go_wp2
    go_ret
    exact ⟨congrArg (fun z => Ending.returned (Value.int .i64 z)) hm, rfl⟩
  · subst h; have hb0 := hz (.inr rfl); clear h1 h9 hz
    go_enter Try.func64, Try.ntmps64
    go_wp2
    go_ret
    exact ⟨rfl, rfl⟩
  all_goals subst h
  all_goals clear h1 h9 hz ha1 ha2 hb1 hb2
  all_goals by_cases h0 : a = 0
  all_goals go_enter Try.func64, Try.ntmps64
  all_goals go_wp2_with (go_at_call 65; refine (implOne _ _).mono ?_; rintro e w1 ⟨rfl, rfl⟩)
  all_goals go_ret
  all_goals exact ⟨by simp_all [calcO], rfl⟩
end Go.Proofs.Ytoageggcbpjlmaa
