/-
  Walks: values, what comes out of two of them, by the specification and by the program.
-/
import Derived.Test.YtgmihgnbhjgghaaProg
import Derived.Test.YtgmihgnbhjgghaaAid
import Derived.WalkKit
import Derived.Deep.RegionHeld3
import Derived.Test.YtgmihgnbhjgghaaTreeP
namespace Go.Proofs.Ytgmihgnbhjgghaa
open Go.RowKit

/-- A value. -/
def vok (n : Int) : Bool := decide (-1000000 ≤ n) && decide (n ≤ 1000000)
theorem vok_iff (n : Int) : vok n = true ↔ -1000000 ≤ n ∧ n ≤ 1000000 := by simp [vok]
theorem vok_not (n : Int) : vok n = false ↔ ¬ (-1000000 ≤ n ∧ n ≤ 1000000) := by rw [← vok_iff]; simp

theorem specIn (n lo hi : Int) (w : World) : Calls Try.prog 16 #[.int .i64 n, .int .i64 lo, .int .i64 hi] w fun e w' => e = .returned (.bool (decide (lo ≤ n) && decide (n ≤ hi))) ∧ w = w' := by
  by_cases h1 : lo ≤ n
  · go_enter Try.func16, Try.ntmps16
    go_wp2
    go_ret
    exact ⟨by simp [h1], rfl⟩
  · go_enter Try.func16, Try.ntmps16
    go_wp2
    go_ret
    exact ⟨by simp; omega, rfl⟩
theorem implKnown (op : Int) (w : World) : Calls Try.prog 31 #[.int .i64 op] w fun e w' => e = .returned (.bool (decide (1 ≤ op) && decide (op ≤ 9))) ∧ w = w' := by
  by_cases h1 : 1 ≤ op
  · go_enter Try.func31, Try.ntmps31
    go_wp2
    go_ret
    exact ⟨by simp [h1], rfl⟩
  · go_enter Try.func31, Try.ntmps31
    go_wp2
    go_ret
    exact ⟨by simp; omega, rfl⟩
/-- What comes out of two values. -/
def calcO (op a b : Int) : Int :=
  if op = 1 then a + b else if op = 2 then a - b else if op = 3 then a * b else if op = 4 then a.tdiv b else if op = 5 then a.tmod b
  else if op = 6 then (if decide (a < b) then 1 else 0) else if op = 7 then (if decide (a = b) then 1 else 0)
  else if op = 8 then (if decide (a ≠ 0) && decide (b ≠ 0) then 1 else 0) else (if decide (a ≠ 0) || decide (b ≠ 0) then 1 else 0)

theorem mul_small {a b : Int} (ha1 : -1000000 ≤ a) (ha2 : a ≤ 1000000) (hb1 : -1000000 ≤ b) (hb2 : b ≤ 1000000) : -1000000000000 ≤ a * b ∧ a * b ≤ 1000000000000 := by
  have h : (a * b).natAbs ≤ 1000000 * 1000000 := by rw [Int.natAbs_mul]; exact Nat.mul_le_mul (by omega) (by omega)
  omega
theorem tdiv_small {a : Int} (b : Int) (ha1 : -1000000 ≤ a) (ha2 : a ≤ 1000000) : -1000000 ≤ a.tdiv b ∧ a.tdiv b ≤ 1000000 := by
  have h : (a.tdiv b).natAbs ≤ 1000000 := by rw [Int.natAbs_tdiv]; exact Nat.le_trans (Nat.div_le_self _ _) (by omega)
  omega
theorem wrap_mul {a b : Int} (ha1 : -1000000 ≤ a) (ha2 : a ≤ 1000000) (hb1 : -1000000 ≤ b) (hb2 : b ≤ 1000000) : wrap64 (a * b) = a * b := by
  have h := mul_small ha1 ha2 hb1 hb2
  exact IntWalk.wrap64_in _ (by omega)
theorem wrap_tdiv {a : Int} (b : Int) (ha1 : -1000000 ≤ a) (ha2 : a ≤ 1000000) : wrap64 (a.tdiv b) = a.tdiv b := by
  have h := tdiv_small b ha1 ha2
  exact IntWalk.wrap64_in _ (by omega)

end Go.Proofs.Ytgmihgnbhjgghaa

namespace Go.Proofs.Ytgmihgnbhjgghaa
open Go.RowKit

/-- The parts of a word. -/
structure In4 where
  op : Int
  a : Int
  b : Int
  c : Int
/-- What an Op asks of its parts. -/
def insArgs (op a b c : Int) : Bool :=
  if op = 1 then decide (c ≤ 1000000) else if op = 4 then inZ 1 9 c else if op = 5 then c == 0 else if op = 6 then c == 0 else if op = 8 then a == 0 else if op = 10 then inZ 1 7 a && b == 0 else true
/-- Whether it uses its second register. -/
def insTwo (op b : Int) : Bool := op == 4 || op == 10 || b == 0
def insB (op a b c : Int) : Bool := inZ 1 10 op && inZ 0 7 a && inZ 0 7 b && inZ 0 4194303 c && insTwo op b && insArgs op a b c
def encI (op a b c : Int) : Int := op * 268435456 + a * 33554432 + b * 4194304 + c
/-- The parts of a number. -/
def decOp (n : Int) : Int := n / 268435456
def decA (n : Int) : Int := n / 33554432 % 8
def decBb (n : Int) : Int := n / 4194304 % 8
def decC (n : Int) : Int := n % 4194304
def decB (n : Int) : Bool := inZ 0 8589934592 n && insB (decOp n) (decA n) (decBb n) (decC n)

theorem insB_in {op a b c : Int} (h : insB op a b c = true) : (1 ≤ op ∧ op ≤ 10) ∧ (0 ≤ a ∧ a ≤ 7) ∧ (0 ≤ b ∧ b ≤ 7) ∧ (0 ≤ c ∧ c ≤ 4194303) := by
  unfold insB at h
  simp only [Bool.and_eq_true, inZ_yes] at h
  exact ⟨h.1.1.1.1.1, h.1.1.1.1.2, h.1.1.1.2, h.1.1.2⟩
theorem dec_enc {op a b c : Int} (h : insB op a b c = true) : decOp (encI op a b c) = op ∧ decA (encI op a b c) = a ∧ decBb (encI op a b c) = b ∧ decC (encI op a b c) = c ∧ inZ 0 8589934592 (encI op a b c) = true := by
  have := insB_in h
  unfold decOp decA decBb decC encI
  rw [inZ_yes]
  omega
theorem decB_enc {op a b c : Int} (h : insB op a b c = true) : decB (encI op a b c) = true := by
  obtain ⟨h1, h2, h3, h4, h5⟩ := dec_enc h
  unfold decB
  rw [h1, h2, h3, h4, h5, h]
  rfl
theorem enc_dec (n : Int) : encI (decOp n) (decA n) (decBb n) (decC n) = n := by
  unfold decOp decA decBb decC encI
  omega
end Go.Proofs.Ytgmihgnbhjgghaa
