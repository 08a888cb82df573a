/-
  Walks: decimal figures, by the program; the law.
-/
import Derived.Test.YtmenkckdabfkcaaDoorDecS
import Derived.Test.YtmenkckdabfkcaaDoorShelfItoa
import Derived.Lib.SmallJoins
import Derived.Lib.AppendIntMem
namespace Go.Proofs.YtmenkckdabfkcaaDoor
open Go.RowKit

theorem decR_digits (n : Nat) : 0 < n → (decR n).map (fun c => UInt8.ofNat c.toNat) = Lib.decDigits n := by
  induction n using Nat.strongRecOn with
  | _ n ih =>
    intro h
    rw [decR_pos h, List.map_append, Lib.decDigits]
    split
    · have e : n / 10 = 0 := by omega
      have e2 : n % 10 = n := by omega
      rw [e, decR_zero, e2]
      rfl
    · rw [ih (n / 10) (by omega) (by omega)]
      rfl
theorem itoa_eq (n : Int) : (⟨(Lib.itoa n).toArray⟩ : ByteArray) = strOfNums (decI n) := by
  unfold strOfNums
  congr 2
  unfold Lib.itoa
  split
  · rename_i h
    rw [decI_neg h, List.map_cons, decR_digits _ (by omega)]
    rfl
  · rename_i h
    rcases Int.lt_or_eq_of_le (Int.not_lt.1 h) with h0 | h0
    · rw [decI_pos h0, decR_digits _ (by omega)]
      congr 1
      omega
    · subst h0
      rw [decI_zero]
      show Lib.decDigits 0 = _
      rw [Lib.decDigits, dif_pos (by omega)]
      rfl

theorem gPow : Tryd.prog.globalNamed "internal/strconv.uint64pow10" = some 2 := by kernel_rfl

theorem implDecimal_any (n : Int) (w : World) (h0 : -9223372036854775808 ≤ n) (h1 : n ≤ 9223372036854775807) (htab : Lib.TabIs Tryd.prog w "internal/strconv.uint64pow10" .u64 Lib.pow10Tab) :
    Calls Tryd.prog 6 #[.int .i64 n] w fun e w' => e = .returned (.string (strOfNums (decI n))) ∧ Below w.heap.size w w' := by
  rw [← itoa_eq]
  go_enter Tryd.func6, Tryd.ntmps6
  go_wp2_with (go_at_call 13; refine (Tryd.strconv_Itoa _ h0 h1 _ htab).mono ?_; rintro e w1 ⟨rfl, k, os, rfl⟩)
  go_ret
  exact ⟨rfl, Lib.below_grow _ _ (Nat.le_refl _) _ _⟩

theorem specDecimal_all (n : Int) (w : World) (h0 : -9223372036854775808 ≤ n) (h1 : n ≤ 9223372036854775807) : Calls Tryd.prog 5 #[.int .i64 n] w fun e w' => e = .returned (.string (strOfNums (decI n))) ∧ Below w.heap.size w w' := by
  rcases Int.lt_trichotomy n 0 with h | h | h
  · rw [decI_neg h]
    have e : n = -((n.natAbs : Nat) : Int) := by omega
    rw [show (#[Value.int IntKind.i64 n] : Array Value) = #[.int .i64 (-((n.natAbs : Nat) : Int))] by rw [← e]]
    exact specDecimal_neg n.natAbs w (by omega) (by omega)
  · subst h; exact specDecimal_zero w
  · rw [decI_pos h]
    have e : n = ((n.natAbs : Nat) : Int) := by omega
    rw [show (#[Value.int IntKind.i64 n] : Array Value) = #[.int .i64 ((n.natAbs : Nat) : Int)] by rw [← e]]
    exact specDecimal_pos n.natAbs w (by omega) (by omega)

theorem lawDecimal (n : Int) (w : World) (h0 : -9223372036854775808 ≤ n) (h1 : n ≤ 9223372036854775807) (htab : Lib.TabIs Tryd.prog w "internal/strconv.uint64pow10" .u64 Lib.pow10Tab) :
    Calls Tryd.prog 3 #[.int .i64 n] w fun e w' => e = .returned (.bool true) ∧ Below w.heap.size w w' := by
  have I := fun w h => hide (implDecimal_any n w h0 h1 h)
  have J := fun w => hide (specDecimal_all n w h0 h1)
  obtain ⟨t, ht⟩ : ∃ t, t = strOfNums (decI n) := ⟨_, rfl⟩
  rw [← ht] at I J
  clear ht
  have HT := hide htab
  clear htab
  go_enter Tryd.func3, Tryd.ntmps3
  go_wp2_with (first | (go_at_call 5; refine (unhide (J _)).mono ?_; rintro e w1 ⟨rfl, hb1⟩) | (go_at_call 6; refine (unhide (I _ ?_)).mono ?_; (exact Joins.tab_stays gPow HT.out hb1 (Nat.le_refl _)); rintro e w2 ⟨rfl, hb2⟩))
  go_ret
  exact ⟨rfl, hb1.trans (hb2.mono hb1.size)⟩
end Go.Proofs.YtmenkckdabfkcaaDoor
