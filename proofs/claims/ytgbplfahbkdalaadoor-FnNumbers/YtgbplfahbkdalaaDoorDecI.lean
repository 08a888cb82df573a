/-
  Walks: decimal figures, by the program; the law.
-/
import Derived.Test.YtgbplfahbkdalaaDoorDecS
import Derived.Test.YtgbplfahbkdalaaDoorShelfItoa
import Derived.Lib.SmallJoins
import Derived.Lib.AppendIntMem
namespace Go.Proofs.YtgbplfahbkdalaaDoor
open Go.RowKit

theorem decR_digits (n : Nat) : 0 < n → (decR n).map (fun c => UInt8.ofNat c.toNat) = Lib.decDigits n := by
  induction n using Nat.strongRecOn with
  | _ n ih =>
    intro h
    rw [decR_pos h, List.map_append, Lib.decDigits]
    split
    · have e : n / 10 = 0 := by omega
      have e2 : n % 10 = n := by omega
      rw [e, decR_zero, e2]
      rfl
    · rw [ih (n / 10) (by omega) (by omega)]
      rfl
theorem itoa_eq (n : Int) : (⟨(Lib.itoa n).toArray⟩ : ByteArray) = strOfNums (decI n) := by
  unfold strOfNums
  congr 2
  unfold Lib.itoa
  split
  · rename_i h
    rw [decI_neg h, List.map_cons, decR_digits _ (by omega)]
    rfl
  · rename_i h
    rcases Int.lt_or_eq_of_le (Int.not_lt.1 h) with h0 | h0
    · rw [decI_pos h0, decR_digits _ (by omega)]
      congr 1
      omega
    · subst h0
      rw [decI_zero]
      show Lib.decDigits 0 = _
      rw [Lib.decDigits, dif_pos (by omega)]
      rfl

theorem gPow : Tryd.prog.globalNamed "internal/strconv.uint64pow10" = some 0 := by kernel_rfl

theorem implDecimal_any (n : Int) (w : World) (h0 : -9223372036854775808 ≤ n) (h1 : n ≤ 9223372036854775807) (htab : Lib.TabIs Tryd.prog w "internal/strconv.uint64pow10" .u64 Lib.pow10Tab) :
    Calls Tryd.prog 9 #[.int .i64 n] w fun e w' => e = .returned (.string (strOfNums (decI n))) ∧ Below w.heap.size w w' := by
  rw [← itoa_eq]
  go_enter Tryd.func9, Tryd.ntmps9
  go_wp2_with (go_at_call 18; refine (Tryd.strconv_Itoa _ h0 h1 _ htab).mono ?_; rintro e w1 ⟨rfl, k, os, rfl⟩)
  go_ret
  exact ⟨rfl, Lib.below_grow _ _ (Nat.le_refl _) _ _⟩

end Go.Proofs.YtgbplfahbkdalaaDoor
