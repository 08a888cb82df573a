/-
  Walks: decimal figures, by the specification.
-/
import Derived.Test.YtbghdbclckanjaaRows
import Derived.Test.YtbghdbclckanjaaAidD
import Derived.WalkKit
namespace Go.Proofs.Ytbghdbclckanjaa
open Go.RowKit

theorem strOfNums_cons (x : Int) (t : List Int) : strOfNums [x] ++ strOfNums t = strOfNums (x :: t) := by
  apply ByteArray.ext
  rw [ByteArray.data_append]
  apply Array.toList_inj.1
  rw [Array.toList_append, strOfNums_data, strOfNums_data, strOfNums_data]
  rfl

theorem conv_one (x : Int) (w : World) : (convert 22 9 (.slice (some ⟨w.heap.size, 0, none⟩) 1 1)).run Try.prog (w.alloc (.cells #[.int .u8 x] 5)) = .ok (.string (strOfNums [x])) (w.alloc (.cells #[.int .u8 x] 5)) := by
  refine conv_own (base := w.heap.size) (n := 1) 22 9 5 Try.underlying22 Try.underlying5 Try.underlying9 ?_
  exact World.ownsRow_lit w #[.int .u8 x] 1 (Nat.le_refl _) (by unfold maxLen; omega) rfl

/-- What the loop keeps: the figures that are to come, and those that are there. -/
def DecRel (N : Nat) (of : Nat → Int) (w : World) (sv nv : Value) (wr : World) : Prop :=
  ∃ (m : Nat) (tail : List Int), m ≤ N ∧ nv = .int .i64 (of m) ∧ sv = .string (strOfNums tail) ∧ Hid (decR m ++ tail = decR N) ∧ Below w.heap.size w wr

theorem DecRel.step {N m : Nat} {tail : List Int} (hm : 0 < m) (h : decR m ++ tail = decR N) : decR (m / 10) ++ (((48 + m % 10 : Nat) : Int) :: tail) = decR N := by
  rw [← h, decR_pos hm]; simp
theorem DecRel.short {N m : Nat} {tail : List Int} (hN : N ≤ 9223372036854775808) (h : decR m ++ tail = decR N) : (strOfNums tail).size ≤ 20 := by
  rw [strOfNums_size]
  have h1 := decR_len 20 N (by omega)
  rw [← h, List.length_append] at h1
  omega

end Go.Proofs.Ytbghdbclckanjaa
