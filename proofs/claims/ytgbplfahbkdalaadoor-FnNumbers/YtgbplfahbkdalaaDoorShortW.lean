/-
  Walks: a short text with its length ahead.
-/
import Derived.Test.YtgbplfahbkdalaaDoorVarW
namespace Go.Proofs.YtgbplfahbkdalaaDoor
open Go.RowKit

theorem implShortText_yes (s : ByteArray) (w : World) (hs : s.size ≤ 20000) :
    Calls Tryd.prog 11 #[.string s] w fun e w' => e = .returned (.tuple #[.string (strOfNums (varL s.size) ++ s), .bool true]) ∧ Below w.heap.size w w' := by
  have hl := varL_len 4 s.size (by omega)
  have hz : (strOfNums (varL s.size)).size ≤ 5 := by rw [strOfNums_size]; exact hl
  go_enter Tryd.func11, Tryd.ntmps11
  go_wp2_with (go_at_call 6; refine (implVarText_yes _ _ (by omega)).mono ?_; rintro e w1 ⟨rfl, hb⟩)
  go_ret2
  exact ⟨rfl, by assumption⟩

theorem implShortText_no (s : ByteArray) (w : World) (hs : 20000 < s.size) (_h : s.size ≤ 1048576) :
    Calls Tryd.prog 11 #[.string s] w fun e w' => e = .returned (.tuple #[.string ⟨#[]⟩, .bool false]) ∧ w = w' := by
  go_enter Tryd.func11, Tryd.ntmps11
  go_wp2
  go_ret2
  exact ⟨rfl, rfl⟩

end Go.Proofs.YtgbplfahbkdalaaDoor
