/-
  Walks: a short text with its length ahead.
-/
import Derived.Test.YtmenkckdabfkcaaVarW
namespace Go.Proofs.Ytmenkckdabfkcaa
open Go.RowKit

theorem specShortText_yes (s : ByteArray) (w : World) (hs : s.size ≤ 20000) :
    Calls Try.prog 14 #[.string s] w fun e w' => e = .returned (.tuple #[.string (strOfNums (varL s.size) ++ s), .bool true]) ∧ Below w.heap.size w w' := by
  have hl := varL_len 4 s.size (by omega)
  have hz : (strOfNums (varL s.size)).size ≤ 5 := by rw [strOfNums_size]; exact hl
  go_enter Try.func14, Try.ntmps14
  go_wp2_with (go_at_call 25; refine (l01Var_any _ _ (by omega)).mono ?_; rintro e w1 ⟨rfl, hb⟩)
  go_ret2
  exact ⟨rfl, by assumption⟩

theorem implShortText_yes (s : ByteArray) (w : World) (hs : s.size ≤ 20000) :
    Calls Try.prog 15 #[.string s] w fun e w' => e = .returned (.tuple #[.string (strOfNums (varL s.size) ++ s), .bool true]) ∧ Below w.heap.size w w' := by
  have hl := varL_len 4 s.size (by omega)
  have hz : (strOfNums (varL s.size)).size ≤ 5 := by rw [strOfNums_size]; exact hl
  go_enter Try.func15, Try.ntmps15
  go_wp2_with (go_at_call 11; refine (implVarText_yes _ _ (by omega)).mono ?_; rintro e w1 ⟨rfl, hb⟩)
  go_ret2
  exact ⟨rfl, by assumption⟩

theorem specShortText_no (s : ByteArray) (w : World) (hs : 20000 < s.size) (_h : s.size ≤ 1048576) :
    Calls Try.prog 14 #[.string s] w fun e w' => e = .returned (.tuple #[.string ⟨#[]⟩, .bool false]) ∧ w = w' := by
  go_enter Try.func14, Try.ntmps14
  go_wp2
  go_ret2
  exact ⟨rfl, rfl⟩
theorem implShortText_no (s : ByteArray) (w : World) (hs : 20000 < s.size) (_h : s.size ≤ 1048576) :
    Calls Try.prog 15 #[.string s] w fun e w' => e = .returned (.tuple #[.string ⟨#[]⟩, .bool false]) ∧ w = w' := by
  go_enter Try.func15, Try.ntmps15
  go_wp2
  go_ret2
  exact ⟨rfl, rfl⟩

theorem lawShortText (s : ByteArray) (_ : s.size ≤ maxLen) (w : World) : Calls Try.prog 5 #[.string s] w fun e w' => e = .returned (.bool true) ∧ Below w.heap.size w w' := by
  by_cases hs : s.size ≤ 1048576
  · by_cases h : s.size ≤ 20000
    · obtain ⟨r, hr⟩ : ∃ r, r = strOfNums (varL s.size) ++ s := ⟨_, rfl⟩
      have I := fun w => hide (implShortText_yes s w h)
      have J := fun w => hide (specShortText_yes s w h)
      rw [← hr] at I J
      clear hr
      go_enter Try.func5, Try.ntmps5
      go_wp2_with (first | (go_at_call 14; refine (unhide (J _)).mono ?_; rintro e w1 ⟨rfl, hb1⟩) | (go_at_call 15; refine (unhide (I _)).mono ?_; rintro e w2 ⟨rfl, hb2⟩))
      go_ret
      exact ⟨rfl, hb1.trans (hb2.mono hb1.size)⟩
    · go_enter Try.func5, Try.ntmps5
      go_wp2_with (first | (go_at_call 14; refine (specShortText_no _ _ (by omega) hs).mono ?_; rintro e w1 ⟨rfl, rfl⟩) | (go_at_call 15; refine (implShortText_no _ _ (by omega) hs).mono ?_; rintro e w2 ⟨rfl, rfl⟩))
      go_ret
      exact ⟨rfl, Below.refl _ _⟩
  · go_enter Try.func5, Try.ntmps5
    go_wp2
    go_ret
    exact ⟨rfl, Below.refl _ _⟩
end Go.Proofs.Ytmenkckdabfkcaa
