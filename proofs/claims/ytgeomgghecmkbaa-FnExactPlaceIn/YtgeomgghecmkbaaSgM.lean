/-
  Walks: the law's own marks on rows of signs.
-/
import Derived.Test.YtgeomgghecmkbaaSgP
import Derived.Test.YtgeomgghecmkbaaMarkW
namespace Go.Proofs.Ytgeomgghecmkbaa
open Go.RowKit

/-- The marks of a sign. -/
def mkSg (k i : Nat) : Sg := ⟨((k + 4 * i : Nat) : Int), markS (k + 4 * i + 1), ((k + 4 * i + 2 : Nat) : Int), ((k + 4 * i + 3 : Nat) : Int)⟩
def sgMarks (k n : Nat) : List Sg := (List.range n).map fun i => mkSg k i
theorem sgMarks_len (k n : Nat) : (sgMarks k n).length = n := by simp [sgMarks]
theorem sgMarks_at (k n j : Nat) (h : j < (sgMarks k n).length) : (sgMarks k n)[j] = mkSg k j := by simp [sgMarks]
/-- The first j of a row are marked, the rest is as it was. -/
def sgMarked (xs : List Sg) (k j : Nat) : List Sg := sgMarks k j ++ xs.drop j
theorem sgMarked_zero (xs : List Sg) (k : Nat) : sgMarked xs k 0 = xs := by simp [sgMarked, sgMarks]
theorem sgMarked_all (xs : List Sg) (k : Nat) : sgMarked xs k xs.length = sgMarks k xs.length := by simp [sgMarked]
theorem sgMarked_len (xs : List Sg) (k j : Nat) (h : j ≤ xs.length) : (sgMarked xs k j).length = xs.length := by simp [sgMarked, sgMarks]; omega
theorem sgMarked_succ (xs : List Sg) (k j : Nat) (h : j < xs.length) : (sgMarked xs k j).set j (mkSg k j) = sgMarked xs k (j + 1) := by
  have e1 : sgMarks k (j + 1) = sgMarks k j ++ [mkSg k j] := by simp [sgMarks, List.range_succ]
  rw [sgMarked, sgMarked, e1, List.set_append_right _ _ (by rw [sgMarks_len]; exact Nat.le_refl _), sgMarks_len, Nat.sub_self, List.drop_eq_getElem_cons h, List.set_cons_zero, List.append_assoc]
  rfl

theorem there_four {w : World} {g o : Nat} (h : w.there g o 4) : (∃ y0 y1 y2 y3, w.cell? { block := g, off := o } = some y0 ∧ w.cell? { block := g, off := o + 1 } = some y1 ∧ w.cell? { block := g, off := o + 2 } = some y2 ∧ w.cell? { block := g, off := o + 3 } = some y3) ∧
    w.frozen? { block := g, off := o } = false ∧ w.frozen? { block := g, off := o + 1 } = false ∧ w.frozen? { block := g, off := o + 2 } = false ∧ w.frozen? { block := g, off := o + 3 } = false := by
  obtain ⟨y0, h0⟩ := Option.isSome_iff_exists.1 (h 0 (by omega)).1
  obtain ⟨y1, h1⟩ := Option.isSome_iff_exists.1 (h 1 (by omega)).1
  obtain ⟨y2, h2⟩ := Option.isSome_iff_exists.1 (h 2 (by omega)).1
  obtain ⟨y3, h3⟩ := Option.isSome_iff_exists.1 (h 3 (by omega)).1
  exact ⟨⟨y0, y1, y2, y3, h0, h1, h2, h3⟩, (h 0 (by omega)).2, (h 1 (by omega)).2, (h 2 (by omega)).2, (h 3 (by omega)).2⟩

theorem row_form {w : World} {base : Nat} {e : TypeId} {size : Nat} {v : Value} {n : Nat} {xs : List Value} (h : w.ownsRow base e size v n xs) : (n = 0 ∧ ∃ ao cap, v = .slice ao 0 cap) ∨ (0 < n ∧ ∃ g cap, v = .slice (some ⟨g, 0, none⟩) n cap ∧ base ≤ g ∧ g < w.heap.size) := by
  rcases h.2 with ⟨rfl, h0⟩ | ⟨g, cap, cur, rfl, hb, hg, _⟩
  · exact .inl ⟨h0, none, 0, rfl⟩
  · rcases Nat.eq_zero_or_pos n with h0 | h0
    · subst h0; exact .inl ⟨rfl, _, _, rfl⟩
    · exact .inr ⟨h0, g, cap, rfl, hb, (h.lt g rfl).2⟩

end Go.Proofs.Ytgeomgghecmkbaa
