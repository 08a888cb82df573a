/-
  Rows of texts that are owned: what stays, what is read.
-/
import Derived.Test.YtgeomgghecmkbaaAid
import Derived.Test.YtgeomgghecmkbaaAidD
import Derived.Test.YtgeomgghecmkbaaRows
import Derived.WalkKit
namespace Go.Proofs.Ytgeomgghecmkbaa
open Go.RowKit

theorem ownsRow_below {w w' : World} {base B : Nat} {e : TypeId} {size : Nat} {v : Value} {n : Nat} {xs : List Value} (h : w.ownsRow base e size v n xs) (hb : Below B w w') (hlt : ∀ k, v.ownBlock = some k → k < B) : w'.ownsRow base e size v n xs := by
  obtain ⟨h1, h2⟩ := h
  refine ⟨h1, ?_⟩
  rcases h2 with h2 | ⟨g, cap, cur, rfl, hb1, hg, r⟩
  · exact .inl h2
  · exact .inr ⟨g, cap, cur, rfl, hb1, by rw [hb.block g (hlt g rfl)]; exact hg, r⟩
theorem ownsRow_stays {w w' : World} {base : Nat} {e : TypeId} {size : Nat} {v : Value} {n : Nat} {xs : List Value} (h : w.ownsRow base e size v n xs) (hb : Below w.heap.size w w') : w'.ownsRow base e size v n xs :=
  ownsRow_below h hb (fun k hk => (h.lt k hk).2)
theorem ownsRow_base {w : World} {base base' : Nat} {e : TypeId} {size : Nat} {v : Value} {n : Nat} {xs : List Value} (h : w.ownsRow base e size v n xs) (hb : base' ≤ base) : w.ownsRow base' e size v n xs := by
  obtain ⟨h1, h2⟩ := h
  refine ⟨h1, ?_⟩
  rcases h2 with h2 | ⟨g, cap, cur, rfl, hb1, r⟩
  · exact .inl h2
  · exact .inr ⟨g, cap, cur, rfl, by omega, r⟩

/-- A text as a value. -/
abbrev S (x : ByteArray) : Value := .string x

/-- A row's form, and its cells: nil and empty, or a block. -/
theorem ownsRow_form {w : World} {base : Nat} {e : TypeId} {v : Value} {n : Nat} {xs : List ByteArray} (h : w.ownsRow base e 1 v n (xs.map S)) :
    xs.length = n ∧ ((v = .slice none 0 0 ∧ n = 0) ∨ ∃ g cap, v = .slice (some ⟨g, 0, none⟩) n cap ∧ base ≤ g ∧ g < w.heap.size ∧ (∀ j, j < n → w.cell? ⟨g, j, none⟩ = some (.string (xs.getD j ByteArray.empty))) ∧ (∀ j, w.frozen? ⟨g, j, none⟩ = false)) := by
  have hl : xs.length = n := by simpa using h.1
  refine ⟨hl, ?_⟩
  rcases h.2 with h2 | ⟨g, cap, cur, rfl, hb1, hg, _⟩
  · exact .inl h2
  · refine .inr ⟨g, cap, rfl, hb1, (h.lt g rfl).2, fun j hj => ?_, fun j => h.frozenAt j⟩
    rw [h.cellAt j (by omega), List.getElem?_map, List.getD_eq_getElem?_getD, List.getElem?_eq_getElem (by omega)]
    rfl

/-- The marks: m and a number's figures. -/
def markS (k : Nat) : ByteArray := strOfNums (109 :: decR k)
def marks (k n : Nat) : List ByteArray := (List.range n).map fun i => markS (k + i)
theorem marks_len (k n : Nat) : (marks k n).length = n := by simp [marks]
theorem marks_at (k n j : Nat) (h : j < n) : (marks k n).getD j ByteArray.empty = markS (k + j) := by
  rw [List.getD_eq_getElem?_getD, marks, List.getElem?_map, List.getElem?_range h]
  rfl
/-- The first j of a row are marked, the rest is as it was. -/
def marked (xs : List ByteArray) (k j : Nat) : List ByteArray := marks k j ++ xs.drop j
theorem marked_zero (xs : List ByteArray) (k : Nat) : marked xs k 0 = xs := by simp [marked, marks]
theorem marked_all (xs : List ByteArray) (k : Nat) : marked xs k xs.length = marks k xs.length := by simp [marked]
theorem marked_len (xs : List ByteArray) (k j : Nat) (h : j ≤ xs.length) : (marked xs k j).length = xs.length := by simp [marked, marks]; omega
theorem marked_succ (xs : List ByteArray) (k j : Nat) (h : j < xs.length) : (marked xs k j).set j (markS (k + j)) = marked xs k (j + 1) := by
  have e1 : marks k (j + 1) = marks k j ++ [markS (k + j)] := by simp [marks, List.range_succ]
  rw [marked, marked, e1, List.set_append_right _ _ (by rw [marks_len]; exact Nat.le_refl _), marks_len, Nat.sub_self, List.drop_eq_getElem_cons h, List.set_cons_zero, List.append_assoc]
  rfl
end Go.Proofs.Ytgeomgghecmkbaa

namespace Go.Proofs.Ytgeomgghecmkbaa
open Go.RowKit

theorem strOfNums_cons (x : Int) (t : List Int) : strOfNums [x] ++ strOfNums t = strOfNums (x :: t) := by
  apply ByteArray.ext
  rw [ByteArray.data_append]
  apply Array.toList_inj.1
  rw [Array.toList_append, strOfNums_data, strOfNums_data, strOfNums_data]
  rfl

/-- What the loop keeps: the figures that are to come, and those that are there. -/
def DecRel (N : Nat) (of : Nat → Int) (w : World) (sv nv : Value) (wr : World) : Prop :=
  ∃ (m : Nat) (tail : List Int), m ≤ N ∧ nv = .int .i64 (of m) ∧ sv = .string (strOfNums tail) ∧ Hid (decR m ++ tail = decR N) ∧ Below w.heap.size w wr

theorem DecRel.step {N m : Nat} {tail : List Int} (hm : 0 < m) (h : decR m ++ tail = decR N) : decR (m / 10) ++ (((48 + m % 10 : Nat) : Int) :: tail) = decR N := by
  rw [← h, decR_pos hm]; simp
theorem DecRel.short {N m : Nat} {tail : List Int} (hN : N ≤ 9223372036854775808) (h : decR m ++ tail = decR N) : (strOfNums tail).size ≤ 20 := by
  rw [strOfNums_size]
  have h1 := decR_len 20 N (by omega)
  rw [← h, List.length_append] at h1
  omega

end Go.Proofs.Ytgeomgghecmkbaa
