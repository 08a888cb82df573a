/-
  Rows of numbers that are owned.
-/
import Derived.Test.YtgeomgghecmkbaaAid
import Derived.Test.YtgeomgghecmkbaaChecked
import Derived.BigQuiet
import Derived.WalkSmall
namespace Go.Proofs.Ytgeomgghecmkbaa
open Go.RowKit

abbrev I64 (x : Int) : Value := .int .i64 x
theorem Try.infoInt : (Try.prog.info? 3).map (fun i => (i.zero, i.size, i.bytes)) = some (some (.int .i64 0), 1, 8) := by kernel_rfl
theorem ownsInts_stays {w w' : World} {base : Nat} {e : TypeId} {size : Nat} {v : Value} {n : Nat} {xs : List Value} (h : w.ownsRow base e size v n xs) (hb : Below w.heap.size w w') : w'.ownsRow base e size v n xs := by
  have hlt := fun k hk => (h.lt k hk).2
  obtain ⟨h1, h2⟩ := h
  refine ⟨h1, ?_⟩
  rcases h2 with h2 | ⟨g, cap, cur, rfl, hb1, hg, r⟩
  · exact .inl h2
  · exact .inr ⟨g, cap, cur, rfl, hb1, by rw [hb.block g (hlt g rfl)]; exact hg, r⟩
/-- An owned row of numbers that is not empty: its block and cells. -/
theorem ownsInts_form {w : World} {base : Nat} {e : TypeId} {v : Value} {n : Nat} {xs : List Int} (h : w.ownsRow base e 1 v n (xs.map I64)) (hn : 0 < n) :
    ∃ g cap, v = .slice (some ⟨g, 0, none⟩) n cap ∧ base ≤ g ∧ g < w.heap.size ∧ ∀ j, j < n → w.cell? ⟨g, j, none⟩ = some (.int .i64 (xs.getD j 0)) := by
  have hl : xs.length = n := by simpa using h.1
  rcases h.2 with h2 | ⟨g, cap, cur, rfl, hb1, hg, _⟩
  · omega
  · refine ⟨g, cap, rfl, hb1, (h.lt g rfl).2, fun j hj => ?_⟩
    rw [h.cellAt j (by omega), List.getElem?_map, List.getD_eq_getElem?_getD, List.getElem?_eq_getElem (by omega)]
    rfl
end Go.Proofs.Ytgeomgghecmkbaa
