/-
  Key words: by a row of texts, and by a map.
-/
import Derived.Test.YtgeomgghecmkbaaChecked
import Derived.Test.YtgeomgghecmkbaaAid
import Derived.Maps.OwnSet
import Derived.BigQuiet
import Derived.WalkSmall
namespace Go.Proofs.Ytgeomgghecmkbaa
open Go.RowKit Go.Maps
open Go.WideMaps (keyOf_string_mk)

/-- The key words. -/
def keyS : List ByteArray := [⟨#[109, 111, 110, 105, 116, 111, 114]⟩, ⟨#[118, 97, 114]⟩, ⟨#[113, 117, 101, 117, 101]⟩, ⟨#[101, 110, 116, 114, 121]⟩, ⟨#[112, 114, 111, 99, 101, 115, 115]⟩, ⟨#[117, 115, 101, 115]⟩, ⟨#[98, 101, 103, 105, 110]⟩, ⟨#[101, 110, 100]⟩, ⟨#[105, 102]⟩, ⟨#[116, 104, 101, 110]⟩, ⟨#[101, 108, 115, 101]⟩, ⟨#[119, 104, 105, 108, 101]⟩, ⟨#[100, 111]⟩, ⟨#[99, 97, 108, 108]⟩, ⟨#[116, 111]⟩, ⟨#[112, 114, 105, 110, 116]⟩, ⟨#[114, 101, 97, 100]⟩, ⟨#[100, 101, 108, 97, 121]⟩, ⟨#[99, 111, 110, 116, 105, 110, 117, 101]⟩, ⟨#[115, 107, 105, 112]⟩, ⟨#[97, 110, 100]⟩, ⟨#[111, 114]⟩, ⟨#[110, 111, 116]⟩]
def keyB (s : ByteArray) : Bool := keyS.any fun x => decide (x = s)

def keyLits : List Lit := keyS.map fun x => .string x.data.toList
/-- Some map that holds these keys, in a block of its own. -/
def MapIs (w0 w : World) (n : Nat) (ks : List Lit) : Prop := w.ownsMap Try.prog 9 (unitElem (H := Unit)) w0.heap.size n (setOf (.agg []) ks) ∧ Below w0.heap.size w0 w

theorem lawS : Keyed Try.prog 9 := string_keyed Try.underlying9
theorem MapIs.made (w : World) : MapIs w (w.alloc (.map #[] 0)) 0 [] := ⟨World.ownsMap_made _ _ _ _, (Below.refl _ _).alloc (Nat.le_refl _) _⟩

theorem keyLits_key : ∀ x ∈ keyLits, WideAt.IsKeyLit x := by
  intro x hx
  obtain ⟨y, _, rfl⟩ := List.mem_map.1 hx
  trivial

theorem keyHas (s : ByteArray) : Maps.has (setOf (H := Unit) (.agg []) keyLits) (.string s.data.toList) = keyB s := by
  rw [has_setOf _ _ _ keyLits_key, keyLits, List.any_map, keyB]
  congr 1
  funext x
  show Lit.sameKey (.string x.data.toList) (.string s.data.toList) = _
  have e : x = s ↔ x.data = s.data := ⟨fun h => by rw [h], fun h => ByteArray.ext h⟩
  by_cases h : x = s
  · simp [Lit.sameKey, h]
  · have h' : ¬ x.data = s.data := fun q => h (e.2 q)
    simp [Lit.sameKey, h, h']

abbrev keyRow (w : World) : World := w.alloc (.cells (keyS.map Value.string).toArray 9)

theorem keyRow_cell (w : World) (k : Nat) (h : k < 23) : (keyRow w).cell? ⟨w.heap.size, k, none⟩ = some (.string (keyS.getD k ByteArray.empty)) := by
  have := (World.ownsRow_lit (base := w.heap.size) (e := 9) (size := 1) w (keyS.map Value.string).toArray 23 (Nat.le_refl _) (by unfold maxLen; omega) (by simp [keyS])).cellAt k h
  rw [this, List.getD_eq_getElem?_getD]
  simp [List.getElem?_eq_getElem (show k < keyS.length from h)]

theorem keyB_yes {s : ByteArray} {k : Nat} (h : k < 23) (e : keyS.getD k ByteArray.empty = s) : keyB s = true := by
  rw [keyB, List.any_eq_true]
  refine ⟨keyS.getD k ByteArray.empty, ?_, by rw [e]; exact decide_eq_true rfl⟩
  rw [List.getD_eq_getElem?_getD, List.getElem?_eq_getElem (show k < keyS.length from h)]
  exact List.getElem_mem _
theorem keyB_no {s : ByteArray} (h : ∀ k, k < 23 → keyS.getD k ByteArray.empty ≠ s) : keyB s = false := by
  rw [keyB, List.any_eq_false]
  intro x hx
  obtain ⟨j, hj, rfl⟩ := List.getElem_of_mem hx
  have := h j hj
  rw [List.getD_eq_getElem?_getD, List.getElem?_eq_getElem hj] at this
  simpa using this

end Go.Proofs.Ytgeomgghecmkbaa
