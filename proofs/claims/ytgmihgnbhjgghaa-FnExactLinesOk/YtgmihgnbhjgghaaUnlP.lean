/-
  Names that are unlike: as a function of the list.
-/
import Derived.Test.YtgmihgnbhjgghaaTreeQ
import Derived.Test.YtgmihgnbhjgghaaAid
import Derived.Test.YtgmihgnbhjgghaaChecked
import Derived.Maps.OwnSet
import Derived.BigQuiet
import Derived.WalkSmall
namespace Go.Proofs.Ytgmihgnbhjgghaa
open Go.RowKit

/-- The word that stands for what comes out of an entry. -/
def resultN : ByteArray := ⟨#[114, 101, 115, 117, 108, 116]⟩
/-- No two are the same, and none is that word. -/
noncomputable def unlikeB (xs : List ByteArray) : Bool := @decide (xs.Nodup ∧ resultN ∉ xs) (Classical.propDecidable _)
theorem unlike_nil : unlikeB [] = true := by simp [unlikeB]
theorem unlike_snoc (ys : List ByteArray) (x : ByteArray) : unlikeB (ys ++ [x]) = true ↔ unlikeB ys = true ∧ x ≠ resultN ∧ x ∉ ys := by
  simp only [unlikeB, decide_eq_true_eq, List.nodup_append, List.mem_append, List.mem_singleton]
  constructor
  · rintro ⟨⟨h1, _, h3⟩, h4⟩
    exact ⟨⟨h1, fun h => h4 (Or.inl h)⟩, fun e => h4 (Or.inr e.symm), fun h => h3 x h x rfl rfl⟩
  · rintro ⟨⟨h1, h2⟩, h3, h4⟩
    refine ⟨⟨h1, by simp, fun a ha b hb e => ?_⟩, fun h => ?_⟩
    · subst hb; subst e; exact h4 ha
    · rcases h with h | h
      · exact h2 h
      · exact h3 h.symm
theorem unlike_perm {xs ys : List ByteArray} (h : xs.Perm ys) : unlikeB xs = unlikeB ys := by
  unfold unlikeB
  exact decide_eq_decide.2 (and_congr h.nodup_iff (not_congr h.mem_iff))
theorem unlike_take {xs : List ByteArray} {i : Nat} (h : unlikeB (xs.take i) = false) : unlikeB xs = false := by
  rw [Bool.eq_false_iff] at h ⊢
  intro h2
  apply h
  simp only [unlikeB, decide_eq_true_eq] at h2 ⊢
  exact ⟨h2.1.sublist (List.take_sublist i xs), fun q => h2.2 (List.mem_of_mem_take q)⟩
theorem unlike_step {xs : List ByteArray} {i : Nat} (hi : i < xs.length) (h : unlikeB (xs.take i) = true) (h1 : xs[i] ≠ resultN) (h2 : xs[i] ∉ xs.take i) : unlikeB (xs.take (i + 1)) = true := by
  rw [List.take_succ_eq_append_getElem hi]
  exact (unlike_snoc _ _).2 ⟨h, h1, h2⟩
theorem unlike_stop {xs : List ByteArray} {i : Nat} (hi : i < xs.length) (h : xs[i] = resultN ∨ xs[i] ∈ xs.take i) : unlikeB xs = false := by
  apply unlike_take (i := i + 1)
  rw [List.take_succ_eq_append_getElem hi, Bool.eq_false_iff]
  intro q
  obtain ⟨_, q1, q2⟩ := (unlike_snoc _ _).1 q
  rcases h with h | h
  · exact q1 h
  · exact q2 h
theorem mem_take_of {xs : List ByteArray} {i k : Nat} (hk : k < i) (hx : k < xs.length) : xs[k] ∈ xs.take i :=
  List.mem_take_iff_getElem.2 ⟨k, by omega, rfl⟩
theorem not_mem_take {xs : List ByteArray} {i : Nat} {x : ByteArray} (h : ∀ j, j < i → xs[j]? ≠ some x) : x ∉ xs.take i := by
  intro q
  obtain ⟨j, hj, e⟩ := List.mem_take_iff_getElem.1 q
  exact h j (by omega) (by rw [List.getElem?_eq_getElem (by omega), e])
/-- Is the name among these? -/
def memB (ks : List ByteArray) (s : ByteArray) : Bool := ks.any fun x => decide (x = s)
theorem memB_iff {ks : List ByteArray} {s : ByteArray} : memB ks s = true ↔ s ∈ ks := by
  rw [memB, List.any_eq_true]
  exact ⟨fun ⟨x, h, e⟩ => of_decide_eq_true e ▸ h, fun h => ⟨s, h, decide_eq_true rfl⟩⟩
theorem memB_no {ks : List ByteArray} {s : ByteArray} : memB ks s = false ↔ s ∉ ks := by
  rw [Bool.eq_false_iff]
  exact not_congr memB_iff
theorem memB_congr {ks ls : List ByteArray} {s t : ByteArray} (h : s ∈ ks ↔ t ∈ ls) : memB ks s = memB ls t := Bool.eq_iff_iff.2 (memB_iff.trans (h.trans memB_iff.symm))
end Go.Proofs.Ytgmihgnbhjgghaa

namespace Go.Proofs.Ytgmihgnbhjgghaa
open Go.RowKit Go.Maps
open Go.WideMaps (keyOf_string_mk)

/-- The key words. -/
def keyS : List ByteArray := [⟨#[109, 111, 110, 105, 116, 111, 114]⟩, ⟨#[118, 97, 114]⟩, ⟨#[113, 117, 101, 117, 101]⟩, ⟨#[101, 110, 116, 114, 121]⟩, ⟨#[112, 114, 111, 99, 101, 115, 115]⟩, ⟨#[117, 115, 101, 115]⟩, ⟨#[98, 101, 103, 105, 110]⟩, ⟨#[101, 110, 100]⟩, ⟨#[105, 102]⟩, ⟨#[116, 104, 101, 110]⟩, ⟨#[101, 108, 115, 101]⟩, ⟨#[119, 104, 105, 108, 101]⟩, ⟨#[100, 111]⟩, ⟨#[99, 97, 108, 108]⟩, ⟨#[116, 111]⟩, ⟨#[112, 114, 105, 110, 116]⟩, ⟨#[114, 101, 97, 100]⟩, ⟨#[100, 101, 108, 97, 121]⟩, ⟨#[99, 111, 110, 116, 105, 110, 117, 101]⟩, ⟨#[115, 107, 105, 112]⟩, ⟨#[97, 110, 100]⟩, ⟨#[111, 114]⟩, ⟨#[110, 111, 116]⟩]
def keyB (s : ByteArray) : Bool := keyS.any fun x => decide (x = s)

def keyLits : List Lit := keyS.map fun x => .string x.data.toList
/-- Some map that holds these keys, in a block of its own. -/
def MapIs (w0 w : World) (n : Nat) (ks : List Lit) : Prop := w.ownsMap Try.prog 9 (unitElem (H := Unit)) w0.heap.size n (setOf (.agg []) ks) ∧ Below w0.heap.size w0 w

theorem lawS : Keyed Try.prog 9 := string_keyed Try.underlying9
theorem MapIs.made (w : World) : MapIs w (w.alloc (.map #[] 0)) 0 [] := ⟨World.ownsMap_made _ _ _ _, (Below.refl _ _).alloc (Nat.le_refl _) _⟩

theorem keyLits_key : ∀ x ∈ keyLits, WideAt.IsKeyLit x := by
  intro x hx
  obtain ⟨y, _, rfl⟩ := List.mem_map.1 hx
  trivial

theorem keyHas (s : ByteArray) : Maps.has (setOf (H := Unit) (.agg []) keyLits) (.string s.data.toList) = keyB s := by
  rw [has_setOf _ _ _ keyLits_key, keyLits, List.any_map, keyB]
  congr 1
  funext x
  show Lit.sameKey (.string x.data.toList) (.string s.data.toList) = _
  have e : x = s ↔ x.data = s.data := ⟨fun h => by rw [h], fun h => ByteArray.ext h⟩
  by_cases h : x = s
  · simp [Lit.sameKey, h]
  · have h' : ¬ x.data = s.data := fun q => h (e.2 q)
    simp [Lit.sameKey, h, h']

abbrev keyRow (w : World) : World := w.alloc (.cells (keyS.map Value.string).toArray 9)

theorem keyRow_cell (w : World) (k : Nat) (h : k < 23) : (keyRow w).cell? ⟨w.heap.size, k, none⟩ = some (.string (keyS.getD k ByteArray.empty)) := by
  have := (World.ownsRow_lit (base := w.heap.size) (e := 9) (size := 1) w (keyS.map Value.string).toArray 23 (Nat.le_refl _) (by unfold maxLen; omega) (by simp [keyS])).cellAt k h
  rw [this, List.getD_eq_getElem?_getD]
  simp [List.getElem?_eq_getElem (show k < keyS.length from h)]

theorem keyB_yes {s : ByteArray} {k : Nat} (h : k < 23) (e : keyS.getD k ByteArray.empty = s) : keyB s = true := by
  rw [keyB, List.any_eq_true]
  refine ⟨keyS.getD k ByteArray.empty, ?_, by rw [e]; exact decide_eq_true rfl⟩
  rw [List.getD_eq_getElem?_getD, List.getElem?_eq_getElem (show k < keyS.length from h)]
  exact List.getElem_mem _
theorem keyB_no {s : ByteArray} (h : ∀ k, k < 23 → keyS.getD k ByteArray.empty ≠ s) : keyB s = false := by
  rw [keyB, List.any_eq_false]
  intro x hx
  obtain ⟨j, hj, rfl⟩ := List.getElem_of_mem hx
  have := h j hj
  rw [List.getD_eq_getElem?_getD, List.getElem?_eq_getElem hj] at this
  simpa using this

end Go.Proofs.Ytgmihgnbhjgghaa
