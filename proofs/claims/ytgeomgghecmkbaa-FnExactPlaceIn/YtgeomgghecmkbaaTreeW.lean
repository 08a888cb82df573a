/-
  Walks: kids of a node, by the specification.
-/
import Derived.Test.YtgeomgghecmkbaaTreeP
import Derived.Test.YtgeomgghecmkbaaChecked
import Derived.BigQuiet
import Derived.WalkSmall
import Derived.Deep.RegionHeld3
namespace Go.Proofs.Ytgeomgghecmkbaa
open Go.RowKit

end Go.Proofs.Ytgeomgghecmkbaa

namespace Go.Proofs.Ytgeomgghecmkbaa
open Go.RowKit

/-- The kinds of a node's kids. -/
def kinds (ns : List Nd) (k : Nat) : List Int := (ns.getD k default).kids.map (kidKind ns k)
theorem getD_at {ns : List Nd} {k : Nat} (hk : k < ns.length) : ns.getD k default = ns[k] := by simp [List.getD_eq_getElem?_getD, List.getElem?_eq_getElem hk]
theorem kinds_len {ns : List Nd} {k : Nat} (hk : k < ns.length) : (kinds ns k).length = ns[k].kids.length := by rw [kinds, getD_at hk, List.length_map]
theorem kinds_at {ns : List Nd} {k i : Nat} (hk : k < ns.length) (hi : i < ns[k].kids.length) : (kinds ns k)[i]'(by rw [kinds_len hk]; exact hi) = kidKind ns k ns[k].kids[i] := by
  have e : kinds ns k = ns[k].kids.map (kidKind ns k) := by rw [kinds, getD_at hk]
  simp [e]
theorem kinds_at? {ns : List Nd} {k i : Nat} (hk : k < ns.length) (hi : i < ns[k].kids.length) : (kinds ns k)[i]? = some (kidKind ns k ns[k].kids[i]) := by
  rw [List.getElem?_eq_getElem (by rw [kinds_len hk]; exact hi), kinds_at hk hi]

theorem all_take_no {α : Type} {q : α → Bool} {l : List α} {n i : Nat} {x : α} (h : l[i]? = some x) (hi : i < n) (hq : q x = false) : (l.take n).all q = false := by
  rw [List.all_eq_false]
  refine ⟨x, ?_, by simp [hq]⟩
  obtain ⟨hl, e⟩ := List.getElem?_eq_some_iff.1 h
  exact List.mem_take_iff_getElem.2 ⟨i, by omega, e⟩
theorem all_take_yes {α : Type} {q : α → Bool} {l : List α} {n : Nat} (h : ∀ j x, j < n → l[j]? = some x → q x = true) : (l.take n).all q = true := by
  rw [List.all_eq_true]
  intro x hx
  obtain ⟨i, hi, e⟩ := List.mem_take_iff_getElem.1 hx
  exact h i x (by omega) (by rw [List.getElem?_eq_getElem (by omega), e])
theorem all_drop_no {α : Type} {q : α → Bool} {l : List α} {n i : Nat} {x : α} (h : l[i]? = some x) (hi : n ≤ i) (hq : q x = false) : (l.drop n).all q = false := by
  rw [List.all_eq_false]
  refine ⟨x, ?_, by simp [hq]⟩
  exact List.mem_iff_getElem?.2 ⟨i - n, by rw [List.getElem?_drop, show n + (i - n) = i by omega]; exact h⟩
theorem all_drop_yes {α : Type} {q : α → Bool} {l : List α} {n : Nat} (h : ∀ j x, n ≤ j → l[j]? = some x → q x = true) : (l.drop n).all q = true := by
  rw [List.all_eq_true]
  intro x hx
  obtain ⟨i, hi⟩ := List.mem_iff_getElem?.1 hx
  rw [List.getElem?_drop] at hi
  exact h (n + i) x (by omega) hi

/-- A program in its box. -/
structure Boxed (B : Nat) (w : World) (nv mv pv : Value) : Prop where
  c0 : w.cell? ⟨B, 0, none⟩ = some nv
  c1 : w.cell? ⟨B, 1, none⟩ = some mv
  c2 : w.cell? ⟨B, 2, none⟩ = some pv
  lt : B < w.heap.size
theorem Boxed.made (w : World) (nv mv pv : Value) (t : TypeId) : Boxed w.heap.size (w.alloc (.cells #[nv, mv, pv] t)) nv mv pv := by
  refine ⟨?_, ?_, ?_, ?_⟩
  · rw [World.cell?_alloc_new]; rfl
  · rw [World.cell?_alloc_new]; rfl
  · rw [World.cell?_alloc_new]; rfl
  · simp
theorem Boxed.stays {B : Nat} {w w' : World} {nv mv pv : Value} (h : Boxed B w nv mv pv) (hb : Below w.heap.size w w') : Boxed B w' nv mv pv :=
  ⟨(hb.cell (p := ⟨B, 0, none⟩) h.lt).trans h.c0, (hb.cell (p := ⟨B, 1, none⟩) h.lt).trans h.c1, (hb.cell (p := ⟨B, 2, none⟩) h.lt).trans h.c2, Nat.lt_of_lt_of_le h.lt hb.size⟩

def ValuesR (W1 : World) (l : List Int) (n : Nat) (iv : Value) (wr : World) : Prop :=
  ∃ i : Nat, i ≤ n ∧ iv = .int .i64 i ∧ Hid (Below W1.heap.size W1 wr) ∧ Hid (∀ j x, j < i → l[j]? = some x → valueQ x = true)

end Go.Proofs.Ytgeomgghecmkbaa
