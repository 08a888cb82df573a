/-
  Walks: sets of names: made, asked, a name more, a name less.
-/
import Derived.Test.YtgmihgnbhjgghaaChecked
import Derived.Test.YtgmihgnbhjgghaaUnlP
import Derived.Maps.OwnSet
import Derived.BigQuiet
import Derived.WalkSmall
namespace Go.Proofs.Ytgmihgnbhjgghaa
open Go.RowKit Go.Maps
open Go.WideMaps (keyOf_string_mk)

/-- A set of just these names, in a block of its own. -/
def SetAt (w : World) (b n : Nat) (ks : List ByteArray) : Prop :=
  ∃ D, w.ownsMap Try.prog 9 (unitElem (H := Unit)) b n D ∧ ∀ s : ByteArray, Maps.has D (.string s.data.toList) = memB ks s
theorem lawN : Keyed Try.prog 9 := string_keyed Try.underlying9
theorem SetAt.made (w : World) : SetAt (w.alloc (.map #[] 0)) w.heap.size 0 [] := ⟨_, World.ownsMap_made _ _ _ _, fun _ => rfl⟩
theorem SetAt.lt {w : World} {b n : Nat} {ks : List ByteArray} (h : SetAt w b n ks) : b < w.heap.size := by
  obtain ⟨D, h1, _⟩ := h
  exact h1.lt
theorem SetAt.kept {w w' : World} {b n : Nat} {ks : List ByteArray} {row : Option Nat} (h : SetAt w b n ks) (hg : w.grownBy w' row) (hne : some b ≠ row) : SetAt w' b n ks := by
  obtain ⟨D, h1, h2⟩ := h
  exact ⟨D, h1.kept hg hne, h2⟩
theorem SetAt.stays {w w' : World} {b n k : Nat} {ks : List ByteArray} (h : SetAt w b n ks) (hb : Below k w w') (hk : b < k) : SetAt w' b n ks := by
  obtain ⟨D, ⟨es, cl, q1, q2⟩, h2⟩ := h
  exact ⟨D, ⟨es, cl, (hb.block b hk).trans q1, q2⟩, h2⟩
theorem SetAt.mono {w : World} {b n m : Nat} {ks : List ByteArray} (h : SetAt w b n ks) (hn : n ≤ m) : SetAt w b m ks := by
  obtain ⟨D, h1, h2⟩ := h
  exact ⟨D, h1.mono hn, h2⟩
theorem SetAt.same {w : World} {b n : Nat} {ks ls : List ByteArray} (h : SetAt w b n ks) (e : ∀ s, s ∈ ks ↔ s ∈ ls) : SetAt w b n ls := by
  obtain ⟨D, h1, h2⟩ := h
  exact ⟨D, h1, fun s => (h2 s).trans (memB_congr (e s))⟩
theorem lit_ne {s t : ByteArray} (h : s ≠ t) : Lit.string s.data.toList ≠ Lit.string t.data.toList := fun e => h (ByteArray.ext (Array.toList_inj.1 (Lit.string.inj e)))
theorem has_more {D : DataW Unit} {ks : List ByteArray} (hD : IsMap D) (h : ∀ s : ByteArray, Maps.has D (.string s.data.toList) = memB ks s) (t s : ByteArray) :
    Maps.has (D.put (.string t.data.toList) (.agg [])) (.string s.data.toList) = memB (ks ++ [t]) s := by
  by_cases e : s = t
  · subst e
    rw [has_put_same hD (show WideAt.IsKeyLit (.string s.data.toList) from trivial)]
    exact (memB_iff.2 (by simp)).symm
  · rw [has_put_other (lit_ne e), h s]
    exact memB_congr (by simp [e])
theorem has_less {D : DataW Unit} {ks : List ByteArray} (h : ∀ s : ByteArray, Maps.has D (.string s.data.toList) = memB ks s) (t s : ByteArray) :
    Maps.has (D.del (.string t.data.toList)) (.string s.data.toList) = memB (ks.filter fun x => !decide (x = t)) s := by
  by_cases e : s = t
  · subst e
    rw [has_del_same]
    exact (memB_no.2 (by simp)).symm
  · rw [has_del_other (lit_ne e), h s]
    exact memB_congr (by simp [e])

theorem grown_below {B b : Nat} {w0 w w' : World} (h : Below B w0 w) (hg : w.grownBy w' (some b)) (hB : B ≤ w.heap.size) (hb : B ≤ b) : Below B w0 w' := h.grown hg hB (fun j hj => by cases hj; exact hb)

/-- How things stand while names are entered: the set, what was there. -/
def NmA (w W : World) (b m : Nat) (xs : List ByteArray) (iv : Value) (wr : World) : Prop := ∃ i : Nat, i ≤ xs.length ∧ iv = .int .i64 i ∧ Hid (SetAt wr b (m + i) (xs.take i)) ∧ Hid (Below W.heap.size w wr)

def UnC (w : World) (xs : List ByteArray) (iv : Value) (wr : World) : Prop := ∃ i : Nat, i ≤ xs.length ∧ iv = .int .i64 i ∧ Hid (SetAt wr (w.heap.size + 1) (1 + i) (resultN :: xs.take i)) ∧ Hid (Below w.heap.size w wr) ∧ Hid (unlikeB (xs.take i) = true)

end Go.Proofs.Ytgmihgnbhjgghaa
