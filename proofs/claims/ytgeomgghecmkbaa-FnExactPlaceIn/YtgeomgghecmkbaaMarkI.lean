/-
  The law's marks on rows of numbers.
-/
import Derived.Test.YtgeomgghecmkbaaSgM
import Derived.Test.YtgeomgghecmkbaaTreeP
import Derived.Test.YtgeomgghecmkbaaTreeO
import Derived.Test.YtgeomgghecmkbaaTurnP
namespace Go.Proofs.Ytgeomgghecmkbaa
open Go.RowKit

def nMarks (k n : Nat) : List Int := (List.range n).map fun i => ((k + i : Nat) : Int)
theorem nMarks_len (k n : Nat) : (nMarks k n).length = n := by simp [nMarks]
theorem nMarks_at (k n j : Nat) (h : j < n) : (nMarks k n)[j]? = some ((k + j : Nat) : Int) := by simp [nMarks, h]
/-- The first j of a row are marked, the rest is as it was. -/
def nMarked (xs : List Int) (k j : Nat) : List Int := nMarks k j ++ xs.drop j
theorem nMarked_zero (xs : List Int) (k : Nat) : nMarked xs k 0 = xs := by simp [nMarked, nMarks]
theorem nMarked_all (xs : List Int) (k : Nat) : nMarked xs k xs.length = nMarks k xs.length := by simp [nMarked]
theorem nMarked_len (xs : List Int) (k j : Nat) (h : j ≤ xs.length) : (nMarked xs k j).length = xs.length := by simp [nMarked, nMarks]; omega
theorem nMarked_succ (xs : List Int) (k j : Nat) (h : j < xs.length) : (nMarked xs k j).set j ((k + j : Nat) : Int) = nMarked xs k (j + 1) := by
  have e1 : nMarks k (j + 1) = nMarks k j ++ [((k + j : Nat) : Int)] := by simp [nMarks, List.range_succ]
  rw [nMarked, nMarked, e1, List.set_append_right _ _ (by rw [nMarks_len]; exact Nat.le_refl _), nMarks_len, Nat.sub_self, List.drop_eq_getElem_cons h, List.set_cons_zero, List.append_assoc]
  rfl
def MkIRel (w : World) (base : Nat) (v : Value) (n k0 : Nat) (xs : List Int) (iv kv : Value) (wr : World) : Prop :=
  ∃ j : Nat, j ≤ n ∧ iv = .int .i64 j ∧ kv = .int .i64 ((k0 + j : Nat) : Int) ∧ wr.ownsRow base 3 1 v n ((nMarked xs k0 j).map I64) ∧ Below base w wr ∧ ∀ c, v.ownBlock ≠ some c → wr.heap[c]? = w.heap[c]?

/-- Marking: behind it the row holds the marks. -/
def MkTRel (w : World) (base : Nat) (v : Value) (n k0 : Nat) (xs : List ByteArray) (iv kv : Value) (wr : World) : Prop :=
  ∃ j : Nat, j ≤ n ∧ iv = .int .i64 j ∧ kv = .int .i64 ((k0 + j : Nat) : Int) ∧ wr.ownsRow base 9 1 v n ((marked xs k0 j).map S) ∧ Below base w wr ∧ (∀ c, c < w.heap.size → v.ownBlock ≠ some c → wr.heap[c]? = w.heap[c]?)

end Go.Proofs.Ytgeomgghecmkbaa

namespace Go.Proofs.Ytgeomgghecmkbaa
open Go.RowKit

theorem owns_eq {z z' : World} {base e s n : Nat} {v : Value} {xs : List Value} (h : z.ownsRow base e s v n xs) (hk : ∀ g, v.ownBlock = some g → z'.heap[g]? = z.heap[g]?) : z'.ownsRow base e s v n xs := by
  refine ⟨h.1, ?_⟩
  rcases h.2 with h0 | ⟨g, cap, cur, rfl, hb1, hg, hr⟩
  · exact .inl h0
  · exact .inr ⟨g, cap, cur, rfl, hb1, (hk g rfl).trans hg, hr⟩
theorem owns_lo {a b : Nat} {e : TypeId} {s n : Nat} {v : Value} {l : List Value} {w : World} (h : w.ownsRow b e s v n l) (hab : a ≤ b) : w.ownsRow a e s v n l := by
  refine ⟨h.1, ?_⟩
  rcases h.2 with h0 | ⟨g, cap, cur, e1, hb1, hg, hr⟩
  · exact .inl h0
  · exact .inr ⟨g, cap, cur, e1, Nat.le_trans hab hb1, hg, hr⟩
theorem form_own {B e s n : Nat} {w : World} {v : Value} {xs : List Value} (h : w.ownsRow B e s v n xs) : ∃ o c, v = .slice o n c := by
  rcases h.2 with ⟨rfl, h0⟩ | ⟨g, cap, cur, rfl, _⟩
  · exact ⟨none, 0, by rw [h0]⟩
  · exact ⟨_, _, rfl⟩
/-- Rows of different types lie apart. -/
theorem ty_apart {w : World} {B B' e e' s s' n n' : Nat} {v v' : Value} {xs xs' : List Value} (h : w.ownsRow B e s v n xs) (h' : w.ownsRow B' e' s' v' n' xs') (he : e ≠ e') : ∀ i, v.ownBlock = some i → v'.ownBlock ≠ some i := fun i hi hi' => by
  rcases h.2 with ⟨rfl, _⟩ | ⟨g, cap, cur, rfl, _, hg, _⟩
  · cases hi
  · rcases h'.2 with ⟨rfl, _⟩ | ⟨g', cap', cur', rfl, _, hg', _⟩
    · cases hi'
    · injection hi with hi
      injection hi' with hi'
      have e1 : g = i := hi
      have e2 : g' = i := hi'
      subst e1
      subst e2
      rw [hg] at hg'
      injection hg' with hg'
      injection hg' with _ hg' _
      exact he hg'
theorem box_alloc_below {X w' : World} {cs : Array Value} {T : TypeId} (hb : Below (X.alloc (.cells cs T)).heap.size (X.alloc (.cells cs T)) w') : Box w' X.heap.size cs T := (Box.made X cs T).stays hb
theorem box_alloc_drew {X w' : World} {cs : Array Value} {T : TypeId} (hb : Below (X.alloc (.cells cs T)).drew.heap.size (X.alloc (.cells cs T)).drew w') : Box w' X.heap.size cs T := (hb.block X.heap.size (by show X.heap.size < (X.alloc (.cells cs T)).heap.size; simp)).trans (Box.made X cs T)
end Go.Proofs.Ytgeomgghecmkbaa
