/-
  Rows that a struct owns.
-/
import Derived.Test.YtgmihgnbhjgghaaTurnP
import Derived.Test.YtgmihgnbhjgghaaTreeO
namespace Go.Proofs.Ytgmihgnbhjgghaa
open Go.RowKit

theorem owns_eq {z z' : World} {base e s n : Nat} {v : Value} {xs : List Value} (h : z.ownsRow base e s v n xs) (hk : ∀ g, v.ownBlock = some g → z'.heap[g]? = z.heap[g]?) : z'.ownsRow base e s v n xs := by
  refine ⟨h.1, ?_⟩
  rcases h.2 with h0 | ⟨g, cap, cur, rfl, hb1, hg, hr⟩
  · exact .inl h0
  · exact .inr ⟨g, cap, cur, rfl, hb1, (hk g rfl).trans hg, hr⟩
theorem owns_lo {a b : Nat} {e : TypeId} {s n : Nat} {v : Value} {l : List Value} {w : World} (h : w.ownsRow b e s v n l) (hab : a ≤ b) : w.ownsRow a e s v n l := by
  refine ⟨h.1, ?_⟩
  rcases h.2 with h0 | ⟨g, cap, cur, e1, hb1, hg, hr⟩
  · exact .inl h0
  · exact .inr ⟨g, cap, cur, e1, Nat.le_trans hab hb1, hg, hr⟩
theorem form_own {B e n : Nat} {w : World} {v : Value} {xs : List Value} (h : w.ownsRow B e 1 v n xs) : ∃ o c, v = .slice o n c := by
  rcases h.2 with ⟨rfl, h0⟩ | ⟨g, cap, cur, rfl, _⟩
  · exact ⟨none, 0, by rw [h0]⟩
  · exact ⟨_, _, rfl⟩
/-- Rows of different types lie apart. -/
theorem ty_apart {w : World} {B B' e e' n n' : Nat} {v v' : Value} {xs xs' : List Value} (h : w.ownsRow B e 1 v n xs) (h' : w.ownsRow B' e' 1 v' n' xs') (he : e ≠ e') : ∀ i, v.ownBlock = some i → v'.ownBlock ≠ some i := fun i hi hi' => by
  rcases h.2 with ⟨rfl, _⟩ | ⟨g, cap, cur, rfl, _, hg, _⟩
  · cases hi
  · rcases h'.2 with ⟨rfl, _⟩ | ⟨g', cap', cur', rfl, _, hg', _⟩
    · cases hi'
    · injection hi with hi
      injection hi' with hi'
      have e1 : g = i := hi
      have e2 : g' = i := hi'
      subst e1
      subst e2
      rw [hg] at hg'
      injection hg' with hg'
      injection hg' with _ hg' _
      exact he hg'
theorem box_alloc_below {X w' : World} {cs : Array Value} {T : TypeId} (hb : Below (X.alloc (.cells cs T)).heap.size (X.alloc (.cells cs T)) w') : Box w' X.heap.size cs T := (Box.made X cs T).stays hb
theorem box_alloc_drew {X w' : World} {cs : Array Value} {T : TypeId} (hb : Below (X.alloc (.cells cs T)).drew.heap.size (X.alloc (.cells cs T)).drew w') : Box w' X.heap.size cs T := (hb.block X.heap.size (by show X.heap.size < (X.alloc (.cells cs T)).heap.size; simp)).trans (Box.made X cs T)
end Go.Proofs.Ytgmihgnbhjgghaa
