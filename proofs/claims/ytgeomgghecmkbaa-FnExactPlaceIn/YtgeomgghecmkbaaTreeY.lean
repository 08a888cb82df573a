/-
  Walks: what kids a node wants, by the specification: blocks, all kinds.
-/
import Derived.Test.YtgeomgghecmkbaaTreeW
import Derived.Test.YtgeomgghecmkbaaLawT
namespace Go.Proofs.Ytgeomgghecmkbaa
open Go.RowKit

def blockQ (x : Int) : Bool := decide (x = 20)
def BlocksR (W1 : World) (l : List Int) (n m : Nat) (iv : Value) (wr : World) : Prop :=
  ∃ i : Nat, n ≤ i ∧ i ≤ m ∧ iv = .int .i64 i ∧ Hid (Below W1.heap.size W1 wr) ∧ Hid (∀ j x, n ≤ j → j < i → l[j]? = some x → blockQ x = true)

theorem NdsAt.node {w : World} {nv : Value} {ns : List Nd} (h : NdsAt w nv ns) (k : Nat) (hk : k < ns.length) :
    ∃ a c p kv, nv = .slice (some a) ns.length c ∧ a.add (k * 6) = p ∧ p.block < w.heap.size ∧ NdCell w p ns[k] kv := by
  obtain ⟨ao, c, rfl, hc⟩ := h
  obtain ⟨a, kv, rfl, ha, hx⟩ := hc k hk
  exact ⟨a, c, a.add (k * 6), kv, rfl, rfl, by rw [block_add]; exact ha, hx⟩

/-- Are a node's kids what its kind wants? -/
def kidsB (kd : Int) (l : List Int) : Bool :=
  if kd = 1 ∨ kd = 2 ∨ kd = 16 ∨ kd = 17 ∨ kd = 18 ∨ kd = 19 then decide (l.length = 0)
  else if kd = 3 then decide (l.length = 2) && (l.take 2).all valueQ
  else if kd = 4 ∨ kd = 5 ∨ kd = 11 ∨ kd = 14 ∨ kd = 15 then decide (l.length = 1) && (l.take 1).all valueQ
  else if kd = 12 then decide (l.length = 2 ∨ l.length = 3) && (l.take 1).all valueQ && (l.drop 1).all blockQ
  else if kd = 13 then decide (l.length = 2) && (l.take 1).all valueQ && (l.drop 1).all blockQ
  else l.all stmtQ && inZ 1 12 l.length
end Go.Proofs.Ytgeomgghecmkbaa

namespace Go.Proofs.Ytgeomgghecmkbaa
open Go.RowKit

end Go.Proofs.Ytgeomgghecmkbaa

namespace Go.Proofs.Ytgeomgghecmkbaa
open Go.RowKit

/-- The boxes of a copy: what came in, the result, what is made. -/
structure ThreeB (w : World) (A Z O : Array Value) (tA t : TypeId) (z : World) : Prop where
  bA : Box z w.heap.size A tA
  bZ : Box z (w.heap.size + 1) Z t
  bO : Box z (w.heap.size + 1 + 1) O t
  bel : Below w.heap.size w z
  lt : w.heap.size + 3 ≤ z.heap.size
theorem ThreeB.start (w : World) (A Z O : Array Value) (tA t : TypeId) : ThreeB w A Z O tA t (((w.alloc (.cells A tA)).alloc (.cells Z t)).alloc (.cells O t)) :=
  ⟨((Box.made w _ _).stays ((Below.refl _ _).alloc (Nat.le_refl _) _)).stays ((Below.refl _ _).alloc (Nat.le_refl _) _), (Box.madeAt (by simp) _ _).stays ((Below.refl _ _).alloc (Nat.le_refl _) _), Box.madeAt (by simp) _ _, by go_grown, by simp⟩
theorem ThreeB.stays {w : World} {A Z O : Array Value} {tA t : TypeId} {z z' : World} (h : ThreeB w A Z O tA t z) (hb : Below z.heap.size z z') : ThreeB w A Z O tA t z' :=
  ⟨h.bA.stays hb, h.bZ.stays hb, h.bO.stays hb, h.bel.trans (hb.mono h.bel.size), Nat.le_trans h.lt hb.size⟩
theorem ThreeB.put {w : World} {A Z O : Array Value} {tA t : TypeId} {z : World} (h : ThreeB w A Z O tA t z) (i : Nat) (v : Value) : ThreeB w A Z (O.setIfInBounds i v) tA t (z.setCell ⟨w.heap.size + 1 + 1, i, none⟩ v) :=
  ⟨h.bA.other _ _ (by dsimp only; omega), h.bZ.other _ _ (by dsimp only; omega), h.bO.set i v, h.bel.setCell (by dsimp only; omega) _, by
    have := h.lt
    simpa [World.setCell] using this⟩
theorem ThreeB.kept {w : World} {z : World} (i : Nat) (v : Value) : KeptFrom (w.heap.size + 3) z (z.setCell ⟨w.heap.size + 1 + 1, i, none⟩ v) := KeptFrom.setCell (by omega) _ _ _
theorem ThreeB.keptR {w : World} {z : World} (i : Nat) (v : Value) : KeptFrom (w.heap.size + 3) z (z.setCell ⟨w.heap.size + 1, i, none⟩ v) := KeptFrom.setCell (by omega) _ _ _

theorem CellsIn.form {base : Nat} {w : World} {v : Value} {vs : List Value} (h : CellsIn base w v vs) : ∃ o n c, v = .slice o n c := by
  obtain ⟨o, c, rfl, _⟩ := h; exact ⟨_, _, _, rfl⟩
theorem ObjsIn.form {α : Type} {R : Nat → World → List Value → α → Prop} {s base : Nat} {w : World} {v : Value} {xs : List α} (h : ObjsIn R s base w v xs) : ∃ o n c, v = .slice o n c := by
  obtain ⟨css, ⟨o, c, rfl, _⟩, _⟩ := h; exact ⟨_, _, _, rfl⟩
end Go.Proofs.Ytgeomgghecmkbaa
