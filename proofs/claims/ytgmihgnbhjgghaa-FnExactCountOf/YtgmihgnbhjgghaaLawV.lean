/-
  Walks: a program that came in, copied, by the laws' own helpers: entries, monitors, processes, all.
-/
import Derived.Test.YtgmihgnbhjgghaaLawT
import Derived.Deep.RegionHeld3
namespace Go.Proofs.Ytgmihgnbhjgghaa
open Go.RowKit

/-- The boxes of a copy: what came in, the result, what is made. -/
structure ThreeB (w : World) (A Z O : Array Value) (tA t : TypeId) (z : World) : Prop where
  bA : Box z w.heap.size A tA
  bZ : Box z (w.heap.size + 1) Z t
  bO : Box z (w.heap.size + 1 + 1) O t
  bel : Below w.heap.size w z
  lt : w.heap.size + 3 ≤ z.heap.size
theorem ThreeB.start (w : World) (A Z O : Array Value) (tA t : TypeId) : ThreeB w A Z O tA t (((w.alloc (.cells A tA)).alloc (.cells Z t)).alloc (.cells O t)) :=
  ⟨((Box.made w _ _).stays ((Below.refl _ _).alloc (Nat.le_refl _) _)).stays ((Below.refl _ _).alloc (Nat.le_refl _) _), (Box.madeAt (by simp) _ _).stays ((Below.refl _ _).alloc (Nat.le_refl _) _), Box.madeAt (by simp) _ _, by go_grown, by simp⟩
theorem ThreeB.stays {w : World} {A Z O : Array Value} {tA t : TypeId} {z z' : World} (h : ThreeB w A Z O tA t z) (hb : Below z.heap.size z z') : ThreeB w A Z O tA t z' :=
  ⟨h.bA.stays hb, h.bZ.stays hb, h.bO.stays hb, h.bel.trans (hb.mono h.bel.size), Nat.le_trans h.lt hb.size⟩
theorem ThreeB.put {w : World} {A Z O : Array Value} {tA t : TypeId} {z : World} (h : ThreeB w A Z O tA t z) (i : Nat) (v : Value) : ThreeB w A Z (O.setIfInBounds i v) tA t (z.setCell ⟨w.heap.size + 1 + 1, i, none⟩ v) :=
  ⟨h.bA.other _ _ (by dsimp only; omega), h.bZ.other _ _ (by dsimp only; omega), h.bO.set i v, h.bel.setCell (by dsimp only; omega) _, by
    have := h.lt
    simpa [World.setCell] using this⟩
theorem ThreeB.kept {w : World} {z : World} (i : Nat) (v : Value) : KeptFrom (w.heap.size + 3) z (z.setCell ⟨w.heap.size + 1 + 1, i, none⟩ v) := KeptFrom.setCell (by omega) _ _ _
theorem ThreeB.keptR {w : World} {z : World} (i : Nat) (v : Value) : KeptFrom (w.heap.size + 3) z (z.setCell ⟨w.heap.size + 1, i, none⟩ v) := KeptFrom.setCell (by omega) _ _ _

theorem CellsIn.form {base : Nat} {w : World} {v : Value} {vs : List Value} (h : CellsIn base w v vs) : ∃ o n c, v = .slice o n c := by
  obtain ⟨o, c, rfl, _⟩ := h; exact ⟨_, _, _, rfl⟩
theorem ObjsIn.form {α : Type} {R : Nat → World → List Value → α → Prop} {s base : Nat} {w : World} {v : Value} {xs : List α} (h : ObjsIn R s base w v xs) : ∃ o n c, v = .slice o n c := by
  obtain ⟨css, ⟨o, c, rfl, _⟩, _⟩ := h; exact ⟨_, _, _, rfl⟩
end Go.Proofs.Ytgmihgnbhjgghaa

namespace Go.Proofs.Ytgmihgnbhjgghaa
open Go.RowKit

/-- A program. -/
structure Pg where
  nodes : List Nd
  mons : List Mo
  pros : List Pr
def ProgC (base : Nat) (w : World) (cs : List Value) (x : Pg) : Prop := ∃ nv mv pv, cs = [nv, mv, pv] ∧ NdsIn base w nv x.nodes ∧ MosIn base w mv x.mons ∧ PrsIn base w pv x.pros
instance : Told ProgC where
  kept := fun ⟨nv, mv, pv, e, h1, h2, h3⟩ k => ⟨nv, mv, pv, e, h1.kept k, h2.kept k, h3.kept k⟩
  mono := fun ⟨nv, mv, pv, e, h1, h2, h3⟩ k => ⟨nv, mv, pv, e, h1.mono k, h2.mono k, h3.mono k⟩
/-- A program whose lists are no longer than may be. -/
structure PgLen (x : Pg) : Prop where
  nl : x.nodes.length ≤ 1048576
  ml : x.mons.length ≤ 1048576
  pl : x.pros.length ≤ 1048576
  kids : ∀ y ∈ x.nodes, y.kids.length ≤ 1048576
  mon : ∀ y ∈ x.mons, y.vars.length ≤ 1048576 ∧ y.queues.length ≤ 1048576 ∧ y.ents.length ≤ 1048576
  pro : ∀ y ∈ x.pros, y.uses.length ≤ 1048576 ∧ y.vars.length ≤ 1048576

end Go.Proofs.Ytgmihgnbhjgghaa

namespace Go.Proofs.Ytgmihgnbhjgghaa
open Go.RowKit

def SameR (w : World) (n : Nat) (iv : Value) (wr : World) : Prop := ∃ i : Nat, i ≤ n ∧ iv = .int .i64 i ∧ Hid (Below w.heap.size w wr)
/-- The boxes of two things of one type. -/
structure TwoB (w : World) (A B : Array Value) (t : TypeId) (z : World) : Prop where
  bA : Box z w.heap.size A t
  bB : Box z (w.heap.size + 1) B t
  bel : Below w.heap.size w z
theorem TwoB.start (w : World) (A B : Array Value) (t : TypeId) : TwoB w A B t ((w.alloc (.cells A t)).alloc (.cells B t)) :=
  ⟨(Box.made w _ _).stays ((Below.refl _ _).alloc (Nat.le_refl _) _), Box.madeAt (by simp) _ _, by go_grown⟩
theorem TwoB.stays {w : World} {A B : Array Value} {t : TypeId} {z z' : World} (h : TwoB w A B t z) (hb : Below z.heap.size z z') : TwoB w A B t z' :=
  ⟨h.bA.stays hb, h.bB.stays hb, h.bel.trans (hb.mono h.bel.size)⟩

end Go.Proofs.Ytgmihgnbhjgghaa
