/-
  Walks: a program that came in, copied, by the laws' own helpers: the whole.
-/
import Derived.Test.YtgeomgghecmkbaaTreeY
namespace Go.Proofs.Ytgeomgghecmkbaa
open Go.RowKit

/-- A program. -/
structure Pg where
  nodes : List Nd
  mons : List Mo
  pros : List Pr
def ProgC (base : Nat) (w : World) (cs : List Value) (x : Pg) : Prop := ∃ nv mv pv, cs = [nv, mv, pv] ∧ NdsIn base w nv x.nodes ∧ MosIn base w mv x.mons ∧ PrsIn base w pv x.pros
instance : Told ProgC where
  kept := fun ⟨nv, mv, pv, e, h1, h2, h3⟩ k => ⟨nv, mv, pv, e, h1.kept k, h2.kept k, h3.kept k⟩
  mono := fun ⟨nv, mv, pv, e, h1, h2, h3⟩ k => ⟨nv, mv, pv, e, h1.mono k, h2.mono k, h3.mono k⟩
/-- A program whose lists are no longer than may be. -/
structure PgLen (x : Pg) : Prop where
  nl : x.nodes.length ≤ 1048576
  ml : x.mons.length ≤ 1048576
  pl : x.pros.length ≤ 1048576
  kids : ∀ y ∈ x.nodes, y.kids.length ≤ 1048576
  mon : ∀ y ∈ x.mons, y.vars.length ≤ 1048576 ∧ y.queues.length ≤ 1048576 ∧ y.ents.length ≤ 1048576
  pro : ∀ y ∈ x.pros, y.uses.length ≤ 1048576 ∧ y.vars.length ≤ 1048576

end Go.Proofs.Ytgeomgghecmkbaa
