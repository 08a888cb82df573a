/-
  The laws of MonitorAt and EntryAt, out of their pieces.
-/
import Derived.Test.YtpdpmnkonkpheaaLawK
import Derived.Test.YtpdpmnkonkpheaaEntW
import Derived.Deep.RegionHeld3
namespace Go.Proofs.Ytpdpmnkonkpheaa
open Go.RowKit

/-- What holds while a law on one program runs: the argument in its box, the copy in its box. -/
structure LawB (w : World) (nv mv pv : Value) (x : Pg) (g : Nat) (a b c : Value) (z : World) : Prop where
  bA : Box z w.heap.size #[nv, mv, pv] 26
  b0 : Box z g #[a, b, c] 33
  bel : Below w.heap.size w z
  arg : PgAt z nv mv pv x
  own : PgAt z a b c x
theorem LawB.stays {w : World} {nv mv pv : Value} {x : Pg} {g : Nat} {a b c : Value} {z z' : World} (h : LawB w nv mv pv x g a b c z) (hb : Below z.heap.size z z') : LawB w nv mv pv x g a b c z' :=
  ⟨h.bA.stays hb, h.b0.stays hb, h.bel.trans (hb.mono h.bel.size), h.arg.stays hb, h.own.stays hb⟩
theorem LawB.spread {w : World} {nv mv pv : Value} {x : Pg} {g : Nat} {a b c : Value} {z : World} (h : LawB w nv mv pv x g a b c z) :
    z.cell? ⟨w.heap.size, 0, none⟩ = some nv ∧ z.cell? ⟨w.heap.size, 1, none⟩ = some mv ∧ z.cell? ⟨w.heap.size, 2, none⟩ = some pv ∧ z.cell? ⟨g, 0, none⟩ = some a ∧ z.cell? ⟨g, 1, none⟩ = some b ∧ z.cell? ⟨g, 2, none⟩ = some c ∧ Hid (LawB w nv mv pv x g a b c z) :=
  ⟨Lib.cell_of_heap h.bA 0, Lib.cell_of_heap h.bA 1, Lib.cell_of_heap h.bA 2, Lib.cell_of_heap h.b0 0, Lib.cell_of_heap h.b0 1, Lib.cell_of_heap h.b0 2, h⟩
end Go.Proofs.Ytpdpmnkonkpheaa
