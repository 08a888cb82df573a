/-
  Programs as values: entries, monitors, processes, and rows of them.
-/
import Derived.Test.YtgeomgghecmkbaaTreeP
namespace Go.Proofs.Ytgeomgghecmkbaa
open Go.RowKit

/-- A row of texts that can be read. -/
def StrsAt (w : World) (v : Value) (xs : List ByteArray) : Prop :=
  ∃ ao c, v = .slice ao xs.length c ∧ ∀ j (h : j < xs.length), ∃ a, ao = some a ∧ a.block < w.heap.size ∧ w.cell? (a.add j) = some (.string xs[j])
theorem StrsAt.stays {w w' : World} {v : Value} {xs : List ByteArray} (h : StrsAt w v xs) (hb : Below w.heap.size w w') : StrsAt w' v xs := by
  obtain ⟨ao, c, rfl, hc⟩ := h
  refine ⟨ao, c, rfl, fun j hj => ?_⟩
  obtain ⟨a, rfl, ha, hx⟩ := hc j hj
  exact ⟨a, rfl, Nat.lt_of_lt_of_le ha hb.size, (hb.cell (by rw [block_add]; exact ha)).trans hx⟩

/-- An entry. -/
structure En where
  name : ByteArray
  param : ByteArray
  body : Int
instance : Inhabited En := ⟨⟨ByteArray.empty, ByteArray.empty, 0⟩⟩
structure EnCell (w : World) (a : Addr) (x : En) : Prop where
  c0 : w.cell? a = some (.string x.name)
  c1 : w.cell? { block := a.block, off := a.off + 1 } = some (.string x.param)
  c2 : w.cell? { block := a.block, off := a.off + 2 } = some (.int .i64 x.body)
theorem EnCell.stays {w w' : World} {a : Addr} {x : En} (h : EnCell w a x) (hb : Below w.heap.size w w') (ha : a.block < w.heap.size) : EnCell w' a x :=
  ⟨(hb.cell ha).trans h.c0, (hb.cell (p := { block := a.block, off := a.off + 1 }) ha).trans h.c1, (hb.cell (p := { block := a.block, off := a.off + 2 }) ha).trans h.c2⟩
def EnsAt (w : World) (v : Value) (xs : List En) : Prop :=
  ∃ ao c, v = .slice ao xs.length c ∧ ∀ j (h : j < xs.length), ∃ a, ao = some a ∧ a.block < w.heap.size ∧ EnCell w (a.add (j * 3)) xs[j]
theorem EnsAt.stays {w w' : World} {v : Value} {xs : List En} (h : EnsAt w v xs) (hb : Below w.heap.size w w') : EnsAt w' v xs := by
  obtain ⟨ao, c, rfl, hc⟩ := h
  refine ⟨ao, c, rfl, fun j hj => ?_⟩
  obtain ⟨a, rfl, ha, hx⟩ := hc j hj
  exact ⟨a, rfl, Nat.lt_of_lt_of_le ha hb.size, hx.stays hb (by rw [block_add]; exact ha)⟩

/-- A monitor. -/
structure Mo where
  name : ByteArray
  vars : List ByteArray
  queues : List ByteArray
  ents : List En
instance : Inhabited Mo := ⟨⟨ByteArray.empty, [], [], []⟩⟩
structure MoCell (w : World) (a : Addr) (x : Mo) (vv qv ev : Value) : Prop where
  c0 : w.cell? a = some (.string x.name)
  c1 : w.cell? { block := a.block, off := a.off + 1 } = some vv
  c2 : w.cell? { block := a.block, off := a.off + 2 } = some qv
  c3 : w.cell? { block := a.block, off := a.off + 3 } = some ev
  vars : StrsAt w vv x.vars
  queues : StrsAt w qv x.queues
  ents : EnsAt w ev x.ents
theorem MoCell.stays {w w' : World} {a : Addr} {x : Mo} {vv qv ev : Value} (h : MoCell w a x vv qv ev) (hb : Below w.heap.size w w') (ha : a.block < w.heap.size) : MoCell w' a x vv qv ev :=
  ⟨(hb.cell ha).trans h.c0, (hb.cell (p := { block := a.block, off := a.off + 1 }) ha).trans h.c1, (hb.cell (p := { block := a.block, off := a.off + 2 }) ha).trans h.c2,
    (hb.cell (p := { block := a.block, off := a.off + 3 }) ha).trans h.c3, h.vars.stays hb, h.queues.stays hb, h.ents.stays hb⟩
def MosAt (w : World) (v : Value) (xs : List Mo) : Prop :=
  ∃ ao c, v = .slice ao xs.length c ∧ ∀ j (h : j < xs.length), ∃ a vv qv ev, ao = some a ∧ a.block < w.heap.size ∧ MoCell w (a.add (j * 4)) xs[j] vv qv ev
theorem MosAt.stays {w w' : World} {v : Value} {xs : List Mo} (h : MosAt w v xs) (hb : Below w.heap.size w w') : MosAt w' v xs := by
  obtain ⟨ao, c, rfl, hc⟩ := h
  refine ⟨ao, c, rfl, fun j hj => ?_⟩
  obtain ⟨a, vv, qv, ev, rfl, ha, hx⟩ := hc j hj
  exact ⟨a, vv, qv, ev, rfl, Nat.lt_of_lt_of_le ha hb.size, hx.stays hb (by rw [block_add]; exact ha)⟩

/-- A process. -/
structure Pr where
  name : ByteArray
  uses : List ByteArray
  vars : List ByteArray
  body : Int
instance : Inhabited Pr := ⟨⟨ByteArray.empty, [], [], 0⟩⟩
structure PrCell (w : World) (a : Addr) (x : Pr) (uv vv : Value) : Prop where
  c0 : w.cell? a = some (.string x.name)
  c1 : w.cell? { block := a.block, off := a.off + 1 } = some uv
  c2 : w.cell? { block := a.block, off := a.off + 2 } = some vv
  c3 : w.cell? { block := a.block, off := a.off + 3 } = some (.int .i64 x.body)
  uses : StrsAt w uv x.uses
  vars : StrsAt w vv x.vars
theorem PrCell.stays {w w' : World} {a : Addr} {x : Pr} {uv vv : Value} (h : PrCell w a x uv vv) (hb : Below w.heap.size w w') (ha : a.block < w.heap.size) : PrCell w' a x uv vv :=
  ⟨(hb.cell ha).trans h.c0, (hb.cell (p := { block := a.block, off := a.off + 1 }) ha).trans h.c1, (hb.cell (p := { block := a.block, off := a.off + 2 }) ha).trans h.c2,
    (hb.cell (p := { block := a.block, off := a.off + 3 }) ha).trans h.c3, h.uses.stays hb, h.vars.stays hb⟩
def PrsAt (w : World) (v : Value) (xs : List Pr) : Prop :=
  ∃ ao c, v = .slice ao xs.length c ∧ ∀ j (h : j < xs.length), ∃ a uv vv, ao = some a ∧ a.block < w.heap.size ∧ PrCell w (a.add (j * 4)) xs[j] uv vv
theorem PrsAt.stays {w w' : World} {v : Value} {xs : List Pr} (h : PrsAt w v xs) (hb : Below w.heap.size w w') : PrsAt w' v xs := by
  obtain ⟨ao, c, rfl, hc⟩ := h
  refine ⟨ao, c, rfl, fun j hj => ?_⟩
  obtain ⟨a, uv, vv, rfl, ha, hx⟩ := hc j hj
  exact ⟨a, uv, vv, rfl, Nat.lt_of_lt_of_le ha hb.size, hx.stays hb (by rw [block_add]; exact ha)⟩

/-- All bodies, in order: entries of monitors, then processes. -/
def bodiesL (ms : List Mo) (ps : List Pr) : List Int := (ms.flatMap fun m => m.ents.map En.body) ++ ps.map Pr.body
end Go.Proofs.Ytgeomgghecmkbaa
