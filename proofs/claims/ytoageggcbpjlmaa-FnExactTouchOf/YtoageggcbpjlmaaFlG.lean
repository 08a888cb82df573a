/-
  A flat struct (Gate) by the laws' own helpers.
-/
import Derived.Test.YtoageggcbpjlmaaTreeY
import Derived.Test.YtoageggcbpjlmaaLawZ
import Derived.Test.YtoageggcbpjlmaaAidRow
import Derived.Test.YtoageggcbpjlmaaMarkI
import Derived.Test.YtoageggcbpjlmaaFlatP
namespace Go.Proofs.Ytoageggcbpjlmaa
open Go.RowKit

structure Gt where
  owner : Int
  waits : List Int
  queues : List Int
structure GtAt (w : World) (v1 v2 : Value) (x : Gt) : Prop where
  a1 : IntsAt w v1 x.waits
  a2 : IntsAt w v2 x.queues
theorem GtAt.stays {w w' : World} {v1 v2 : Value} {x : Gt} (h : GtAt w v1 v2 x) (hb : Below w.heap.size w w') : GtAt w' v1 v2 x := ⟨h.a1.stays hb, h.a2.stays hb⟩
def GtC (base : Nat) (w : World) (cs : List Value) (x : Gt) : Prop := ∃ v1 v2, cs = [.int .i64 x.owner, v1, v2] ∧ IntsIn base w v1 x.waits ∧ IntsIn base w v2 x.queues
structure GtMax (x : Gt) : Prop where
  m1 : IntsMax x.waits
  m2 : IntsMax x.queues
structure GtLen (x : Gt) : Prop where
  l1 : x.waits.length ≤ 1048576
  l2 : x.queues.length ≤ 1048576
def szGt (x : Gt) : Nat := x.waits.length + x.queues.length
theorem szGt_len {x : Gt} (h : szGt x ≤ 1048576) : GtLen x := by
  unfold szGt at h
  exact ⟨by omega, by omega⟩
theorem GtC.kept {base : Nat} {w w' : World} {cs : List Value} {x : Gt} (h : GtC base w cs x) (k : KeptFrom base w w') : GtC base w' cs x := by
  obtain ⟨v1, v2, e, h1, h2⟩ := h
  exact ⟨v1, v2, e, h1.kept k, h2.kept k⟩
theorem GtC.stays {base : Nat} {w w' : World} {cs : List Value} {x : Gt} (h : GtC base w cs x) (hb : Below w.heap.size w w') : GtC base w' cs x := h.kept (KeptFrom.below hb)
theorem GtC.at {base : Nat} {w : World} {v1 v2 : Value} {u0 : Value} {x : Gt} (h : GtC base w [u0, v1, v2] x) : GtAt w v1 v2 x := by
  obtain ⟨v1', v2', e, h1, h2⟩ := h
  injection e with e0 e
  injection e with e1 e
  injection e with e2 _
  subst e1 e2
  exact ⟨h1.at, h2.at⟩
theorem GtC.form {base : Nat} {w : World} {cs : List Value} {x : Gt} (h : GtC base w cs x) : ∃ o1 c1 o2 c2, cs = [.int .i64 x.owner, .slice o1 x.waits.length c1, .slice o2 x.queues.length c2] := by
  obtain ⟨v1, v2, e, h1, h2⟩ := h
  obtain ⟨o1, c1, rfl, _⟩ := h1.at
  obtain ⟨o2, c2, rfl, _⟩ := h2.at
  exact ⟨_, _, _, _, e⟩
structure GtSh (B T : Nat) (w : World) (v1 v2 : Value) (x : Gt) : Prop where
  s1 : ShR B T 1 fInt x.waits.length w v1
  s2 : ShR B T 1 fInt x.queues.length w v2
theorem GtSh.turn {B T B' T' : Nat} {w w' : World} {v1 v2 : Value} {x : Gt} (h : GtSh B T w v1 v2 x) (ht : Turn B' T' w w') : GtSh B T w' v1 v2 x := ⟨h.s1.turn ht fun i _ => fInt_s i, h.s2.turn ht fun i _ => fInt_s i⟩
theorem GtSh.stays {B T : Nat} {w w' : World} {v1 v2 : Value} {x : Gt} (h : GtSh B T w v1 v2 x) (hb : Below w.heap.size w w') : GtSh B T w' v1 v2 x := h.turn (T' := 0) (Turn.below hb (Nat.le_refl _))
theorem GtC.sh {base T : Nat} {w : World} {v1 v2 : Value} {u0 : Value} {x : Gt} (h : GtC base w [u0, v1, v2] x) (hT : w.heap.size ≤ T) : GtSh base T w v1 v2 x := by
  obtain ⟨v1', v2', e, h1, h2⟩ := h
  injection e with e0 e
  injection e with e1 e
  injection e with e2 _
  subst e1 e2
  exact ⟨CellsIn.shI h1 hT, CellsIn.shI h2 hT⟩
/-- An answer that owns its rows, from a base on, each in a block of its own. -/
structure GtOwn (B : Nat) (w : World) (v1 v2 : Value) (x : Gt) : Prop where
  o1 : w.ownsRow B 3 1 v1 x.waits.length (x.waits.map I64)
  o2 : w.ownsRow B 3 1 v2 x.queues.length (x.queues.map I64)
  ap : ∀ i, v1.ownBlock = some i → v2.ownBlock ≠ some i
theorem GtOwn.stays {B : Nat} {w w' : World} {v1 v2 : Value} {x : Gt} (h : GtOwn B w v1 v2 x) (hb : Below w.heap.size w w') : GtOwn B w' v1 v2 x := ⟨ownsInts_stays h.o1 hb, ownsInts_stays h.o2 hb, h.ap⟩
theorem GtOwn.at {B : Nat} {w : World} {v1 v2 : Value} {x : Gt} (h : GtOwn B w v1 v2 x) : GtAt w v1 v2 x := ⟨IntsIn.at (CellsIn.own h.o1), IntsIn.at (CellsIn.own h.o2)⟩
theorem GtOwn.lo {B b : Nat} {w : World} {v1 v2 : Value} {x : Gt} (h : GtOwn B w v1 v2 x) (hb : b ≤ B) : GtOwn b w v1 v2 x := ⟨owns_lo h.o1 hb, owns_lo h.o2 hb, h.ap⟩
theorem GtOwn.turn {B T b : Nat} {w w' : World} {v1 v2 : Value} {x : Gt} (h : GtOwn b w v1 v2 x) (ht : Turn B T w w') (hb : T ≤ b) : GtOwn b w' v1 v2 x :=
  ⟨owns_eq h.o1 (fun i hi => ht.out i (Nat.le_trans hb (h.o1.lt i hi).1) (h.o1.lt i hi).2), owns_eq h.o2 (fun i hi => ht.out i (Nat.le_trans hb (h.o2.lt i hi).1) (h.o2.lt i hi).2), h.ap⟩
theorem GtOwn.low {B b : Nat} {w w' : World} {v1 v2 : Value} {x : Gt} (h : GtOwn b w v1 v2 x) (ht : Below B w w') (hb : (∀ i, v1.ownBlock = some i → i < B) ∧ (∀ i, v2.ownBlock = some i → i < B)) : GtOwn b w' v1 v2 x :=
  ⟨owns_eq h.o1 (fun i hi => ht.block i (hb.1 i hi)), owns_eq h.o2 (fun i hi => ht.block i (hb.2 i hi)), h.ap⟩
theorem GtOwn.lt {b : Nat} {w : World} {v1 v2 : Value} {x : Gt} (h : GtOwn b w v1 v2 x) : (∀ i, v1.ownBlock = some i → i < w.heap.size) ∧ (∀ i, v2.ownBlock = some i → i < w.heap.size) := ⟨fun i hi => (h.o1.lt i hi).2, fun i hi => (h.o2.lt i hi).2⟩
theorem GtOwn.boxed {B b i : Nat} {z : World} {v1 v2 : Value} {x : Gt} {cs : Array Value} {T : TypeId} (h : GtOwn B z v1 v2 x) (hb : Box z b cs T) (t3 : T ≠ 3) (u : Value) : GtOwn B (z.setCell ⟨b, i, none⟩ u) v1 v2 x :=
  ⟨owns_eq h.o1 (fun g hg => Below.heap_setCell _ ⟨b, i, none⟩ _ g (fun e => Lib.ownBlock_ne h.o1 hb t3 (by rw [hg, e]))), owns_eq h.o2 (fun g hg => Below.heap_setCell _ ⟨b, i, none⟩ _ g (fun e => Lib.ownBlock_ne h.o2 hb t3 (by rw [hg, e]))), h.ap⟩
structure GtHeld (B : Nat) (w : World) (v1 v2 : Value) (n1 n2 : Nat) : Prop where
  o1 : w.ownsRow B 3 1 v1 n1 ((nMarks (1) n1).map I64)
  o2 : w.ownsRow B 3 1 v2 n2 ((nMarks (1 + n1) n2).map I64)
theorem GtHeld.stays {B : Nat} {w w' : World} {v1 v2 : Value} {n1 n2 : Nat} (h : GtHeld B w v1 v2 n1 n2) (hb : Below w.heap.size w w') : GtHeld B w' v1 v2 n1 n2 := ⟨ownsInts_stays h.o1 hb, ownsInts_stays h.o2 hb⟩

section
open Go.ChangeShapes Go.WideShapes Go.ChangeAt Go.Deep
variable {H : Type} {enc : TypeId × Value → H} {W : World}
end
end Go.Proofs.Ytoageggcbpjlmaa
