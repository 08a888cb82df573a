/-
  A flat struct (Env) by the laws' own helpers.
-/
import Derived.Test.YtgeomgghecmkbaaLawE
import Derived.Test.YtgeomgghecmkbaaLawZ
import Derived.Test.YtgeomgghecmkbaaLawJ
import Derived.Test.YtgeomgghecmkbaaMarkW
import Derived.Test.YtgeomgghecmkbaaMarkI
namespace Go.Proofs.Ytgeomgghecmkbaa
open Go.RowKit

structure Ev where
  names : List ByteArray
  vals : List Int
structure EvAt (w : World) (v0 v1 : Value) (x : Ev) : Prop where
  a0 : StrsAt w v0 x.names
  a1 : IntsAt w v1 x.vals
theorem EvAt.stays {w w' : World} {v0 v1 : Value} {x : Ev} (h : EvAt w v0 v1 x) (hb : Below w.heap.size w w') : EvAt w' v0 v1 x := ⟨h.a0.stays hb, h.a1.stays hb⟩
def EvC (base : Nat) (w : World) (cs : List Value) (x : Ev) : Prop := ∃ v0 v1, cs = [v0, v1] ∧ StrsIn base w v0 x.names ∧ IntsIn base w v1 x.vals
structure EvMax (x : Ev) : Prop where
  m0 : StrsMax x.names
  m1 : IntsMax x.vals
structure EvLen (x : Ev) : Prop where
  l0 : x.names.length ≤ 1048576
  l1 : x.vals.length ≤ 1048576
def szEv (x : Ev) : Nat := szStrs x.names + x.vals.length
theorem szEv_len {x : Ev} (h : szEv x ≤ 1048576) : EvLen x := by
  unfold szEv at h
  unfold szStrs at h
  exact ⟨by omega, by omega⟩
theorem EvC.kept {base : Nat} {w w' : World} {cs : List Value} {x : Ev} (h : EvC base w cs x) (k : KeptFrom base w w') : EvC base w' cs x := by
  obtain ⟨v0, v1, e, h0, h1⟩ := h
  exact ⟨v0, v1, e, h0.kept k, h1.kept k⟩
theorem EvC.stays {base : Nat} {w w' : World} {cs : List Value} {x : Ev} (h : EvC base w cs x) (hb : Below w.heap.size w w') : EvC base w' cs x := h.kept (KeptFrom.below hb)
theorem EvC.at {base : Nat} {w : World} {v0 v1 : Value} {x : Ev} (h : EvC base w [v0, v1] x) : EvAt w v0 v1 x := by
  obtain ⟨v0', v1', e, h0, h1⟩ := h
  injection e with e0 e
  injection e with e1 _
  subst e0 e1
  exact ⟨h0.at, h1.at⟩
theorem EvC.form {base : Nat} {w : World} {cs : List Value} {x : Ev} (h : EvC base w cs x) : ∃ o0 c0 o1 c1, cs = [.slice o0 x.names.length c0, .slice o1 x.vals.length c1] := by
  obtain ⟨v0, v1, e, h0, h1⟩ := h
  obtain ⟨o0, c0, rfl, _⟩ := h0.at
  obtain ⟨o1, c1, rfl, _⟩ := h1.at
  exact ⟨_, _, _, _, e⟩
structure EvSh (B T : Nat) (w : World) (v0 v1 : Value) (x : Ev) : Prop where
  s0 : ShR B T 1 fStr x.names.length w v0
  s1 : ShR B T 1 fInt x.vals.length w v1
theorem EvSh.turn {B T B' T' : Nat} {w w' : World} {v0 v1 : Value} {x : Ev} (h : EvSh B T w v0 v1 x) (ht : Turn B' T' w w') : EvSh B T w' v0 v1 x := ⟨h.s0.turn ht fun i _ => fStr_s i, h.s1.turn ht fun i _ => fInt_s i⟩
theorem EvSh.stays {B T : Nat} {w w' : World} {v0 v1 : Value} {x : Ev} (h : EvSh B T w v0 v1 x) (hb : Below w.heap.size w w') : EvSh B T w' v0 v1 x := h.turn (T' := 0) (Turn.below hb (Nat.le_refl _))
theorem EvC.sh {base T : Nat} {w : World} {v0 v1 : Value} {x : Ev} (h : EvC base w [v0, v1] x) (hT : w.heap.size ≤ T) : EvSh base T w v0 v1 x := by
  obtain ⟨v0', v1', e, h0, h1⟩ := h
  injection e with e0 e
  injection e with e1 _
  subst e0 e1
  exact ⟨CellsIn.shT h0 hT, CellsIn.shI h1 hT⟩
/-- An answer that owns its rows, from a base on, each in a block of its own. -/
structure EvOwn (B : Nat) (w : World) (v0 v1 : Value) (x : Ev) : Prop where
  o0 : w.ownsRow B 9 1 v0 x.names.length (x.names.map S)
  o1 : w.ownsRow B 3 1 v1 x.vals.length (x.vals.map I64)
  ap : ∀ i, v0.ownBlock = some i → v1.ownBlock ≠ some i
theorem EvOwn.stays {B : Nat} {w w' : World} {v0 v1 : Value} {x : Ev} (h : EvOwn B w v0 v1 x) (hb : Below w.heap.size w w') : EvOwn B w' v0 v1 x := ⟨ownsInts_stays h.o0 hb, ownsInts_stays h.o1 hb, h.ap⟩
theorem EvOwn.at {B : Nat} {w : World} {v0 v1 : Value} {x : Ev} (h : EvOwn B w v0 v1 x) : EvAt w v0 v1 x := ⟨StrsIn.at (CellsIn.own h.o0), IntsIn.at (CellsIn.own h.o1)⟩
theorem EvOwn.lo {B b : Nat} {w : World} {v0 v1 : Value} {x : Ev} (h : EvOwn B w v0 v1 x) (hb : b ≤ B) : EvOwn b w v0 v1 x := ⟨owns_lo h.o0 hb, owns_lo h.o1 hb, h.ap⟩
theorem EvOwn.turn {B T b : Nat} {w w' : World} {v0 v1 : Value} {x : Ev} (h : EvOwn b w v0 v1 x) (ht : Turn B T w w') (hb : T ≤ b) : EvOwn b w' v0 v1 x :=
  ⟨owns_eq h.o0 (fun i hi => ht.out i (Nat.le_trans hb (h.o0.lt i hi).1) (h.o0.lt i hi).2), owns_eq h.o1 (fun i hi => ht.out i (Nat.le_trans hb (h.o1.lt i hi).1) (h.o1.lt i hi).2), h.ap⟩
theorem EvOwn.low {B b : Nat} {w w' : World} {v0 v1 : Value} {x : Ev} (h : EvOwn b w v0 v1 x) (ht : Below B w w') (hb : (∀ i, v0.ownBlock = some i → i < B) ∧ (∀ i, v1.ownBlock = some i → i < B)) : EvOwn b w' v0 v1 x :=
  ⟨owns_eq h.o0 (fun i hi => ht.block i (hb.1 i hi)), owns_eq h.o1 (fun i hi => ht.block i (hb.2 i hi)), h.ap⟩
theorem EvOwn.lt {b : Nat} {w : World} {v0 v1 : Value} {x : Ev} (h : EvOwn b w v0 v1 x) : (∀ i, v0.ownBlock = some i → i < w.heap.size) ∧ (∀ i, v1.ownBlock = some i → i < w.heap.size) := ⟨fun i hi => (h.o0.lt i hi).2, fun i hi => (h.o1.lt i hi).2⟩
theorem EvOwn.boxed {B b i : Nat} {z : World} {v0 v1 : Value} {x : Ev} {cs : Array Value} {T : TypeId} (h : EvOwn B z v0 v1 x) (hb : Box z b cs T) (t3 : T ≠ 3) (t9 : T ≠ 9) (u : Value) : EvOwn B (z.setCell ⟨b, i, none⟩ u) v0 v1 x :=
  ⟨owns_eq h.o0 (fun g hg => Below.heap_setCell _ ⟨b, i, none⟩ _ g (fun e => Lib.ownBlock_ne h.o0 hb t9 (by rw [hg, e]))), owns_eq h.o1 (fun g hg => Below.heap_setCell _ ⟨b, i, none⟩ _ g (fun e => Lib.ownBlock_ne h.o1 hb t3 (by rw [hg, e]))), h.ap⟩
structure EvHeld (B : Nat) (w : World) (v0 v1 : Value) (n0 n1 : Nat) : Prop where
  o0 : w.ownsRow B 9 1 v0 n0 ((marks (1) n0).map S)
  o1 : w.ownsRow B 3 1 v1 n1 ((nMarks (1 + n0) n1).map I64)
theorem EvHeld.stays {B : Nat} {w w' : World} {v0 v1 : Value} {n0 n1 : Nat} (h : EvHeld B w v0 v1 n0 n1) (hb : Below w.heap.size w w') : EvHeld B w' v0 v1 n0 n1 := ⟨ownsInts_stays h.o0 hb, ownsInts_stays h.o1 hb⟩

section
open Go.ChangeShapes Go.WideShapes Go.ChangeAt Go.Deep
variable {H : Type} {enc : TypeId × Value → H} {W : World}
end
end Go.Proofs.Ytgeomgghecmkbaa
