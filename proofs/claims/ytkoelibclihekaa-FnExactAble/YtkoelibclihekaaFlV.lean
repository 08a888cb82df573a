/-
  A thread as a flat struct, by the laws' own helpers.
-/
import Derived.Test.YtkoelibclihekaaFlT
namespace Go.Proofs.Ytkoelibclihekaa
open Go.RowKit

structure Tr where
  todo : List Int
  names : List ByteArray
  vals : List Int
  fault : Int
structure TrAt (w : World) (v0 v1 v2 : Value) (x : Tr) : Prop where
  a0 : IntsAt w v0 x.todo
  a1 : StrsAt w v1 x.names
  a2 : IntsAt w v2 x.vals
theorem TrAt.stays {w w' : World} {v0 v1 v2 : Value} {x : Tr} (h : TrAt w v0 v1 v2 x) (hb : Below w.heap.size w w') : TrAt w' v0 v1 v2 x := ⟨h.a0.stays hb, h.a1.stays hb, h.a2.stays hb⟩
def TrC (base : Nat) (w : World) (cs : List Value) (x : Tr) : Prop := ∃ v0 v1 v2, cs = [v0, v1, v2, .int .i64 x.fault] ∧ IntsIn base w v0 x.todo ∧ StrsIn base w v1 x.names ∧ IntsIn base w v2 x.vals
structure TrMax (x : Tr) : Prop where
  m0 : IntsMax x.todo
  m1 : StrsMax x.names
  m2 : IntsMax x.vals
structure TrLen (x : Tr) : Prop where
  l0 : x.todo.length ≤ 1048576
  l1 : x.names.length ≤ 1048576
  l2 : x.vals.length ≤ 1048576
def szTr (x : Tr) : Nat := x.todo.length + szStrs x.names + x.vals.length
theorem szTr_len {x : Tr} (h : szTr x ≤ 1048576) : TrLen x := by
  unfold szTr at h
  unfold szStrs at h
  exact ⟨by omega, by omega, by omega⟩
set_option maxRecDepth 100000 in
set_option maxHeartbeats 1000000 in
theorem szThread_any (x : Tr) (v0 v1 v2 : Value) (l : Int) (w : World) (h0 : 0 ≤ l) (h1 : l ≤ 1048576) (k0 : IntsAt w v0 x.todo) (k1 : StrsAt w v1 x.names) (k2 : IntsAt w v2 x.vals) (hm : TrMax x) :
    Calls Try.prog 68 #[.agg #[v0, v1, v2, .int .i64 x.fault], .int .i64 l] w fun e w' => ∃ r : Int, e = .returned (.int .i64 r) ∧ (r < 0 ∨ (0 ≤ r ∧ r + (szTr x : Nat) = l)) ∧ Below w.heap.size w w' := by
  refine (szThreadN_any ⟨x.todo, ⟨x.names, x.vals⟩, x.fault⟩ v0 v1 v2 l w h0 h1 k0 ⟨k1, k2⟩ ⟨hm.m0, ⟨hm.m1, hm.m2⟩⟩).mono ?_
  rintro e w' ⟨r, he, hr, hb⟩
  refine ⟨r, he, ?_, hb⟩
  have e1 : szTh ⟨x.todo, ⟨x.names, x.vals⟩, x.fault⟩ = szTr x := by unfold szTh szEv szTr; show x.todo.length + (szStrs x.names + x.vals.length) = _; omega
  rw [← e1]
  exact hr

set_option maxRecDepth 100000 in
set_option maxHeartbeats 2000000 in
theorem toThread_any (x : Tr) (v0 v1 v2 : Value) (w : World) (h0 : IntsAt w v0 x.todo) (h1 : StrsAt w v1 x.names) (h2 : IntsAt w v2 x.vals) (l0 : x.todo.length ≤ 1048576) (l1 : x.names.length ≤ 1048576) (l2 : x.vals.length ≤ 1048576) :
    Calls Try.prog 73 #[.agg #[v0, v1, v2, .int .i64 x.fault]] w fun e w' => ∃ o0 n0 c0 o1 n1 c1 o2 n2 c2, e = .returned (.agg #[.slice o0 n0 c0, .slice o1 n1 c1, .slice o2 n2 c2, .int .i64 x.fault]) ∧ TrC w.heap.size w' [.slice o0 n0 c0, .slice o1 n1 c1, .slice o2 n2 c2, .int .i64 x.fault] x ∧ Below w.heap.size w w' := by
  refine (toThreadN_any ⟨x.todo, ⟨x.names, x.vals⟩, x.fault⟩ v0 v1 v2 w ⟨h0, ⟨h1, h2⟩⟩ ⟨l0, ⟨l1, l2⟩⟩).mono ?_
  rintro e w' ⟨o0, n0, c0, o1, n1, c1, o2, n2, c2, he, hc, hb⟩
  refine ⟨o0, n0, c0, o1, n1, c1, o2, n2, c2, he, ?_, hb⟩
  obtain ⟨u0, u1, u2, e0, d0, ⟨u3, u4, e1, d1, d2⟩⟩ := hc
  injection e1 with e2 e3
  injection e3 with e4 _
  subst e2 e4
  exact ⟨_, _, _, e0, d0, d1, d2⟩

theorem eqThread_same (x : Tr) (p0 q0 p1 q1 p2 q2 : Value) (w : World) (h0 : IntsAt w p0 x.todo) (k0 : IntsAt w q0 x.todo) (h1 : StrsAt w p1 x.names) (k1 : StrsAt w q1 x.names) (h2 : IntsAt w p2 x.vals) (k2 : IntsAt w q2 x.vals) (l0 : x.todo.length ≤ 1048576) (l1 : x.names.length ≤ 1048576) (l2 : x.vals.length ≤ 1048576) :
    Calls Try.prog 78 #[.agg #[p0, p1, p2, .int .i64 x.fault], .agg #[q0, q1, q2, .int .i64 x.fault]] w fun e w' => e = .returned (.bool true) ∧ Below w.heap.size w w' :=
  eqThreadN_same ⟨x.todo, ⟨x.names, x.vals⟩, x.fault⟩ p0 p1 p2 q0 q1 q2 w ⟨h0, ⟨h1, h2⟩⟩ ⟨k0, ⟨k1, k2⟩⟩ ⟨l0, ⟨l1, l2⟩⟩

theorem TrC.kept {base : Nat} {w w' : World} {cs : List Value} {x : Tr} (h : TrC base w cs x) (k : KeptFrom base w w') : TrC base w' cs x := by
  obtain ⟨v0, v1, v2, e, h0, h1, h2⟩ := h
  exact ⟨v0, v1, v2, e, h0.kept k, h1.kept k, h2.kept k⟩
theorem TrC.stays {base : Nat} {w w' : World} {cs : List Value} {x : Tr} (h : TrC base w cs x) (hb : Below w.heap.size w w') : TrC base w' cs x := h.kept (KeptFrom.below hb)
theorem TrC.at {base : Nat} {w : World} {v0 v1 v2 : Value} {u3 : Value} {x : Tr} (h : TrC base w [v0, v1, v2, u3] x) : TrAt w v0 v1 v2 x := by
  obtain ⟨v0', v1', v2', e, h0, h1, h2⟩ := h
  injection e with e0 e
  injection e with e1 e
  injection e with e2 e
  injection e with e3 _
  subst e0 e1 e2
  exact ⟨h0.at, h1.at, h2.at⟩
theorem TrC.form {base : Nat} {w : World} {cs : List Value} {x : Tr} (h : TrC base w cs x) : ∃ o0 c0 o1 c1 o2 c2, cs = [.slice o0 x.todo.length c0, .slice o1 x.names.length c1, .slice o2 x.vals.length c2, .int .i64 x.fault] := by
  obtain ⟨v0, v1, v2, e, h0, h1, h2⟩ := h
  obtain ⟨o0, c0, rfl, _⟩ := h0.at
  obtain ⟨o1, c1, rfl, _⟩ := h1.at
  obtain ⟨o2, c2, rfl, _⟩ := h2.at
  exact ⟨_, _, _, _, _, _, e⟩
structure TrSh (B T : Nat) (w : World) (v0 v1 v2 : Value) (x : Tr) : Prop where
  s0 : ShR B T 1 fInt x.todo.length w v0
  s1 : ShR B T 1 fStr x.names.length w v1
  s2 : ShR B T 1 fInt x.vals.length w v2
theorem TrSh.turn {B T B' T' : Nat} {w w' : World} {v0 v1 v2 : Value} {x : Tr} (h : TrSh B T w v0 v1 v2 x) (ht : Turn B' T' w w') : TrSh B T w' v0 v1 v2 x := ⟨h.s0.turn ht fun i _ => fInt_s i, h.s1.turn ht fun i _ => fStr_s i, h.s2.turn ht fun i _ => fInt_s i⟩
theorem TrSh.stays {B T : Nat} {w w' : World} {v0 v1 v2 : Value} {x : Tr} (h : TrSh B T w v0 v1 v2 x) (hb : Below w.heap.size w w') : TrSh B T w' v0 v1 v2 x := h.turn (T' := 0) (Turn.below hb (Nat.le_refl _))
theorem TrC.sh {base T : Nat} {w : World} {v0 v1 v2 : Value} {u3 : Value} {x : Tr} (h : TrC base w [v0, v1, v2, u3] x) (hT : w.heap.size ≤ T) : TrSh base T w v0 v1 v2 x := by
  obtain ⟨v0', v1', v2', e, h0, h1, h2⟩ := h
  injection e with e0 e
  injection e with e1 e
  injection e with e2 e
  injection e with e3 _
  subst e0 e1 e2
  exact ⟨CellsIn.shI h0 hT, CellsIn.shT h1 hT, CellsIn.shI h2 hT⟩
/-- An answer that owns its rows, from a base on, each in a block of its own. -/
structure TrOwn (B : Nat) (w : World) (v0 v1 v2 : Value) (x : Tr) : Prop where
  o0 : w.ownsRow B 3 1 v0 x.todo.length (x.todo.map I64)
  o1 : w.ownsRow B 9 1 v1 x.names.length (x.names.map S)
  o2 : w.ownsRow B 3 1 v2 x.vals.length (x.vals.map I64)
  ap : ∀ i, v0.ownBlock = some i → v2.ownBlock ≠ some i
theorem TrOwn.stays {B : Nat} {w w' : World} {v0 v1 v2 : Value} {x : Tr} (h : TrOwn B w v0 v1 v2 x) (hb : Below w.heap.size w w') : TrOwn B w' v0 v1 v2 x := ⟨ownsInts_stays h.o0 hb, ownsInts_stays h.o1 hb, ownsInts_stays h.o2 hb, h.ap⟩
theorem TrOwn.at {B : Nat} {w : World} {v0 v1 v2 : Value} {x : Tr} (h : TrOwn B w v0 v1 v2 x) : TrAt w v0 v1 v2 x := ⟨IntsIn.at (CellsIn.own h.o0), StrsIn.at (CellsIn.own h.o1), IntsIn.at (CellsIn.own h.o2)⟩
theorem TrOwn.lo {B b : Nat} {w : World} {v0 v1 v2 : Value} {x : Tr} (h : TrOwn B w v0 v1 v2 x) (hb : b ≤ B) : TrOwn b w v0 v1 v2 x := ⟨owns_lo h.o0 hb, owns_lo h.o1 hb, owns_lo h.o2 hb, h.ap⟩
theorem TrOwn.turn {B T b : Nat} {w w' : World} {v0 v1 v2 : Value} {x : Tr} (h : TrOwn b w v0 v1 v2 x) (ht : Turn B T w w') (hb : T ≤ b) : TrOwn b w' v0 v1 v2 x :=
  ⟨owns_eq h.o0 (fun i hi => ht.out i (Nat.le_trans hb (h.o0.lt i hi).1) (h.o0.lt i hi).2), owns_eq h.o1 (fun i hi => ht.out i (Nat.le_trans hb (h.o1.lt i hi).1) (h.o1.lt i hi).2), owns_eq h.o2 (fun i hi => ht.out i (Nat.le_trans hb (h.o2.lt i hi).1) (h.o2.lt i hi).2), h.ap⟩
theorem TrOwn.low {B b : Nat} {w w' : World} {v0 v1 v2 : Value} {x : Tr} (h : TrOwn b w v0 v1 v2 x) (ht : Below B w w') (hb : (∀ i, v0.ownBlock = some i → i < B) ∧ (∀ i, v1.ownBlock = some i → i < B) ∧ (∀ i, v2.ownBlock = some i → i < B)) : TrOwn b w' v0 v1 v2 x :=
  ⟨owns_eq h.o0 (fun i hi => ht.block i (hb.1 i hi)), owns_eq h.o1 (fun i hi => ht.block i (hb.2.1 i hi)), owns_eq h.o2 (fun i hi => ht.block i (hb.2.2 i hi)), h.ap⟩
theorem TrOwn.lt {b : Nat} {w : World} {v0 v1 v2 : Value} {x : Tr} (h : TrOwn b w v0 v1 v2 x) : (∀ i, v0.ownBlock = some i → i < w.heap.size) ∧ (∀ i, v1.ownBlock = some i → i < w.heap.size) ∧ (∀ i, v2.ownBlock = some i → i < w.heap.size) := ⟨fun i hi => (h.o0.lt i hi).2, fun i hi => (h.o1.lt i hi).2, fun i hi => (h.o2.lt i hi).2⟩
theorem TrOwn.boxed {B b i : Nat} {z : World} {v0 v1 v2 : Value} {x : Tr} {cs : Array Value} {T : TypeId} (h : TrOwn B z v0 v1 v2 x) (hb : Box z b cs T) (t3 : T ≠ 3) (t9 : T ≠ 9) (u : Value) : TrOwn B (z.setCell ⟨b, i, none⟩ u) v0 v1 v2 x :=
  ⟨owns_eq h.o0 (fun g hg => Below.heap_setCell _ ⟨b, i, none⟩ _ g (fun e => Lib.ownBlock_ne h.o0 hb t3 (by rw [hg, e]))), owns_eq h.o1 (fun g hg => Below.heap_setCell _ ⟨b, i, none⟩ _ g (fun e => Lib.ownBlock_ne h.o1 hb t9 (by rw [hg, e]))), owns_eq h.o2 (fun g hg => Below.heap_setCell _ ⟨b, i, none⟩ _ g (fun e => Lib.ownBlock_ne h.o2 hb t3 (by rw [hg, e]))), h.ap⟩
structure TrHeld (B : Nat) (w : World) (v0 v1 v2 : Value) (n0 n1 n2 : Nat) : Prop where
  o0 : w.ownsRow B 3 1 v0 n0 ((nMarks (1) n0).map I64)
  o1 : w.ownsRow B 9 1 v1 n1 ((marks (1 + n0) n1).map S)
  o2 : w.ownsRow B 3 1 v2 n2 ((nMarks (1 + n0 + n1) n2).map I64)
theorem TrHeld.stays {B : Nat} {w w' : World} {v0 v1 v2 : Value} {n0 n1 n2 : Nat} (h : TrHeld B w v0 v1 v2 n0 n1 n2) (hb : Below w.heap.size w w') : TrHeld B w' v0 v1 v2 n0 n1 n2 := ⟨ownsInts_stays h.o0 hb, ownsInts_stays h.o1 hb, ownsInts_stays h.o2 hb⟩

section
open Go.ChangeShapes Go.WideShapes Go.ChangeAt Go.Deep
variable {H : Type} {enc : TypeId × Value → H} {W : World}
theorem opens_Tr (fuel : Nat) (cs : List Value) (x : DataW H × List MemPlace) (h : DataW.trod enc Try.prog W 0 (fun _ => true) true fuel 90 cs = some x) : ∃ v0 v1 v2 y, cs = [v0, v1, v2, .int .i64 y.fault] ∧ TrAt W v0 v1 v2 y ∧ TrMax y := by
  obtain ⟨v0, v1, v2, y, e, ha, hm⟩ := opens_Th fuel cs x h
  exact ⟨v0, v1, v2, ⟨y.todo, y.env.names, y.env.vals, y.fault⟩, e, ⟨ha.a0, ha.a1.a0, ha.a1.a1⟩, ⟨hm.m0, hm.m1.m0, hm.m1.m1⟩⟩
end
end Go.Proofs.Ytkoelibclihekaa

