/-
  A thread as a flat struct, by the laws' own helpers.
-/
import Derived.Test.YtipmgmmchmdajaaFlU
namespace Go.Proofs.Ytipmgmmchmdajaa
open Go.RowKit

structure Tr where
  todo : List Int
  names : List ByteArray
  vals : List Int
  fault : Int
structure TrAt (w : World) (v0 v1 v2 : Value) (x : Tr) : Prop where
  a0 : IntsAt w v0 x.todo
  a1 : StrsAt w v1 x.names
  a2 : IntsAt w v2 x.vals
theorem TrAt.stays {w w' : World} {v0 v1 v2 : Value} {x : Tr} (h : TrAt w v0 v1 v2 x) (hb : Below w.heap.size w w') : TrAt w' v0 v1 v2 x := ⟨h.a0.stays hb, h.a1.stays hb, h.a2.stays hb⟩
def TrC (base : Nat) (w : World) (cs : List Value) (x : Tr) : Prop := ∃ v0 v1 v2, cs = [v0, v1, v2, .int .i64 x.fault] ∧ IntsIn base w v0 x.todo ∧ StrsIn base w v1 x.names ∧ IntsIn base w v2 x.vals
structure TrMax (x : Tr) : Prop where
  m0 : IntsMax x.todo
  m1 : StrsMax x.names
  m2 : IntsMax x.vals
structure TrLen (x : Tr) : Prop where
  l0 : x.todo.length ≤ 1048576
  l1 : x.names.length ≤ 1048576
  l2 : x.vals.length ≤ 1048576
def szTr (x : Tr) : Nat := x.todo.length + szStrs x.names + x.vals.length
theorem szTr_len {x : Tr} (h : szTr x ≤ 1048576) : TrLen x := by
  unfold szTr at h
  unfold szStrs at h
  exact ⟨by omega, by omega, by omega⟩
set_option maxRecDepth 100000 in
set_option maxHeartbeats 1000000 in
theorem szThread_any (x : Tr) (v0 v1 v2 : Value) (l : Int) (w : World) (h0 : 0 ≤ l) (h1 : l ≤ 1048576) (k0 : IntsAt w v0 x.todo) (k1 : StrsAt w v1 x.names) (k2 : IntsAt w v2 x.vals) (hm : TrMax x) :
    Calls Try.prog 19 #[.agg #[v0, v1, v2, .int .i64 x.fault], .int .i64 l] w fun e w' => ∃ r : Int, e = .returned (.int .i64 r) ∧ (r < 0 ∨ (0 ≤ r ∧ r + (szTr x : Nat) = l)) ∧ Below w.heap.size w w' := by
  refine (szThreadN_any ⟨x.todo, ⟨x.names, x.vals⟩, x.fault⟩ v0 v1 v2 l w h0 h1 k0 ⟨k1, k2⟩ ⟨hm.m0, ⟨hm.m1, hm.m2⟩⟩).mono ?_
  rintro e w' ⟨r, he, hr, hb⟩
  refine ⟨r, he, ?_, hb⟩
  have e1 : szTh ⟨x.todo, ⟨x.names, x.vals⟩, x.fault⟩ = szTr x := by unfold szTh szEv szTr; show x.todo.length + (szStrs x.names + x.vals.length) = _; omega
  rw [← e1]
  exact hr

set_option maxRecDepth 100000 in
set_option maxHeartbeats 2000000 in
theorem toThread_any (x : Tr) (v0 v1 v2 : Value) (w : World) (h0 : IntsAt w v0 x.todo) (h1 : StrsAt w v1 x.names) (h2 : IntsAt w v2 x.vals) (l0 : x.todo.length ≤ 1048576) (l1 : x.names.length ≤ 1048576) (l2 : x.vals.length ≤ 1048576) :
    Calls Try.prog 21 #[.agg #[v0, v1, v2, .int .i64 x.fault]] w fun e w' => ∃ o0 n0 c0 o1 n1 c1 o2 n2 c2, e = .returned (.agg #[.slice o0 n0 c0, .slice o1 n1 c1, .slice o2 n2 c2, .int .i64 x.fault]) ∧ TrC w.heap.size w' [.slice o0 n0 c0, .slice o1 n1 c1, .slice o2 n2 c2, .int .i64 x.fault] x ∧ Below w.heap.size w w' := by
  refine (toThreadN_any ⟨x.todo, ⟨x.names, x.vals⟩, x.fault⟩ v0 v1 v2 w ⟨h0, ⟨h1, h2⟩⟩ ⟨l0, ⟨l1, l2⟩⟩).mono ?_
  rintro e w' ⟨o0, n0, c0, o1, n1, c1, o2, n2, c2, he, hc, hb⟩
  refine ⟨o0, n0, c0, o1, n1, c1, o2, n2, c2, he, ?_, hb⟩
  obtain ⟨u0, u1, u2, e0, d0, ⟨u3, u4, e1, d1, d2⟩⟩ := hc
  injection e1 with e2 e3
  injection e3 with e4 _
  subst e2 e4
  exact ⟨_, _, _, e0, d0, d1, d2⟩

theorem eqThread_same (x : Tr) (p0 q0 p1 q1 p2 q2 : Value) (w : World) (h0 : IntsAt w p0 x.todo) (k0 : IntsAt w q0 x.todo) (h1 : StrsAt w p1 x.names) (k1 : StrsAt w q1 x.names) (h2 : IntsAt w p2 x.vals) (k2 : IntsAt w q2 x.vals) (l0 : x.todo.length ≤ 1048576) (l1 : x.names.length ≤ 1048576) (l2 : x.vals.length ≤ 1048576) :
    Calls Try.prog 12 #[.agg #[p0, p1, p2, .int .i64 x.fault], .agg #[q0, q1, q2, .int .i64 x.fault]] w fun e w' => e = .returned (.bool true) ∧ Below w.heap.size w w' :=
  eqThreadN_same ⟨x.todo, ⟨x.names, x.vals⟩, x.fault⟩ p0 p1 p2 q0 q1 q2 w ⟨h0, ⟨h1, h2⟩⟩ ⟨k0, ⟨k1, k2⟩⟩ ⟨l0, ⟨l1, l2⟩⟩

set_option maxRecDepth 100000 in
set_option maxHeartbeats 4000000 in
theorem turnThread_any {B T n0 n1 n2 : Nat} (v0 v1 v2 : Value) (u3 : Value) (k0 : Int) (w : World) (h0 : ShR B T 1 fInt n0 w v0) (h1 : ShR B T 1 fStr n1 w v1) (h2 : ShR B T 1 fInt n2 w v2) (l0 : n0 ≤ 1048576) (l1 : n1 ≤ 1048576) (l2 : n2 ≤ 1048576) (hB : B ≤ w.heap.size) (hT : T ≤ w.heap.size) (hk0 : 0 < k0) (hk1 : k0 ≤ 9000000000000000) :
    Calls Try.prog 17 #[.agg #[v0, v1, v2, u3], .int .i64 k0] w fun e w' => ∃ k, e = .returned (.int .i64 k) ∧ k0 ≤ k ∧ k ≤ k0 + 3145728 ∧ Turn B T w w' := by
  have hb1 : Below w.heap.size w (w.alloc (.cells #[v0, v1, v2, u3] 34)) := (Below.refl _ _).alloc (Nat.le_refl _) _
  have T0 : Hid (Turn B T w (w.alloc (.cells #[v0, v1, v2, u3] 34))) := Turn.below hb1 hB
  have B0 := hide (Box.made w #[v0, v1, v2, u3] 34)
  have Z0 : Hid (w.heap.size < (w.alloc (.cells #[v0, v1, v2, u3] 34)).heap.size) := B0.out.lt
  have H0_0 := hide (h0.turn T0.out fun i _ => fInt_s i)
  have H1_0 := hide (h1.turn T0.out fun i _ => fStr_s i)
  have H2_0 := hide (h2.turn T0.out fun i _ => fInt_s i)
  obtain ⟨o0, c0, rfl, _⟩ := h0
  obtain ⟨o1, c1, rfl, _⟩ := h1
  obtain ⟨o2, c2, rfl, _⟩ := h2
  obtain ⟨W1, hW⟩ : ∃ W1, w.alloc (.cells #[.slice o0 n0 c0, .slice o1 n1 c1, .slice o2 n2 c2, u3] 34) = W1 := ⟨_, rfl⟩
  have HW := hide hW
  rw [hW] at T0 B0 Z0 H0_0 H1_0 H2_0
  clear hW hb1
  go_enter Try.func17, Try.ntmps17
  have q0 := Lib.cell_of_heap B0.out 0
  simp at q0
  rw [← HW.out] at q0
  go_wp2_with fail
  rw [HW.out]
  refine (turnI_any _ _ _ H0_0.out l0 (by have := Z0.out; omega) (by omega) (by omega)).mono ?_
  rintro e z1 ⟨k1, rfl, ha1, hb1, ht1⟩
  have T1 := hide (T0.out.trans ht1)
  have B1 : Hid (Box z1 w.heap.size #[.slice o0 n0 c0, .slice o1 n1 c1, .slice o2 n2 c2, u3] 34) := (ht1.out _ hT Z0.out).trans B0.out
  have Z1 : Hid (w.heap.size < z1.heap.size) := B1.out.lt
  have H1_1 := hide (H1_0.out.turn ht1 fun i _ => fStr_s i)
  have H2_1 := hide (H2_0.out.turn ht1 fun i _ => fInt_s i)
  clear q0 ht1 T0 B0 Z0 H0_0 H1_0 H2_0
  have q1 := Lib.cell_of_heap B1.out 1
  have q2 := Lib.cell_of_heap B1.out 2
  simp at q1 q2
  go_wp2_with fail
  refine (turnEnv_any _ _ _ _ H1_1.out H2_1.out l1 l2 (by have := Z1.out; omega) (by have := Z1.out; omega) (by omega) (by omega)).mono ?_
  rintro e z2 ⟨k2, rfl, ha2, hb2, ht2⟩
  have T2 := hide (T1.out.trans ht2)
  clear q1 q2 ht2 T1 B1 Z1 H1_1 H2_1
  go_wp2
  go_ret
  exact ⟨_, rfl, by omega, by omega, T2.out⟩

theorem TrC.kept {base : Nat} {w w' : World} {cs : List Value} {x : Tr} (h : TrC base w cs x) (k : KeptFrom base w w') : TrC base w' cs x := by
  obtain ⟨v0, v1, v2, e, h0, h1, h2⟩ := h
  exact ⟨v0, v1, v2, e, h0.kept k, h1.kept k, h2.kept k⟩
theorem TrC.stays {base : Nat} {w w' : World} {cs : List Value} {x : Tr} (h : TrC base w cs x) (hb : Below w.heap.size w w') : TrC base w' cs x := h.kept (KeptFrom.below hb)
theorem TrC.at {base : Nat} {w : World} {v0 v1 v2 : Value} {u3 : Value} {x : Tr} (h : TrC base w [v0, v1, v2, u3] x) : TrAt w v0 v1 v2 x := by
  obtain ⟨v0', v1', v2', e, h0, h1, h2⟩ := h
  injection e with e0 e
  injection e with e1 e
  injection e with e2 e
  injection e with e3 _
  subst e0 e1 e2
  exact ⟨h0.at, h1.at, h2.at⟩
theorem TrC.form {base : Nat} {w : World} {cs : List Value} {x : Tr} (h : TrC base w cs x) : ∃ o0 c0 o1 c1 o2 c2, cs = [.slice o0 x.todo.length c0, .slice o1 x.names.length c1, .slice o2 x.vals.length c2, .int .i64 x.fault] := by
  obtain ⟨v0, v1, v2, e, h0, h1, h2⟩ := h
  obtain ⟨o0, c0, rfl, _⟩ := h0.at
  obtain ⟨o1, c1, rfl, _⟩ := h1.at
  obtain ⟨o2, c2, rfl, _⟩ := h2.at
  exact ⟨_, _, _, _, _, _, e⟩
structure TrSh (B T : Nat) (w : World) (v0 v1 v2 : Value) (x : Tr) : Prop where
  s0 : ShR B T 1 fInt x.todo.length w v0
  s1 : ShR B T 1 fStr x.names.length w v1
  s2 : ShR B T 1 fInt x.vals.length w v2
theorem TrSh.turn {B T B' T' : Nat} {w w' : World} {v0 v1 v2 : Value} {x : Tr} (h : TrSh B T w v0 v1 v2 x) (ht : Turn B' T' w w') : TrSh B T w' v0 v1 v2 x := ⟨h.s0.turn ht fun i _ => fInt_s i, h.s1.turn ht fun i _ => fStr_s i, h.s2.turn ht fun i _ => fInt_s i⟩
theorem TrSh.stays {B T : Nat} {w w' : World} {v0 v1 v2 : Value} {x : Tr} (h : TrSh B T w v0 v1 v2 x) (hb : Below w.heap.size w w') : TrSh B T w' v0 v1 v2 x := h.turn (T' := 0) (Turn.below hb (Nat.le_refl _))
theorem TrC.sh {base T : Nat} {w : World} {v0 v1 v2 : Value} {u3 : Value} {x : Tr} (h : TrC base w [v0, v1, v2, u3] x) (hT : w.heap.size ≤ T) : TrSh base T w v0 v1 v2 x := by
  obtain ⟨v0', v1', v2', e, h0, h1, h2⟩ := h
  injection e with e0 e
  injection e with e1 e
  injection e with e2 e
  injection e with e3 _
  subst e0 e1 e2
  exact ⟨CellsIn.shI h0 hT, CellsIn.shT h1 hT, CellsIn.shI h2 hT⟩
/-- An answer that owns its rows, from a base on, each in a block of its own. -/
structure TrOwn (B : Nat) (w : World) (v0 v1 v2 : Value) (x : Tr) : Prop where
  o0 : w.ownsRow B 3 1 v0 x.todo.length (x.todo.map I64)
  o1 : w.ownsRow B 9 1 v1 x.names.length (x.names.map S)
  o2 : w.ownsRow B 3 1 v2 x.vals.length (x.vals.map I64)
  ap : ∀ i, v0.ownBlock = some i → v2.ownBlock ≠ some i
theorem TrOwn.stays {B : Nat} {w w' : World} {v0 v1 v2 : Value} {x : Tr} (h : TrOwn B w v0 v1 v2 x) (hb : Below w.heap.size w w') : TrOwn B w' v0 v1 v2 x := ⟨ownsInts_stays h.o0 hb, ownsInts_stays h.o1 hb, ownsInts_stays h.o2 hb, h.ap⟩
theorem TrOwn.at {B : Nat} {w : World} {v0 v1 v2 : Value} {x : Tr} (h : TrOwn B w v0 v1 v2 x) : TrAt w v0 v1 v2 x := ⟨IntsIn.at (CellsIn.own h.o0), StrsIn.at (CellsIn.own h.o1), IntsIn.at (CellsIn.own h.o2)⟩
theorem TrOwn.lo {B b : Nat} {w : World} {v0 v1 v2 : Value} {x : Tr} (h : TrOwn B w v0 v1 v2 x) (hb : b ≤ B) : TrOwn b w v0 v1 v2 x := ⟨owns_lo h.o0 hb, owns_lo h.o1 hb, owns_lo h.o2 hb, h.ap⟩
theorem TrOwn.turn {B T b : Nat} {w w' : World} {v0 v1 v2 : Value} {x : Tr} (h : TrOwn b w v0 v1 v2 x) (ht : Turn B T w w') (hb : T ≤ b) : TrOwn b w' v0 v1 v2 x :=
  ⟨owns_eq h.o0 (fun i hi => ht.out i (Nat.le_trans hb (h.o0.lt i hi).1) (h.o0.lt i hi).2), owns_eq h.o1 (fun i hi => ht.out i (Nat.le_trans hb (h.o1.lt i hi).1) (h.o1.lt i hi).2), owns_eq h.o2 (fun i hi => ht.out i (Nat.le_trans hb (h.o2.lt i hi).1) (h.o2.lt i hi).2), h.ap⟩
theorem TrOwn.low {B b : Nat} {w w' : World} {v0 v1 v2 : Value} {x : Tr} (h : TrOwn b w v0 v1 v2 x) (ht : Below B w w') (hb : (∀ i, v0.ownBlock = some i → i < B) ∧ (∀ i, v1.ownBlock = some i → i < B) ∧ (∀ i, v2.ownBlock = some i → i < B)) : TrOwn b w' v0 v1 v2 x :=
  ⟨owns_eq h.o0 (fun i hi => ht.block i (hb.1 i hi)), owns_eq h.o1 (fun i hi => ht.block i (hb.2.1 i hi)), owns_eq h.o2 (fun i hi => ht.block i (hb.2.2 i hi)), h.ap⟩
theorem TrOwn.lt {b : Nat} {w : World} {v0 v1 v2 : Value} {x : Tr} (h : TrOwn b w v0 v1 v2 x) : (∀ i, v0.ownBlock = some i → i < w.heap.size) ∧ (∀ i, v1.ownBlock = some i → i < w.heap.size) ∧ (∀ i, v2.ownBlock = some i → i < w.heap.size) := ⟨fun i hi => (h.o0.lt i hi).2, fun i hi => (h.o1.lt i hi).2, fun i hi => (h.o2.lt i hi).2⟩
theorem TrOwn.boxed {B b i : Nat} {z : World} {v0 v1 v2 : Value} {x : Tr} {cs : Array Value} {T : TypeId} (h : TrOwn B z v0 v1 v2 x) (hb : Box z b cs T) (t3 : T ≠ 3) (t9 : T ≠ 9) (u : Value) : TrOwn B (z.setCell ⟨b, i, none⟩ u) v0 v1 v2 x :=
  ⟨owns_eq h.o0 (fun g hg => Below.heap_setCell _ ⟨b, i, none⟩ _ g (fun e => Lib.ownBlock_ne h.o0 hb t3 (by rw [hg, e]))), owns_eq h.o1 (fun g hg => Below.heap_setCell _ ⟨b, i, none⟩ _ g (fun e => Lib.ownBlock_ne h.o1 hb t9 (by rw [hg, e]))), owns_eq h.o2 (fun g hg => Below.heap_setCell _ ⟨b, i, none⟩ _ g (fun e => Lib.ownBlock_ne h.o2 hb t3 (by rw [hg, e]))), h.ap⟩
structure TrHeld (B : Nat) (w : World) (v0 v1 v2 : Value) (n0 n1 n2 : Nat) : Prop where
  o0 : w.ownsRow B 3 1 v0 n0 ((nMarks (1) n0).map I64)
  o1 : w.ownsRow B 9 1 v1 n1 ((marks (1 + n0) n1).map S)
  o2 : w.ownsRow B 3 1 v2 n2 ((nMarks (1 + n0 + n1) n2).map I64)
theorem TrHeld.stays {B : Nat} {w w' : World} {v0 v1 v2 : Value} {n0 n1 n2 : Nat} (h : TrHeld B w v0 v1 v2 n0 n1 n2) (hb : Below w.heap.size w w') : TrHeld B w' v0 v1 v2 n0 n1 n2 := ⟨ownsInts_stays h.o0 hb, ownsInts_stays h.o1 hb, ownsInts_stays h.o2 hb⟩

set_option maxRecDepth 100000 in
set_option maxHeartbeats 4000000 in
theorem markThread_any {B : Nat} (v0 v1 v2 : Value) (u3 : Value) (x : Tr) (w : World) (h : TrOwn B w v0 v1 v2 x) (n0 : Nat) (en0 : x.todo.length = n0) (n1 : Nat) (en1 : x.names.length = n1) (n2 : Nat) (en2 : x.vals.length = n2) (hB : B ≤ w.heap.size) (L0 : n0 ≤ 1048576) (L1 : n1 ≤ 1048576) (L2 : n2 ≤ 1048576) :
    Calls Try.prog 17 #[.agg #[v0, v1, v2, u3], .int .i64 1] w fun e w' => e = .returned (.int .i64 ((1 + n0 + n1 + n2 : Nat) : Int)) ∧ TrHeld B w' v0 v1 v2 n0 n1 n2 ∧ Below B w w' ∧ (∀ c, c < w.heap.size → v0.ownBlock ≠ some c → v1.ownBlock ≠ some c → v2.ownBlock ≠ some c → w'.heap[c]? = w.heap[c]?) := by
  have hb1 : Below w.heap.size w (w.alloc (.cells #[v0, v1, v2, u3] 34)) := (Below.refl _ _).alloc (Nat.le_refl _) _
  have HB0 : Hid (Below B w (w.alloc (.cells #[v0, v1, v2, u3] 34))) := hb1.mono hB
  have BX0 := hide (Box.made w #[v0, v1, v2, u3] 34)
  have OT0 : Hid (∀ c, c < w.heap.size → v0.ownBlock ≠ some c → v1.ownBlock ≠ some c → v2.ownBlock ≠ some c → (w.alloc (.cells #[v0, v1, v2, u3] 34)).heap[c]? = w.heap[c]?) := fun c hc _ _ _ => hb1.block c hc
  have O0_0 := hide (ownsInts_stays h.o0 hb1)
  have OL0 : Hid (∀ i, v0.ownBlock = some i → i < w.heap.size) := fun i hi => (h.o0.lt i hi).2
  have A01 := hide (ty_apart h.o0 h.o1 (by decide))
  have A02 := hide h.ap
  have OE0 : Hid (EvOwn B (w.alloc (.cells #[v0, v1, v2, u3] 34)) v1 v2 ⟨x.names, x.vals⟩) := ⟨ownsInts_stays h.o1 hb1, ownsInts_stays h.o2 hb1, ty_apart h.o1 h.o2 (by decide)⟩
  have OL1 : Hid (∀ i, v1.ownBlock = some i → i < w.heap.size) := fun i hi => (h.o1.lt i hi).2
  have OL2 : Hid (∀ i, v2.ownBlock = some i → i < w.heap.size) := fun i hi => (h.o2.lt i hi).2
  rw [en0] at O0_0
  obtain ⟨o0, c0, rfl⟩ := form_own O0_0.out
  obtain ⟨o1, c1, e1⟩ := form_own h.o1
  obtain ⟨o2, c2, e2⟩ := form_own h.o2
  rw [en1] at e1
  rw [en2] at e2
  subst e1 e2
  obtain ⟨W1, hW⟩ : ∃ W1, w.alloc (.cells #[.slice o0 n0 c0, .slice o1 n1 c1, .slice o2 n2 c2, u3] 34) = W1 := ⟨_, rfl⟩
  have HW := hide hW
  rw [hW] at HB0 BX0 OT0 O0_0 OE0
  have q0 := Lib.cell_of_heap BX0.out 0
  simp at q0
  rw [← hW] at q0
  clear h hb1 hW
  go_enter Try.func17, Try.ntmps17
  go_wp2_with fail
  rw [HW.out]
  refine (markInts_any _ n0 B (1) x.todo _ L0 (by omega) O0_0.out).mono ?_
  rintro e z1 ⟨rfl, ho1, hb1, hk1⟩
  have HB1 := hide (HB0.out.trans hb1)
  have OT1 : Hid (∀ c, c < w.heap.size → (.slice o0 n0 c0 : Value).ownBlock ≠ some c → (.slice o1 n1 c1 : Value).ownBlock ≠ some c → (.slice o2 n2 c2 : Value).ownBlock ≠ some c → z1.heap[c]? = w.heap[c]?) := fun c hc g0 g1 g2 => (hk1 c g0).trans (OT0.out c hc g0 g1 g2)
  have BX1 : Hid (Box z1 w.heap.size #[.slice o0 n0 c0, .slice o1 n1 c1, .slice o2 n2 c2, u3] 34) := (hk1 _ (fun e => by have := OL0.out _ e; omega)).trans BX0.out
  have OE1 : Hid (EvOwn B z1 (.slice o1 n1 c1) (.slice o2 n2 c2) ⟨x.names, x.vals⟩) := ⟨owns_eq OE0.out.o0 fun i hi => hk1 i (fun e => A01.out i e hi), owns_eq OE0.out.o1 fun i hi => hk1 i (fun e => A02.out i e hi), OE0.out.ap⟩
  have R0 := hide ho1
  clear ho1 hb1 hk1 q0
  have q1 := Lib.cell_of_heap BX1.out 1
  have q2 := Lib.cell_of_heap BX1.out 2
  simp at q1 q2
  go_wp2_with fail
  refine (markEnvK_any (k0 := 1 + n0) (by omega) (by omega) _ _ ⟨x.names, x.vals⟩ z1 OE1.out n1 en1 n2 en2 (Nat.le_trans hB HB1.out.size) L1 L2).mono ?_
  rintro e z2 ⟨rfl, ho2, hb2, hk2⟩
  have HB2 := hide (HB1.out.trans hb2)
  have OT2 : Hid (∀ c, c < w.heap.size → (.slice o0 n0 c0 : Value).ownBlock ≠ some c → (.slice o1 n1 c1 : Value).ownBlock ≠ some c → (.slice o2 n2 c2 : Value).ownBlock ≠ some c → z2.heap[c]? = w.heap[c]?) := fun c hc g0 g1 g2 => (hk2 c (Nat.lt_of_lt_of_le hc HB1.out.size) g1 g2).trans (OT1.out c hc g0 g1 g2)
  have R0_2 := hide (owns_eq R0.out fun i hi => hk2 i (R0.out.lt i hi).2 (fun e => A01.out i hi e) (fun e => A02.out i hi e))
  have R1 := hide ho2
  clear ho2 hb2 hk2 q1 q2
  go_wp2
  go_ret
  exact ⟨rfl, ⟨R0_2.out, R1.out.o0, R1.out.o1⟩, HB2.out, OT2.out⟩

set_option maxRecDepth 100000 in
set_option maxHeartbeats 4000000 in
theorem heldThread_any {B : Nat} (v0 v1 v2 : Value) (u3 : Value) (w : World) (n0 : Nat) (n1 : Nat) (n2 : Nat) (h : TrHeld B w v0 v1 v2 n0 n1 n2) (L0 : n0 ≤ 1048576) (L1 : n1 ≤ 1048576) (L2 : n2 ≤ 1048576) :
    Calls Try.prog 18 #[.agg #[v0, v1, v2, u3], .int .i64 1] w fun e w' => e = .returned (.int .i64 ((1 + n0 + n1 + n2 : Nat) : Int)) ∧ Below w.heap.size w w' := by
  have hb1 : Below w.heap.size w (w.alloc (.cells #[v0, v1, v2, u3] 34)) := (Below.refl _ _).alloc (Nat.le_refl _) _
  have HB0 := hide hb1
  have BX0 := hide (Box.made w #[v0, v1, v2, u3] 34)
  have H0 := hide (h.stays hb1)
  obtain ⟨o0, c0, rfl⟩ := form_own h.o0
  obtain ⟨o1, c1, rfl⟩ := form_own h.o1
  obtain ⟨o2, c2, rfl⟩ := form_own h.o2
  obtain ⟨W1, hW⟩ : ∃ W1, w.alloc (.cells #[.slice o0 n0 c0, .slice o1 n1 c1, .slice o2 n2 c2, u3] 34) = W1 := ⟨_, rfl⟩
  have HW := hide hW
  rw [hW] at HB0 BX0 H0
  have q0 := Lib.cell_of_heap BX0.out 0
  simp at q0
  rw [← hW] at q0
  clear h hb1 hW
  go_enter Try.func18, Try.ntmps18
  go_wp2_with fail
  rw [HW.out]
  refine (heldInts_any _ n0 B (1) _ L0 (by omega) H0.out.o0).mono ?_
  rintro e z1 ⟨rfl, hb1⟩
  have HB1 := hide (HB0.out.trans (hb1.mono HB0.out.size))
  have BX1 := hide (BX0.out.stays hb1)
  have H1 := hide (H0.out.stays hb1)
  have hnn1 : ¬ (((1 + n0 : Nat) : Int) < 0) := by omega
  clear hb1 q0
  have q1 := Lib.cell_of_heap BX1.out 1
  have q2 := Lib.cell_of_heap BX1.out 2
  simp at q1 q2
  go_wp2_with fail
  refine (heldEnvK_any (k0 := 1 + n0) (by omega) (by omega) _ _ z1 n1 n2 ⟨H1.out.o1, H1.out.o2⟩ L1 L2).mono ?_
  rintro e z2 ⟨rfl, hb2⟩
  have HB2 := hide (HB1.out.trans (hb2.mono HB1.out.size))
  have hnn2 : ¬ (((1 + n0 + n1 + n2 : Nat) : Int) < 0) := by omega
  clear hb2 q1 q2
  go_wp2
  go_ret
  exact ⟨rfl, HB2.out⟩

section
open Go.ChangeShapes Go.WideShapes Go.ChangeAt Go.Deep
variable {H : Type} {enc : TypeId × Value → H} {W : World}
theorem opens_Tr (fuel : Nat) (cs : List Value) (x : DataW H × List MemPlace) (h : DataW.trod enc Try.prog W 0 (fun _ => true) true fuel 51 cs = some x) : ∃ v0 v1 v2 y, cs = [v0, v1, v2, .int .i64 y.fault] ∧ TrAt W v0 v1 v2 y ∧ TrMax y := by
  obtain ⟨v0, v1, v2, y, e, ha, hm⟩ := opens_Th fuel cs x h
  exact ⟨v0, v1, v2, ⟨y.todo, y.env.names, y.env.vals, y.fault⟩, e, ⟨ha.a0, ha.a1.a0, ha.a1.a1⟩, ⟨hm.m0, hm.m1.m0, hm.m1.m1⟩⟩
end
end Go.Proofs.Ytipmgmmchmdajaa

