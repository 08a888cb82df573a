/-
  A flat struct (Env) by the laws' own helpers.
-/
import Derived.Test.YtmckcbgdkjbpfaaTreeY
import Derived.Test.YtmckcbgdkjbpfaaLawZ
import Derived.Test.YtmckcbgdkjbpfaaTurnW
import Derived.Test.YtmckcbgdkjbpfaaMarkI
import Derived.Test.YtmckcbgdkjbpfaaFlatP
namespace Go.Proofs.Ytmckcbgdkjbpfaa
open Go.RowKit

structure Ev where
  names : List ByteArray
  vals : List Int
structure EvAt (w : World) (v0 v1 : Value) (x : Ev) : Prop where
  a0 : StrsAt w v0 x.names
  a1 : IntsAt w v1 x.vals
theorem EvAt.stays {w w' : World} {v0 v1 : Value} {x : Ev} (h : EvAt w v0 v1 x) (hb : Below w.heap.size w w') : EvAt w' v0 v1 x := ⟨h.a0.stays hb, h.a1.stays hb⟩
def EvC (base : Nat) (w : World) (cs : List Value) (x : Ev) : Prop := ∃ v0 v1, cs = [v0, v1] ∧ StrsIn base w v0 x.names ∧ IntsIn base w v1 x.vals
structure EvMax (x : Ev) : Prop where
  m0 : StrsMax x.names
  m1 : IntsMax x.vals
structure EvLen (x : Ev) : Prop where
  l0 : x.names.length ≤ 1048576
  l1 : x.vals.length ≤ 1048576
def szEv (x : Ev) : Nat := szStrs x.names + x.vals.length
theorem szEv_len {x : Ev} (h : szEv x ≤ 1048576) : EvLen x := by
  unfold szEv at h
  unfold szStrs at h
  exact ⟨by omega, by omega⟩
set_option maxRecDepth 100000 in
set_option maxHeartbeats 1000000 in
theorem szEnv_any (x : Ev) (v0 v1 : Value) (l : Int) (w : World) (h0 : 0 ≤ l) (h1 : l ≤ 1048576) (k0 : StrsAt w v0 x.names) (k1 : IntsAt w v1 x.vals) (hm : EvMax x) :
    Calls Try.prog 5 #[.agg #[v0, v1], .int .i64 l] w fun e w' => ∃ r : Int, e = .returned (.int .i64 r) ∧ (r < 0 ∨ (0 ≤ r ∧ r + (szEv x : Nat) = l)) ∧ Below w.heap.size w w' := by
  have HM := hide hm
  have HU : Hid (szEv x = szStrs x.names + x.vals.length) := rfl
  have B0 := hide (Box.made w #[v0, v1] 25)
  have BB : Hid (Below w.heap.size w (w.alloc (.cells #[v0, v1] 25))) := (Below.refl _ _).alloc (Nat.le_refl _) _
  have C0 := fun l w h0 h1 k => hide (szStringS_any v0 x.names l w h0 h1 k hm.m0)
  have K0 := hide k0
  obtain ⟨o0, c0, rfl, _⟩ := k0
  have C1 := fun l w h0 h1 k => hide (szIntS_any v1 x.vals l w h0 h1 k hm.m1)
  have K1 := hide k1
  obtain ⟨o1, c1, rfl, _⟩ := k1
  clear hm
  go_enter Try.func5, Try.ntmps5
  go_wp2_with fail
  refine (unhide (C0 (l) _ (by omega) (by omega) (K0.out.stays BB.out))).mono ?_
  rintro e z0 ⟨r0, rfl, hr0, hb0⟩
  have B1 := hide (B0.out.stays hb0)
  have BB1 := hide (BB.out.trans (hb0.mono BB.out.size))
  have p0 := Lib.cell_of_heap B1.out 0
  have p1 := Lib.cell_of_heap B1.out 1
  simp at p0 p1
  clear hb0
  by_cases q0 : r0 < 0
  · clear hr0
    go_wp2
    go_ret
    exact ⟨-1, rfl, .inl (by omega), BB1.out⟩
  obtain ⟨e0, f0⟩ := hr0.resolve_left q0
  have F0 := hide f0
  have x0 : r0 ≤ 1048576 := by omega
  clear f0 hr0
  go_wp2_with fail
  clear p0 p1
  refine (unhide (C1 (r0) _ (by omega) (by omega) (K1.out.stays BB1.out))).mono ?_
  rintro e z1 ⟨r1, rfl, hr1, hb1⟩
  have B2 := hide (B1.out.stays hb1)
  have BB2 := hide (BB1.out.trans (hb1.mono BB1.out.size))
  have p0 := Lib.cell_of_heap B2.out 0
  have p1 := Lib.cell_of_heap B2.out 1
  simp at p0 p1
  clear hb1
  by_cases q1 : r1 < 0
  · clear hr1
    go_wp2
    go_ret
    exact ⟨-1, rfl, .inl (by omega), BB2.out⟩
  obtain ⟨e1, f1⟩ := hr1.resolve_left q1
  have F1 := hide f1
  have x1 : r1 ≤ 1048576 := by omega
  clear f1 hr1
  go_wp2
  go_ret
  exact ⟨r1, rfl, .inr ⟨by omega, by
    rw [HU.out]
    have q := HM.out
    have := F0.out
    have := F1.out
    omega⟩, BB2.out⟩

set_option maxRecDepth 100000 in
set_option maxHeartbeats 2000000 in
theorem toEnv_any (x : Ev) (v0 v1 : Value) (w : World) (h0 : StrsAt w v0 x.names) (h1 : IntsAt w v1 x.vals) (l0 : x.names.length ≤ 1048576) (l1 : x.vals.length ≤ 1048576) :
    Calls Try.prog 7 #[.agg #[v0, v1]] w fun e w' => ∃ o0 n0 c0 o1 n1 c1, e = .returned (.agg #[.slice o0 n0 c0, .slice o1 n1 c1]) ∧ EvC w.heap.size w' [.slice o0 n0 c0, .slice o1 n1 c1] x ∧ Below w.heap.size w w' := by
  have C0 := fun w h => hide (toStringS_any v0 x.names w h l0)
  have H0 := hide h0
  have C1 := fun w h => hide (toIntS_any v1 x.vals w h l1)
  have H1 := hide h1
  have T := hide (ThreeB.start w #[v0, v1] #[.slice none 0 0, .slice none 0 0] #[.slice none 0 0, .slice none 0 0] 25 27)
  obtain ⟨a0, b0, rfl, _⟩ := h0
  obtain ⟨a1, b1, rfl, _⟩ := h1
  go_enter Try.func7, Try.ntmps7
  go_wp2_with fail
  refine (unhide (C0 _ (H0.out.stays T.out.bel))).mono ?_
  rintro e z0 ⟨v0, rfl, hv0, hb0⟩
  have S0 := hide (T.out.stays hb0)
  have V0 : Hid (StrsIn (w.heap.size + 3) z0 v0 x.names) := hv0.mono T.out.lt
  obtain ⟨o0, n0, c0, rfl⟩ := hv0.form
  have p0 := Lib.cell_of_heap S0.out.bA 0
  have q0 := Lib.cell_of_heap S0.out.bZ 0
  have r0 := Lib.cell_of_heap S0.out.bO 0
  have s0 := Lib.frozen_of_heap S0.out.bZ 0
  have t0 := Lib.frozen_of_heap S0.out.bO 0
  have p1 := Lib.cell_of_heap S0.out.bA 1
  have q1 := Lib.cell_of_heap S0.out.bZ 1
  have r1 := Lib.cell_of_heap S0.out.bO 1
  have s1 := Lib.frozen_of_heap S0.out.bZ 1
  have t1 := Lib.frozen_of_heap S0.out.bO 1
  simp at p0 q0 r0 p1 q1 r1
  clear hb0 hv0 T C0 H0
  have T0 := hide (S0.out.put 0 (.slice o0 n0 c0))
  have V0 := hide (V0.out.kept (ThreeB.kept 0 (.slice o0 n0 c0)))
  go_wp2_with fail
  clear p0 q0 r0 s0 t0 p1 q1 r1 s1 t1
  refine (unhide (C1 _ (H1.out.stays T0.out.bel))).mono ?_
  rintro e z1 ⟨v1, rfl, hv1, hb1⟩
  have S1 := hide (T0.out.stays hb1)
  have V0 := hide (V0.out.kept (KeptFrom.below hb1))
  have V1 : Hid (IntsIn (w.heap.size + 3) z1 v1 x.vals) := hv1.mono T0.out.lt
  obtain ⟨o1, n1, c1, rfl⟩ := hv1.form
  have p0 := Lib.cell_of_heap S1.out.bA 0
  have q0 := Lib.cell_of_heap S1.out.bZ 0
  have r0 := Lib.cell_of_heap S1.out.bO 0
  have s0 := Lib.frozen_of_heap S1.out.bZ 0
  have t0 := Lib.frozen_of_heap S1.out.bO 0
  have p1 := Lib.cell_of_heap S1.out.bA 1
  have q1 := Lib.cell_of_heap S1.out.bZ 1
  have r1 := Lib.cell_of_heap S1.out.bO 1
  have s1 := Lib.frozen_of_heap S1.out.bZ 1
  have t1 := Lib.frozen_of_heap S1.out.bO 1
  simp at p0 q0 r0 p1 q1 r1
  clear hb1 hv1 T0 C1 H1
  have T1 := hide (S1.out.put 1 (.slice o1 n1 c1))
  have V0 := hide (V0.out.kept (ThreeB.kept 1 (.slice o1 n1 c1)))
  have V1 := hide (V1.out.kept (ThreeB.kept 1 (.slice o1 n1 c1)))
  go_wp2
  refine box_ret (g := w.heap.size + 1) (t := 27) (cs := #[.slice o0 n0 c0, .slice o1 n1 c1]) rfl rfl ?_ _ Try.underlying27 rfl (by kernel_rfl) rfl ?_
  · simpa using ((T1.out.bZ.set 0 _).set 1 _)
  · refine ⟨_, _, _, _, _, _, rfl, ⟨_, _, rfl, ?_, ?_⟩, ?_⟩
    · refine CellsIn.mono (base := w.heap.size + 3) ?_ (by omega)
      iterate 2 refine CellsIn.kept ?_ (ThreeB.keptR _ _)
      exact V0.out
    · refine CellsIn.mono (base := w.heap.size + 3) ?_ (by omega)
      iterate 2 refine CellsIn.kept ?_ (ThreeB.keptR _ _)
      exact V1.out
    · iterate 2 refine Below.setCell ?_ (by dsimp only; omega) _
      exact T1.out.bel

set_option maxRecDepth 100000 in
set_option maxHeartbeats 1000000 in
theorem eqEnv_same (x : Ev) (p0 q0 p1 q1 : Value) (w : World) (h0 : StrsAt w p0 x.names) (k0 : StrsAt w q0 x.names) (h1 : IntsAt w p1 x.vals) (k1 : IntsAt w q1 x.vals) (l0 : x.names.length ≤ 1048576) (l1 : x.vals.length ≤ 1048576) :
    Calls Try.prog 9 #[.agg #[p0, p1], .agg #[q0, q1]] w fun e w' => e = .returned (.bool true) ∧ Below w.heap.size w w' := by
  have C0 := fun w h k => hide (eqStringS_same p0 q0 x.names w h k l0)
  have H0 := hide h0
  have K0 := hide k0
  have C1 := fun w h k => hide (eqIntS_same p1 q1 x.vals w h k l1)
  have H1 := hide h1
  have K1 := hide k1
  have T := hide (TwoB.start w #[p0, p1] #[q0, q1] 27)
  obtain ⟨ao0, ac0, rfl, _⟩ := h0
  obtain ⟨bo0, bc0, rfl, _⟩ := k0
  obtain ⟨ao1, ac1, rfl, _⟩ := h1
  obtain ⟨bo1, bc1, rfl, _⟩ := k1
  go_enter Try.func9, Try.ntmps9
  go_wp2_with fail
  refine (unhide (C0 _ (H0.out.stays T.out.bel) (K0.out.stays T.out.bel))).mono ?_
  rintro e z0 ⟨rfl, hb0⟩
  have T0 := hide (T.out.stays hb0)
  have r0 := Lib.cell_of_heap T0.out.bA 0
  have s0 := Lib.cell_of_heap T0.out.bB 0
  have r1 := Lib.cell_of_heap T0.out.bA 1
  have s1 := Lib.cell_of_heap T0.out.bB 1
  simp at r0 s0 r1 s1
  clear hb0
  go_wp2_with fail
  clear r0 s0 r1 s1
  refine (unhide (C1 _ (H1.out.stays T0.out.bel) (K1.out.stays T0.out.bel))).mono ?_
  rintro e z1 ⟨rfl, hb1⟩
  have T1 := hide (T0.out.stays hb1)
  have r0 := Lib.cell_of_heap T1.out.bA 0
  have s0 := Lib.cell_of_heap T1.out.bB 0
  have r1 := Lib.cell_of_heap T1.out.bA 1
  have s1 := Lib.cell_of_heap T1.out.bB 1
  simp at r0 s0 r1 s1
  clear hb1
  go_wp2
  go_ret
  exact ⟨rfl, T1.out.bel⟩


set_option maxRecDepth 100000 in
set_option maxHeartbeats 4000000 in
theorem turnEnv_any {B T n0 n1 : Nat} (v0 v1 : Value) (k0 : Int) (w : World) (h0 : ShR B T 1 fStr n0 w v0) (h1 : ShR B T 1 fInt n1 w v1) (l0 : n0 ≤ 1048576) (l1 : n1 ≤ 1048576) (hB : B ≤ w.heap.size) (hT : T ≤ w.heap.size) (hk0 : 0 < k0) (hk1 : k0 ≤ 10000000000000000) :
    Calls Try.prog 10 #[.agg #[v0, v1], .int .i64 k0] w fun e w' => ∃ k, e = .returned (.int .i64 k) ∧ k0 ≤ k ∧ k ≤ k0 + 2097152 ∧ Turn B T w w' := by
  have hb1 : Below w.heap.size w (w.alloc (.cells #[v0, v1] 27)) := (Below.refl _ _).alloc (Nat.le_refl _) _
  have T0 : Hid (Turn B T w (w.alloc (.cells #[v0, v1] 27))) := Turn.below hb1 hB
  have B0 := hide (Box.made w #[v0, v1] 27)
  have Z0 : Hid (w.heap.size < (w.alloc (.cells #[v0, v1] 27)).heap.size) := B0.out.lt
  have H0_0 := hide (h0.turn T0.out fun i _ => fStr_s i)
  have H1_0 := hide (h1.turn T0.out fun i _ => fInt_s i)
  obtain ⟨o0, c0, rfl, _⟩ := h0
  obtain ⟨o1, c1, rfl, _⟩ := h1
  obtain ⟨W1, hW⟩ : ∃ W1, w.alloc (.cells #[.slice o0 n0 c0, .slice o1 n1 c1] 27) = W1 := ⟨_, rfl⟩
  have HW := hide hW
  rw [hW] at T0 B0 Z0 H0_0 H1_0
  clear hW hb1
  go_enter Try.func10, Try.ntmps10
  have q0 := Lib.cell_of_heap B0.out 0
  simp at q0
  rw [← HW.out] at q0
  go_wp2_with fail
  rw [HW.out]
  refine (turnT_any _ _ _ H0_0.out l0 (by have := Z0.out; omega) (by omega) (by omega)).mono ?_
  rintro e z1 ⟨k1, rfl, ha1, hb1, ht1⟩
  have T1 := hide (T0.out.trans ht1)
  have B1 : Hid (Box z1 w.heap.size #[.slice o0 n0 c0, .slice o1 n1 c1] 27) := (ht1.out _ hT Z0.out).trans B0.out
  have Z1 : Hid (w.heap.size < z1.heap.size) := B1.out.lt
  have H1_1 := hide (H1_0.out.turn ht1 fun i _ => fInt_s i)
  clear q0 ht1 T0 B0 Z0 H0_0 H1_0
  have q1 := Lib.cell_of_heap B1.out 1
  simp at q1
  go_wp2_with fail
  refine (turnI_any _ _ _ H1_1.out l1 (by have := Z1.out; omega) (by omega) (by omega)).mono ?_
  rintro e z2 ⟨k2, rfl, ha2, hb2, ht2⟩
  have T2 := hide (T1.out.trans ht2)
  have B2 : Hid (Box z2 w.heap.size #[.slice o0 n0 c0, .slice o1 n1 c1] 27) := (ht2.out _ hT Z1.out).trans B1.out
  have Z2 : Hid (w.heap.size < z2.heap.size) := B2.out.lt
  clear q1 ht2 T1 B1 Z1 H1_1
  go_wp2
  go_ret
  exact ⟨_, rfl, by omega, by omega, T2.out⟩
theorem EvC.kept {base : Nat} {w w' : World} {cs : List Value} {x : Ev} (h : EvC base w cs x) (k : KeptFrom base w w') : EvC base w' cs x := by
  obtain ⟨v0, v1, e, h0, h1⟩ := h
  exact ⟨v0, v1, e, h0.kept k, h1.kept k⟩
theorem EvC.stays {base : Nat} {w w' : World} {cs : List Value} {x : Ev} (h : EvC base w cs x) (hb : Below w.heap.size w w') : EvC base w' cs x := h.kept (KeptFrom.below hb)
theorem EvC.at {base : Nat} {w : World} {v0 v1 : Value} {x : Ev} (h : EvC base w [v0, v1] x) : EvAt w v0 v1 x := by
  obtain ⟨v0', v1', e, h0, h1⟩ := h
  injection e with e0 e
  injection e with e1 _
  subst e0 e1
  exact ⟨h0.at, h1.at⟩
theorem EvC.form {base : Nat} {w : World} {cs : List Value} {x : Ev} (h : EvC base w cs x) : ∃ o0 c0 o1 c1, cs = [.slice o0 x.names.length c0, .slice o1 x.vals.length c1] := by
  obtain ⟨v0, v1, e, h0, h1⟩ := h
  obtain ⟨o0, c0, rfl, _⟩ := h0.at
  obtain ⟨o1, c1, rfl, _⟩ := h1.at
  exact ⟨_, _, _, _, e⟩
structure EvSh (B T : Nat) (w : World) (v0 v1 : Value) (x : Ev) : Prop where
  s0 : ShR B T 1 fStr x.names.length w v0
  s1 : ShR B T 1 fInt x.vals.length w v1
theorem EvSh.turn {B T B' T' : Nat} {w w' : World} {v0 v1 : Value} {x : Ev} (h : EvSh B T w v0 v1 x) (ht : Turn B' T' w w') : EvSh B T w' v0 v1 x := ⟨h.s0.turn ht fun i _ => fStr_s i, h.s1.turn ht fun i _ => fInt_s i⟩
theorem EvSh.stays {B T : Nat} {w w' : World} {v0 v1 : Value} {x : Ev} (h : EvSh B T w v0 v1 x) (hb : Below w.heap.size w w') : EvSh B T w' v0 v1 x := h.turn (T' := 0) (Turn.below hb (Nat.le_refl _))
theorem EvC.sh {base T : Nat} {w : World} {v0 v1 : Value} {x : Ev} (h : EvC base w [v0, v1] x) (hT : w.heap.size ≤ T) : EvSh base T w v0 v1 x := by
  obtain ⟨v0', v1', e, h0, h1⟩ := h
  injection e with e0 e
  injection e with e1 _
  subst e0 e1
  exact ⟨CellsIn.shT h0 hT, CellsIn.shI h1 hT⟩
/-- An answer that owns its rows, from a base on, each in a block of its own. -/
structure EvOwn (B : Nat) (w : World) (v0 v1 : Value) (x : Ev) : Prop where
  o0 : w.ownsRow B 9 1 v0 x.names.length (x.names.map S)
  o1 : w.ownsRow B 3 1 v1 x.vals.length (x.vals.map I64)
  ap : ∀ i, v0.ownBlock = some i → v1.ownBlock ≠ some i
theorem EvOwn.stays {B : Nat} {w w' : World} {v0 v1 : Value} {x : Ev} (h : EvOwn B w v0 v1 x) (hb : Below w.heap.size w w') : EvOwn B w' v0 v1 x := ⟨ownsInts_stays h.o0 hb, ownsInts_stays h.o1 hb, h.ap⟩
theorem EvOwn.at {B : Nat} {w : World} {v0 v1 : Value} {x : Ev} (h : EvOwn B w v0 v1 x) : EvAt w v0 v1 x := ⟨StrsIn.at (CellsIn.own h.o0), IntsIn.at (CellsIn.own h.o1)⟩
theorem EvOwn.lo {B b : Nat} {w : World} {v0 v1 : Value} {x : Ev} (h : EvOwn B w v0 v1 x) (hb : b ≤ B) : EvOwn b w v0 v1 x := ⟨owns_lo h.o0 hb, owns_lo h.o1 hb, h.ap⟩
theorem EvOwn.turn {B T b : Nat} {w w' : World} {v0 v1 : Value} {x : Ev} (h : EvOwn b w v0 v1 x) (ht : Turn B T w w') (hb : T ≤ b) : EvOwn b w' v0 v1 x :=
  ⟨owns_eq h.o0 (fun i hi => ht.out i (Nat.le_trans hb (h.o0.lt i hi).1) (h.o0.lt i hi).2), owns_eq h.o1 (fun i hi => ht.out i (Nat.le_trans hb (h.o1.lt i hi).1) (h.o1.lt i hi).2), h.ap⟩
theorem EvOwn.low {B b : Nat} {w w' : World} {v0 v1 : Value} {x : Ev} (h : EvOwn b w v0 v1 x) (ht : Below B w w') (hb : (∀ i, v0.ownBlock = some i → i < B) ∧ (∀ i, v1.ownBlock = some i → i < B)) : EvOwn b w' v0 v1 x :=
  ⟨owns_eq h.o0 (fun i hi => ht.block i (hb.1 i hi)), owns_eq h.o1 (fun i hi => ht.block i (hb.2 i hi)), h.ap⟩
theorem EvOwn.lt {b : Nat} {w : World} {v0 v1 : Value} {x : Ev} (h : EvOwn b w v0 v1 x) : (∀ i, v0.ownBlock = some i → i < w.heap.size) ∧ (∀ i, v1.ownBlock = some i → i < w.heap.size) := ⟨fun i hi => (h.o0.lt i hi).2, fun i hi => (h.o1.lt i hi).2⟩
theorem EvOwn.boxed {B b i : Nat} {z : World} {v0 v1 : Value} {x : Ev} {cs : Array Value} {T : TypeId} (h : EvOwn B z v0 v1 x) (hb : Box z b cs T) (t3 : T ≠ 3) (t9 : T ≠ 9) (u : Value) : EvOwn B (z.setCell ⟨b, i, none⟩ u) v0 v1 x :=
  ⟨owns_eq h.o0 (fun g hg => Below.heap_setCell _ ⟨b, i, none⟩ _ g (fun e => Lib.ownBlock_ne h.o0 hb t9 (by rw [hg, e]))), owns_eq h.o1 (fun g hg => Below.heap_setCell _ ⟨b, i, none⟩ _ g (fun e => Lib.ownBlock_ne h.o1 hb t3 (by rw [hg, e]))), h.ap⟩
structure EvHeld (B : Nat) (w : World) (v0 v1 : Value) (n0 n1 : Nat) : Prop where
  o0 : w.ownsRow B 9 1 v0 n0 ((marks (1) n0).map S)
  o1 : w.ownsRow B 3 1 v1 n1 ((nMarks (1 + n0) n1).map I64)
theorem EvHeld.stays {B : Nat} {w w' : World} {v0 v1 : Value} {n0 n1 : Nat} (h : EvHeld B w v0 v1 n0 n1) (hb : Below w.heap.size w w') : EvHeld B w' v0 v1 n0 n1 := ⟨ownsInts_stays h.o0 hb, ownsInts_stays h.o1 hb⟩

set_option maxRecDepth 100000 in
set_option maxHeartbeats 4000000 in
theorem markEnv_any {B : Nat} (v0 v1 : Value) (x : Ev) (w : World) (h : EvOwn B w v0 v1 x) (n0 : Nat) (en0 : x.names.length = n0) (n1 : Nat) (en1 : x.vals.length = n1) (hB : B ≤ w.heap.size) (L0 : n0 ≤ 1048576) (L1 : n1 ≤ 1048576) :
    Calls Try.prog 10 #[.agg #[v0, v1], .int .i64 1] w fun e w' => e = .returned (.int .i64 ((1 + n0 + n1 : Nat) : Int)) ∧ EvHeld B w' v0 v1 n0 n1 ∧ Below B w w' ∧ (∀ c, c < w.heap.size → v0.ownBlock ≠ some c → v1.ownBlock ≠ some c → w'.heap[c]? = w.heap[c]?) := by
  have hb1 : Below w.heap.size w (w.alloc (.cells #[v0, v1] 27)) := (Below.refl _ _).alloc (Nat.le_refl _) _
  have HB0 : Hid (Below B w (w.alloc (.cells #[v0, v1] 27))) := hb1.mono hB
  have BX0 := hide (Box.made w #[v0, v1] 27)
  have OT0 : Hid (∀ c, c < w.heap.size → v0.ownBlock ≠ some c → v1.ownBlock ≠ some c → (w.alloc (.cells #[v0, v1] 27)).heap[c]? = w.heap[c]?) := fun c hc _ _ => hb1.block c hc
  have O0_0 := hide (ownsInts_stays h.o0 hb1)
  have OL0 : Hid (∀ i, v0.ownBlock = some i → i < w.heap.size) := fun i hi => (h.o0.lt i hi).2
  have O1_0 := hide (ownsInts_stays h.o1 hb1)
  have OL1 : Hid (∀ i, v1.ownBlock = some i → i < w.heap.size) := fun i hi => (h.o1.lt i hi).2
  have AP := hide h.ap
  rw [en0] at O0_0
  rw [en1] at O1_0
  obtain ⟨o0, c0, rfl⟩ := form_own O0_0.out
  obtain ⟨o1, c1, rfl⟩ := form_own O1_0.out
  obtain ⟨W1, hW⟩ : ∃ W1, w.alloc (.cells #[.slice o0 n0 c0, .slice o1 n1 c1] 27) = W1 := ⟨_, rfl⟩
  have HW := hide hW
  rw [hW] at HB0 BX0 OT0 O0_0 O1_0
  have q0 := Lib.cell_of_heap BX0.out 0
  simp at q0
  rw [← hW] at q0
  clear h hb1 hW
  go_enter Try.func10, Try.ntmps10
  go_wp2_with fail
  rw [HW.out]
  refine (markTexts_any _ n0 B (1) x.names _ L0 (by omega) (by omega) (Nat.le_trans hB HB0.out.size) O0_0.out).mono ?_
  rintro e z1 ⟨rfl, ho1, hb1, hk1⟩
  have HB1 := hide (HB0.out.trans hb1)
  have OT1 : Hid (∀ c, c < w.heap.size → (.slice o0 n0 c0 : Value).ownBlock ≠ some c → (.slice o1 n1 c1 : Value).ownBlock ≠ some c → z1.heap[c]? = w.heap[c]?) := fun c hc g0 g1 => (hk1 c (Nat.lt_of_lt_of_le hc HB0.out.size) g0).trans (OT0.out c hc g0 g1)
  have BX1 : Hid (Box z1 w.heap.size #[.slice o0 n0 c0, .slice o1 n1 c1] 27) := (hk1 _ BX0.out.lt (fun e => by have := OL0.out _ e; omega)).trans BX0.out
  have O1_1 := hide (owns_eq O1_0.out fun i hi => hk1 i (O1_0.out.lt i hi).2 (fun e => AP.out i e hi))
  have R0 := hide ho1
  clear ho1 hb1 hk1 q0
  have q1 := Lib.cell_of_heap BX1.out 1
  simp at q1
  go_wp2_with fail
  refine (markInts_any _ n1 B (1 + n0) x.vals _ L1 (by omega) O1_1.out).mono ?_
  rintro e z2 ⟨rfl, ho2, hb2, hk2⟩
  have HB2 := hide (HB1.out.trans hb2)
  have OT2 : Hid (∀ c, c < w.heap.size → (.slice o0 n0 c0 : Value).ownBlock ≠ some c → (.slice o1 n1 c1 : Value).ownBlock ≠ some c → z2.heap[c]? = w.heap[c]?) := fun c hc g0 g1 => (hk2 c g1).trans (OT1.out c hc g0 g1)
  have R0_2 := hide (owns_eq R0.out fun i hi => hk2 i (fun e => AP.out i hi e))
  have R1 := hide ho2
  clear ho2 hb2 hk2 q1
  go_wp2
  go_ret
  exact ⟨rfl, ⟨R0_2.out, R1.out⟩, HB2.out, OT2.out⟩

set_option maxRecDepth 100000 in
set_option maxHeartbeats 4000000 in
theorem heldEnv_any {B : Nat} (v0 v1 : Value) (w : World) (n0 : Nat) (n1 : Nat) (h : EvHeld B w v0 v1 n0 n1) (L0 : n0 ≤ 1048576) (L1 : n1 ≤ 1048576) :
    Calls Try.prog 11 #[.agg #[v0, v1], .int .i64 1] w fun e w' => e = .returned (.int .i64 ((1 + n0 + n1 : Nat) : Int)) ∧ Below w.heap.size w w' := by
  have hb1 : Below w.heap.size w (w.alloc (.cells #[v0, v1] 27)) := (Below.refl _ _).alloc (Nat.le_refl _) _
  have HB0 := hide hb1
  have BX0 := hide (Box.made w #[v0, v1] 27)
  have H0 := hide (h.stays hb1)
  obtain ⟨o0, c0, rfl⟩ := form_own h.o0
  obtain ⟨o1, c1, rfl⟩ := form_own h.o1
  obtain ⟨W1, hW⟩ : ∃ W1, w.alloc (.cells #[.slice o0 n0 c0, .slice o1 n1 c1] 27) = W1 := ⟨_, rfl⟩
  have HW := hide hW
  rw [hW] at HB0 BX0 H0
  have q0 := Lib.cell_of_heap BX0.out 0
  simp at q0
  rw [← hW] at q0
  clear h hb1 hW
  go_enter Try.func11, Try.ntmps11
  go_wp2_with fail
  rw [HW.out]
  refine (heldStrings_any _ n0 B (1) _ L0 (by omega) (by omega) H0.out.o0).mono ?_
  rintro e z1 ⟨rfl, hb1⟩
  have HB1 := hide (HB0.out.trans (hb1.mono HB0.out.size))
  have BX1 := hide (BX0.out.stays hb1)
  have H1 := hide (H0.out.stays hb1)
  have hnn1 : ¬ (((1 + n0 : Nat) : Int) < 0) := by omega
  clear hb1 q0
  have q1 := Lib.cell_of_heap BX1.out 1
  simp at q1
  go_wp2_with fail
  refine (heldInts_any _ n1 B (1 + n0) _ L1 (by omega) H1.out.o1).mono ?_
  rintro e z2 ⟨rfl, hb2⟩
  have HB2 := hide (HB1.out.trans (hb2.mono HB1.out.size))
  have BX2 := hide (BX1.out.stays hb2)
  have H2 := hide (H1.out.stays hb2)
  have hnn2 : ¬ (((1 + n0 + n1 : Nat) : Int) < 0) := by omega
  clear hb2 q1
  go_wp2
  go_ret
  exact ⟨rfl, HB2.out⟩

theorem cells_Ev : Try.prog.cellsOf 25 = 2 := by kernel_rfl
section
open Go.ChangeShapes Go.WideShapes Go.ChangeAt Go.Deep
variable {H : Type} {enc : TypeId × Value → H} {W : World}
set_option maxRecDepth 100000 in
theorem opens_Ev (fuel : Nat) (cs : List Value) (x : DataW H × List MemPlace) (h : DataW.trod enc Try.prog W 0 (fun _ => true) true fuel 25 cs = some x) : ∃ v0 v1 y, cs = [v0, v1] ∧ EvAt W v0 v1 y ∧ EvMax y := by
  obtain ⟨ys, k, _, _, hcl, hyl, hf⟩ := DataW.trod_struct Try.underlying25 h
  rw [cells_Ev] at hcl
  match ys, hyl, cs, hcl with
  | [y0, y1], _, [w0, w1], _ =>
    have g0 := hf 0 _ rfl
    have g1 := hf 1 _ rfl
    simp [cells_ints, cells_strs] at g0 g1
    obtain ⟨v0, l0, e0, a0, m0⟩ := opens_strs _ _ _ g0
    simp at e0
    subst e0
    obtain ⟨v1, l1, e1, a1, m1⟩ := opens_ints _ _ _ g1
    simp at e1
    subst e1
    exact ⟨_, _, ⟨l0, l1⟩, rfl, ⟨a0, a1⟩, ⟨m0, m1⟩⟩
end
end Go.Proofs.Ytmckcbgdkjbpfaa
