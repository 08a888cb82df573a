/-
  A flat struct (Places) by the laws' own helpers.
-/
import Derived.Test.YtgeomgghecmkbaaLawE
import Derived.Test.YtgeomgghecmkbaaLawZ
import Derived.Test.YtgeomgghecmkbaaLawJ
import Derived.Test.YtgeomgghecmkbaaMarkW
import Derived.Test.YtgeomgghecmkbaaMarkI
namespace Go.Proofs.Ytgeomgghecmkbaa
open Go.RowKit

structure Plc where
  names : List ByteArray
  ats : List Int
structure PlcAt (w : World) (v0 v1 : Value) (x : Plc) : Prop where
  a0 : StrsAt w v0 x.names
  a1 : IntsAt w v1 x.ats
theorem PlcAt.stays {w w' : World} {v0 v1 : Value} {x : Plc} (h : PlcAt w v0 v1 x) (hb : Below w.heap.size w w') : PlcAt w' v0 v1 x := ⟨h.a0.stays hb, h.a1.stays hb⟩
def PlcC (base : Nat) (w : World) (cs : List Value) (x : Plc) : Prop := ∃ v0 v1, cs = [v0, v1] ∧ StrsIn base w v0 x.names ∧ IntsIn base w v1 x.ats
structure PlcMax (x : Plc) : Prop where
  m0 : StrsMax x.names
  m1 : IntsMax x.ats
structure PlcLen (x : Plc) : Prop where
  l0 : x.names.length ≤ 1048576
  l1 : x.ats.length ≤ 1048576
def szPlc (x : Plc) : Nat := szStrs x.names + x.ats.length
theorem szPlc_len {x : Plc} (h : szPlc x ≤ 1048576) : PlcLen x := by
  unfold szPlc at h
  unfold szStrs at h
  exact ⟨by omega, by omega⟩
set_option maxRecDepth 100000 in
set_option maxHeartbeats 1000000 in
theorem szPlaces_any (x : Plc) (v0 v1 : Value) (l : Int) (w : World) (h0 : 0 ≤ l) (h1 : l ≤ 1048576) (k0 : StrsAt w v0 x.names) (k1 : IntsAt w v1 x.ats) (hm : PlcMax x) :
    Calls Try.prog 4 #[.agg #[v0, v1], .int .i64 l] w fun e w' => ∃ r : Int, e = .returned (.int .i64 r) ∧ (r < 0 ∨ (0 ≤ r ∧ r + (szPlc x : Nat) = l)) ∧ Below w.heap.size w w' := by
  have HM := hide hm
  have HU : Hid (szPlc x = szStrs x.names + x.ats.length) := rfl
  have B0 := hide (Box.made w #[v0, v1] 25)
  have BB : Hid (Below w.heap.size w (w.alloc (.cells #[v0, v1] 25))) := (Below.refl _ _).alloc (Nat.le_refl _) _
  have C0 := fun l w h0 h1 k => hide (szStringS_any v0 x.names l w h0 h1 k hm.m0)
  have K0 := hide k0
  obtain ⟨o0, c0, rfl, _⟩ := k0
  have C1 := fun l w h0 h1 k => hide (szIntS_any v1 x.ats l w h0 h1 k hm.m1)
  have K1 := hide k1
  obtain ⟨o1, c1, rfl, _⟩ := k1
  clear hm
  go_enter Try.func4, Try.ntmps4
  go_wp2_with fail
  refine (unhide (C0 (l) _ (by omega) (by omega) (K0.out.stays BB.out))).mono ?_
  rintro e z0 ⟨r0, rfl, hr0, hb0⟩
  have B1 := hide (B0.out.stays hb0)
  have BB1 := hide (BB.out.trans (hb0.mono BB.out.size))
  have p0 := Lib.cell_of_heap B1.out 0
  have p1 := Lib.cell_of_heap B1.out 1
  simp at p0 p1
  clear hb0
  by_cases q0 : r0 < 0
  · clear hr0
    go_wp2
    go_ret
    exact ⟨-1, rfl, .inl (by omega), BB1.out⟩
  obtain ⟨e0, f0⟩ := hr0.resolve_left q0
  have F0 := hide f0
  have x0 : r0 ≤ 1048576 := by omega
  clear f0 hr0
  go_wp2_with fail
  clear p0 p1
  refine (unhide (C1 (r0) _ (by omega) (by omega) (K1.out.stays BB1.out))).mono ?_
  rintro e z1 ⟨r1, rfl, hr1, hb1⟩
  have B2 := hide (B1.out.stays hb1)
  have BB2 := hide (BB1.out.trans (hb1.mono BB1.out.size))
  have p0 := Lib.cell_of_heap B2.out 0
  have p1 := Lib.cell_of_heap B2.out 1
  simp at p0 p1
  clear hb1
  by_cases q1 : r1 < 0
  · clear hr1
    go_wp2
    go_ret
    exact ⟨-1, rfl, .inl (by omega), BB2.out⟩
  obtain ⟨e1, f1⟩ := hr1.resolve_left q1
  have F1 := hide f1
  have x1 : r1 ≤ 1048576 := by omega
  clear f1 hr1
  go_wp2
  go_ret
  exact ⟨r1, rfl, .inr ⟨by omega, by
    rw [HU.out]
    have q := HM.out
    have := F0.out
    have := F1.out
    omega⟩, BB2.out⟩

set_option maxRecDepth 100000 in
set_option maxHeartbeats 2000000 in
theorem toPlaces_any (x : Plc) (v0 v1 : Value) (w : World) (h0 : StrsAt w v0 x.names) (h1 : IntsAt w v1 x.ats) (l0 : x.names.length ≤ 1048576) (l1 : x.ats.length ≤ 1048576) :
    Calls Try.prog 6 #[.agg #[v0, v1]] w fun e w' => ∃ o0 n0 c0 o1 n1 c1, e = .returned (.agg #[.slice o0 n0 c0, .slice o1 n1 c1]) ∧ PlcC w.heap.size w' [.slice o0 n0 c0, .slice o1 n1 c1] x ∧ Below w.heap.size w w' := by
  have C0 := fun w h => hide (toStringS_any v0 x.names w h l0)
  have H0 := hide h0
  have C1 := fun w h => hide (toIntS_any v1 x.ats w h l1)
  have H1 := hide h1
  have T := hide (ThreeB.start w #[v0, v1] #[.slice none 0 0, .slice none 0 0] #[.slice none 0 0, .slice none 0 0] 25 28)
  obtain ⟨a0, b0, rfl, _⟩ := h0
  obtain ⟨a1, b1, rfl, _⟩ := h1
  go_enter Try.func6, Try.ntmps6
  go_wp2_with fail
  refine (unhide (C0 _ (H0.out.stays T.out.bel))).mono ?_
  rintro e z0 ⟨v0, rfl, hv0, hb0⟩
  have S0 := hide (T.out.stays hb0)
  have V0 : Hid (StrsIn (w.heap.size + 3) z0 v0 x.names) := hv0.mono T.out.lt
  obtain ⟨o0, n0, c0, rfl⟩ := hv0.form
  have p0 := Lib.cell_of_heap S0.out.bA 0
  have q0 := Lib.cell_of_heap S0.out.bZ 0
  have r0 := Lib.cell_of_heap S0.out.bO 0
  have s0 := Lib.frozen_of_heap S0.out.bZ 0
  have t0 := Lib.frozen_of_heap S0.out.bO 0
  have p1 := Lib.cell_of_heap S0.out.bA 1
  have q1 := Lib.cell_of_heap S0.out.bZ 1
  have r1 := Lib.cell_of_heap S0.out.bO 1
  have s1 := Lib.frozen_of_heap S0.out.bZ 1
  have t1 := Lib.frozen_of_heap S0.out.bO 1
  simp at p0 q0 r0 p1 q1 r1
  clear hb0 hv0 T C0 H0
  have T0 := hide (S0.out.put 0 (.slice o0 n0 c0))
  have V0 := hide (V0.out.kept (ThreeB.kept 0 (.slice o0 n0 c0)))
  go_wp2_with fail
  clear p0 q0 r0 s0 t0 p1 q1 r1 s1 t1
  refine (unhide (C1 _ (H1.out.stays T0.out.bel))).mono ?_
  rintro e z1 ⟨v1, rfl, hv1, hb1⟩
  have S1 := hide (T0.out.stays hb1)
  have V0 := hide (V0.out.kept (KeptFrom.below hb1))
  have V1 : Hid (IntsIn (w.heap.size + 3) z1 v1 x.ats) := hv1.mono T0.out.lt
  obtain ⟨o1, n1, c1, rfl⟩ := hv1.form
  have p0 := Lib.cell_of_heap S1.out.bA 0
  have q0 := Lib.cell_of_heap S1.out.bZ 0
  have r0 := Lib.cell_of_heap S1.out.bO 0
  have s0 := Lib.frozen_of_heap S1.out.bZ 0
  have t0 := Lib.frozen_of_heap S1.out.bO 0
  have p1 := Lib.cell_of_heap S1.out.bA 1
  have q1 := Lib.cell_of_heap S1.out.bZ 1
  have r1 := Lib.cell_of_heap S1.out.bO 1
  have s1 := Lib.frozen_of_heap S1.out.bZ 1
  have t1 := Lib.frozen_of_heap S1.out.bO 1
  simp at p0 q0 r0 p1 q1 r1
  clear hb1 hv1 T0 C1 H1
  have T1 := hide (S1.out.put 1 (.slice o1 n1 c1))
  have V0 := hide (V0.out.kept (ThreeB.kept 1 (.slice o1 n1 c1)))
  have V1 := hide (V1.out.kept (ThreeB.kept 1 (.slice o1 n1 c1)))
  go_wp2
  refine box_ret (g := w.heap.size + 1) (t := 28) (cs := #[.slice o0 n0 c0, .slice o1 n1 c1]) rfl rfl ?_ _ Try.underlying28 rfl (by kernel_rfl) rfl ?_
  · simpa using ((T1.out.bZ.set 0 _).set 1 _)
  · refine ⟨_, _, _, _, _, _, rfl, ⟨_, _, rfl, ?_, ?_⟩, ?_⟩
    · refine CellsIn.mono (base := w.heap.size + 3) ?_ (by omega)
      iterate 2 refine CellsIn.kept ?_ (ThreeB.keptR _ _)
      exact V0.out
    · refine CellsIn.mono (base := w.heap.size + 3) ?_ (by omega)
      iterate 2 refine CellsIn.kept ?_ (ThreeB.keptR _ _)
      exact V1.out
    · iterate 2 refine Below.setCell ?_ (by dsimp only; omega) _
      exact T1.out.bel

set_option maxRecDepth 100000 in
set_option maxHeartbeats 1000000 in
theorem eqPlaces_same (x : Plc) (p0 q0 p1 q1 : Value) (w : World) (h0 : StrsAt w p0 x.names) (k0 : StrsAt w q0 x.names) (h1 : IntsAt w p1 x.ats) (k1 : IntsAt w q1 x.ats) (l0 : x.names.length ≤ 1048576) (l1 : x.ats.length ≤ 1048576) :
    Calls Try.prog 8 #[.agg #[p0, p1], .agg #[q0, q1]] w fun e w' => e = .returned (.bool true) ∧ Below w.heap.size w w' := by
  have C0 := fun w h k => hide (eqStringS_same p0 q0 x.names w h k l0)
  have H0 := hide h0
  have K0 := hide k0
  have C1 := fun w h k => hide (eqIntS_same p1 q1 x.ats w h k l1)
  have H1 := hide h1
  have K1 := hide k1
  have T := hide (TwoB.start w #[p0, p1] #[q0, q1] 28)
  obtain ⟨ao0, ac0, rfl, _⟩ := h0
  obtain ⟨bo0, bc0, rfl, _⟩ := k0
  obtain ⟨ao1, ac1, rfl, _⟩ := h1
  obtain ⟨bo1, bc1, rfl, _⟩ := k1
  go_enter Try.func8, Try.ntmps8
  go_wp2_with fail
  refine (unhide (C0 _ (H0.out.stays T.out.bel) (K0.out.stays T.out.bel))).mono ?_
  rintro e z0 ⟨rfl, hb0⟩
  have T0 := hide (T.out.stays hb0)
  have r0 := Lib.cell_of_heap T0.out.bA 0
  have s0 := Lib.cell_of_heap T0.out.bB 0
  have r1 := Lib.cell_of_heap T0.out.bA 1
  have s1 := Lib.cell_of_heap T0.out.bB 1
  simp at r0 s0 r1 s1
  clear hb0
  go_wp2_with fail
  clear r0 s0 r1 s1
  refine (unhide (C1 _ (H1.out.stays T0.out.bel) (K1.out.stays T0.out.bel))).mono ?_
  rintro e z1 ⟨rfl, hb1⟩
  have T1 := hide (T0.out.stays hb1)
  have r0 := Lib.cell_of_heap T1.out.bA 0
  have s0 := Lib.cell_of_heap T1.out.bB 0
  have r1 := Lib.cell_of_heap T1.out.bA 1
  have s1 := Lib.cell_of_heap T1.out.bB 1
  simp at r0 s0 r1 s1
  clear hb1
  go_wp2
  go_ret
  exact ⟨rfl, T1.out.bel⟩


theorem PlcC.kept {base : Nat} {w w' : World} {cs : List Value} {x : Plc} (h : PlcC base w cs x) (k : KeptFrom base w w') : PlcC base w' cs x := by
  obtain ⟨v0, v1, e, h0, h1⟩ := h
  exact ⟨v0, v1, e, h0.kept k, h1.kept k⟩
theorem PlcC.stays {base : Nat} {w w' : World} {cs : List Value} {x : Plc} (h : PlcC base w cs x) (hb : Below w.heap.size w w') : PlcC base w' cs x := h.kept (KeptFrom.below hb)
theorem PlcC.at {base : Nat} {w : World} {v0 v1 : Value} {x : Plc} (h : PlcC base w [v0, v1] x) : PlcAt w v0 v1 x := by
  obtain ⟨v0', v1', e, h0, h1⟩ := h
  injection e with e0 e
  injection e with e1 _
  subst e0 e1
  exact ⟨h0.at, h1.at⟩
theorem PlcC.form {base : Nat} {w : World} {cs : List Value} {x : Plc} (h : PlcC base w cs x) : ∃ o0 c0 o1 c1, cs = [.slice o0 x.names.length c0, .slice o1 x.ats.length c1] := by
  obtain ⟨v0, v1, e, h0, h1⟩ := h
  obtain ⟨o0, c0, rfl, _⟩ := h0.at
  obtain ⟨o1, c1, rfl, _⟩ := h1.at
  exact ⟨_, _, _, _, e⟩
structure PlcSh (B T : Nat) (w : World) (v0 v1 : Value) (x : Plc) : Prop where
  s0 : ShR B T 1 fStr x.names.length w v0
  s1 : ShR B T 1 fInt x.ats.length w v1
theorem PlcSh.turn {B T B' T' : Nat} {w w' : World} {v0 v1 : Value} {x : Plc} (h : PlcSh B T w v0 v1 x) (ht : Turn B' T' w w') : PlcSh B T w' v0 v1 x := ⟨h.s0.turn ht fun i _ => fStr_s i, h.s1.turn ht fun i _ => fInt_s i⟩
theorem PlcSh.stays {B T : Nat} {w w' : World} {v0 v1 : Value} {x : Plc} (h : PlcSh B T w v0 v1 x) (hb : Below w.heap.size w w') : PlcSh B T w' v0 v1 x := h.turn (T' := 0) (Turn.below hb (Nat.le_refl _))
theorem PlcC.sh {base T : Nat} {w : World} {v0 v1 : Value} {x : Plc} (h : PlcC base w [v0, v1] x) (hT : w.heap.size ≤ T) : PlcSh base T w v0 v1 x := by
  obtain ⟨v0', v1', e, h0, h1⟩ := h
  injection e with e0 e
  injection e with e1 _
  subst e0 e1
  exact ⟨CellsIn.shT h0 hT, CellsIn.shI h1 hT⟩
/-- An answer that owns its rows, from a base on, each in a block of its own. -/
structure PlcOwn (B : Nat) (w : World) (v0 v1 : Value) (x : Plc) : Prop where
  o0 : w.ownsRow B 9 1 v0 x.names.length (x.names.map S)
  o1 : w.ownsRow B 3 1 v1 x.ats.length (x.ats.map I64)
  ap : ∀ i, v0.ownBlock = some i → v1.ownBlock ≠ some i
theorem PlcOwn.stays {B : Nat} {w w' : World} {v0 v1 : Value} {x : Plc} (h : PlcOwn B w v0 v1 x) (hb : Below w.heap.size w w') : PlcOwn B w' v0 v1 x := ⟨ownsInts_stays h.o0 hb, ownsInts_stays h.o1 hb, h.ap⟩
theorem PlcOwn.at {B : Nat} {w : World} {v0 v1 : Value} {x : Plc} (h : PlcOwn B w v0 v1 x) : PlcAt w v0 v1 x := ⟨StrsIn.at (CellsIn.own h.o0), IntsIn.at (CellsIn.own h.o1)⟩
theorem PlcOwn.lo {B b : Nat} {w : World} {v0 v1 : Value} {x : Plc} (h : PlcOwn B w v0 v1 x) (hb : b ≤ B) : PlcOwn b w v0 v1 x := ⟨owns_lo h.o0 hb, owns_lo h.o1 hb, h.ap⟩
theorem PlcOwn.turn {B T b : Nat} {w w' : World} {v0 v1 : Value} {x : Plc} (h : PlcOwn b w v0 v1 x) (ht : Turn B T w w') (hb : T ≤ b) : PlcOwn b w' v0 v1 x :=
  ⟨owns_eq h.o0 (fun i hi => ht.out i (Nat.le_trans hb (h.o0.lt i hi).1) (h.o0.lt i hi).2), owns_eq h.o1 (fun i hi => ht.out i (Nat.le_trans hb (h.o1.lt i hi).1) (h.o1.lt i hi).2), h.ap⟩
theorem PlcOwn.low {B b : Nat} {w w' : World} {v0 v1 : Value} {x : Plc} (h : PlcOwn b w v0 v1 x) (ht : Below B w w') (hb : (∀ i, v0.ownBlock = some i → i < B) ∧ (∀ i, v1.ownBlock = some i → i < B)) : PlcOwn b w' v0 v1 x :=
  ⟨owns_eq h.o0 (fun i hi => ht.block i (hb.1 i hi)), owns_eq h.o1 (fun i hi => ht.block i (hb.2 i hi)), h.ap⟩
theorem PlcOwn.lt {b : Nat} {w : World} {v0 v1 : Value} {x : Plc} (h : PlcOwn b w v0 v1 x) : (∀ i, v0.ownBlock = some i → i < w.heap.size) ∧ (∀ i, v1.ownBlock = some i → i < w.heap.size) := ⟨fun i hi => (h.o0.lt i hi).2, fun i hi => (h.o1.lt i hi).2⟩
theorem PlcOwn.boxed {B b i : Nat} {z : World} {v0 v1 : Value} {x : Plc} {cs : Array Value} {T : TypeId} (h : PlcOwn B z v0 v1 x) (hb : Box z b cs T) (t3 : T ≠ 3) (t9 : T ≠ 9) (u : Value) : PlcOwn B (z.setCell ⟨b, i, none⟩ u) v0 v1 x :=
  ⟨owns_eq h.o0 (fun g hg => Below.heap_setCell _ ⟨b, i, none⟩ _ g (fun e => Lib.ownBlock_ne h.o0 hb t9 (by rw [hg, e]))), owns_eq h.o1 (fun g hg => Below.heap_setCell _ ⟨b, i, none⟩ _ g (fun e => Lib.ownBlock_ne h.o1 hb t3 (by rw [hg, e]))), h.ap⟩
structure PlcHeld (B : Nat) (w : World) (v0 v1 : Value) (n0 n1 : Nat) : Prop where
  o0 : w.ownsRow B 9 1 v0 n0 ((marks (1) n0).map S)
  o1 : w.ownsRow B 3 1 v1 n1 ((nMarks (1 + n0) n1).map I64)
theorem PlcHeld.stays {B : Nat} {w w' : World} {v0 v1 : Value} {n0 n1 : Nat} (h : PlcHeld B w v0 v1 n0 n1) (hb : Below w.heap.size w w') : PlcHeld B w' v0 v1 n0 n1 := ⟨ownsInts_stays h.o0 hb, ownsInts_stays h.o1 hb⟩

theorem cells_Plc : Try.prog.cellsOf 25 = 2 := by kernel_rfl
section
open Go.ChangeShapes Go.WideShapes Go.ChangeAt Go.Deep
variable {H : Type} {enc : TypeId × Value → H} {W : World}
set_option maxRecDepth 100000 in
theorem opens_Plc (fuel : Nat) (cs : List Value) (x : DataW H × List MemPlace) (h : DataW.trod enc Try.prog W 0 (fun _ => true) true fuel 25 cs = some x) : ∃ v0 v1 y, cs = [v0, v1] ∧ PlcAt W v0 v1 y ∧ PlcMax y := by
  obtain ⟨ys, k, _, _, hcl, hyl, hf⟩ := DataW.trod_struct Try.underlying25 h
  rw [cells_Plc] at hcl
  match ys, hyl, cs, hcl with
  | [y0, y1], _, [w0, w1], _ =>
    have g0 := hf 0 _ rfl
    have g1 := hf 1 _ rfl
    simp [cells_ints, cells_strs] at g0 g1
    obtain ⟨v0, l0, e0, a0, m0⟩ := opens_strs _ _ _ g0
    simp at e0
    subst e0
    obtain ⟨v1, l1, e1, a1, m1⟩ := opens_ints _ _ _ g1
    simp at e1
    subst e1
    exact ⟨_, _, ⟨l0, l1⟩, rfl, ⟨a0, a1⟩, ⟨m0, m1⟩⟩
end
end Go.Proofs.Ytgeomgghecmkbaa
