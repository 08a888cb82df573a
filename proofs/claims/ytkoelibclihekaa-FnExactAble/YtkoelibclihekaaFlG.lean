/-
  A flat struct (Gate) by the laws' own helpers.
-/
import Derived.Test.YtkoelibclihekaaLawE
import Derived.Test.YtkoelibclihekaaLawZ
import Derived.Test.YtkoelibclihekaaLawJ
import Derived.Test.YtkoelibclihekaaTurnW
import Derived.Test.YtkoelibclihekaaMarkI
namespace Go.Proofs.Ytkoelibclihekaa
open Go.RowKit

structure Gt where
  owner : Int
  waits : List Int
  queues : List Int
structure GtAt (w : World) (v1 v2 : Value) (x : Gt) : Prop where
  a1 : IntsAt w v1 x.waits
  a2 : IntsAt w v2 x.queues
theorem GtAt.stays {w w' : World} {v1 v2 : Value} {x : Gt} (h : GtAt w v1 v2 x) (hb : Below w.heap.size w w') : GtAt w' v1 v2 x := ⟨h.a1.stays hb, h.a2.stays hb⟩
def GtC (base : Nat) (w : World) (cs : List Value) (x : Gt) : Prop := ∃ v1 v2, cs = [.int .i64 x.owner, v1, v2] ∧ IntsIn base w v1 x.waits ∧ IntsIn base w v2 x.queues
structure GtMax (x : Gt) : Prop where
  m1 : IntsMax x.waits
  m2 : IntsMax x.queues
structure GtLen (x : Gt) : Prop where
  l1 : x.waits.length ≤ 1048576
  l2 : x.queues.length ≤ 1048576
def szGt (x : Gt) : Nat := x.waits.length + x.queues.length
theorem szGt_len {x : Gt} (h : szGt x ≤ 1048576) : GtLen x := by
  unfold szGt at h
  exact ⟨by omega, by omega⟩
set_option maxRecDepth 100000 in
set_option maxHeartbeats 1000000 in
theorem szGate_any (x : Gt) (v1 v2 : Value) (l : Int) (w : World) (h0 : 0 ≤ l) (h1 : l ≤ 1048576) (k1 : IntsAt w v1 x.waits) (k2 : IntsAt w v2 x.queues) (hm : GtMax x) :
    Calls Try.prog 44 #[.agg #[.int .i64 x.owner, v1, v2], .int .i64 l] w fun e w' => ∃ r : Int, e = .returned (.int .i64 r) ∧ (r < 0 ∨ (0 ≤ r ∧ r + (szGt x : Nat) = l)) ∧ Below w.heap.size w w' := by
  have HM := hide hm
  have HU : Hid (szGt x = x.waits.length + x.queues.length) := rfl
  have B0 := hide (Box.made w #[.int .i64 x.owner, v1, v2] 95)
  have BB : Hid (Below w.heap.size w (w.alloc (.cells #[.int .i64 x.owner, v1, v2] 95))) := (Below.refl _ _).alloc (Nat.le_refl _) _
  have C1 := fun l w h0 h1 k => hide (szIntS_any v1 x.waits l w h0 h1 k hm.m1)
  have K1 := hide k1
  obtain ⟨o1, c1, rfl, _⟩ := k1
  have C2 := fun l w h0 h1 k => hide (szIntS_any v2 x.queues l w h0 h1 k hm.m2)
  have K2 := hide k2
  obtain ⟨o2, c2, rfl, _⟩ := k2
  clear hm
  go_enter Try.func44, Try.ntmps44
  go_wp2_with fail
  refine (unhide (C1 (l) _ (by omega) (by omega) (K1.out.stays BB.out))).mono ?_
  rintro e z0 ⟨r0, rfl, hr0, hb0⟩
  have B1 := hide (B0.out.stays hb0)
  have BB1 := hide (BB.out.trans (hb0.mono BB.out.size))
  have p0 := Lib.cell_of_heap B1.out 0
  have p1 := Lib.cell_of_heap B1.out 1
  have p2 := Lib.cell_of_heap B1.out 2
  simp at p0 p1 p2
  clear hb0
  by_cases q0 : r0 < 0
  · clear hr0
    go_wp2
    go_ret
    exact ⟨-1, rfl, .inl (by omega), BB1.out⟩
  obtain ⟨e0, f0⟩ := hr0.resolve_left q0
  have F0 := hide f0
  have x0 : r0 ≤ 1048576 := by omega
  clear f0 hr0
  go_wp2_with fail
  clear p0 p1 p2
  refine (unhide (C2 (r0) _ (by omega) (by omega) (K2.out.stays BB1.out))).mono ?_
  rintro e z1 ⟨r1, rfl, hr1, hb1⟩
  have B2 := hide (B1.out.stays hb1)
  have BB2 := hide (BB1.out.trans (hb1.mono BB1.out.size))
  have p0 := Lib.cell_of_heap B2.out 0
  have p1 := Lib.cell_of_heap B2.out 1
  have p2 := Lib.cell_of_heap B2.out 2
  simp at p0 p1 p2
  clear hb1
  by_cases q1 : r1 < 0
  · clear hr1
    go_wp2
    go_ret
    exact ⟨-1, rfl, .inl (by omega), BB2.out⟩
  obtain ⟨e1, f1⟩ := hr1.resolve_left q1
  have F1 := hide f1
  have x1 : r1 ≤ 1048576 := by omega
  clear f1 hr1
  go_wp2
  go_ret
  exact ⟨r1, rfl, .inr ⟨by omega, by
    rw [HU.out]
    have q := HM.out
    have := F0.out
    have := F1.out
    omega⟩, BB2.out⟩

set_option maxRecDepth 100000 in
set_option maxHeartbeats 2000000 in
theorem toGate_any (x : Gt) (v1 v2 : Value) (w : World) (h1 : IntsAt w v1 x.waits) (h2 : IntsAt w v2 x.queues) (l1 : x.waits.length ≤ 1048576) (l2 : x.queues.length ≤ 1048576) :
    Calls Try.prog 50 #[.agg #[.int .i64 x.owner, v1, v2]] w fun e w' => ∃ o1 n1 c1 o2 n2 c2, e = .returned (.agg #[.int .i64 x.owner, .slice o1 n1 c1, .slice o2 n2 c2]) ∧ GtC w.heap.size w' [.int .i64 x.owner, .slice o1 n1 c1, .slice o2 n2 c2] x ∧ Below w.heap.size w w' := by
  have C1 := fun w h => hide (toIntS_any v1 x.waits w h l1)
  have H1 := hide h1
  have C2 := fun w h => hide (toIntS_any v2 x.queues w h l2)
  have H2 := hide h2
  have T := hide (ThreeB.start w #[.int .i64 x.owner, v1, v2] #[.int .i64 0, .slice none 0 0, .slice none 0 0] #[.int .i64 x.owner, .slice none 0 0, .slice none 0 0] 95 101)
  obtain ⟨a1, b1, rfl, _⟩ := h1
  obtain ⟨a2, b2, rfl, _⟩ := h2
  go_enter Try.func50, Try.ntmps50
  go_wp2_with fail
  refine (unhide (C1 _ (H1.out.stays T.out.bel))).mono ?_
  rintro e z1 ⟨v1, rfl, hv1, hb1⟩
  have S1 := hide (T.out.stays hb1)
  have V1 : Hid (IntsIn (w.heap.size + 3) z1 v1 x.waits) := hv1.mono T.out.lt
  obtain ⟨o1, n1, c1, rfl⟩ := hv1.form
  have p0 := Lib.cell_of_heap S1.out.bA 0
  have q0 := Lib.cell_of_heap S1.out.bZ 0
  have r0 := Lib.cell_of_heap S1.out.bO 0
  have s0 := Lib.frozen_of_heap S1.out.bZ 0
  have t0 := Lib.frozen_of_heap S1.out.bO 0
  have p1 := Lib.cell_of_heap S1.out.bA 1
  have q1 := Lib.cell_of_heap S1.out.bZ 1
  have r1 := Lib.cell_of_heap S1.out.bO 1
  have s1 := Lib.frozen_of_heap S1.out.bZ 1
  have t1 := Lib.frozen_of_heap S1.out.bO 1
  have p2 := Lib.cell_of_heap S1.out.bA 2
  have q2 := Lib.cell_of_heap S1.out.bZ 2
  have r2 := Lib.cell_of_heap S1.out.bO 2
  have s2 := Lib.frozen_of_heap S1.out.bZ 2
  have t2 := Lib.frozen_of_heap S1.out.bO 2
  simp at p0 q0 r0 p1 q1 r1 p2 q2 r2
  clear hb1 hv1 T C1 H1
  have T1 := hide (S1.out.put 1 (.slice o1 n1 c1))
  have V1 := hide (V1.out.kept (ThreeB.kept 1 (.slice o1 n1 c1)))
  go_wp2_with fail
  clear p0 q0 r0 s0 t0 p1 q1 r1 s1 t1 p2 q2 r2 s2 t2
  refine (unhide (C2 _ (H2.out.stays T1.out.bel))).mono ?_
  rintro e z2 ⟨v2, rfl, hv2, hb2⟩
  have S2 := hide (T1.out.stays hb2)
  have V1 := hide (V1.out.kept (KeptFrom.below hb2))
  have V2 : Hid (IntsIn (w.heap.size + 3) z2 v2 x.queues) := hv2.mono T1.out.lt
  obtain ⟨o2, n2, c2, rfl⟩ := hv2.form
  have p0 := Lib.cell_of_heap S2.out.bA 0
  have q0 := Lib.cell_of_heap S2.out.bZ 0
  have r0 := Lib.cell_of_heap S2.out.bO 0
  have s0 := Lib.frozen_of_heap S2.out.bZ 0
  have t0 := Lib.frozen_of_heap S2.out.bO 0
  have p1 := Lib.cell_of_heap S2.out.bA 1
  have q1 := Lib.cell_of_heap S2.out.bZ 1
  have r1 := Lib.cell_of_heap S2.out.bO 1
  have s1 := Lib.frozen_of_heap S2.out.bZ 1
  have t1 := Lib.frozen_of_heap S2.out.bO 1
  have p2 := Lib.cell_of_heap S2.out.bA 2
  have q2 := Lib.cell_of_heap S2.out.bZ 2
  have r2 := Lib.cell_of_heap S2.out.bO 2
  have s2 := Lib.frozen_of_heap S2.out.bZ 2
  have t2 := Lib.frozen_of_heap S2.out.bO 2
  simp at p0 q0 r0 p1 q1 r1 p2 q2 r2
  clear hb2 hv2 T1 C2 H2
  have T2 := hide (S2.out.put 2 (.slice o2 n2 c2))
  have V1 := hide (V1.out.kept (ThreeB.kept 2 (.slice o2 n2 c2)))
  have V2 := hide (V2.out.kept (ThreeB.kept 2 (.slice o2 n2 c2)))
  go_wp2
  refine box_ret (g := w.heap.size + 1) (t := 101) (cs := #[.int .i64 x.owner, .slice o1 n1 c1, .slice o2 n2 c2]) rfl rfl ?_ _ Try.underlying101 rfl (by kernel_rfl) rfl ?_
  · simpa using (((T2.out.bZ.set 0 _).set 1 _).set 2 _)
  · refine ⟨_, _, _, _, _, _, rfl, ⟨_, _, rfl, ?_, ?_⟩, ?_⟩
    · refine CellsIn.mono (base := w.heap.size + 3) ?_ (by omega)
      iterate 3 refine CellsIn.kept ?_ (ThreeB.keptR _ _)
      exact V1.out
    · refine CellsIn.mono (base := w.heap.size + 3) ?_ (by omega)
      iterate 3 refine CellsIn.kept ?_ (ThreeB.keptR _ _)
      exact V2.out
    · iterate 3 refine Below.setCell ?_ (by dsimp only; omega) _
      exact T2.out.bel

set_option maxRecDepth 100000 in
set_option maxHeartbeats 1000000 in
theorem eqGate_same (x : Gt) (p1 q1 p2 q2 : Value) (w : World) (h1 : IntsAt w p1 x.waits) (k1 : IntsAt w q1 x.waits) (h2 : IntsAt w p2 x.queues) (k2 : IntsAt w q2 x.queues) (l1 : x.waits.length ≤ 1048576) (l2 : x.queues.length ≤ 1048576) :
    Calls Try.prog 57 #[.agg #[.int .i64 x.owner, p1, p2], .agg #[.int .i64 x.owner, q1, q2]] w fun e w' => e = .returned (.bool true) ∧ Below w.heap.size w w' := by
  have C1 := fun w h k => hide (eqIntS_same p1 q1 x.waits w h k l1)
  have H1 := hide h1
  have K1 := hide k1
  have C2 := fun w h k => hide (eqIntS_same p2 q2 x.queues w h k l2)
  have H2 := hide h2
  have K2 := hide k2
  have T := hide (TwoB.start w #[.int .i64 x.owner, p1, p2] #[.int .i64 x.owner, q1, q2] 101)
  obtain ⟨ao1, ac1, rfl, _⟩ := h1
  obtain ⟨bo1, bc1, rfl, _⟩ := k1
  obtain ⟨ao2, ac2, rfl, _⟩ := h2
  obtain ⟨bo2, bc2, rfl, _⟩ := k2
  go_enter Try.func57, Try.ntmps57
  go_wp2_with fail
  refine (unhide (C1 _ (H1.out.stays T.out.bel) (K1.out.stays T.out.bel))).mono ?_
  rintro e z1 ⟨rfl, hb1⟩
  have T1 := hide (T.out.stays hb1)
  have r0 := Lib.cell_of_heap T1.out.bA 0
  have s0 := Lib.cell_of_heap T1.out.bB 0
  have r1 := Lib.cell_of_heap T1.out.bA 1
  have s1 := Lib.cell_of_heap T1.out.bB 1
  have r2 := Lib.cell_of_heap T1.out.bA 2
  have s2 := Lib.cell_of_heap T1.out.bB 2
  simp at r0 s0 r1 s1 r2 s2
  clear hb1
  go_wp2_with fail
  clear r0 s0 r1 s1 r2 s2
  refine (unhide (C2 _ (H2.out.stays T1.out.bel) (K2.out.stays T1.out.bel))).mono ?_
  rintro e z2 ⟨rfl, hb2⟩
  have T2 := hide (T1.out.stays hb2)
  have r0 := Lib.cell_of_heap T2.out.bA 0
  have s0 := Lib.cell_of_heap T2.out.bB 0
  have r1 := Lib.cell_of_heap T2.out.bA 1
  have s1 := Lib.cell_of_heap T2.out.bB 1
  have r2 := Lib.cell_of_heap T2.out.bA 2
  have s2 := Lib.cell_of_heap T2.out.bB 2
  simp at r0 s0 r1 s1 r2 s2
  clear hb2
  go_wp2
  go_ret
  exact ⟨rfl, T2.out.bel⟩


theorem GtC.kept {base : Nat} {w w' : World} {cs : List Value} {x : Gt} (h : GtC base w cs x) (k : KeptFrom base w w') : GtC base w' cs x := by
  obtain ⟨v1, v2, e, h1, h2⟩ := h
  exact ⟨v1, v2, e, h1.kept k, h2.kept k⟩
theorem GtC.stays {base : Nat} {w w' : World} {cs : List Value} {x : Gt} (h : GtC base w cs x) (hb : Below w.heap.size w w') : GtC base w' cs x := h.kept (KeptFrom.below hb)
theorem GtC.at {base : Nat} {w : World} {v1 v2 : Value} {u0 : Value} {x : Gt} (h : GtC base w [u0, v1, v2] x) : GtAt w v1 v2 x := by
  obtain ⟨v1', v2', e, h1, h2⟩ := h
  injection e with e0 e
  injection e with e1 e
  injection e with e2 _
  subst e1 e2
  exact ⟨h1.at, h2.at⟩
theorem GtC.form {base : Nat} {w : World} {cs : List Value} {x : Gt} (h : GtC base w cs x) : ∃ o1 c1 o2 c2, cs = [.int .i64 x.owner, .slice o1 x.waits.length c1, .slice o2 x.queues.length c2] := by
  obtain ⟨v1, v2, e, h1, h2⟩ := h
  obtain ⟨o1, c1, rfl, _⟩ := h1.at
  obtain ⟨o2, c2, rfl, _⟩ := h2.at
  exact ⟨_, _, _, _, e⟩
structure GtSh (B T : Nat) (w : World) (v1 v2 : Value) (x : Gt) : Prop where
  s1 : ShR B T 1 fInt x.waits.length w v1
  s2 : ShR B T 1 fInt x.queues.length w v2
theorem GtSh.turn {B T B' T' : Nat} {w w' : World} {v1 v2 : Value} {x : Gt} (h : GtSh B T w v1 v2 x) (ht : Turn B' T' w w') : GtSh B T w' v1 v2 x := ⟨h.s1.turn ht fun i _ => fInt_s i, h.s2.turn ht fun i _ => fInt_s i⟩
theorem GtSh.stays {B T : Nat} {w w' : World} {v1 v2 : Value} {x : Gt} (h : GtSh B T w v1 v2 x) (hb : Below w.heap.size w w') : GtSh B T w' v1 v2 x := h.turn (T' := 0) (Turn.below hb (Nat.le_refl _))
theorem GtC.sh {base T : Nat} {w : World} {v1 v2 : Value} {u0 : Value} {x : Gt} (h : GtC base w [u0, v1, v2] x) (hT : w.heap.size ≤ T) : GtSh base T w v1 v2 x := by
  obtain ⟨v1', v2', e, h1, h2⟩ := h
  injection e with e0 e
  injection e with e1 e
  injection e with e2 _
  subst e1 e2
  exact ⟨CellsIn.shI h1 hT, CellsIn.shI h2 hT⟩
/-- An answer that owns its rows, from a base on, each in a block of its own. -/
structure GtOwn (B : Nat) (w : World) (v1 v2 : Value) (x : Gt) : Prop where
  o1 : w.ownsRow B 3 1 v1 x.waits.length (x.waits.map I64)
  o2 : w.ownsRow B 3 1 v2 x.queues.length (x.queues.map I64)
  ap : ∀ i, v1.ownBlock = some i → v2.ownBlock ≠ some i
theorem GtOwn.stays {B : Nat} {w w' : World} {v1 v2 : Value} {x : Gt} (h : GtOwn B w v1 v2 x) (hb : Below w.heap.size w w') : GtOwn B w' v1 v2 x := ⟨ownsInts_stays h.o1 hb, ownsInts_stays h.o2 hb, h.ap⟩
theorem GtOwn.at {B : Nat} {w : World} {v1 v2 : Value} {x : Gt} (h : GtOwn B w v1 v2 x) : GtAt w v1 v2 x := ⟨IntsIn.at (CellsIn.own h.o1), IntsIn.at (CellsIn.own h.o2)⟩
theorem GtOwn.lo {B b : Nat} {w : World} {v1 v2 : Value} {x : Gt} (h : GtOwn B w v1 v2 x) (hb : b ≤ B) : GtOwn b w v1 v2 x := ⟨owns_lo h.o1 hb, owns_lo h.o2 hb, h.ap⟩
theorem GtOwn.turn {B T b : Nat} {w w' : World} {v1 v2 : Value} {x : Gt} (h : GtOwn b w v1 v2 x) (ht : Turn B T w w') (hb : T ≤ b) : GtOwn b w' v1 v2 x :=
  ⟨owns_eq h.o1 (fun i hi => ht.out i (Nat.le_trans hb (h.o1.lt i hi).1) (h.o1.lt i hi).2), owns_eq h.o2 (fun i hi => ht.out i (Nat.le_trans hb (h.o2.lt i hi).1) (h.o2.lt i hi).2), h.ap⟩
theorem GtOwn.low {B b : Nat} {w w' : World} {v1 v2 : Value} {x : Gt} (h : GtOwn b w v1 v2 x) (ht : Below B w w') (hb : (∀ i, v1.ownBlock = some i → i < B) ∧ (∀ i, v2.ownBlock = some i → i < B)) : GtOwn b w' v1 v2 x :=
  ⟨owns_eq h.o1 (fun i hi => ht.block i (hb.1 i hi)), owns_eq h.o2 (fun i hi => ht.block i (hb.2 i hi)), h.ap⟩
theorem GtOwn.lt {b : Nat} {w : World} {v1 v2 : Value} {x : Gt} (h : GtOwn b w v1 v2 x) : (∀ i, v1.ownBlock = some i → i < w.heap.size) ∧ (∀ i, v2.ownBlock = some i → i < w.heap.size) := ⟨fun i hi => (h.o1.lt i hi).2, fun i hi => (h.o2.lt i hi).2⟩
theorem GtOwn.boxed {B b i : Nat} {z : World} {v1 v2 : Value} {x : Gt} {cs : Array Value} {T : TypeId} (h : GtOwn B z v1 v2 x) (hb : Box z b cs T) (t3 : T ≠ 3) (u : Value) : GtOwn B (z.setCell ⟨b, i, none⟩ u) v1 v2 x :=
  ⟨owns_eq h.o1 (fun g hg => Below.heap_setCell _ ⟨b, i, none⟩ _ g (fun e => Lib.ownBlock_ne h.o1 hb t3 (by rw [hg, e]))), owns_eq h.o2 (fun g hg => Below.heap_setCell _ ⟨b, i, none⟩ _ g (fun e => Lib.ownBlock_ne h.o2 hb t3 (by rw [hg, e]))), h.ap⟩
structure GtHeld (B : Nat) (w : World) (v1 v2 : Value) (n1 n2 : Nat) : Prop where
  o1 : w.ownsRow B 3 1 v1 n1 ((nMarks (1) n1).map I64)
  o2 : w.ownsRow B 3 1 v2 n2 ((nMarks (1 + n1) n2).map I64)
theorem GtHeld.stays {B : Nat} {w w' : World} {v1 v2 : Value} {n1 n2 : Nat} (h : GtHeld B w v1 v2 n1 n2) (hb : Below w.heap.size w w') : GtHeld B w' v1 v2 n1 n2 := ⟨ownsInts_stays h.o1 hb, ownsInts_stays h.o2 hb⟩

theorem cells_Gt : Try.prog.cellsOf 95 = 3 := by kernel_rfl
section
open Go.ChangeShapes Go.WideShapes Go.ChangeAt Go.Deep
variable {H : Type} {enc : TypeId × Value → H} {W : World}
set_option maxRecDepth 100000 in
theorem opens_Gt (fuel : Nat) (cs : List Value) (x : DataW H × List MemPlace) (h : DataW.trod enc Try.prog W 0 (fun _ => true) true fuel 95 cs = some x) : ∃ v1 v2 y, cs = [.int .i64 y.owner, v1, v2] ∧ GtAt W v1 v2 y ∧ GtMax y := by
  obtain ⟨ys, k, _, _, hcl, hyl, hf⟩ := DataW.trod_struct Try.underlying95 h
  rw [cells_Gt] at hcl
  match ys, hyl, cs, hcl with
  | [y0, y1, y2], _, [w0, w1, w2], _ =>
    have g0 := hf 0 _ rfl
    have g1 := hf 1 _ rfl
    have g2 := hf 2 _ rfl
    simp [cells_int, cells_ints] at g0 g1 g2
    obtain ⟨k0, e0⟩ := opens_int _ _ _ g0
    simp [IntRel] at e0
    subst e0
    obtain ⟨v1, l1, e1, a1, m1⟩ := opens_ints _ _ _ g1
    simp at e1
    subst e1
    obtain ⟨v2, l2, e2, a2, m2⟩ := opens_ints _ _ _ g2
    simp at e2
    subst e2
    exact ⟨_, _, ⟨k0, l1, l2⟩, rfl, ⟨a1, a2⟩, ⟨m1, m2⟩⟩
end
end Go.Proofs.Ytkoelibclihekaa
