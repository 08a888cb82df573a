/-
  Walks: a program that came in, copied, by the laws' own helpers: the whole.
-/
import Derived.Test.YtdfahpachbhglaaGreatDoorLawU
namespace Go.Proofs.YtdfahpachbhglaaGreatDoor
open Go.RowKit

/-- A program. -/
structure Pg where
  nodes : List Nd
  mons : List Mo
  pros : List Pr
def ProgC (base : Nat) (w : World) (cs : List Value) (x : Pg) : Prop := ∃ nv mv pv, cs = [nv, mv, pv] ∧ NdsIn base w nv x.nodes ∧ MosIn base w mv x.mons ∧ PrsIn base w pv x.pros
instance : Told ProgC where
  kept := fun ⟨nv, mv, pv, e, h1, h2, h3⟩ k => ⟨nv, mv, pv, e, h1.kept k, h2.kept k, h3.kept k⟩
  mono := fun ⟨nv, mv, pv, e, h1, h2, h3⟩ k => ⟨nv, mv, pv, e, h1.mono k, h2.mono k, h3.mono k⟩
/-- A program whose lists are no longer than may be. -/
structure PgLen (x : Pg) : Prop where
  nl : x.nodes.length ≤ 1048576
  ml : x.mons.length ≤ 1048576
  pl : x.pros.length ≤ 1048576
  kids : ∀ y ∈ x.nodes, y.kids.length ≤ 1048576
  mon : ∀ y ∈ x.mons, y.vars.length ≤ 1048576 ∧ y.queues.length ≤ 1048576 ∧ y.ents.length ≤ 1048576
  pro : ∀ y ∈ x.pros, y.uses.length ≤ 1048576 ∧ y.vars.length ≤ 1048576

set_option maxRecDepth 100000 in
set_option maxHeartbeats 2000000 in
theorem toProgram_any (x : Pg) (nv mv pv : Value) (w : World) (h0 : NdsAt w nv x.nodes) (h1 : MosAt w mv x.mons) (h2 : PrsAt w pv x.pros) (hL : PgLen x) :
    Calls Tryz.prog 6 #[.agg #[nv, mv, pv]] w fun e w' => ∃ o0 n0 c0 o1 n1 c1 o2 n2 c2, e = .returned (.agg #[.slice o0 n0 c0, .slice o1 n1 c1, .slice o2 n2 c2]) ∧ ProgC w.heap.size w' [.slice o0 n0 c0, .slice o1 n1 c1, .slice o2 n2 c2] x ∧ Below w.heap.size w w' := by
  have C0 := fun w h => hide (toNodeS_any nv x.nodes w h hL.nl hL.kids)
  have H0 := hide h0
  have C1 := fun w h => hide (toMonitorS_any mv x.mons w h hL.ml hL.mon)
  have H1 := hide h1
  have C2 := fun w h => hide (toProcessS_any pv x.pros w h hL.pl hL.pro)
  have H2 := hide h2
  have T := hide (ThreeB.start w #[nv, mv, pv] #[.slice none 0 0, .slice none 0 0, .slice none 0 0] #[.slice none 0 0, .slice none 0 0, .slice none 0 0] 26 34)
  obtain ⟨a0, b0, rfl, _⟩ := h0
  obtain ⟨a1, b1, rfl, _⟩ := h1
  obtain ⟨a2, b2, rfl, _⟩ := h2
  go_enter Tryz.func6, Tryz.ntmps6
  go_wp2_with fail
  refine (unhide (C0 _ (H0.out.stays T.out.bel))).mono ?_
  rintro e z0 ⟨v0, rfl, hv0, hb0⟩
  have S0 := hide (T.out.stays hb0)
  have V0 : Hid (NdsIn (w.heap.size + 3) z0 v0 x.nodes) := hv0.mono T.out.lt
  obtain ⟨o0, n0, c0, rfl⟩ := hv0.form
  have p0 := Lib.cell_of_heap S0.out.bA 0
  have q0 := Lib.cell_of_heap S0.out.bZ 0
  have r0 := Lib.cell_of_heap S0.out.bO 0
  have s0 := Lib.frozen_of_heap S0.out.bZ 0
  have t0 := Lib.frozen_of_heap S0.out.bO 0
  have p1 := Lib.cell_of_heap S0.out.bA 1
  have q1 := Lib.cell_of_heap S0.out.bZ 1
  have r1 := Lib.cell_of_heap S0.out.bO 1
  have s1 := Lib.frozen_of_heap S0.out.bZ 1
  have t1 := Lib.frozen_of_heap S0.out.bO 1
  have p2 := Lib.cell_of_heap S0.out.bA 2
  have q2 := Lib.cell_of_heap S0.out.bZ 2
  have r2 := Lib.cell_of_heap S0.out.bO 2
  have s2 := Lib.frozen_of_heap S0.out.bZ 2
  have t2 := Lib.frozen_of_heap S0.out.bO 2
  simp at p0 q0 r0 p1 q1 r1 p2 q2 r2
  clear hb0 hv0 T C0 H0
  have T0 := hide (S0.out.put 0 (.slice o0 n0 c0))
  have V0 := hide (V0.out.kept (ThreeB.kept 0 (.slice o0 n0 c0)))
  go_wp2_with fail
  clear p0 q0 r0 s0 t0 p1 q1 r1 s1 t1 p2 q2 r2 s2 t2
  refine (unhide (C1 _ (H1.out.stays T0.out.bel))).mono ?_
  rintro e z1 ⟨v1, rfl, hv1, hb1⟩
  have S1 := hide (T0.out.stays hb1)
  have V0 := hide (V0.out.kept (KeptFrom.below hb1))
  have V1 : Hid (MosIn (w.heap.size + 3) z1 v1 x.mons) := hv1.mono T0.out.lt
  obtain ⟨o1, n1, c1, rfl⟩ := hv1.form
  have p0 := Lib.cell_of_heap S1.out.bA 0
  have q0 := Lib.cell_of_heap S1.out.bZ 0
  have r0 := Lib.cell_of_heap S1.out.bO 0
  have s0 := Lib.frozen_of_heap S1.out.bZ 0
  have t0 := Lib.frozen_of_heap S1.out.bO 0
  have p1 := Lib.cell_of_heap S1.out.bA 1
  have q1 := Lib.cell_of_heap S1.out.bZ 1
  have r1 := Lib.cell_of_heap S1.out.bO 1
  have s1 := Lib.frozen_of_heap S1.out.bZ 1
  have t1 := Lib.frozen_of_heap S1.out.bO 1
  have p2 := Lib.cell_of_heap S1.out.bA 2
  have q2 := Lib.cell_of_heap S1.out.bZ 2
  have r2 := Lib.cell_of_heap S1.out.bO 2
  have s2 := Lib.frozen_of_heap S1.out.bZ 2
  have t2 := Lib.frozen_of_heap S1.out.bO 2
  simp at p0 q0 r0 p1 q1 r1 p2 q2 r2
  clear hb1 hv1 T0 C1 H1
  have T1 := hide (S1.out.put 1 (.slice o1 n1 c1))
  have V0 := hide (V0.out.kept (ThreeB.kept 1 (.slice o1 n1 c1)))
  have V1 := hide (V1.out.kept (ThreeB.kept 1 (.slice o1 n1 c1)))
  go_wp2_with fail
  clear p0 q0 r0 s0 t0 p1 q1 r1 s1 t1 p2 q2 r2 s2 t2
  refine (unhide (C2 _ (H2.out.stays T1.out.bel))).mono ?_
  rintro e z2 ⟨v2, rfl, hv2, hb2⟩
  have S2 := hide (T1.out.stays hb2)
  have V0 := hide (V0.out.kept (KeptFrom.below hb2))
  have V1 := hide (V1.out.kept (KeptFrom.below hb2))
  have V2 : Hid (PrsIn (w.heap.size + 3) z2 v2 x.pros) := hv2.mono T1.out.lt
  obtain ⟨o2, n2, c2, rfl⟩ := hv2.form
  have p0 := Lib.cell_of_heap S2.out.bA 0
  have q0 := Lib.cell_of_heap S2.out.bZ 0
  have r0 := Lib.cell_of_heap S2.out.bO 0
  have s0 := Lib.frozen_of_heap S2.out.bZ 0
  have t0 := Lib.frozen_of_heap S2.out.bO 0
  have p1 := Lib.cell_of_heap S2.out.bA 1
  have q1 := Lib.cell_of_heap S2.out.bZ 1
  have r1 := Lib.cell_of_heap S2.out.bO 1
  have s1 := Lib.frozen_of_heap S2.out.bZ 1
  have t1 := Lib.frozen_of_heap S2.out.bO 1
  have p2 := Lib.cell_of_heap S2.out.bA 2
  have q2 := Lib.cell_of_heap S2.out.bZ 2
  have r2 := Lib.cell_of_heap S2.out.bO 2
  have s2 := Lib.frozen_of_heap S2.out.bZ 2
  have t2 := Lib.frozen_of_heap S2.out.bO 2
  simp at p0 q0 r0 p1 q1 r1 p2 q2 r2
  clear hb2 hv2 T1 C2 H2
  have T2 := hide (S2.out.put 2 (.slice o2 n2 c2))
  have V0 := hide (V0.out.kept (ThreeB.kept 2 (.slice o2 n2 c2)))
  have V1 := hide (V1.out.kept (ThreeB.kept 2 (.slice o2 n2 c2)))
  have V2 := hide (V2.out.kept (ThreeB.kept 2 (.slice o2 n2 c2)))
  go_wp2
  refine box_ret (g := w.heap.size + 1) (t := 34) (cs := #[.slice o0 n0 c0, .slice o1 n1 c1, .slice o2 n2 c2]) rfl rfl ?_ _ Tryz.underlying34 rfl (by kernel_rfl) rfl ?_
  · simpa using (((T2.out.bZ.set 0 _).set 1 _).set 2 _)
  · refine ⟨_, _, _, _, _, _, _, _, _, rfl, ⟨_, _, _, rfl, ?_, ?_, ?_⟩, ?_⟩
    · refine ObjsIn.mono (base := w.heap.size + 3) ?_ (by omega)
      iterate 3 refine ObjsIn.kept ?_ (ThreeB.keptR _ _)
      exact V0.out
    · refine ObjsIn.mono (base := w.heap.size + 3) ?_ (by omega)
      iterate 3 refine ObjsIn.kept ?_ (ThreeB.keptR _ _)
      exact V1.out
    · refine ObjsIn.mono (base := w.heap.size + 3) ?_ (by omega)
      iterate 3 refine ObjsIn.kept ?_ (ThreeB.keptR _ _)
      exact V2.out
    · iterate 3 refine Below.setCell ?_ (by dsimp only; omega) _
      exact T2.out.bel
end Go.Proofs.YtdfahpachbhglaaGreatDoor
