/-
  A Model copied: toModel.
-/
import Derived.Test.YtkoelibclihekaaMdlP
namespace Go.Proofs.Ytkoelibclihekaa
open Go.RowKit

set_option maxRecDepth 100000 in
set_option maxHeartbeats 8000000 in
theorem toModel_any (x : Md) (v0 v1 v2 v3 v4 v5 v6 v7 : Value) (w : World) (h0 : NdsAt w v0 x.prog.nodes) (h1 : MosAt w v1 x.prog.mons) (h2 : PrsAt w v2 x.prog.pros) (h3 : AcsAt w v3 x.acts) (h4 : GtsAt w v4 x.gates) (h5 : EvsAt w v5 x.vars) (h6 : IntsAt w v6 x.input) (h7 : VtsAt w v7 x.events) (hL : MdLen x) :
    Calls Try.prog 7 #[.agg #[v0, v1, v2, v3, v4, v5, v6, v7, .bool x.stopped]] w fun e w' => ∃ o0 n0 c0 o1 n1 c1 o2 n2 c2 o3 n3 c3 o4 n4 c4 o5 n5 c5 o6 n6 c6 o7 n7 c7, e = .returned (.agg #[.slice o0 n0 c0, .slice o1 n1 c1, .slice o2 n2 c2, .slice o3 n3 c3, .slice o4 n4 c4, .slice o5 n5 c5, .slice o6 n6 c6, .slice o7 n7 c7, .bool x.stopped]) ∧ MdC w.heap.size w' [.slice o0 n0 c0, .slice o1 n1 c1, .slice o2 n2 c2, .slice o3 n3 c3, .slice o4 n4 c4, .slice o5 n5 c5, .slice o6 n6 c6, .slice o7 n7 c7, .bool x.stopped] x ∧ Below w.heap.size w w' := by
  have C2 := fun w a b c => hide (toProgramC_any x.prog v0 v1 v2 w a b c hL.p)
  have C3 := fun w a => hide (toActorS_any v3 x.acts w a hL.l3 hL.i3)
  have C4 := fun w a => hide (toGateS_any v4 x.gates w a hL.l4 hL.i4)
  have C5 := fun w a => hide (toEnvS_any v5 x.vars w a hL.l5 hL.i5)
  have C6 := fun w a => hide (toIntS_any v6 x.input w a hL.l6)
  have C7 := fun w a => hide (toEventS_any v7 x.events w a hL.l7)
  have T := hide (ThreeB.start w #[v0, v1, v2, v3, v4, v5, v6, v7, .bool x.stopped] #[.slice none 0 0, .slice none 0 0, .slice none 0 0, .slice none 0 0, .slice none 0 0, .slice none 0 0, .slice none 0 0, .slice none 0 0, .bool false] #[.slice none 0 0, .slice none 0 0, .slice none 0 0, .slice none 0 0, .slice none 0 0, .slice none 0 0, .slice none 0 0, .slice none 0 0, .bool false] 33 46)
  have H0 := hide h0
  obtain ⟨a0, b0, rfl, _⟩ := h0
  have H1 := hide h1
  obtain ⟨a1, b1, rfl, _⟩ := h1
  have H2 := hide h2
  obtain ⟨a2, b2, rfl, _⟩ := h2
  have H3 := hide h3
  obtain ⟨a3, b3, rfl, _⟩ := h3
  have H4 := hide h4
  obtain ⟨a4, b4, rfl, _⟩ := h4
  have H5 := hide h5
  obtain ⟨a5, b5, rfl, _⟩ := h5
  have H6 := hide h6
  obtain ⟨a6, b6, rfl, _⟩ := h6
  have H7 := hide h7
  obtain ⟨a7, b7, rfl, _⟩ := h7
  obtain ⟨m0, em0⟩ : ∃ n, x.prog.nodes.length = n := ⟨_, rfl⟩
  obtain ⟨m1, em1⟩ : ∃ n, x.prog.mons.length = n := ⟨_, rfl⟩
  obtain ⟨m2, em2⟩ : ∃ n, x.prog.pros.length = n := ⟨_, rfl⟩
  obtain ⟨m3, em3⟩ : ∃ n, x.acts.length = n := ⟨_, rfl⟩
  obtain ⟨m4, em4⟩ : ∃ n, x.gates.length = n := ⟨_, rfl⟩
  obtain ⟨m5, em5⟩ : ∃ n, x.vars.length = n := ⟨_, rfl⟩
  obtain ⟨m6, em6⟩ : ∃ n, x.input.length = n := ⟨_, rfl⟩
  obtain ⟨m7, em7⟩ : ∃ n, x.events.length = n := ⟨_, rfl⟩
  clear hL
  simp only [em0, em1, em2, em3, em4, em5, em6, em7] at C2 C3 C4 C5 C6 C7 T H0 H1 H2 H3 H4 H5 H6 H7 ⊢
  clear em0 em1 em2 em3 em4 em5 em6 em7
  go_enter Try.func7, Try.ntmps7
  go_wp2_with fail
  refine (unhide (C2 _ (H0.out.stays T.out.bel) (H1.out.stays T.out.bel) (H2.out.stays T.out.bel))).mono ?_
  rintro e z2 ⟨o0, n0, c0, o1, n1, c1, o2, n2, c2, rfl, hv, hb⟩
  obtain ⟨u0, u1, u2, eu, w0, w1, w2⟩ := hv.c
  injection eu with eu0 eu'
  injection eu' with eu1 eu'
  injection eu' with eu2 _
  subst eu0 eu1 eu2
  clear hv
  have V0 := hide (w0.mono T.out.lt)
  have V1 := hide (w1.mono T.out.lt)
  have V2 := hide (w2.mono T.out.lt)
  clear w0 w1 w2
  replace T := hide (T.out.stays hb)
  clear hb
  have r0 := Lib.cell_of_heap T.out.bO 0
  simp at r0
  have t0 := Lib.frozen_of_heap T.out.bO 0
  have r1 := Lib.cell_of_heap T.out.bO 1
  simp at r1
  have t1 := Lib.frozen_of_heap T.out.bO 1
  have r2 := Lib.cell_of_heap T.out.bO 2
  simp at r2
  have t2 := Lib.frozen_of_heap T.out.bO 2
  replace T := hide (T.out.put 0 (.slice o0 n0 c0))
  replace V0 := hide (V0.out.kept (ThreeB.kept 0 (.slice o0 n0 c0)))
  replace V1 := hide (V1.out.kept (ThreeB.kept 0 (.slice o0 n0 c0)))
  replace V2 := hide (V2.out.kept (ThreeB.kept 0 (.slice o0 n0 c0)))
  replace T := hide (T.out.put 1 (.slice o1 n1 c1))
  replace V0 := hide (V0.out.kept (ThreeB.kept 1 (.slice o1 n1 c1)))
  replace V1 := hide (V1.out.kept (ThreeB.kept 1 (.slice o1 n1 c1)))
  replace V2 := hide (V2.out.kept (ThreeB.kept 1 (.slice o1 n1 c1)))
  replace T := hide (T.out.put 2 (.slice o2 n2 c2))
  replace V0 := hide (V0.out.kept (ThreeB.kept 2 (.slice o2 n2 c2)))
  replace V1 := hide (V1.out.kept (ThreeB.kept 2 (.slice o2 n2 c2)))
  replace V2 := hide (V2.out.kept (ThreeB.kept 2 (.slice o2 n2 c2)))
  go_upto_region 3 with fail
  obtain ⟨Y2, hY⟩ : ∃ Y, (((z2.setCell ⟨w.heap.size + 1 + 1, 0, none⟩ (.slice o0 n0 c0)).setCell ⟨w.heap.size + 1 + 1, 1, none⟩ (.slice o1 n1 c1)).setCell ⟨w.heap.size + 1 + 1, 2, none⟩ (.slice o2 n2 c2)) = Y := ⟨_, rfl⟩
  rw [hY] at T V0 V1 V2 ⊢
  clear hY r0 t0 r1 t1 r2 t2
  have p3 := Lib.cell_of_heap T.out.bA 3
  simp at p3
  go_wp2_with fail
  refine (unhide (C3 _ (H3.out.stays T.out.bel))).mono ?_
  clear p3
  rintro e z3 ⟨u, rfl, hv, hb⟩
  obtain ⟨o3, n3, c3, rfl⟩ := hv.form
  have V3 := hide (hv.mono T.out.lt)
  clear hv
  replace V0 := hide (V0.out.kept (KeptFrom.below hb))
  replace V1 := hide (V1.out.kept (KeptFrom.below hb))
  replace V2 := hide (V2.out.kept (KeptFrom.below hb))
  replace T := hide (T.out.stays hb)
  clear hb
  have r3 := Lib.cell_of_heap T.out.bO 3
  simp at r3
  have t3 := Lib.frozen_of_heap T.out.bO 3
  replace T := hide (T.out.put 3 (.slice o3 n3 c3))
  replace V0 := hide (V0.out.kept (ThreeB.kept 3 (.slice o3 n3 c3)))
  replace V1 := hide (V1.out.kept (ThreeB.kept 3 (.slice o3 n3 c3)))
  replace V2 := hide (V2.out.kept (ThreeB.kept 3 (.slice o3 n3 c3)))
  replace V3 := hide (V3.out.kept (ThreeB.kept 3 (.slice o3 n3 c3)))
  go_upto_region 4 with fail
  obtain ⟨Y3, hY⟩ : ∃ Y, (z3.setCell ⟨w.heap.size + 1 + 1, 3, none⟩ (.slice o3 n3 c3)) = Y := ⟨_, rfl⟩
  rw [hY] at T V0 V1 V2 V3 ⊢
  clear hY r3 t3
  have p4 := Lib.cell_of_heap T.out.bA 4
  simp at p4
  go_wp2_with fail
  refine (unhide (C4 _ (H4.out.stays T.out.bel))).mono ?_
  clear p4
  rintro e z4 ⟨u, rfl, hv, hb⟩
  obtain ⟨o4, n4, c4, rfl⟩ := hv.form
  have V4 := hide (hv.mono T.out.lt)
  clear hv
  replace V0 := hide (V0.out.kept (KeptFrom.below hb))
  replace V1 := hide (V1.out.kept (KeptFrom.below hb))
  replace V2 := hide (V2.out.kept (KeptFrom.below hb))
  replace V3 := hide (V3.out.kept (KeptFrom.below hb))
  replace T := hide (T.out.stays hb)
  clear hb
  have r4 := Lib.cell_of_heap T.out.bO 4
  simp at r4
  have t4 := Lib.frozen_of_heap T.out.bO 4
  replace T := hide (T.out.put 4 (.slice o4 n4 c4))
  replace V0 := hide (V0.out.kept (ThreeB.kept 4 (.slice o4 n4 c4)))
  replace V1 := hide (V1.out.kept (ThreeB.kept 4 (.slice o4 n4 c4)))
  replace V2 := hide (V2.out.kept (ThreeB.kept 4 (.slice o4 n4 c4)))
  replace V3 := hide (V3.out.kept (ThreeB.kept 4 (.slice o4 n4 c4)))
  replace V4 := hide (V4.out.kept (ThreeB.kept 4 (.slice o4 n4 c4)))
  go_upto_region 5 with fail
  obtain ⟨Y4, hY⟩ : ∃ Y, (z4.setCell ⟨w.heap.size + 1 + 1, 4, none⟩ (.slice o4 n4 c4)) = Y := ⟨_, rfl⟩
  rw [hY] at T V0 V1 V2 V3 V4 ⊢
  clear hY r4 t4
  have p5 := Lib.cell_of_heap T.out.bA 5
  simp at p5
  go_wp2_with fail
  refine (unhide (C5 _ (H5.out.stays T.out.bel))).mono ?_
  clear p5
  rintro e z5 ⟨u, rfl, hv, hb⟩
  obtain ⟨o5, n5, c5, rfl⟩ := hv.form
  have V5 := hide (hv.mono T.out.lt)
  clear hv
  replace V0 := hide (V0.out.kept (KeptFrom.below hb))
  replace V1 := hide (V1.out.kept (KeptFrom.below hb))
  replace V2 := hide (V2.out.kept (KeptFrom.below hb))
  replace V3 := hide (V3.out.kept (KeptFrom.below hb))
  replace V4 := hide (V4.out.kept (KeptFrom.below hb))
  replace T := hide (T.out.stays hb)
  clear hb
  have r5 := Lib.cell_of_heap T.out.bO 5
  simp at r5
  have t5 := Lib.frozen_of_heap T.out.bO 5
  replace T := hide (T.out.put 5 (.slice o5 n5 c5))
  replace V0 := hide (V0.out.kept (ThreeB.kept 5 (.slice o5 n5 c5)))
  replace V1 := hide (V1.out.kept (ThreeB.kept 5 (.slice o5 n5 c5)))
  replace V2 := hide (V2.out.kept (ThreeB.kept 5 (.slice o5 n5 c5)))
  replace V3 := hide (V3.out.kept (ThreeB.kept 5 (.slice o5 n5 c5)))
  replace V4 := hide (V4.out.kept (ThreeB.kept 5 (.slice o5 n5 c5)))
  replace V5 := hide (V5.out.kept (ThreeB.kept 5 (.slice o5 n5 c5)))
  go_upto_region 6 with fail
  obtain ⟨Y5, hY⟩ : ∃ Y, (z5.setCell ⟨w.heap.size + 1 + 1, 5, none⟩ (.slice o5 n5 c5)) = Y := ⟨_, rfl⟩
  rw [hY] at T V0 V1 V2 V3 V4 V5 ⊢
  clear hY r5 t5
  have p6 := Lib.cell_of_heap T.out.bA 6
  simp at p6
  go_wp2_with fail
  refine (unhide (C6 _ (H6.out.stays T.out.bel))).mono ?_
  clear p6
  rintro e z6 ⟨u, rfl, hv, hb⟩
  obtain ⟨o6, n6, c6, rfl⟩ := hv.form
  have V6 := hide (hv.mono T.out.lt)
  clear hv
  replace V0 := hide (V0.out.kept (KeptFrom.below hb))
  replace V1 := hide (V1.out.kept (KeptFrom.below hb))
  replace V2 := hide (V2.out.kept (KeptFrom.below hb))
  replace V3 := hide (V3.out.kept (KeptFrom.below hb))
  replace V4 := hide (V4.out.kept (KeptFrom.below hb))
  replace V5 := hide (V5.out.kept (KeptFrom.below hb))
  replace T := hide (T.out.stays hb)
  clear hb
  have r6 := Lib.cell_of_heap T.out.bO 6
  simp at r6
  have t6 := Lib.frozen_of_heap T.out.bO 6
  replace T := hide (T.out.put 6 (.slice o6 n6 c6))
  replace V0 := hide (V0.out.kept (ThreeB.kept 6 (.slice o6 n6 c6)))
  replace V1 := hide (V1.out.kept (ThreeB.kept 6 (.slice o6 n6 c6)))
  replace V2 := hide (V2.out.kept (ThreeB.kept 6 (.slice o6 n6 c6)))
  replace V3 := hide (V3.out.kept (ThreeB.kept 6 (.slice o6 n6 c6)))
  replace V4 := hide (V4.out.kept (ThreeB.kept 6 (.slice o6 n6 c6)))
  replace V5 := hide (V5.out.kept (ThreeB.kept 6 (.slice o6 n6 c6)))
  replace V6 := hide (V6.out.kept (ThreeB.kept 6 (.slice o6 n6 c6)))
  go_upto_region 7 with fail
  obtain ⟨Y6, hY⟩ : ∃ Y, (z6.setCell ⟨w.heap.size + 1 + 1, 6, none⟩ (.slice o6 n6 c6)) = Y := ⟨_, rfl⟩
  rw [hY] at T V0 V1 V2 V3 V4 V5 V6 ⊢
  clear hY r6 t6
  have p7 := Lib.cell_of_heap T.out.bA 7
  simp at p7
  go_wp2_with fail
  refine (unhide (C7 _ (H7.out.stays T.out.bel))).mono ?_
  clear p7
  rintro e z7 ⟨u, rfl, hv, hb⟩
  obtain ⟨o7, n7, c7, rfl⟩ := hv.form
  have V7 := hide (hv.mono T.out.lt)
  clear hv
  replace V0 := hide (V0.out.kept (KeptFrom.below hb))
  replace V1 := hide (V1.out.kept (KeptFrom.below hb))
  replace V2 := hide (V2.out.kept (KeptFrom.below hb))
  replace V3 := hide (V3.out.kept (KeptFrom.below hb))
  replace V4 := hide (V4.out.kept (KeptFrom.below hb))
  replace V5 := hide (V5.out.kept (KeptFrom.below hb))
  replace V6 := hide (V6.out.kept (KeptFrom.below hb))
  replace T := hide (T.out.stays hb)
  clear hb
  have r7 := Lib.cell_of_heap T.out.bO 7
  simp at r7
  have t7 := Lib.frozen_of_heap T.out.bO 7
  replace T := hide (T.out.put 7 (.slice o7 n7 c7))
  replace V0 := hide (V0.out.kept (ThreeB.kept 7 (.slice o7 n7 c7)))
  replace V1 := hide (V1.out.kept (ThreeB.kept 7 (.slice o7 n7 c7)))
  replace V2 := hide (V2.out.kept (ThreeB.kept 7 (.slice o7 n7 c7)))
  replace V3 := hide (V3.out.kept (ThreeB.kept 7 (.slice o7 n7 c7)))
  replace V4 := hide (V4.out.kept (ThreeB.kept 7 (.slice o7 n7 c7)))
  replace V5 := hide (V5.out.kept (ThreeB.kept 7 (.slice o7 n7 c7)))
  replace V6 := hide (V6.out.kept (ThreeB.kept 7 (.slice o7 n7 c7)))
  replace V7 := hide (V7.out.kept (ThreeB.kept 7 (.slice o7 n7 c7)))
  go_upto_region 8 with fail
  obtain ⟨Y7, hY⟩ : ∃ Y, (z7.setCell ⟨w.heap.size + 1 + 1, 7, none⟩ (.slice o7 n7 c7)) = Y := ⟨_, rfl⟩
  rw [hY] at T V0 V1 V2 V3 V4 V5 V6 V7 ⊢
  clear hY r7 t7
  have p8 := Lib.cell_of_heap T.out.bA 8
  simp at p8
  have r8 := Lib.cell_of_heap T.out.bO 8
  simp at r8
  have t8 := Lib.frozen_of_heap T.out.bO 8
  replace T := hide (T.out.put 8 (.bool x.stopped))
  replace V0 := hide (V0.out.kept (ThreeB.kept 8 (.bool x.stopped)))
  replace V1 := hide (V1.out.kept (ThreeB.kept 8 (.bool x.stopped)))
  replace V2 := hide (V2.out.kept (ThreeB.kept 8 (.bool x.stopped)))
  replace V3 := hide (V3.out.kept (ThreeB.kept 8 (.bool x.stopped)))
  replace V4 := hide (V4.out.kept (ThreeB.kept 8 (.bool x.stopped)))
  replace V5 := hide (V5.out.kept (ThreeB.kept 8 (.bool x.stopped)))
  replace V6 := hide (V6.out.kept (ThreeB.kept 8 (.bool x.stopped)))
  replace V7 := hide (V7.out.kept (ThreeB.kept 8 (.bool x.stopped)))
  go_upto_region 9 with fail
  obtain ⟨Y8, hY⟩ : ∃ Y, Y7.setCell ⟨w.heap.size + 1 + 1, 8, none⟩ (.bool x.stopped) = Y := ⟨_, rfl⟩
  rw [hY] at T V0 V1 V2 V3 V4 V5 V6 V7 ⊢
  clear hY p8 r8 t8
  have r0 := Lib.cell_of_heap T.out.bO 0
  simp at r0
  have t0 := Lib.frozen_of_heap T.out.bO 0
  have r1 := Lib.cell_of_heap T.out.bO 1
  simp at r1
  have t1 := Lib.frozen_of_heap T.out.bO 1
  have r2 := Lib.cell_of_heap T.out.bO 2
  simp at r2
  have t2 := Lib.frozen_of_heap T.out.bO 2
  have r3 := Lib.cell_of_heap T.out.bO 3
  simp at r3
  have t3 := Lib.frozen_of_heap T.out.bO 3
  have r4 := Lib.cell_of_heap T.out.bO 4
  simp at r4
  have t4 := Lib.frozen_of_heap T.out.bO 4
  have r5 := Lib.cell_of_heap T.out.bO 5
  simp at r5
  have t5 := Lib.frozen_of_heap T.out.bO 5
  have r6 := Lib.cell_of_heap T.out.bO 6
  simp at r6
  have t6 := Lib.frozen_of_heap T.out.bO 6
  have r7 := Lib.cell_of_heap T.out.bO 7
  simp at r7
  have t7 := Lib.frozen_of_heap T.out.bO 7
  have r8 := Lib.cell_of_heap T.out.bO 8
  simp at r8
  have t8 := Lib.frozen_of_heap T.out.bO 8
  have q0 := Lib.cell_of_heap T.out.bZ 0
  simp at q0
  have s0 := Lib.frozen_of_heap T.out.bZ 0
  have q1 := Lib.cell_of_heap T.out.bZ 1
  simp at q1
  have s1 := Lib.frozen_of_heap T.out.bZ 1
  have q2 := Lib.cell_of_heap T.out.bZ 2
  simp at q2
  have s2 := Lib.frozen_of_heap T.out.bZ 2
  have q3 := Lib.cell_of_heap T.out.bZ 3
  simp at q3
  have s3 := Lib.frozen_of_heap T.out.bZ 3
  have q4 := Lib.cell_of_heap T.out.bZ 4
  simp at q4
  have s4 := Lib.frozen_of_heap T.out.bZ 4
  have q5 := Lib.cell_of_heap T.out.bZ 5
  simp at q5
  have s5 := Lib.frozen_of_heap T.out.bZ 5
  have q6 := Lib.cell_of_heap T.out.bZ 6
  simp at q6
  have s6 := Lib.frozen_of_heap T.out.bZ 6
  have q7 := Lib.cell_of_heap T.out.bZ 7
  simp at q7
  have s7 := Lib.frozen_of_heap T.out.bZ 7
  have q8 := Lib.cell_of_heap T.out.bZ 8
  simp at q8
  have s8 := Lib.frozen_of_heap T.out.bZ 8
  go_wp2
  refine box_ret (g := w.heap.size + 1) (t := 46) (cs := #[.slice o0 n0 c0, .slice o1 n1 c1, .slice o2 n2 c2, .slice o3 n3 c3, .slice o4 n4 c4, .slice o5 n5 c5, .slice o6 n6 c6, .slice o7 n7 c7, .bool x.stopped]) rfl rfl ?_ _ Try.underlying46 rfl (by kernel_rfl) rfl ?_
  · simpa using (((((((((T.out.bZ.set 0 _).set 1 _).set 2 _).set 3 _).set 4 _).set 5 _).set 6 _).set 7 _).set 8 _)
  · refine ⟨_, _, _, _, _, _, _, _, _, _, _, _, _, _, _, _, _, _, _, _, _, _, _, _, rfl, ⟨_, _, _, _, _, _, _, _, rfl, ⟨?_, ?_, ?_⟩, ?_, ?_, ?_, ?_, ?_⟩, ?_⟩
    · refine ObjsIn.mono (base := w.heap.size + 3) ?_ (by omega)
      iterate 9 refine ObjsIn.kept ?_ (ThreeB.keptR _ _)
      exact V0.out
    · refine ObjsIn.mono (base := w.heap.size + 3) ?_ (by omega)
      iterate 9 refine ObjsIn.kept ?_ (ThreeB.keptR _ _)
      exact V1.out
    · refine ObjsIn.mono (base := w.heap.size + 3) ?_ (by omega)
      iterate 9 refine ObjsIn.kept ?_ (ThreeB.keptR _ _)
      exact V2.out
    · refine ObjsIn.mono (base := w.heap.size + 3) ?_ (by omega)
      iterate 9 refine ObjsIn.kept ?_ (ThreeB.keptR _ _)
      exact V3.out
    · refine ObjsIn.mono (base := w.heap.size + 3) ?_ (by omega)
      iterate 9 refine ObjsIn.kept ?_ (ThreeB.keptR _ _)
      exact V4.out
    · refine ObjsIn.mono (base := w.heap.size + 3) ?_ (by omega)
      iterate 9 refine ObjsIn.kept ?_ (ThreeB.keptR _ _)
      exact V5.out
    · refine CellsIn.mono (base := w.heap.size + 3) ?_ (by omega)
      iterate 9 refine CellsIn.kept ?_ (ThreeB.keptR _ _)
      exact V6.out
    · refine ObjsIn.mono (base := w.heap.size + 3) ?_ (by omega)
      iterate 9 refine ObjsIn.kept ?_ (ThreeB.keptR _ _)
      exact V7.out
    · iterate 9 refine Below.setCell ?_ (by dsimp only; omega) _
      exact T.out.bel
end Go.Proofs.Ytkoelibclihekaa
