/-
  Two Models that are the same: eqModel.
-/
import Derived.Test.YtkoelibclihekaaMdlP
namespace Go.Proofs.Ytkoelibclihekaa
open Go.RowKit

set_option maxRecDepth 100000 in
set_option maxHeartbeats 4000000 in
theorem eqModel_same (x : Md) (p0 q0 p1 q1 p2 q2 p3 q3 p4 q4 p5 q5 p6 q6 p7 q7 : Value) (w : World) (h0 : NdsAt w p0 x.prog.nodes) (k0 : NdsAt w q0 x.prog.nodes) (h1 : MosAt w p1 x.prog.mons) (k1 : MosAt w q1 x.prog.mons) (h2 : PrsAt w p2 x.prog.pros) (k2 : PrsAt w q2 x.prog.pros) (h3 : AcsAt w p3 x.acts) (k3 : AcsAt w q3 x.acts) (h4 : GtsAt w p4 x.gates) (k4 : GtsAt w q4 x.gates) (h5 : EvsAt w p5 x.vars) (k5 : EvsAt w q5 x.vars) (h6 : IntsAt w p6 x.input) (k6 : IntsAt w q6 x.input) (h7 : VtsAt w p7 x.events) (k7 : VtsAt w q7 x.events) (hL : MdLen x) :
    Calls Try.prog 10 #[.agg #[p0, p1, p2, p3, p4, p5, p6, p7, .bool x.stopped], .agg #[q0, q1, q2, q3, q4, q5, q6, q7, .bool x.stopped]] w fun e w' => e = .returned (.bool true) ∧ Below w.heap.size w w' := by

  have C2 := fun w a a' b b' c c' => hide (eqProgram_same x.prog p0 q0 p1 q1 p2 q2 w a a' b b' c c' hL.p)
  have C3 := fun w a a' => hide (eqActorS_same p3 q3 x.acts w a a' hL.l3 hL.i3)
  have C4 := fun w a a' => hide (eqGateS_same p4 q4 x.gates w a a' hL.l4 hL.i4)
  have C5 := fun w a a' => hide (eqEnvS_same p5 q5 x.vars w a a' hL.l5 hL.i5)
  have C6 := fun w a a' => hide (eqIntS_same p6 q6 x.input w a a' hL.l6)
  have C7 := fun w a a' => hide (eqEventS_same p7 q7 x.events w a a' hL.l7)
  have T := hide (TwoB.start w #[p0, p1, p2, p3, p4, p5, p6, p7, .bool x.stopped] #[q0, q1, q2, q3, q4, q5, q6, q7, .bool x.stopped] 46)
  have H0 := hide h0
  have K0 := hide k0
  obtain ⟨ao0, ac0, rfl, _⟩ := h0
  obtain ⟨bo0, bc0, rfl, _⟩ := k0
  have H1 := hide h1
  have K1 := hide k1
  obtain ⟨ao1, ac1, rfl, _⟩ := h1
  obtain ⟨bo1, bc1, rfl, _⟩ := k1
  have H2 := hide h2
  have K2 := hide k2
  obtain ⟨ao2, ac2, rfl, _⟩ := h2
  obtain ⟨bo2, bc2, rfl, _⟩ := k2
  have H3 := hide h3
  have K3 := hide k3
  obtain ⟨ao3, ac3, rfl, _⟩ := h3
  obtain ⟨bo3, bc3, rfl, _⟩ := k3
  have H4 := hide h4
  have K4 := hide k4
  obtain ⟨ao4, ac4, rfl, _⟩ := h4
  obtain ⟨bo4, bc4, rfl, _⟩ := k4
  have H5 := hide h5
  have K5 := hide k5
  obtain ⟨ao5, ac5, rfl, _⟩ := h5
  obtain ⟨bo5, bc5, rfl, _⟩ := k5
  have H6 := hide h6
  have K6 := hide k6
  obtain ⟨ao6, ac6, rfl, _⟩ := h6
  obtain ⟨bo6, bc6, rfl, _⟩ := k6
  have H7 := hide h7
  have K7 := hide k7
  obtain ⟨ao7, ac7, rfl, _⟩ := h7
  obtain ⟨bo7, bc7, rfl, _⟩ := k7
  obtain ⟨n0, en0⟩ : ∃ n, x.prog.nodes.length = n := ⟨_, rfl⟩
  obtain ⟨n1, en1⟩ : ∃ n, x.prog.mons.length = n := ⟨_, rfl⟩
  obtain ⟨n2, en2⟩ : ∃ n, x.prog.pros.length = n := ⟨_, rfl⟩
  obtain ⟨n3, en3⟩ : ∃ n, x.acts.length = n := ⟨_, rfl⟩
  obtain ⟨n4, en4⟩ : ∃ n, x.gates.length = n := ⟨_, rfl⟩
  obtain ⟨n5, en5⟩ : ∃ n, x.vars.length = n := ⟨_, rfl⟩
  obtain ⟨n6, en6⟩ : ∃ n, x.input.length = n := ⟨_, rfl⟩
  obtain ⟨n7, en7⟩ : ∃ n, x.events.length = n := ⟨_, rfl⟩
  clear hL
  simp only [en0, en1, en2, en3, en4, en5, en6, en7] at C2 C3 C4 C5 C6 C7 T H0 H1 H2 H3 H4 H5 H6 H7 K0 K1 K2 K3 K4 K5 K6 K7 ⊢
  clear en0 en1 en2 en3 en4 en5 en6 en7
  go_enter Try.func10, Try.ntmps10
  go_wp2_with fail
  refine (unhide (C2 _ (H0.out.stays T.out.bel) (K0.out.stays T.out.bel) (H1.out.stays T.out.bel) (K1.out.stays T.out.bel) (H2.out.stays T.out.bel) (K2.out.stays T.out.bel))).mono ?_
  rintro e z2 ⟨rfl, hb⟩
  replace T := hide (T.out.stays hb)
  clear hb
  have r0 := Lib.cell_of_heap T.out.bA 0
  have s0 := Lib.cell_of_heap T.out.bB 0
  have r1 := Lib.cell_of_heap T.out.bA 1
  have s1 := Lib.cell_of_heap T.out.bB 1
  have r2 := Lib.cell_of_heap T.out.bA 2
  have s2 := Lib.cell_of_heap T.out.bB 2
  have r3 := Lib.cell_of_heap T.out.bA 3
  have s3 := Lib.cell_of_heap T.out.bB 3
  have r4 := Lib.cell_of_heap T.out.bA 4
  have s4 := Lib.cell_of_heap T.out.bB 4
  have r5 := Lib.cell_of_heap T.out.bA 5
  have s5 := Lib.cell_of_heap T.out.bB 5
  have r6 := Lib.cell_of_heap T.out.bA 6
  have s6 := Lib.cell_of_heap T.out.bB 6
  have r7 := Lib.cell_of_heap T.out.bA 7
  have s7 := Lib.cell_of_heap T.out.bB 7
  have r8 := Lib.cell_of_heap T.out.bA 8
  have s8 := Lib.cell_of_heap T.out.bB 8
  simp at r0 s0 r1 s1 r2 s2 r3 s3 r4 s4 r5 s5 r6 s6 r7 s7 r8 s8
  go_wp2_with fail
  clear r0 s0 r1 s1 r2 s2 r3 s3 r4 s4 r5 s5 r6 s6 r7 s7 r8 s8
  refine (unhide (C3 _ (H3.out.stays T.out.bel) (K3.out.stays T.out.bel))).mono ?_
  rintro e z3 ⟨rfl, hb⟩
  replace T := hide (T.out.stays hb)
  clear hb
  have r0 := Lib.cell_of_heap T.out.bA 0
  have s0 := Lib.cell_of_heap T.out.bB 0
  have r1 := Lib.cell_of_heap T.out.bA 1
  have s1 := Lib.cell_of_heap T.out.bB 1
  have r2 := Lib.cell_of_heap T.out.bA 2
  have s2 := Lib.cell_of_heap T.out.bB 2
  have r3 := Lib.cell_of_heap T.out.bA 3
  have s3 := Lib.cell_of_heap T.out.bB 3
  have r4 := Lib.cell_of_heap T.out.bA 4
  have s4 := Lib.cell_of_heap T.out.bB 4
  have r5 := Lib.cell_of_heap T.out.bA 5
  have s5 := Lib.cell_of_heap T.out.bB 5
  have r6 := Lib.cell_of_heap T.out.bA 6
  have s6 := Lib.cell_of_heap T.out.bB 6
  have r7 := Lib.cell_of_heap T.out.bA 7
  have s7 := Lib.cell_of_heap T.out.bB 7
  have r8 := Lib.cell_of_heap T.out.bA 8
  have s8 := Lib.cell_of_heap T.out.bB 8
  simp at r0 s0 r1 s1 r2 s2 r3 s3 r4 s4 r5 s5 r6 s6 r7 s7 r8 s8
  go_wp2_with fail
  clear r0 s0 r1 s1 r2 s2 r3 s3 r4 s4 r5 s5 r6 s6 r7 s7 r8 s8
  refine (unhide (C4 _ (H4.out.stays T.out.bel) (K4.out.stays T.out.bel))).mono ?_
  rintro e z4 ⟨rfl, hb⟩
  replace T := hide (T.out.stays hb)
  clear hb
  have r0 := Lib.cell_of_heap T.out.bA 0
  have s0 := Lib.cell_of_heap T.out.bB 0
  have r1 := Lib.cell_of_heap T.out.bA 1
  have s1 := Lib.cell_of_heap T.out.bB 1
  have r2 := Lib.cell_of_heap T.out.bA 2
  have s2 := Lib.cell_of_heap T.out.bB 2
  have r3 := Lib.cell_of_heap T.out.bA 3
  have s3 := Lib.cell_of_heap T.out.bB 3
  have r4 := Lib.cell_of_heap T.out.bA 4
  have s4 := Lib.cell_of_heap T.out.bB 4
  have r5 := Lib.cell_of_heap T.out.bA 5
  have s5 := Lib.cell_of_heap T.out.bB 5
  have r6 := Lib.cell_of_heap T.out.bA 6
  have s6 := Lib.cell_of_heap T.out.bB 6
  have r7 := Lib.cell_of_heap T.out.bA 7
  have s7 := Lib.cell_of_heap T.out.bB 7
  have r8 := Lib.cell_of_heap T.out.bA 8
  have s8 := Lib.cell_of_heap T.out.bB 8
  simp at r0 s0 r1 s1 r2 s2 r3 s3 r4 s4 r5 s5 r6 s6 r7 s7 r8 s8
  go_wp2_with fail
  clear r0 s0 r1 s1 r2 s2 r3 s3 r4 s4 r5 s5 r6 s6 r7 s7 r8 s8
  refine (unhide (C5 _ (H5.out.stays T.out.bel) (K5.out.stays T.out.bel))).mono ?_
  rintro e z5 ⟨rfl, hb⟩
  replace T := hide (T.out.stays hb)
  clear hb
  have r0 := Lib.cell_of_heap T.out.bA 0
  have s0 := Lib.cell_of_heap T.out.bB 0
  have r1 := Lib.cell_of_heap T.out.bA 1
  have s1 := Lib.cell_of_heap T.out.bB 1
  have r2 := Lib.cell_of_heap T.out.bA 2
  have s2 := Lib.cell_of_heap T.out.bB 2
  have r3 := Lib.cell_of_heap T.out.bA 3
  have s3 := Lib.cell_of_heap T.out.bB 3
  have r4 := Lib.cell_of_heap T.out.bA 4
  have s4 := Lib.cell_of_heap T.out.bB 4
  have r5 := Lib.cell_of_heap T.out.bA 5
  have s5 := Lib.cell_of_heap T.out.bB 5
  have r6 := Lib.cell_of_heap T.out.bA 6
  have s6 := Lib.cell_of_heap T.out.bB 6
  have r7 := Lib.cell_of_heap T.out.bA 7
  have s7 := Lib.cell_of_heap T.out.bB 7
  have r8 := Lib.cell_of_heap T.out.bA 8
  have s8 := Lib.cell_of_heap T.out.bB 8
  simp at r0 s0 r1 s1 r2 s2 r3 s3 r4 s4 r5 s5 r6 s6 r7 s7 r8 s8
  go_wp2_with fail
  clear r0 s0 r1 s1 r2 s2 r3 s3 r4 s4 r5 s5 r6 s6 r7 s7 r8 s8
  refine (unhide (C6 _ (H6.out.stays T.out.bel) (K6.out.stays T.out.bel))).mono ?_
  rintro e z6 ⟨rfl, hb⟩
  replace T := hide (T.out.stays hb)
  clear hb
  have r0 := Lib.cell_of_heap T.out.bA 0
  have s0 := Lib.cell_of_heap T.out.bB 0
  have r1 := Lib.cell_of_heap T.out.bA 1
  have s1 := Lib.cell_of_heap T.out.bB 1
  have r2 := Lib.cell_of_heap T.out.bA 2
  have s2 := Lib.cell_of_heap T.out.bB 2
  have r3 := Lib.cell_of_heap T.out.bA 3
  have s3 := Lib.cell_of_heap T.out.bB 3
  have r4 := Lib.cell_of_heap T.out.bA 4
  have s4 := Lib.cell_of_heap T.out.bB 4
  have r5 := Lib.cell_of_heap T.out.bA 5
  have s5 := Lib.cell_of_heap T.out.bB 5
  have r6 := Lib.cell_of_heap T.out.bA 6
  have s6 := Lib.cell_of_heap T.out.bB 6
  have r7 := Lib.cell_of_heap T.out.bA 7
  have s7 := Lib.cell_of_heap T.out.bB 7
  have r8 := Lib.cell_of_heap T.out.bA 8
  have s8 := Lib.cell_of_heap T.out.bB 8
  simp at r0 s0 r1 s1 r2 s2 r3 s3 r4 s4 r5 s5 r6 s6 r7 s7 r8 s8
  go_wp2_with fail
  clear r0 s0 r1 s1 r2 s2 r3 s3 r4 s4 r5 s5 r6 s6 r7 s7 r8 s8
  refine (unhide (C7 _ (H7.out.stays T.out.bel) (K7.out.stays T.out.bel))).mono ?_
  rintro e z7 ⟨rfl, hb⟩
  replace T := hide (T.out.stays hb)
  clear hb
  have r0 := Lib.cell_of_heap T.out.bA 0
  have s0 := Lib.cell_of_heap T.out.bB 0
  have r1 := Lib.cell_of_heap T.out.bA 1
  have s1 := Lib.cell_of_heap T.out.bB 1
  have r2 := Lib.cell_of_heap T.out.bA 2
  have s2 := Lib.cell_of_heap T.out.bB 2
  have r3 := Lib.cell_of_heap T.out.bA 3
  have s3 := Lib.cell_of_heap T.out.bB 3
  have r4 := Lib.cell_of_heap T.out.bA 4
  have s4 := Lib.cell_of_heap T.out.bB 4
  have r5 := Lib.cell_of_heap T.out.bA 5
  have s5 := Lib.cell_of_heap T.out.bB 5
  have r6 := Lib.cell_of_heap T.out.bA 6
  have s6 := Lib.cell_of_heap T.out.bB 6
  have r7 := Lib.cell_of_heap T.out.bA 7
  have s7 := Lib.cell_of_heap T.out.bB 7
  have r8 := Lib.cell_of_heap T.out.bA 8
  have s8 := Lib.cell_of_heap T.out.bB 8
  simp at r0 s0 r1 s1 r2 s2 r3 s3 r4 s4 r5 s5 r6 s6 r7 s7 r8 s8
  go_wp2
  go_ret
  exact ⟨rfl, T.out.bel⟩
end Go.Proofs.Ytkoelibclihekaa
