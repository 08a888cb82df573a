/-
  Nodes, monitors and processes held against each other, by the program.
-/
import Derived.Test.YtnkdichgdnghcaaSameA
namespace Go.Proofs.Ytnkdichgdnghcaa
open Go.RowKit

def ndB (x y : Nd) : Bool := intB x.kind y.kind && intB x.num y.num && strB x.name y.name && strB x.more y.more && strB x.into y.into && (alike intB x.kids y.kids)
set_option maxRecDepth 100000 in
set_option maxHeartbeats 2000000 in
theorem sameNd_any (x y : Nd) (p5 q5 : Value) (w : World) (h5 : IntsAt w p5 x.kids) (k5 : IntsAt w q5 y.kids) (l5 : x.kids.length ≤ 1048576) (m5 : y.kids.length ≤ 1048576) :
    Calls Try.prog 18 #[.agg #[.int .i64 x.kind, .int .i64 x.num, .string x.name, .string x.more, .string x.into, p5], .agg #[.int .i64 y.kind, .int .i64 y.num, .string y.name, .string y.more, .string y.into, q5]] w fun e w' => e = .returned (.bool (ndB x y)) ∧ Below w.heap.size w w' := by
  have C5 := fun w h k => hide (equalI_any p5 q5 x.kids y.kids w h k l5 m5)
  have H5 := hide h5
  have K5 := hide k5
  have T := hide (TwoB.start w #[.int .i64 x.kind, .int .i64 x.num, .string x.name, .string x.more, .string x.into, p5] #[.int .i64 y.kind, .int .i64 y.num, .string y.name, .string y.more, .string y.into, q5] 41)
  obtain ⟨ao5, ac5, rfl, _⟩ := h5
  obtain ⟨bo5, bc5, rfl, _⟩ := k5
  obtain ⟨s, es⟩ : ∃ s, ndB x y = s := ⟨_, rfl⟩
  have ES := hide es
  rw [es]
  clear es
  clear l5 m5
  obtain ⟨a0, a1, a2, a3, a4, a5⟩ := x
  obtain ⟨b0, b1, b2, b3, b4, b5⟩ := y
  dsimp only at *
  cases h0 : intB a0 b0 with
  | false =>
    have HF : Hid (s = false) := by rw [← ES.out]; show _ = _; unfold ndB; simp [h0]
    unfold intB at h0
    simp only [decide_eq_false_iff_not] at h0
    have hq0 : (a0 == b0) = false := by simpa using h0
    go_enter Try.func18, Try.ntmps18
    go_wp2
    go_ret
    exact ⟨by rw [HF.out]; first | rfl | (simp only [hq0]; rfl), T.out.bel⟩
  | true =>
    cases h1 : intB a1 b1 with
    | false =>
      have HF : Hid (s = false) := by rw [← ES.out]; show _ = _; unfold ndB; simp [h0, h1]
      unfold intB at h0
      simp only [decide_eq_true_eq] at h0
      subst h0
      unfold intB at h1
      simp only [decide_eq_false_iff_not] at h1
      have hq1 : (a1 == b1) = false := by simpa using h1
      go_enter Try.func18, Try.ntmps18
      go_wp2
      go_ret
      exact ⟨by rw [HF.out]; first | rfl | (simp only [hq1]; rfl), T.out.bel⟩
    | true =>
      cases h2 : strB a2 b2 with
      | false =>
        have HF : Hid (s = false) := by rw [← ES.out]; show _ = _; unfold ndB; simp [h0, h1, h2]
        unfold intB at h0
        simp only [decide_eq_true_eq] at h0
        subst h0
        unfold intB at h1
        simp only [decide_eq_true_eq] at h1
        subst h1
        unfold strB at h2
        go_enter Try.func18, Try.ntmps18
        go_wp2
        go_ret
        exact ⟨by rw [HF.out]; first | rfl | (simp only [hq2]; rfl), T.out.bel⟩
      | true =>
        cases h3 : strB a3 b3 with
        | false =>
          have HF : Hid (s = false) := by rw [← ES.out]; show _ = _; unfold ndB; simp [h0, h1, h2, h3]
          unfold intB at h0
          simp only [decide_eq_true_eq] at h0
          subst h0
          unfold intB at h1
          simp only [decide_eq_true_eq] at h1
          subst h1
          unfold strB at h2
          unfold strB at h3
          go_enter Try.func18, Try.ntmps18
          go_wp2
          go_ret
          exact ⟨by rw [HF.out]; first | rfl | (simp only [hq3]; rfl), T.out.bel⟩
        | true =>
          cases h4 : strB a4 b4 with
          | false =>
            have HF : Hid (s = false) := by rw [← ES.out]; show _ = _; unfold ndB; simp [h0, h1, h2, h3, h4]
            unfold intB at h0
            simp only [decide_eq_true_eq] at h0
            subst h0
            unfold intB at h1
            simp only [decide_eq_true_eq] at h1
            subst h1
            unfold strB at h2
            unfold strB at h3
            unfold strB at h4
            go_enter Try.func18, Try.ntmps18
            go_wp2
            go_ret
            exact ⟨by rw [HF.out]; first | rfl | (simp only [hq4]; rfl), T.out.bel⟩
          | true =>
            cases h5 : alike intB a5 b5 with
            | false =>
              have HF : Hid (s = false) := by rw [← ES.out]; show _ = _; unfold ndB; simp [h0, h1, h2, h3, h4, h5]
              rw [h5] at C5
              clear h5
              unfold intB at h0
              simp only [decide_eq_true_eq] at h0
              subst h0
              unfold intB at h1
              simp only [decide_eq_true_eq] at h1
              subst h1
              unfold strB at h2
              unfold strB at h3
              unfold strB at h4
              go_enter Try.func18, Try.ntmps18
              go_wp2_with fail
              refine (unhide (C5 _ (H5.out.stays T.out.bel) (K5.out.stays T.out.bel))).mono ?_
              rintro e z5 ⟨rfl, hb5⟩
              have T5 := hide (T.out.stays hb5)
              have r0 := Lib.cell_of_heap T5.out.bA 0
              have s0 := Lib.cell_of_heap T5.out.bB 0
              have r1 := Lib.cell_of_heap T5.out.bA 1
              have s1 := Lib.cell_of_heap T5.out.bB 1
              have r2 := Lib.cell_of_heap T5.out.bA 2
              have s2 := Lib.cell_of_heap T5.out.bB 2
              have r3 := Lib.cell_of_heap T5.out.bA 3
              have s3 := Lib.cell_of_heap T5.out.bB 3
              have r4 := Lib.cell_of_heap T5.out.bA 4
              have s4 := Lib.cell_of_heap T5.out.bB 4
              have r5 := Lib.cell_of_heap T5.out.bA 5
              have s5 := Lib.cell_of_heap T5.out.bB 5
              simp at r0 s0 r1 s1 r2 s2 r3 s3 r4 s4 r5 s5
              clear hb5
              go_wp2
              go_ret
              exact ⟨by rw [HF.out]; first | rfl | (simp only [hq5]; rfl), T5.out.bel⟩
            | true =>
              have HF : Hid (s = true) := by rw [← ES.out]; show _ = _; unfold ndB; simp [h0, h1, h2, h3, h4, h5]
              rw [h5] at C5
              clear h5
              unfold intB at h0
              simp only [decide_eq_true_eq] at h0
              subst h0
              unfold intB at h1
              simp only [decide_eq_true_eq] at h1
              subst h1
              unfold strB at h2
              unfold strB at h3
              unfold strB at h4
              go_enter Try.func18, Try.ntmps18
              go_wp2_with fail
              refine (unhide (C5 _ (H5.out.stays T.out.bel) (K5.out.stays T.out.bel))).mono ?_
              rintro e z5 ⟨rfl, hb5⟩
              have T5 := hide (T.out.stays hb5)
              have r0 := Lib.cell_of_heap T5.out.bA 0
              have s0 := Lib.cell_of_heap T5.out.bB 0
              have r1 := Lib.cell_of_heap T5.out.bA 1
              have s1 := Lib.cell_of_heap T5.out.bB 1
              have r2 := Lib.cell_of_heap T5.out.bA 2
              have s2 := Lib.cell_of_heap T5.out.bB 2
              have r3 := Lib.cell_of_heap T5.out.bA 3
              have s3 := Lib.cell_of_heap T5.out.bB 3
              have r4 := Lib.cell_of_heap T5.out.bA 4
              have s4 := Lib.cell_of_heap T5.out.bB 4
              have r5 := Lib.cell_of_heap T5.out.bA 5
              have s5 := Lib.cell_of_heap T5.out.bB 5
              simp at r0 s0 r1 s1 r2 s2 r3 s3 r4 s4 r5 s5
              clear hb5
              go_wp2
              go_ret
              exact ⟨by rw [HF.out]; first | rfl | (simp only [hq6]; rfl), T5.out.bel⟩
def moB (x y : Mo) : Bool := strB x.name y.name && (alike strB x.vars y.vars) && (alike strB x.queues y.queues) && (alike enB x.ents y.ents)
set_option maxRecDepth 100000 in
set_option maxHeartbeats 2000000 in
theorem sameMo_any (x y : Mo) (p1 q1 p2 q2 p3 q3 : Value) (w : World) (h1 : StrsAt w p1 x.vars) (k1 : StrsAt w q1 y.vars) (l1 : x.vars.length ≤ 1048576) (m1 : y.vars.length ≤ 1048576) (h2 : StrsAt w p2 x.queues) (k2 : StrsAt w q2 y.queues) (l2 : x.queues.length ≤ 1048576) (m2 : y.queues.length ≤ 1048576) (h3 : EnsAt w p3 x.ents) (k3 : EnsAt w q3 y.ents) (l3 : x.ents.length ≤ 1048576) (m3 : y.ents.length ≤ 1048576) :
    Calls Try.prog 20 #[.agg #[.string x.name, p1, p2, p3], .agg #[.string y.name, q1, q2, q3]] w fun e w' => e = .returned (.bool (moB x y)) ∧ Below w.heap.size w w' := by
  have C1 := fun w h k => hide (equalS_any p1 q1 x.vars y.vars w h k l1 m1)
  have H1 := hide h1
  have K1 := hide k1
  have C2 := fun w h k => hide (equalS_any p2 q2 x.queues y.queues w h k l2 m2)
  have H2 := hide h2
  have K2 := hide k2
  have C3 := fun w h k => hide (equalE_any p3 q3 x.ents y.ents w h k l3 m3)
  have H3 := hide h3
  have K3 := hide k3
  have T := hide (TwoB.start w #[.string x.name, p1, p2, p3] #[.string y.name, q1, q2, q3] 46)
  obtain ⟨ao1, ac1, rfl, _⟩ := h1
  obtain ⟨bo1, bc1, rfl, _⟩ := k1
  obtain ⟨ao2, ac2, rfl, _⟩ := h2
  obtain ⟨bo2, bc2, rfl, _⟩ := k2
  obtain ⟨ao3, ac3, rfl, _⟩ := h3
  obtain ⟨bo3, bc3, rfl, _⟩ := k3
  obtain ⟨s, es⟩ : ∃ s, moB x y = s := ⟨_, rfl⟩
  have ES := hide es
  rw [es]
  clear es
  clear l1 m1
  clear l2 m2
  clear l3 m3
  obtain ⟨a0, a1, a2, a3⟩ := x
  obtain ⟨b0, b1, b2, b3⟩ := y
  dsimp only at *
  cases h0 : strB a0 b0 with
  | false =>
    have HF : Hid (s = false) := by rw [← ES.out]; show _ = _; unfold moB; simp [h0]
    unfold strB at h0
    go_enter Try.func20, Try.ntmps20
    go_wp2
    go_ret
    exact ⟨by rw [HF.out]; first | rfl | (simp only [hq0]; rfl), T.out.bel⟩
  | true =>
    cases h1 : alike strB a1 b1 with
    | false =>
      have HF : Hid (s = false) := by rw [← ES.out]; show _ = _; unfold moB; simp [h0, h1]
      rw [h1] at C1
      clear h1
      unfold strB at h0
      go_enter Try.func20, Try.ntmps20
      go_wp2_with fail
      refine (unhide (C1 _ (H1.out.stays T.out.bel) (K1.out.stays T.out.bel))).mono ?_
      rintro e z1 ⟨rfl, hb1⟩
      have T1 := hide (T.out.stays hb1)
      have r0 := Lib.cell_of_heap T1.out.bA 0
      have s0 := Lib.cell_of_heap T1.out.bB 0
      have r1 := Lib.cell_of_heap T1.out.bA 1
      have s1 := Lib.cell_of_heap T1.out.bB 1
      have r2 := Lib.cell_of_heap T1.out.bA 2
      have s2 := Lib.cell_of_heap T1.out.bB 2
      have r3 := Lib.cell_of_heap T1.out.bA 3
      have s3 := Lib.cell_of_heap T1.out.bB 3
      simp at r0 s0 r1 s1 r2 s2 r3 s3
      clear hb1
      go_wp2
      go_ret
      exact ⟨by rw [HF.out]; first | rfl | (simp only [hq1]; rfl), T1.out.bel⟩
    | true =>
      cases h2 : alike strB a2 b2 with
      | false =>
        have HF : Hid (s = false) := by rw [← ES.out]; show _ = _; unfold moB; simp [h0, h1, h2]
        rw [h1] at C1
        rw [h2] at C2
        clear h1
        clear h2
        unfold strB at h0
        go_enter Try.func20, Try.ntmps20
        go_wp2_with fail
        refine (unhide (C1 _ (H1.out.stays T.out.bel) (K1.out.stays T.out.bel))).mono ?_
        rintro e z1 ⟨rfl, hb1⟩
        have T1 := hide (T.out.stays hb1)
        have r0 := Lib.cell_of_heap T1.out.bA 0
        have s0 := Lib.cell_of_heap T1.out.bB 0
        have r1 := Lib.cell_of_heap T1.out.bA 1
        have s1 := Lib.cell_of_heap T1.out.bB 1
        have r2 := Lib.cell_of_heap T1.out.bA 2
        have s2 := Lib.cell_of_heap T1.out.bB 2
        have r3 := Lib.cell_of_heap T1.out.bA 3
        have s3 := Lib.cell_of_heap T1.out.bB 3
        simp at r0 s0 r1 s1 r2 s2 r3 s3
        clear hb1
        go_wp2_with fail
        refine (unhide (C2 _ (H2.out.stays T1.out.bel) (K2.out.stays T1.out.bel))).mono ?_
        rintro e z2 ⟨rfl, hb2⟩
        have T2 := hide (T1.out.stays hb2)
        clear r0 s0 r1 s1 r2 s2 r3 s3
        have r0 := Lib.cell_of_heap T2.out.bA 0
        have s0 := Lib.cell_of_heap T2.out.bB 0
        have r1 := Lib.cell_of_heap T2.out.bA 1
        have s1 := Lib.cell_of_heap T2.out.bB 1
        have r2 := Lib.cell_of_heap T2.out.bA 2
        have s2 := Lib.cell_of_heap T2.out.bB 2
        have r3 := Lib.cell_of_heap T2.out.bA 3
        have s3 := Lib.cell_of_heap T2.out.bB 3
        simp at r0 s0 r1 s1 r2 s2 r3 s3
        clear hb2
        go_wp2
        go_ret
        exact ⟨by rw [HF.out]; first | rfl | (simp only [hq2]; rfl), T2.out.bel⟩
      | true =>
        cases h3 : alike enB a3 b3 with
        | false =>
          have HF : Hid (s = false) := by rw [← ES.out]; show _ = _; unfold moB; simp [h0, h1, h2, h3]
          rw [h1] at C1
          rw [h2] at C2
          rw [h3] at C3
          clear h1
          clear h2
          clear h3
          unfold strB at h0
          go_enter Try.func20, Try.ntmps20
          go_wp2_with fail
          refine (unhide (C1 _ (H1.out.stays T.out.bel) (K1.out.stays T.out.bel))).mono ?_
          rintro e z1 ⟨rfl, hb1⟩
          have T1 := hide (T.out.stays hb1)
          have r0 := Lib.cell_of_heap T1.out.bA 0
          have s0 := Lib.cell_of_heap T1.out.bB 0
          have r1 := Lib.cell_of_heap T1.out.bA 1
          have s1 := Lib.cell_of_heap T1.out.bB 1
          have r2 := Lib.cell_of_heap T1.out.bA 2
          have s2 := Lib.cell_of_heap T1.out.bB 2
          have r3 := Lib.cell_of_heap T1.out.bA 3
          have s3 := Lib.cell_of_heap T1.out.bB 3
          simp at r0 s0 r1 s1 r2 s2 r3 s3
          clear hb1
          go_wp2_with fail
          refine (unhide (C2 _ (H2.out.stays T1.out.bel) (K2.out.stays T1.out.bel))).mono ?_
          rintro e z2 ⟨rfl, hb2⟩
          have T2 := hide (T1.out.stays hb2)
          clear r0 s0 r1 s1 r2 s2 r3 s3
          have r0 := Lib.cell_of_heap T2.out.bA 0
          have s0 := Lib.cell_of_heap T2.out.bB 0
          have r1 := Lib.cell_of_heap T2.out.bA 1
          have s1 := Lib.cell_of_heap T2.out.bB 1
          have r2 := Lib.cell_of_heap T2.out.bA 2
          have s2 := Lib.cell_of_heap T2.out.bB 2
          have r3 := Lib.cell_of_heap T2.out.bA 3
          have s3 := Lib.cell_of_heap T2.out.bB 3
          simp at r0 s0 r1 s1 r2 s2 r3 s3
          clear hb2
          go_wp2_with fail
          refine (unhide (C3 _ (H3.out.stays T2.out.bel) (K3.out.stays T2.out.bel))).mono ?_
          rintro e z3 ⟨rfl, hb3⟩
          have T3 := hide (T2.out.stays hb3)
          clear r0 s0 r1 s1 r2 s2 r3 s3
          have r0 := Lib.cell_of_heap T3.out.bA 0
          have s0 := Lib.cell_of_heap T3.out.bB 0
          have r1 := Lib.cell_of_heap T3.out.bA 1
          have s1 := Lib.cell_of_heap T3.out.bB 1
          have r2 := Lib.cell_of_heap T3.out.bA 2
          have s2 := Lib.cell_of_heap T3.out.bB 2
          have r3 := Lib.cell_of_heap T3.out.bA 3
          have s3 := Lib.cell_of_heap T3.out.bB 3
          simp at r0 s0 r1 s1 r2 s2 r3 s3
          clear hb3
          go_wp2
          go_ret
          exact ⟨by rw [HF.out]; first | rfl | (simp only [hq3]; rfl), T3.out.bel⟩
        | true =>
          have HF : Hid (s = true) := by rw [← ES.out]; show _ = _; unfold moB; simp [h0, h1, h2, h3]
          rw [h1] at C1
          rw [h2] at C2
          rw [h3] at C3
          clear h1
          clear h2
          clear h3
          unfold strB at h0
          go_enter Try.func20, Try.ntmps20
          go_wp2_with fail
          refine (unhide (C1 _ (H1.out.stays T.out.bel) (K1.out.stays T.out.bel))).mono ?_
          rintro e z1 ⟨rfl, hb1⟩
          have T1 := hide (T.out.stays hb1)
          have r0 := Lib.cell_of_heap T1.out.bA 0
          have s0 := Lib.cell_of_heap T1.out.bB 0
          have r1 := Lib.cell_of_heap T1.out.bA 1
          have s1 := Lib.cell_of_heap T1.out.bB 1
          have r2 := Lib.cell_of_heap T1.out.bA 2
          have s2 := Lib.cell_of_heap T1.out.bB 2
          have r3 := Lib.cell_of_heap T1.out.bA 3
          have s3 := Lib.cell_of_heap T1.out.bB 3
          simp at r0 s0 r1 s1 r2 s2 r3 s3
          clear hb1
          go_wp2_with fail
          refine (unhide (C2 _ (H2.out.stays T1.out.bel) (K2.out.stays T1.out.bel))).mono ?_
          rintro e z2 ⟨rfl, hb2⟩
          have T2 := hide (T1.out.stays hb2)
          clear r0 s0 r1 s1 r2 s2 r3 s3
          have r0 := Lib.cell_of_heap T2.out.bA 0
          have s0 := Lib.cell_of_heap T2.out.bB 0
          have r1 := Lib.cell_of_heap T2.out.bA 1
          have s1 := Lib.cell_of_heap T2.out.bB 1
          have r2 := Lib.cell_of_heap T2.out.bA 2
          have s2 := Lib.cell_of_heap T2.out.bB 2
          have r3 := Lib.cell_of_heap T2.out.bA 3
          have s3 := Lib.cell_of_heap T2.out.bB 3
          simp at r0 s0 r1 s1 r2 s2 r3 s3
          clear hb2
          go_wp2_with fail
          refine (unhide (C3 _ (H3.out.stays T2.out.bel) (K3.out.stays T2.out.bel))).mono ?_
          rintro e z3 ⟨rfl, hb3⟩
          have T3 := hide (T2.out.stays hb3)
          clear r0 s0 r1 s1 r2 s2 r3 s3
          have r0 := Lib.cell_of_heap T3.out.bA 0
          have s0 := Lib.cell_of_heap T3.out.bB 0
          have r1 := Lib.cell_of_heap T3.out.bA 1
          have s1 := Lib.cell_of_heap T3.out.bB 1
          have r2 := Lib.cell_of_heap T3.out.bA 2
          have s2 := Lib.cell_of_heap T3.out.bB 2
          have r3 := Lib.cell_of_heap T3.out.bA 3
          have s3 := Lib.cell_of_heap T3.out.bB 3
          simp at r0 s0 r1 s1 r2 s2 r3 s3
          clear hb3
          go_wp2
          go_ret
          exact ⟨by rw [HF.out]; first | rfl | (simp only [hq4]; rfl), T3.out.bel⟩
def prB (x y : Pr) : Bool := strB x.name y.name && (alike strB x.uses y.uses) && (alike strB x.vars y.vars) && intB x.body y.body
set_option maxRecDepth 100000 in
set_option maxHeartbeats 2000000 in
theorem samePr_any (x y : Pr) (p1 q1 p2 q2 : Value) (w : World) (h1 : StrsAt w p1 x.uses) (k1 : StrsAt w q1 y.uses) (l1 : x.uses.length ≤ 1048576) (m1 : y.uses.length ≤ 1048576) (h2 : StrsAt w p2 x.vars) (k2 : StrsAt w q2 y.vars) (l2 : x.vars.length ≤ 1048576) (m2 : y.vars.length ≤ 1048576) :
    Calls Try.prog 22 #[.agg #[.string x.name, p1, p2, .int .i64 x.body], .agg #[.string y.name, q1, q2, .int .i64 y.body]] w fun e w' => e = .returned (.bool (prB x y)) ∧ Below w.heap.size w w' := by
  have C1 := fun w h k => hide (equalS_any p1 q1 x.uses y.uses w h k l1 m1)
  have H1 := hide h1
  have K1 := hide k1
  have C2 := fun w h k => hide (equalS_any p2 q2 x.vars y.vars w h k l2 m2)
  have H2 := hide h2
  have K2 := hide k2
  have T := hide (TwoB.start w #[.string x.name, p1, p2, .int .i64 x.body] #[.string y.name, q1, q2, .int .i64 y.body] 51)
  obtain ⟨ao1, ac1, rfl, _⟩ := h1
  obtain ⟨bo1, bc1, rfl, _⟩ := k1
  obtain ⟨ao2, ac2, rfl, _⟩ := h2
  obtain ⟨bo2, bc2, rfl, _⟩ := k2
  obtain ⟨s, es⟩ : ∃ s, prB x y = s := ⟨_, rfl⟩
  have ES := hide es
  rw [es]
  clear es
  clear l1 m1
  clear l2 m2
  obtain ⟨a0, a1, a2, a3⟩ := x
  obtain ⟨b0, b1, b2, b3⟩ := y
  dsimp only at *
  cases h0 : strB a0 b0 with
  | false =>
    have HF : Hid (s = false) := by rw [← ES.out]; show _ = _; unfold prB; simp [h0]
    unfold strB at h0
    go_enter Try.func22, Try.ntmps22
    go_wp2
    go_ret
    exact ⟨by rw [HF.out]; first | rfl | (simp only [hq0]; rfl), T.out.bel⟩
  | true =>
    cases h1 : alike strB a1 b1 with
    | false =>
      have HF : Hid (s = false) := by rw [← ES.out]; show _ = _; unfold prB; simp [h0, h1]
      rw [h1] at C1
      clear h1
      unfold strB at h0
      go_enter Try.func22, Try.ntmps22
      go_wp2_with fail
      refine (unhide (C1 _ (H1.out.stays T.out.bel) (K1.out.stays T.out.bel))).mono ?_
      rintro e z1 ⟨rfl, hb1⟩
      have T1 := hide (T.out.stays hb1)
      have r0 := Lib.cell_of_heap T1.out.bA 0
      have s0 := Lib.cell_of_heap T1.out.bB 0
      have r1 := Lib.cell_of_heap T1.out.bA 1
      have s1 := Lib.cell_of_heap T1.out.bB 1
      have r2 := Lib.cell_of_heap T1.out.bA 2
      have s2 := Lib.cell_of_heap T1.out.bB 2
      have r3 := Lib.cell_of_heap T1.out.bA 3
      have s3 := Lib.cell_of_heap T1.out.bB 3
      simp at r0 s0 r1 s1 r2 s2 r3 s3
      clear hb1
      go_wp2
      go_ret
      exact ⟨by rw [HF.out]; first | rfl | (simp only [hq1]; rfl), T1.out.bel⟩
    | true =>
      cases h2 : alike strB a2 b2 with
      | false =>
        have HF : Hid (s = false) := by rw [← ES.out]; show _ = _; unfold prB; simp [h0, h1, h2]
        rw [h1] at C1
        rw [h2] at C2
        clear h1
        clear h2
        unfold strB at h0
        go_enter Try.func22, Try.ntmps22
        go_wp2_with fail
        refine (unhide (C1 _ (H1.out.stays T.out.bel) (K1.out.stays T.out.bel))).mono ?_
        rintro e z1 ⟨rfl, hb1⟩
        have T1 := hide (T.out.stays hb1)
        have r0 := Lib.cell_of_heap T1.out.bA 0
        have s0 := Lib.cell_of_heap T1.out.bB 0
        have r1 := Lib.cell_of_heap T1.out.bA 1
        have s1 := Lib.cell_of_heap T1.out.bB 1
        have r2 := Lib.cell_of_heap T1.out.bA 2
        have s2 := Lib.cell_of_heap T1.out.bB 2
        have r3 := Lib.cell_of_heap T1.out.bA 3
        have s3 := Lib.cell_of_heap T1.out.bB 3
        simp at r0 s0 r1 s1 r2 s2 r3 s3
        clear hb1
        go_wp2_with fail
        refine (unhide (C2 _ (H2.out.stays T1.out.bel) (K2.out.stays T1.out.bel))).mono ?_
        rintro e z2 ⟨rfl, hb2⟩
        have T2 := hide (T1.out.stays hb2)
        clear r0 s0 r1 s1 r2 s2 r3 s3
        have r0 := Lib.cell_of_heap T2.out.bA 0
        have s0 := Lib.cell_of_heap T2.out.bB 0
        have r1 := Lib.cell_of_heap T2.out.bA 1
        have s1 := Lib.cell_of_heap T2.out.bB 1
        have r2 := Lib.cell_of_heap T2.out.bA 2
        have s2 := Lib.cell_of_heap T2.out.bB 2
        have r3 := Lib.cell_of_heap T2.out.bA 3
        have s3 := Lib.cell_of_heap T2.out.bB 3
        simp at r0 s0 r1 s1 r2 s2 r3 s3
        clear hb2
        go_wp2
        go_ret
        exact ⟨by rw [HF.out]; first | rfl | (simp only [hq2]; rfl), T2.out.bel⟩
      | true =>
        cases h3 : intB a3 b3 with
        | false =>
          have HF : Hid (s = false) := by rw [← ES.out]; show _ = _; unfold prB; simp [h0, h1, h2, h3]
          rw [h1] at C1
          rw [h2] at C2
          clear h1
          clear h2
          unfold strB at h0
          unfold intB at h3
          simp only [decide_eq_false_iff_not] at h3
          have hq3 : (a3 == b3) = false := by simpa using h3
          go_enter Try.func22, Try.ntmps22
          go_wp2_with fail
          refine (unhide (C1 _ (H1.out.stays T.out.bel) (K1.out.stays T.out.bel))).mono ?_
          rintro e z1 ⟨rfl, hb1⟩
          have T1 := hide (T.out.stays hb1)
          have r0 := Lib.cell_of_heap T1.out.bA 0
          have s0 := Lib.cell_of_heap T1.out.bB 0
          have r1 := Lib.cell_of_heap T1.out.bA 1
          have s1 := Lib.cell_of_heap T1.out.bB 1
          have r2 := Lib.cell_of_heap T1.out.bA 2
          have s2 := Lib.cell_of_heap T1.out.bB 2
          have r3 := Lib.cell_of_heap T1.out.bA 3
          have s3 := Lib.cell_of_heap T1.out.bB 3
          simp at r0 s0 r1 s1 r2 s2 r3 s3
          clear hb1
          go_wp2_with fail
          refine (unhide (C2 _ (H2.out.stays T1.out.bel) (K2.out.stays T1.out.bel))).mono ?_
          rintro e z2 ⟨rfl, hb2⟩
          have T2 := hide (T1.out.stays hb2)
          clear r0 s0 r1 s1 r2 s2 r3 s3
          have r0 := Lib.cell_of_heap T2.out.bA 0
          have s0 := Lib.cell_of_heap T2.out.bB 0
          have r1 := Lib.cell_of_heap T2.out.bA 1
          have s1 := Lib.cell_of_heap T2.out.bB 1
          have r2 := Lib.cell_of_heap T2.out.bA 2
          have s2 := Lib.cell_of_heap T2.out.bB 2
          have r3 := Lib.cell_of_heap T2.out.bA 3
          have s3 := Lib.cell_of_heap T2.out.bB 3
          simp at r0 s0 r1 s1 r2 s2 r3 s3
          clear hb2
          go_wp2
          go_ret
          exact ⟨by rw [HF.out]; first | rfl | (simp only [hq3]; rfl), T2.out.bel⟩
        | true =>
          have HF : Hid (s = true) := by rw [← ES.out]; show _ = _; unfold prB; simp [h0, h1, h2, h3]
          rw [h1] at C1
          rw [h2] at C2
          clear h1
          clear h2
          unfold strB at h0
          unfold intB at h3
          simp only [decide_eq_true_eq] at h3
          subst h3
          go_enter Try.func22, Try.ntmps22
          go_wp2_with fail
          refine (unhide (C1 _ (H1.out.stays T.out.bel) (K1.out.stays T.out.bel))).mono ?_
          rintro e z1 ⟨rfl, hb1⟩
          have T1 := hide (T.out.stays hb1)
          have r0 := Lib.cell_of_heap T1.out.bA 0
          have s0 := Lib.cell_of_heap T1.out.bB 0
          have r1 := Lib.cell_of_heap T1.out.bA 1
          have s1 := Lib.cell_of_heap T1.out.bB 1
          have r2 := Lib.cell_of_heap T1.out.bA 2
          have s2 := Lib.cell_of_heap T1.out.bB 2
          have r3 := Lib.cell_of_heap T1.out.bA 3
          have s3 := Lib.cell_of_heap T1.out.bB 3
          simp at r0 s0 r1 s1 r2 s2 r3 s3
          clear hb1
          go_wp2_with fail
          refine (unhide (C2 _ (H2.out.stays T1.out.bel) (K2.out.stays T1.out.bel))).mono ?_
          rintro e z2 ⟨rfl, hb2⟩
          have T2 := hide (T1.out.stays hb2)
          clear r0 s0 r1 s1 r2 s2 r3 s3
          have r0 := Lib.cell_of_heap T2.out.bA 0
          have s0 := Lib.cell_of_heap T2.out.bB 0
          have r1 := Lib.cell_of_heap T2.out.bA 1
          have s1 := Lib.cell_of_heap T2.out.bB 1
          have r2 := Lib.cell_of_heap T2.out.bA 2
          have s2 := Lib.cell_of_heap T2.out.bB 2
          have r3 := Lib.cell_of_heap T2.out.bA 3
          have s3 := Lib.cell_of_heap T2.out.bB 3
          simp at r0 s0 r1 s1 r2 s2 r3 s3
          clear hb2
          go_wp2
          go_ret
          exact ⟨by rw [HF.out]; first | rfl | (simp only [hq4]; rfl), T2.out.bel⟩
end Go.Proofs.Ytnkdichgdnghcaa
