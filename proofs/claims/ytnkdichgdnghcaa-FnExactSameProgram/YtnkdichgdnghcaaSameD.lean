/-
  Programs held against each other, by the program.
-/
import Derived.Test.YtnkdichgdnghcaaSameC
namespace Go.Proofs.Ytnkdichgdnghcaa
open Go.RowKit

def pgB (x y : Pg) : Bool := (alike ndB x.nodes y.nodes) && (alike moB x.mons y.mons) && (alike prB x.pros y.pros)
set_option maxRecDepth 100000 in
set_option maxHeartbeats 2000000 in
theorem samePg_any (x y : Pg) (p0 q0 p1 q1 p2 q2 : Value) (w : World) (h0 : NdsAt w p0 x.nodes) (k0 : NdsAt w q0 y.nodes) (h1 : MosAt w p1 x.mons) (k1 : MosAt w q1 y.mons) (h2 : PrsAt w p2 x.pros) (k2 : PrsAt w q2 y.pros) (lx : PgLen x) (ly : PgLen y) :
    Calls Try.prog 7 #[.agg #[p0, p1, p2], .agg #[q0, q1, q2]] w fun e w' => e = .returned (.bool (pgB x y)) ∧ Below w.heap.size w w' := by
  have C0 := fun w h k => hide (eqfNd_any p0 q0 x.nodes y.nodes w h k lx.nl ly.nl lx.kids ly.kids)
  have H0 := hide h0
  have K0 := hide k0
  have C1 := fun w h k => hide (eqfMo_any p1 q1 x.mons y.mons w h k lx.ml ly.ml lx.mon ly.mon)
  have H1 := hide h1
  have K1 := hide k1
  have C2 := fun w h k => hide (eqfPr_any p2 q2 x.pros y.pros w h k lx.pl ly.pl lx.pro ly.pro)
  have H2 := hide h2
  have K2 := hide k2
  have T := hide (TwoB.start w #[p0, p1, p2] #[q0, q1, q2] 33)
  obtain ⟨ao0, ac0, rfl, _⟩ := h0
  obtain ⟨bo0, bc0, rfl, _⟩ := k0
  obtain ⟨ao1, ac1, rfl, _⟩ := h1
  obtain ⟨bo1, bc1, rfl, _⟩ := k1
  obtain ⟨ao2, ac2, rfl, _⟩ := h2
  obtain ⟨bo2, bc2, rfl, _⟩ := k2
  obtain ⟨s, es⟩ : ∃ s, pgB x y = s := ⟨_, rfl⟩
  have ES := hide es
  rw [es]
  clear es
  clear lx ly
  obtain ⟨a0, a1, a2⟩ := x
  obtain ⟨b0, b1, b2⟩ := y
  dsimp only at *
  cases h0 : alike ndB a0 b0 with
  | false =>
    have HF : Hid (s = false) := by rw [← ES.out]; show _ = _; unfold pgB; simp [h0]
    rw [h0] at C0
    clear h0
    go_enter Try.func7, Try.ntmps7
    go_wp2_with fail
    refine (unhide (C0 _ (H0.out.stays T.out.bel) (K0.out.stays T.out.bel))).mono ?_
    rintro e z0 ⟨rfl, hb0⟩
    have T0 := hide (T.out.stays hb0)
    have r0 := Lib.cell_of_heap T0.out.bA 0
    have s0 := Lib.cell_of_heap T0.out.bB 0
    have r1 := Lib.cell_of_heap T0.out.bA 1
    have s1 := Lib.cell_of_heap T0.out.bB 1
    have r2 := Lib.cell_of_heap T0.out.bA 2
    have s2 := Lib.cell_of_heap T0.out.bB 2
    simp at r0 s0 r1 s1 r2 s2
    clear hb0
    go_wp2
    go_ret
    exact ⟨by rw [HF.out]; first | rfl | (simp only [hq0]; rfl), T0.out.bel⟩
  | true =>
    cases h1 : alike moB a1 b1 with
    | false =>
      have HF : Hid (s = false) := by rw [← ES.out]; show _ = _; unfold pgB; simp [h0, h1]
      rw [h0] at C0
      rw [h1] at C1
      clear h0
      clear h1
      go_enter Try.func7, Try.ntmps7
      go_wp2_with fail
      refine (unhide (C0 _ (H0.out.stays T.out.bel) (K0.out.stays T.out.bel))).mono ?_
      rintro e z0 ⟨rfl, hb0⟩
      have T0 := hide (T.out.stays hb0)
      have r0 := Lib.cell_of_heap T0.out.bA 0
      have s0 := Lib.cell_of_heap T0.out.bB 0
      have r1 := Lib.cell_of_heap T0.out.bA 1
      have s1 := Lib.cell_of_heap T0.out.bB 1
      have r2 := Lib.cell_of_heap T0.out.bA 2
      have s2 := Lib.cell_of_heap T0.out.bB 2
      simp at r0 s0 r1 s1 r2 s2
      clear hb0
      go_wp2_with fail
      refine (unhide (C1 _ (H1.out.stays T0.out.bel) (K1.out.stays T0.out.bel))).mono ?_
      rintro e z1 ⟨rfl, hb1⟩
      have T1 := hide (T0.out.stays hb1)
      clear r0 s0 r1 s1 r2 s2
      have r0 := Lib.cell_of_heap T1.out.bA 0
      have s0 := Lib.cell_of_heap T1.out.bB 0
      have r1 := Lib.cell_of_heap T1.out.bA 1
      have s1 := Lib.cell_of_heap T1.out.bB 1
      have r2 := Lib.cell_of_heap T1.out.bA 2
      have s2 := Lib.cell_of_heap T1.out.bB 2
      simp at r0 s0 r1 s1 r2 s2
      clear hb1
      go_wp2
      go_ret
      exact ⟨by rw [HF.out]; first | rfl | (simp only [hq1]; rfl), T1.out.bel⟩
    | true =>
      cases h2 : alike prB a2 b2 with
      | false =>
        have HF : Hid (s = false) := by rw [← ES.out]; show _ = _; unfold pgB; simp [h0, h1, h2]
        rw [h0] at C0
        rw [h1] at C1
        rw [h2] at C2
        clear h0
        clear h1
        clear h2
        go_enter Try.func7, Try.ntmps7
        go_wp2_with fail
        refine (unhide (C0 _ (H0.out.stays T.out.bel) (K0.out.stays T.out.bel))).mono ?_
        rintro e z0 ⟨rfl, hb0⟩
        have T0 := hide (T.out.stays hb0)
        have r0 := Lib.cell_of_heap T0.out.bA 0
        have s0 := Lib.cell_of_heap T0.out.bB 0
        have r1 := Lib.cell_of_heap T0.out.bA 1
        have s1 := Lib.cell_of_heap T0.out.bB 1
        have r2 := Lib.cell_of_heap T0.out.bA 2
        have s2 := Lib.cell_of_heap T0.out.bB 2
        simp at r0 s0 r1 s1 r2 s2
        clear hb0
        go_wp2_with fail
        refine (unhide (C1 _ (H1.out.stays T0.out.bel) (K1.out.stays T0.out.bel))).mono ?_
        rintro e z1 ⟨rfl, hb1⟩
        have T1 := hide (T0.out.stays hb1)
        clear r0 s0 r1 s1 r2 s2
        have r0 := Lib.cell_of_heap T1.out.bA 0
        have s0 := Lib.cell_of_heap T1.out.bB 0
        have r1 := Lib.cell_of_heap T1.out.bA 1
        have s1 := Lib.cell_of_heap T1.out.bB 1
        have r2 := Lib.cell_of_heap T1.out.bA 2
        have s2 := Lib.cell_of_heap T1.out.bB 2
        simp at r0 s0 r1 s1 r2 s2
        clear hb1
        go_wp2_with fail
        refine (unhide (C2 _ (H2.out.stays T1.out.bel) (K2.out.stays T1.out.bel))).mono ?_
        rintro e z2 ⟨rfl, hb2⟩
        have T2 := hide (T1.out.stays hb2)
        clear r0 s0 r1 s1 r2 s2
        have r0 := Lib.cell_of_heap T2.out.bA 0
        have s0 := Lib.cell_of_heap T2.out.bB 0
        have r1 := Lib.cell_of_heap T2.out.bA 1
        have s1 := Lib.cell_of_heap T2.out.bB 1
        have r2 := Lib.cell_of_heap T2.out.bA 2
        have s2 := Lib.cell_of_heap T2.out.bB 2
        simp at r0 s0 r1 s1 r2 s2
        clear hb2
        go_wp2
        go_ret
        exact ⟨by rw [HF.out]; first | rfl | (simp only [hq2]; rfl), T2.out.bel⟩
      | true =>
        have HF : Hid (s = true) := by rw [← ES.out]; show _ = _; unfold pgB; simp [h0, h1, h2]
        rw [h0] at C0
        rw [h1] at C1
        rw [h2] at C2
        clear h0
        clear h1
        clear h2
        go_enter Try.func7, Try.ntmps7
        go_wp2_with fail
        refine (unhide (C0 _ (H0.out.stays T.out.bel) (K0.out.stays T.out.bel))).mono ?_
        rintro e z0 ⟨rfl, hb0⟩
        have T0 := hide (T.out.stays hb0)
        have r0 := Lib.cell_of_heap T0.out.bA 0
        have s0 := Lib.cell_of_heap T0.out.bB 0
        have r1 := Lib.cell_of_heap T0.out.bA 1
        have s1 := Lib.cell_of_heap T0.out.bB 1
        have r2 := Lib.cell_of_heap T0.out.bA 2
        have s2 := Lib.cell_of_heap T0.out.bB 2
        simp at r0 s0 r1 s1 r2 s2
        clear hb0
        go_wp2_with fail
        refine (unhide (C1 _ (H1.out.stays T0.out.bel) (K1.out.stays T0.out.bel))).mono ?_
        rintro e z1 ⟨rfl, hb1⟩
        have T1 := hide (T0.out.stays hb1)
        clear r0 s0 r1 s1 r2 s2
        have r0 := Lib.cell_of_heap T1.out.bA 0
        have s0 := Lib.cell_of_heap T1.out.bB 0
        have r1 := Lib.cell_of_heap T1.out.bA 1
        have s1 := Lib.cell_of_heap T1.out.bB 1
        have r2 := Lib.cell_of_heap T1.out.bA 2
        have s2 := Lib.cell_of_heap T1.out.bB 2
        simp at r0 s0 r1 s1 r2 s2
        clear hb1
        go_wp2_with fail
        refine (unhide (C2 _ (H2.out.stays T1.out.bel) (K2.out.stays T1.out.bel))).mono ?_
        rintro e z2 ⟨rfl, hb2⟩
        have T2 := hide (T1.out.stays hb2)
        clear r0 s0 r1 s1 r2 s2
        have r0 := Lib.cell_of_heap T2.out.bA 0
        have s0 := Lib.cell_of_heap T2.out.bB 0
        have r1 := Lib.cell_of_heap T2.out.bA 1
        have s1 := Lib.cell_of_heap T2.out.bB 1
        have r2 := Lib.cell_of_heap T2.out.bA 2
        have s2 := Lib.cell_of_heap T2.out.bB 2
        simp at r0 s0 r1 s1 r2 s2
        clear hb2
        go_wp2
        go_ret
        exact ⟨by rw [HF.out]; first | rfl | (simp only [hq3]; rfl), T2.out.bel⟩
end Go.Proofs.Ytnkdichgdnghcaa
