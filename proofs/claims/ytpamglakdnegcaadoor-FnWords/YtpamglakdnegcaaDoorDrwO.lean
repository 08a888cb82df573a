/-
  Words are drawn, right or not, by the specification.
-/
import Derived.Test.YtpamglakdnegcaaDoorDrwN
namespace Go.Proofs.YtpamglakdnegcaaDoor
open Go.RowKit

set_option maxRecDepth 100000 in
set_option maxHeartbeats 8000000 in
theorem l14Any_any (w : World) (base g : Nat) (C : Cur w base g) :
    Calls Tryd.prog 20 #[.pointer (some ⟨g, 0, none⟩)] w fun e w' => ∃ op a b c, e = .returned (.agg #[.int .i64 op, .int .i64 a, .int .i64 b, .int .i64 c]) ∧ Far g w w' ∧ Cur w' base g := by
  have hglt := C.lt
  have CB := fun z (n : Nat) hn C => hide (below_any z base g n hn C)
  have CI := fun z C => hide (l14Ins_any z base g C)
  obtain ⟨W1, hW⟩ : ∃ W1, w.alloc (.cells #[.int .i64 0, .int .i64 0, .int .i64 0, .int .i64 0] 25) = W1 := ⟨_, rfl⟩
  have hb1 : Below w.heap.size w W1 := by rw [← hW]; exact (Below.refl _ _).alloc (Nat.le_refl _) _
  have F1 : Hid (Far g w W1) := hide (Far.ofBelow hb1)
  have C1 : Hid (Cur W1 base g) := hide (C.below (hb1.mono hglt))
  have R1 : Hid (Box W1 w.heap.size #[.int .i64 0, .int .i64 0, .int .i64 0, .int .i64 0] 25) := by rw [← hW]; exact hide (Box.made w _ _)
  have HW := hide hW
  clear hW hb1 C
  go_enter Tryd.func20, Tryd.ntmps20
  go_wp2_with fail
  rw [HW.out]
  refine (unhide (CB _ 10 (by omega) C1.out)).mono ?_
  rintro e z1 ⟨k, hk, rfl, hf1, hc1⟩
  have hk10 : k < 10 := by omega
  have F2 := hide (F1.out.trans hf1)
  have R2 := hide (farBox hf1 R1.out (by omega))
  have C2 := hide hc1
  clear hf1 hc1 F1 R1 C1 hk
  go_wp2_with fail
  refine (unhide (CB _ 60 (by omega) C2.out)).mono ?_
  rintro e z2 ⟨m, hm, rfl, hf2, hc2⟩
  have hm60 : m < 60 := by omega
  have F3 := hide (F2.out.trans hf2)
  have R3 := hide (farBox hf2 R2.out (by omega))
  have C3 := hide hc2
  clear hf2 hc2 F2 R2 C2 hm CB
  go_wp2_with fail
  refine (unhide (CI _ C3.out)).mono ?_
  rintro e z3 ⟨op, a, b, c, rfl, _, hf3, hc3⟩
  have F4 := hide (F3.out.trans hf3)
  have R4 := hide (farBox hf3 R3.out (by omega))
  have C4 := hide hc3
  clear hf3 hc3 F3 R3 C3 CI
  have Z0 : Hid (DnZ w base g w.heap.size z3.heap.size op a b c (z3.alloc (.cells #[.int .i64 op, .int .i64 a, .int .i64 b, .int .i64 c] 25))) := by
    have hz := F4.out.size
    exact hide ⟨⟨_, _, _, _, R4.out.stays ((Below.refl _ _).alloc (Nat.le_refl _) _)⟩, Box.made _ _ _, Below.far' F4.out (Nat.le_refl _) ((Below.refl _ _).alloc hz _), C4.out.below ((Below.refl _ _).alloc (by have := R4.out.lt; omega) _), hglt, Nat.le_refl _, R4.out.lt⟩
  obtain ⟨Z, hZ⟩ : ∃ Z, z3.alloc (.cells #[.int .i64 op, .int .i64 a, .int .i64 b, .int .i64 c] 25) = Z := ⟨_, rfl⟩
  obtain ⟨G, eG⟩ : ∃ G, z3.heap.size = G := ⟨_, rfl⟩
  have HZ := hide hZ
  have EG := hide eG
  rw [hZ, eG] at Z0
  clear hZ eG F4 R4 C4
  go_upto_region 4 with fail
  rw [HZ.out, EG.out]
  clear HZ EG
  have hw1 : wrap64 ((m : Int) % 10 - 1) = (m : Int) % 10 - 1 := by unfold wrap64; omega
  have hcase : k = 0 ∨ k = 1 ∨ k = 2 ∨ k = 3 ∨ 4 ≤ k := by omega
  rcases hcase with rfl | rfl | rfl | rfl | hk4
  · have b0 := Lib.cell_of_heap Z0.out.bO 0
    have g0 := Lib.frozen_of_heap Z0.out.bO 0
    have b1 := Lib.cell_of_heap Z0.out.bO 1
    have g1 := Lib.frozen_of_heap Z0.out.bO 1
    have b2 := Lib.cell_of_heap Z0.out.bO 2
    have g2 := Lib.frozen_of_heap Z0.out.bO 2
    have b3 := Lib.cell_of_heap Z0.out.bO 3
    have g3 := Lib.frozen_of_heap Z0.out.bO 3
    obtain ⟨ra, rb, rc, rd, hrr⟩ := Z0.out.bR
    have s0 := Lib.cell_of_heap hrr 0
    have f0 := Lib.frozen_of_heap hrr 0
    have s1 := Lib.cell_of_heap hrr 1
    have f1 := Lib.frozen_of_heap hrr 1
    have s2 := Lib.cell_of_heap hrr 2
    have f2 := Lib.frozen_of_heap hrr 2
    have s3 := Lib.cell_of_heap hrr 3
    have f3 := Lib.frozen_of_heap hrr 3
    simp at b0 b1 b2 b3 s0 s1 s2 s3
    clear hrr
    have Z1 := hide (Z0.out.setB (op' := ((m : Int) % 12)) (a' := a) (b' := b) (c' := c) 0 (.int .i64 ((m : Int) % 12)) rfl)
    clear s0 s1 s2 s3 f0 f1 f2 f3 ra rb rc rd
    obtain ⟨ra, rb, rc, rd, hrr⟩ := Z1.out.bR
    have s0 := Lib.cell_of_heap hrr 0
    have f0 := Lib.frozen_of_heap hrr 0
    have d0 := Lib.cell_of_heap Z1.out.bO 0
    have s1 := Lib.cell_of_heap hrr 1
    have f1 := Lib.frozen_of_heap hrr 1
    have d1 := Lib.cell_of_heap Z1.out.bO 1
    have s2 := Lib.cell_of_heap hrr 2
    have f2 := Lib.frozen_of_heap hrr 2
    have d2 := Lib.cell_of_heap Z1.out.bO 2
    have s3 := Lib.cell_of_heap hrr 3
    have f3 := Lib.frozen_of_heap hrr 3
    have d3 := Lib.cell_of_heap Z1.out.bO 3
    simp at s0 s1 s2 s3 d0 d1 d2 d3
    clear hrr
    go_wp2
    obtain ⟨W, eW, hB, hF, hC⟩ := Z1.out.fin
    rw [eW]
    refine box_ret (g := w.heap.size) (t := 25) (cs := #[.int .i64 ((m : Int) % 12), .int .i64 a, .int .i64 b, .int .i64 c]) rfl rfl ?_ _ Tryd.underlying25 rfl (by kernel_rfl) rfl ?_
    · exact hB
    · exact ⟨_, _, _, _, rfl, hF, hC⟩
  · have b0 := Lib.cell_of_heap Z0.out.bO 0
    have g0 := Lib.frozen_of_heap Z0.out.bO 0
    have b1 := Lib.cell_of_heap Z0.out.bO 1
    have g1 := Lib.frozen_of_heap Z0.out.bO 1
    have b2 := Lib.cell_of_heap Z0.out.bO 2
    have g2 := Lib.frozen_of_heap Z0.out.bO 2
    have b3 := Lib.cell_of_heap Z0.out.bO 3
    have g3 := Lib.frozen_of_heap Z0.out.bO 3
    obtain ⟨ra, rb, rc, rd, hrr⟩ := Z0.out.bR
    have s0 := Lib.cell_of_heap hrr 0
    have f0 := Lib.frozen_of_heap hrr 0
    have s1 := Lib.cell_of_heap hrr 1
    have f1 := Lib.frozen_of_heap hrr 1
    have s2 := Lib.cell_of_heap hrr 2
    have f2 := Lib.frozen_of_heap hrr 2
    have s3 := Lib.cell_of_heap hrr 3
    have f3 := Lib.frozen_of_heap hrr 3
    simp at b0 b1 b2 b3 s0 s1 s2 s3
    clear hrr
    have Z1 := hide (Z0.out.setB (op' := op) (a' := ((m : Int) % 10 - 1)) (b' := b) (c' := c) 1 (.int .i64 ((m : Int) % 10 - 1)) rfl)
    clear s0 s1 s2 s3 f0 f1 f2 f3 ra rb rc rd
    obtain ⟨ra, rb, rc, rd, hrr⟩ := Z1.out.bR
    have s0 := Lib.cell_of_heap hrr 0
    have f0 := Lib.frozen_of_heap hrr 0
    have d0 := Lib.cell_of_heap Z1.out.bO 0
    have s1 := Lib.cell_of_heap hrr 1
    have f1 := Lib.frozen_of_heap hrr 1
    have d1 := Lib.cell_of_heap Z1.out.bO 1
    have s2 := Lib.cell_of_heap hrr 2
    have f2 := Lib.frozen_of_heap hrr 2
    have d2 := Lib.cell_of_heap Z1.out.bO 2
    have s3 := Lib.cell_of_heap hrr 3
    have f3 := Lib.frozen_of_heap hrr 3
    have d3 := Lib.cell_of_heap Z1.out.bO 3
    simp at s0 s1 s2 s3 d0 d1 d2 d3
    clear hrr
    go_wp2
    obtain ⟨W, eW, hB, hF, hC⟩ := Z1.out.fin
    rw [eW]
    refine box_ret (g := w.heap.size) (t := 25) (cs := #[.int .i64 op, .int .i64 ((m : Int) % 10 - 1), .int .i64 b, .int .i64 c]) rfl rfl ?_ _ Tryd.underlying25 rfl (by kernel_rfl) rfl ?_
    · exact hB
    · exact ⟨_, _, _, _, rfl, hF, hC⟩
  · have b0 := Lib.cell_of_heap Z0.out.bO 0
    have g0 := Lib.frozen_of_heap Z0.out.bO 0
    have b1 := Lib.cell_of_heap Z0.out.bO 1
    have g1 := Lib.frozen_of_heap Z0.out.bO 1
    have b2 := Lib.cell_of_heap Z0.out.bO 2
    have g2 := Lib.frozen_of_heap Z0.out.bO 2
    have b3 := Lib.cell_of_heap Z0.out.bO 3
    have g3 := Lib.frozen_of_heap Z0.out.bO 3
    obtain ⟨ra, rb, rc, rd, hrr⟩ := Z0.out.bR
    have s0 := Lib.cell_of_heap hrr 0
    have f0 := Lib.frozen_of_heap hrr 0
    have s1 := Lib.cell_of_heap hrr 1
    have f1 := Lib.frozen_of_heap hrr 1
    have s2 := Lib.cell_of_heap hrr 2
    have f2 := Lib.frozen_of_heap hrr 2
    have s3 := Lib.cell_of_heap hrr 3
    have f3 := Lib.frozen_of_heap hrr 3
    simp at b0 b1 b2 b3 s0 s1 s2 s3
    clear hrr
    have Z1 := hide (Z0.out.setB (op' := op) (a' := a) (b' := ((m : Int) % 10)) (c' := c) 2 (.int .i64 ((m : Int) % 10)) rfl)
    clear s0 s1 s2 s3 f0 f1 f2 f3 ra rb rc rd
    obtain ⟨ra, rb, rc, rd, hrr⟩ := Z1.out.bR
    have s0 := Lib.cell_of_heap hrr 0
    have f0 := Lib.frozen_of_heap hrr 0
    have d0 := Lib.cell_of_heap Z1.out.bO 0
    have s1 := Lib.cell_of_heap hrr 1
    have f1 := Lib.frozen_of_heap hrr 1
    have d1 := Lib.cell_of_heap Z1.out.bO 1
    have s2 := Lib.cell_of_heap hrr 2
    have f2 := Lib.frozen_of_heap hrr 2
    have d2 := Lib.cell_of_heap Z1.out.bO 2
    have s3 := Lib.cell_of_heap hrr 3
    have f3 := Lib.frozen_of_heap hrr 3
    have d3 := Lib.cell_of_heap Z1.out.bO 3
    simp at s0 s1 s2 s3 d0 d1 d2 d3
    clear hrr
    go_wp2
    obtain ⟨W, eW, hB, hF, hC⟩ := Z1.out.fin
    rw [eW]
    refine box_ret (g := w.heap.size) (t := 25) (cs := #[.int .i64 op, .int .i64 a, .int .i64 ((m : Int) % 10), .int .i64 c]) rfl rfl ?_ _ Tryd.underlying25 rfl (by kernel_rfl) rfl ?_
    · exact hB
    · exact ⟨_, _, _, _, rfl, hF, hC⟩
  · have h5c : (m : Int) % 5 = 0 ∨ (m : Int) % 5 = 1 ∨ (m : Int) % 5 = 2 ∨ (m : Int) % 5 = 3 ∨ (m : Int) % 5 = 4 := by omega
    have Z2 := hide (Z0.out.stays ((Below.refl _ _).alloc (Nat.le_refl _) (.cells #[.int .i64 (-1), .int .i64 0, .int .i64 4194303, .int .i64 4194304, .int .i64 1000001] 3)))
    obtain ⟨Y, hY⟩ : ∃ Y, Z.alloc (.cells #[.int .i64 (-1), .int .i64 0, .int .i64 4194303, .int .i64 4194304, .int .i64 1000001] 3) = Y := ⟨_, rfl⟩
    clear hY Y
    rcases h5c with h5 | h5 | h5 | h5 | h5
    · have b0 := Lib.cell_of_heap Z2.out.bO 0
      have g0 := Lib.frozen_of_heap Z2.out.bO 0
      have b1 := Lib.cell_of_heap Z2.out.bO 1
      have g1 := Lib.frozen_of_heap Z2.out.bO 1
      have b2 := Lib.cell_of_heap Z2.out.bO 2
      have g2 := Lib.frozen_of_heap Z2.out.bO 2
      have b3 := Lib.cell_of_heap Z2.out.bO 3
      have g3 := Lib.frozen_of_heap Z2.out.bO 3
      obtain ⟨ra, rb, rc, rd, hrr⟩ := Z2.out.bR
      have s0 := Lib.cell_of_heap hrr 0
      have f0 := Lib.frozen_of_heap hrr 0
      have s1 := Lib.cell_of_heap hrr 1
      have f1 := Lib.frozen_of_heap hrr 1
      have s2 := Lib.cell_of_heap hrr 2
      have f2 := Lib.frozen_of_heap hrr 2
      have s3 := Lib.cell_of_heap hrr 3
      have f3 := Lib.frozen_of_heap hrr 3
      simp at b0 b1 b2 b3 s0 s1 s2 s3
      clear hrr
      have Z1 := hide (Z2.out.setB (op' := op) (a' := a) (b' := b) (c' := (-1)) 3 (.int .i64 (-1)) rfl)
      clear s0 s1 s2 s3 f0 f1 f2 f3 ra rb rc rd
      obtain ⟨ra, rb, rc, rd, hrr⟩ := Z1.out.bR
      have s0 := Lib.cell_of_heap hrr 0
      have f0 := Lib.frozen_of_heap hrr 0
      have d0 := Lib.cell_of_heap Z1.out.bO 0
      have s1 := Lib.cell_of_heap hrr 1
      have f1 := Lib.frozen_of_heap hrr 1
      have d1 := Lib.cell_of_heap Z1.out.bO 1
      have s2 := Lib.cell_of_heap hrr 2
      have f2 := Lib.frozen_of_heap hrr 2
      have d2 := Lib.cell_of_heap Z1.out.bO 2
      have s3 := Lib.cell_of_heap hrr 3
      have f3 := Lib.frozen_of_heap hrr 3
      have d3 := Lib.cell_of_heap Z1.out.bO 3
      simp at s0 s1 s2 s3 d0 d1 d2 d3
      clear hrr
      go_wp2
      obtain ⟨W, eW, hB, hF, hC⟩ := Z1.out.fin
      rw [eW]
      refine box_ret (g := w.heap.size) (t := 25) (cs := #[.int .i64 op, .int .i64 a, .int .i64 b, .int .i64 (-1)]) rfl rfl ?_ _ Tryd.underlying25 rfl (by kernel_rfl) rfl ?_
      · exact hB
      · exact ⟨_, _, _, _, rfl, hF, hC⟩
    · have b0 := Lib.cell_of_heap Z2.out.bO 0
      have g0 := Lib.frozen_of_heap Z2.out.bO 0
      have b1 := Lib.cell_of_heap Z2.out.bO 1
      have g1 := Lib.frozen_of_heap Z2.out.bO 1
      have b2 := Lib.cell_of_heap Z2.out.bO 2
      have g2 := Lib.frozen_of_heap Z2.out.bO 2
      have b3 := Lib.cell_of_heap Z2.out.bO 3
      have g3 := Lib.frozen_of_heap Z2.out.bO 3
      obtain ⟨ra, rb, rc, rd, hrr⟩ := Z2.out.bR
      have s0 := Lib.cell_of_heap hrr 0
      have f0 := Lib.frozen_of_heap hrr 0
      have s1 := Lib.cell_of_heap hrr 1
      have f1 := Lib.frozen_of_heap hrr 1
      have s2 := Lib.cell_of_heap hrr 2
      have f2 := Lib.frozen_of_heap hrr 2
      have s3 := Lib.cell_of_heap hrr 3
      have f3 := Lib.frozen_of_heap hrr 3
      simp at b0 b1 b2 b3 s0 s1 s2 s3
      clear hrr
      have Z1 := hide (Z2.out.setB (op' := op) (a' := a) (b' := b) (c' := 0) 3 (.int .i64 0) rfl)
      clear s0 s1 s2 s3 f0 f1 f2 f3 ra rb rc rd
      obtain ⟨ra, rb, rc, rd, hrr⟩ := Z1.out.bR
      have s0 := Lib.cell_of_heap hrr 0
      have f0 := Lib.frozen_of_heap hrr 0
      have d0 := Lib.cell_of_heap Z1.out.bO 0
      have s1 := Lib.cell_of_heap hrr 1
      have f1 := Lib.frozen_of_heap hrr 1
      have d1 := Lib.cell_of_heap Z1.out.bO 1
      have s2 := Lib.cell_of_heap hrr 2
      have f2 := Lib.frozen_of_heap hrr 2
      have d2 := Lib.cell_of_heap Z1.out.bO 2
      have s3 := Lib.cell_of_heap hrr 3
      have f3 := Lib.frozen_of_heap hrr 3
      have d3 := Lib.cell_of_heap Z1.out.bO 3
      simp at s0 s1 s2 s3 d0 d1 d2 d3
      clear hrr
      go_wp2
      obtain ⟨W, eW, hB, hF, hC⟩ := Z1.out.fin
      rw [eW]
      refine box_ret (g := w.heap.size) (t := 25) (cs := #[.int .i64 op, .int .i64 a, .int .i64 b, .int .i64 0]) rfl rfl ?_ _ Tryd.underlying25 rfl (by kernel_rfl) rfl ?_
      · exact hB
      · exact ⟨_, _, _, _, rfl, hF, hC⟩
    · have b0 := Lib.cell_of_heap Z2.out.bO 0
      have g0 := Lib.frozen_of_heap Z2.out.bO 0
      have b1 := Lib.cell_of_heap Z2.out.bO 1
      have g1 := Lib.frozen_of_heap Z2.out.bO 1
      have b2 := Lib.cell_of_heap Z2.out.bO 2
      have g2 := Lib.frozen_of_heap Z2.out.bO 2
      have b3 := Lib.cell_of_heap Z2.out.bO 3
      have g3 := Lib.frozen_of_heap Z2.out.bO 3
      obtain ⟨ra, rb, rc, rd, hrr⟩ := Z2.out.bR
      have s0 := Lib.cell_of_heap hrr 0
      have f0 := Lib.frozen_of_heap hrr 0
      have s1 := Lib.cell_of_heap hrr 1
      have f1 := Lib.frozen_of_heap hrr 1
      have s2 := Lib.cell_of_heap hrr 2
      have f2 := Lib.frozen_of_heap hrr 2
      have s3 := Lib.cell_of_heap hrr 3
      have f3 := Lib.frozen_of_heap hrr 3
      simp at b0 b1 b2 b3 s0 s1 s2 s3
      clear hrr
      have Z1 := hide (Z2.out.setB (op' := op) (a' := a) (b' := b) (c' := 4194303) 3 (.int .i64 4194303) rfl)
      clear s0 s1 s2 s3 f0 f1 f2 f3 ra rb rc rd
      obtain ⟨ra, rb, rc, rd, hrr⟩ := Z1.out.bR
      have s0 := Lib.cell_of_heap hrr 0
      have f0 := Lib.frozen_of_heap hrr 0
      have d0 := Lib.cell_of_heap Z1.out.bO 0
      have s1 := Lib.cell_of_heap hrr 1
      have f1 := Lib.frozen_of_heap hrr 1
      have d1 := Lib.cell_of_heap Z1.out.bO 1
      have s2 := Lib.cell_of_heap hrr 2
      have f2 := Lib.frozen_of_heap hrr 2
      have d2 := Lib.cell_of_heap Z1.out.bO 2
      have s3 := Lib.cell_of_heap hrr 3
      have f3 := Lib.frozen_of_heap hrr 3
      have d3 := Lib.cell_of_heap Z1.out.bO 3
      simp at s0 s1 s2 s3 d0 d1 d2 d3
      clear hrr
      go_wp2
      obtain ⟨W, eW, hB, hF, hC⟩ := Z1.out.fin
      rw [eW]
      refine box_ret (g := w.heap.size) (t := 25) (cs := #[.int .i64 op, .int .i64 a, .int .i64 b, .int .i64 4194303]) rfl rfl ?_ _ Tryd.underlying25 rfl (by kernel_rfl) rfl ?_
      · exact hB
      · exact ⟨_, _, _, _, rfl, hF, hC⟩
    · have b0 := Lib.cell_of_heap Z2.out.bO 0
      have g0 := Lib.frozen_of_heap Z2.out.bO 0
      have b1 := Lib.cell_of_heap Z2.out.bO 1
      have g1 := Lib.frozen_of_heap Z2.out.bO 1
      have b2 := Lib.cell_of_heap Z2.out.bO 2
      have g2 := Lib.frozen_of_heap Z2.out.bO 2
      have b3 := Lib.cell_of_heap Z2.out.bO 3
      have g3 := Lib.frozen_of_heap Z2.out.bO 3
      obtain ⟨ra, rb, rc, rd, hrr⟩ := Z2.out.bR
      have s0 := Lib.cell_of_heap hrr 0
      have f0 := Lib.frozen_of_heap hrr 0
      have s1 := Lib.cell_of_heap hrr 1
      have f1 := Lib.frozen_of_heap hrr 1
      have s2 := Lib.cell_of_heap hrr 2
      have f2 := Lib.frozen_of_heap hrr 2
      have s3 := Lib.cell_of_heap hrr 3
      have f3 := Lib.frozen_of_heap hrr 3
      simp at b0 b1 b2 b3 s0 s1 s2 s3
      clear hrr
      have Z1 := hide (Z2.out.setB (op' := op) (a' := a) (b' := b) (c' := 4194304) 3 (.int .i64 4194304) rfl)
      clear s0 s1 s2 s3 f0 f1 f2 f3 ra rb rc rd
      obtain ⟨ra, rb, rc, rd, hrr⟩ := Z1.out.bR
      have s0 := Lib.cell_of_heap hrr 0
      have f0 := Lib.frozen_of_heap hrr 0
      have d0 := Lib.cell_of_heap Z1.out.bO 0
      have s1 := Lib.cell_of_heap hrr 1
      have f1 := Lib.frozen_of_heap hrr 1
      have d1 := Lib.cell_of_heap Z1.out.bO 1
      have s2 := Lib.cell_of_heap hrr 2
      have f2 := Lib.frozen_of_heap hrr 2
      have d2 := Lib.cell_of_heap Z1.out.bO 2
      have s3 := Lib.cell_of_heap hrr 3
      have f3 := Lib.frozen_of_heap hrr 3
      have d3 := Lib.cell_of_heap Z1.out.bO 3
      simp at s0 s1 s2 s3 d0 d1 d2 d3
      clear hrr
      go_wp2
      obtain ⟨W, eW, hB, hF, hC⟩ := Z1.out.fin
      rw [eW]
      refine box_ret (g := w.heap.size) (t := 25) (cs := #[.int .i64 op, .int .i64 a, .int .i64 b, .int .i64 4194304]) rfl rfl ?_ _ Tryd.underlying25 rfl (by kernel_rfl) rfl ?_
      · exact hB
      · exact ⟨_, _, _, _, rfl, hF, hC⟩
    · have b0 := Lib.cell_of_heap Z2.out.bO 0
      have g0 := Lib.frozen_of_heap Z2.out.bO 0
      have b1 := Lib.cell_of_heap Z2.out.bO 1
      have g1 := Lib.frozen_of_heap Z2.out.bO 1
      have b2 := Lib.cell_of_heap Z2.out.bO 2
      have g2 := Lib.frozen_of_heap Z2.out.bO 2
      have b3 := Lib.cell_of_heap Z2.out.bO 3
      have g3 := Lib.frozen_of_heap Z2.out.bO 3
      obtain ⟨ra, rb, rc, rd, hrr⟩ := Z2.out.bR
      have s0 := Lib.cell_of_heap hrr 0
      have f0 := Lib.frozen_of_heap hrr 0
      have s1 := Lib.cell_of_heap hrr 1
      have f1 := Lib.frozen_of_heap hrr 1
      have s2 := Lib.cell_of_heap hrr 2
      have f2 := Lib.frozen_of_heap hrr 2
      have s3 := Lib.cell_of_heap hrr 3
      have f3 := Lib.frozen_of_heap hrr 3
      simp at b0 b1 b2 b3 s0 s1 s2 s3
      clear hrr
      have Z1 := hide (Z2.out.setB (op' := op) (a' := a) (b' := b) (c' := 1000001) 3 (.int .i64 1000001) rfl)
      clear s0 s1 s2 s3 f0 f1 f2 f3 ra rb rc rd
      obtain ⟨ra, rb, rc, rd, hrr⟩ := Z1.out.bR
      have s0 := Lib.cell_of_heap hrr 0
      have f0 := Lib.frozen_of_heap hrr 0
      have d0 := Lib.cell_of_heap Z1.out.bO 0
      have s1 := Lib.cell_of_heap hrr 1
      have f1 := Lib.frozen_of_heap hrr 1
      have d1 := Lib.cell_of_heap Z1.out.bO 1
      have s2 := Lib.cell_of_heap hrr 2
      have f2 := Lib.frozen_of_heap hrr 2
      have d2 := Lib.cell_of_heap Z1.out.bO 2
      have s3 := Lib.cell_of_heap hrr 3
      have f3 := Lib.frozen_of_heap hrr 3
      have d3 := Lib.cell_of_heap Z1.out.bO 3
      simp at s0 s1 s2 s3 d0 d1 d2 d3
      clear hrr
      go_wp2
      obtain ⟨W, eW, hB, hF, hC⟩ := Z1.out.fin
      rw [eW]
      refine box_ret (g := w.heap.size) (t := 25) (cs := #[.int .i64 op, .int .i64 a, .int .i64 b, .int .i64 1000001]) rfl rfl ?_ _ Tryd.underlying25 rfl (by kernel_rfl) rfl ?_
      · exact hB
      · exact ⟨_, _, _, _, rfl, hF, hC⟩
  · have n0 : ¬ (k : Int) = 0 := by omega
    have n1 : ¬ (k : Int) = 1 := by omega
    have n2 : ¬ (k : Int) = 2 := by omega
    have n3 : ¬ (k : Int) = 3 := by omega
    have b0 := Lib.cell_of_heap Z0.out.bO 0
    have g0 := Lib.frozen_of_heap Z0.out.bO 0
    have b1 := Lib.cell_of_heap Z0.out.bO 1
    have g1 := Lib.frozen_of_heap Z0.out.bO 1
    have b2 := Lib.cell_of_heap Z0.out.bO 2
    have g2 := Lib.frozen_of_heap Z0.out.bO 2
    have b3 := Lib.cell_of_heap Z0.out.bO 3
    have g3 := Lib.frozen_of_heap Z0.out.bO 3
    obtain ⟨ra, rb, rc, rd, hrr⟩ := Z0.out.bR
    have s0 := Lib.cell_of_heap hrr 0
    have f0 := Lib.frozen_of_heap hrr 0
    have s1 := Lib.cell_of_heap hrr 1
    have f1 := Lib.frozen_of_heap hrr 1
    have s2 := Lib.cell_of_heap hrr 2
    have f2 := Lib.frozen_of_heap hrr 2
    have s3 := Lib.cell_of_heap hrr 3
    have f3 := Lib.frozen_of_heap hrr 3
    simp at b0 b1 b2 b3 s0 s1 s2 s3
    clear hrr
    go_wp2
    obtain ⟨W, eW, hB, hF, hC⟩ := Z0.out.fin
    rw [eW]
    refine box_ret (g := w.heap.size) (t := 25) (cs := #[.int .i64 op, .int .i64 a, .int .i64 b, .int .i64 c]) rfl rfl ?_ _ Tryd.underlying25 rfl (by kernel_rfl) rfl ?_
    · exact hB
    · exact ⟨_, _, _, _, rfl, hF, hC⟩

set_option maxRecDepth 100000 in
set_option maxHeartbeats 2000000 in
theorem drawEncode_any (w : World) (base : Nat) (v : Value) (n : Nat) (hn : n ≤ 1048576) (H : CodeAt w base v n) (hb : base ≤ w.heap.size) :
    Calls Tryd.prog 9 #[v] w fun e w' => ∃ op a b c, e = .returned (.agg #[.int .i64 op, .int .i64 a, .int .i64 b, .int .i64 c]) ∧ Below w.heap.size w w' := by
  have hb1 : Below w.heap.size w (w.alloc (.cells #[.int .i64 0, .int .i64 0, .int .i64 0, .int .i64 0] 25)) := (Below.refl _ _).alloc (Nat.le_refl _) _
  have NW := hide (new_any (w.alloc (.cells #[.int .i64 0, .int .i64 0, .int .i64 0, .int .i64 0] 25)) base v n hn (H.below (hb1.mono hb)) (Nat.le_trans hb hb1.size))
  have R1 := hide (Box.made w #[.int .i64 0, .int .i64 0, .int .i64 0, .int .i64 0] 25)
  have HB1 := hide hb1
  obtain ⟨a0, c0, rfl⟩ := H.slice
  obtain ⟨W1, hW⟩ : ∃ W1, w.alloc (.cells #[.int .i64 0, .int .i64 0, .int .i64 0, .int .i64 0] 25) = W1 := ⟨_, rfl⟩
  have HW := hide hW
  rw [hW] at NW R1 HB1
  clear H hb1 hW
  go_enter Tryd.func9, Tryd.ntmps9
  go_wp2_with fail
  rw [HW.out]
  refine NW.out.mono ?_
  rintro e z1 ⟨rfl, h1, hc1⟩
  have R2 := hide (R1.out.stays h1)
  have HB2 := hide (HB1.out.trans (h1.mono HB1.out.size))
  have C1 := hide hc1
  have HL := hide R1.out.lt
  clear h1 hc1 NW HB1
  go_wp2_with fail
  refine (l14Any_any _ base _ C1.out).mono ?_
  rintro e z2 ⟨op, a, b, c, rfl, hf, _⟩
  have R3 := hide (farBox hf R2.out (by have := HL.out; omega))
  have HB3 := hide (HB2.out.trans (hf.below (Nat.le_of_lt HL.out) HB2.out.size))
  clear hf C1 HB2
  have s0 := Lib.cell_of_heap R3.out 0
  have s1 := Lib.cell_of_heap R3.out 1
  have s2 := Lib.cell_of_heap R3.out 2
  have s3 := Lib.cell_of_heap R3.out 3
  have f0 := Lib.frozen_of_heap R3.out 0
  have f1 := Lib.frozen_of_heap R3.out 1
  have f2 := Lib.frozen_of_heap R3.out 2
  have f3 := Lib.frozen_of_heap R3.out 3
  simp at s0 s1 s2 s3
  go_wp2
  refine box_ret (g := w.heap.size) (t := 25) (cs := #[.int .i64 op, .int .i64 a, .int .i64 b, .int .i64 c]) rfl rfl ?_ _ Tryd.underlying25 rfl (by kernel_rfl) rfl ?_
  · simpa using (((R3.out.set 0 (.int .i64 op)).set 1 (.int .i64 a)).set 2 (.int .i64 b)).set 3 (.int .i64 c)
  · exact ⟨_, _, _, _, rfl, (((HB3.out.setCell (p := ⟨w.heap.size, 0, none⟩) (Nat.le_refl _) _).setCell (p := ⟨w.heap.size, 1, none⟩) (Nat.le_refl _) _).setCell (p := ⟨w.heap.size, 2, none⟩) (Nat.le_refl _) _).setCell (p := ⟨w.heap.size, 3, none⟩) (Nat.le_refl _) _⟩

set_option maxRecDepth 100000 in
set_option maxHeartbeats 2000000 in
theorem drawIns_any (w : World) (base : Nat) (v : Value) (n : Nat) (hn : n ≤ 1048576) (H : CodeAt w base v n) (hb : base ≤ w.heap.size) :
    Calls Tryd.prog 14 #[v] w fun e w' => ∃ op a b c, e = .returned (.agg #[.int .i64 op, .int .i64 a, .int .i64 b, .int .i64 c]) ∧ insB op a b c = true ∧ Below w.heap.size w w' := by
  have hb1 : Below w.heap.size w (w.alloc (.cells #[.int .i64 0, .int .i64 0, .int .i64 0, .int .i64 0] 25)) := (Below.refl _ _).alloc (Nat.le_refl _) _
  have NW := hide (new_any (w.alloc (.cells #[.int .i64 0, .int .i64 0, .int .i64 0, .int .i64 0] 25)) base v n hn (H.below (hb1.mono hb)) (Nat.le_trans hb hb1.size))
  have R1 := hide (Box.made w #[.int .i64 0, .int .i64 0, .int .i64 0, .int .i64 0] 25)
  have HB1 := hide hb1
  obtain ⟨a0, c0, rfl⟩ := H.slice
  obtain ⟨W1, hW⟩ : ∃ W1, w.alloc (.cells #[.int .i64 0, .int .i64 0, .int .i64 0, .int .i64 0] 25) = W1 := ⟨_, rfl⟩
  have HW := hide hW
  rw [hW] at NW R1 HB1
  clear H hb1 hW
  go_enter Tryd.func14, Tryd.ntmps14
  go_wp2_with fail
  rw [HW.out]
  refine NW.out.mono ?_
  rintro e z1 ⟨rfl, h1, hc1⟩
  have R2 := hide (R1.out.stays h1)
  have HB2 := hide (HB1.out.trans (h1.mono HB1.out.size))
  have C1 := hide hc1
  have HL := hide R1.out.lt
  clear h1 hc1 NW HB1
  go_wp2_with fail
  refine (l14Ins_any _ base _ C1.out).mono ?_
  rintro e z2 ⟨op, a, b, c, rfl, hk, hf, _⟩
  have R3 := hide (farBox hf R2.out (by have := HL.out; omega))
  have HB3 := hide (HB2.out.trans (hf.below (Nat.le_of_lt HL.out) HB2.out.size))
  clear hf C1 HB2
  have s0 := Lib.cell_of_heap R3.out 0
  have s1 := Lib.cell_of_heap R3.out 1
  have s2 := Lib.cell_of_heap R3.out 2
  have s3 := Lib.cell_of_heap R3.out 3
  have f0 := Lib.frozen_of_heap R3.out 0
  have f1 := Lib.frozen_of_heap R3.out 1
  have f2 := Lib.frozen_of_heap R3.out 2
  have f3 := Lib.frozen_of_heap R3.out 3
  simp at s0 s1 s2 s3
  go_wp2
  refine box_ret (g := w.heap.size) (t := 25) (cs := #[.int .i64 op, .int .i64 a, .int .i64 b, .int .i64 c]) rfl rfl ?_ _ Tryd.underlying25 rfl (by kernel_rfl) rfl ?_
  · simpa using (((R3.out.set 0 (.int .i64 op)).set 1 (.int .i64 a)).set 2 (.int .i64 b)).set 3 (.int .i64 c)
  · exact ⟨_, _, _, _, rfl, hk, (((HB3.out.setCell (p := ⟨w.heap.size, 0, none⟩) (Nat.le_refl _) _).setCell (p := ⟨w.heap.size, 1, none⟩) (Nat.le_refl _) _).setCell (p := ⟨w.heap.size, 2, none⟩) (Nat.le_refl _) _).setCell (p := ⟨w.heap.size, 3, none⟩) (Nat.le_refl _) _⟩

set_option maxRecDepth 100000 in
set_option maxHeartbeats 4000000 in
theorem drawDecode_any (w : World) (base : Nat) (v : Value) (n : Nat) (hn : n ≤ 1048576) (H : CodeAt w base v n) (hb : base ≤ w.heap.size) :
    Calls Tryd.prog 12 #[v] w fun e w' => ∃ x : Int, e = .returned (.int .i64 x) ∧ Below w.heap.size w w' := by
  have NW := hide (new_any w base v n hn H hb)
  obtain ⟨a0, c0, rfl⟩ := H.slice
  clear H
  go_enter Tryd.func12, Tryd.ntmps12
  go_wp2_with fail
  refine NW.out.mono ?_
  rintro e z1 ⟨rfl, h1, hc1⟩
  have B1 := hide h1
  have C1 := hide hc1
  clear h1 hc1 NW
  go_wp2_with fail
  refine (below_any _ base _ 4 (by omega) C1.out).mono ?_
  rintro e z2 ⟨k, _, rfl, hf2, hc2⟩
  have B2 := hide (B1.out.trans (hf2.below (Nat.le_refl _) B1.out.size))
  have C2 := hide hc2
  clear hf2 hc2 B1 C1
  go_wp2_with fail
  refine (l14Any_any _ base _ C2.out).mono ?_
  rintro e z3 ⟨op, a, b, c, rfl, hf3, hc3⟩
  have B3 := hide (B2.out.trans (hf3.below (Nat.le_refl _) B2.out.size))
  have C3 := hide hc3
  clear hf3 hc3 B2 C2
  go_wp2_with fail
  refine (specEncode_any op a b c _).mono ?_
  rintro e z4 ⟨rfl, h4⟩
  have B4 := hide (B3.out.trans (h4.mono B3.out.size))
  have C4 := hide (C3.out.below (h4.mono C3.out.lt))
  clear h4 B3 C3
  obtain ⟨qn, eqn⟩ : ∃ q : Int, (if insB op a b c = true then encI op a b c else 0) = q := ⟨_, rfl⟩
  obtain ⟨qb, eqb⟩ : ∃ q, insB op a b c = q := ⟨_, rfl⟩
  rw [eqn, eqb]
  clear eqn eqb
  have hcase : k = 0 ∨ k = 1 ∨ 2 ≤ k := by omega
  rcases hcase with rfl | rfl | hk2
  · go_wp2_with fail
    refine (pickInt_made _ _ base _ [0, -1, 8589934592, 9223372036854775807, 268435456] 3 (by decide) (by decide) C4.out rfl).mono ?_
    rintro e z5 ⟨x, _, rfl, hf5, _⟩
    have B5 := hide (B4.out.trans (hf5.below (Nat.le_refl _) B4.out.size))
    clear hf5
    go_wp2
    go_ret
    exact ⟨_, rfl, B5.out⟩
  · go_wp2_with fail
    refine (below_any _ base _ 34 (by omega) C4.out).mono ?_
    rintro e z5 ⟨x, hx, rfl, hf5, _⟩
    have hx34 : x < 34 := by omega
    have hx0 : ¬ ((x : Int) < 0) := by omega
    have B5 := hide (B4.out.trans (hf5.below (Nat.le_refl _) B4.out.size))
    clear hf5 hx
    go_wp2
    go_ret
    exact ⟨_, rfl, B5.out⟩
  · have n0 : ¬ (k : Int) = 0 := by omega
    have n1 : ¬ (k : Int) = 1 := by omega
    go_wp2
    go_ret
    exact ⟨_, rfl, B4.out⟩
end Go.Proofs.YtpamglakdnegcaaDoor
