/-
  A word is drawn, by the specification.
-/
import Derived.Test.YtmchgmpdhfefjaaInsX
import Derived.Test.YtmchgmpdhfefjaaCurW
import Derived.Test.YtmchgmpdhfefjaaPickW
import Derived.Test.YtmchgmpdhfefjaaInsP
import Derived.Deep.Cut
namespace Go.Proofs.Ytmchgmpdhfefjaa
open Go.RowKit

theorem farBox {g : Nat} {w w' : World} (h : Far g w w') {b : Nat} {cs : Array Value} {T : TypeId} (hb : Box w b cs T) (hg : b ≠ g) : Box w' b cs T := (h.far b hg hb.lt).trans hb
/-- While a word is drawn: the result R, the word G under way, the cursor g. -/
structure DnZ (w : World) (base g R G : Nat) (op a b c : Int) (z : World) : Prop where
  bR : ∃ p q r s, Box z R #[p, q, r, s] 34
  bO : Box z G #[.int .i64 op, .int .i64 a, .int .i64 b, .int .i64 c] 34
  far : Far g w z
  cur : Cur z base g
  lt : g < w.heap.size
  hR : w.heap.size ≤ R
  hG : R < G
theorem DnZ.stays {w : World} {base g R G : Nat} {op a b c : Int} {z z' : World} (h : DnZ w base g R G op a b c z) (hb : Below z.heap.size z z') : DnZ w base g R G op a b c z' := by
  obtain ⟨p, q, r, s, hr⟩ := h.bR
  have := h.lt
  have := hr.lt
  have := h.hR
  exact ⟨⟨p, q, r, s, hr.stays hb⟩, h.bO.stays hb, Below.far' h.far (by omega) hb, h.cur.below (hb.mono (by omega)), h.lt, h.hR, h.hG⟩
theorem DnZ.draws {w : World} {base g R G : Nat} {op a b c : Int} {z z' : World} (h : DnZ w base g R G op a b c z) (hf : Far g z z') (hc : Cur z' base g) : DnZ w base g R G op a b c z' := by
  obtain ⟨p, q, r, s, hr⟩ := h.bR
  have := h.lt
  have := h.hR
  have := h.hG
  exact ⟨⟨p, q, r, s, farBox hf hr (by omega)⟩, farBox hf h.bO (by omega), h.far.trans hf, hc, h.lt, h.hR, h.hG⟩
theorem DnZ.setB {w : World} {base g R G : Nat} {op a b c : Int} {z : World} (h : DnZ w base g R G op a b c z) (i : Nat) (v : Value) {op' a' b' c' : Int} (e : (#[.int .i64 op, .int .i64 a, .int .i64 b, .int .i64 c] : Array Value).setIfInBounds i v = #[.int .i64 op', .int .i64 a', .int .i64 b', .int .i64 c']) :
    DnZ w base g R G op' a' b' c' (z.setCell ⟨G, i, none⟩ v) := by
  obtain ⟨p, q, r, s, hr⟩ := h.bR
  have h1 := h.lt
  have h2 := h.hR
  have h3 := h.hG
  refine ⟨⟨p, q, r, s, hr.other _ _ (by show R ≠ G; omega)⟩, by rw [← e]; exact h.bO.set i v, Below.far' h.far (Nat.le_refl _) ((Below.refl _ _).setCell (p := ⟨G, i, none⟩) (by show w.heap.size ≤ G; omega) v), h.cur.below ((Below.refl _ _).setCell (p := ⟨G, i, none⟩) (by show g + 1 ≤ G; omega) v), h1, h2, h3⟩
theorem DnZ.fin {w : World} {base g R G : Nat} {op a b c : Int} {z : World} (h : DnZ w base g R G op a b c z) :
    ∃ W, (((z.setCell ⟨R, 0, none⟩ (.int .i64 op)).setCell ⟨R, 1, none⟩ (.int .i64 a)).setCell ⟨R, 2, none⟩ (.int .i64 b)).setCell ⟨R, 3, none⟩ (.int .i64 c) = W ∧ Box W R #[.int .i64 op, .int .i64 a, .int .i64 b, .int .i64 c] 34 ∧ Far g w W ∧ Cur W base g := by
  obtain ⟨p, q, r, s, hr⟩ := h.bR
  have h1 := h.lt
  have h2 := h.hR
  have h3 := h.hG
  have hb : ∀ B, B ≤ R → Below B z ((((z.setCell ⟨R, 0, none⟩ (.int .i64 op)).setCell ⟨R, 1, none⟩ (.int .i64 a)).setCell ⟨R, 2, none⟩ (.int .i64 b)).setCell ⟨R, 3, none⟩ (.int .i64 c)) := fun B hB =>
    ((((Below.refl B z).setCell (p := ⟨R, 0, none⟩) hB _).setCell (p := ⟨R, 1, none⟩) hB _).setCell (p := ⟨R, 2, none⟩) hB _).setCell (p := ⟨R, 3, none⟩) hB _
  exact ⟨_, rfl, by simpa using ((((hr.set 0 (.int .i64 op)).set 1 (.int .i64 a)).set 2 (.int .i64 b)).set 3 (.int .i64 c)), Below.far' h.far (Nat.le_refl _) (hb _ h2), h.cur.below (hb _ (by omega))⟩

set_option maxRecDepth 100000 in
set_option maxHeartbeats 8000000 in
theorem l14Ins_any (w : World) (base g : Nat) (C : Cur w base g) :
    Calls Try.prog 42 #[.pointer (some ⟨g, 0, none⟩)] w fun e w' => ∃ op a b c, e = .returned (.agg #[.int .i64 op, .int .i64 a, .int .i64 b, .int .i64 c]) ∧ insB op a b c = true ∧ Far g w w' ∧ Cur w' base g := by
  have hglt := C.lt
  have CB := fun z (n : Nat) hn C => hide (below_any z base g n hn C)
  obtain ⟨W1, hW⟩ : ∃ W1, w.alloc (.cells #[.int .i64 0, .int .i64 0, .int .i64 0, .int .i64 0] 34) = W1 := ⟨_, rfl⟩
  have hb1 : Below w.heap.size w W1 := by rw [← hW]; exact (Below.refl _ _).alloc (Nat.le_refl _) _
  have F1 : Hid (Far g w W1) := hide (Far.ofBelow hb1)
  have C1 : Hid (Cur W1 base g) := hide (C.below (hb1.mono hglt))
  have R1 : Hid (Box W1 w.heap.size #[.int .i64 0, .int .i64 0, .int .i64 0, .int .i64 0] 34) := by rw [← hW]; exact hide (Box.made w _ _)
  have HW := hide hW
  clear hW hb1 C
  go_enter Try.func42, Try.ntmps42
  go_wp2_with fail
  rw [HW.out]
  refine (unhide (CB _ 10 (by omega) C1.out)).mono ?_
  rintro e z1 ⟨k, hk, rfl, hf1, hc1⟩
  have hk10 : k < 10 := by omega
  have F2 := hide (F1.out.trans hf1)
  have R2 := hide (farBox hf1 R1.out (by omega))
  have C2 := hide hc1
  clear hf1 hc1 F1 R1 C1 hk
  have hw1 : wrap64 (1 + (k : Int)) = 1 + (k : Int) := by unfold wrap64; omega
  go_wp2_with fail
  refine (unhide (CB _ 8 (by omega) C2.out)).mono ?_
  rintro e z2 ⟨m, hm, rfl, hf2, hc2⟩
  have hm8 : m < 8 := by omega
  have F3 := hide (F2.out.trans hf2)
  have R3 := hide (farBox hf2 R2.out (by omega))
  have C3 := hide hc2
  clear hf2 hc2 F2 R2 C2 hm
  have Z0 : Hid (DnZ w base g w.heap.size z2.heap.size (1 + (k : Int)) (m : Int) 0 0 (z2.alloc (.cells #[.int .i64 (1 + (k : Int)), .int .i64 (m : Int), .int .i64 0, .int .i64 0] 34))) := by
    have hz := F3.out.size
    exact hide ⟨⟨_, _, _, _, R3.out.stays ((Below.refl _ _).alloc (Nat.le_refl _) _)⟩, Box.made _ _ _, Below.far' F3.out (Nat.le_refl _) ((Below.refl _ _).alloc hz _), C3.out.below ((Below.refl _ _).alloc (by have := R3.out.lt; omega) _), hglt, Nat.le_refl _, R3.out.lt⟩
  obtain ⟨Z, hZ⟩ : ∃ Z, z2.alloc (.cells #[.int .i64 (1 + (k : Int)), .int .i64 (m : Int), .int .i64 0, .int .i64 0] 34) = Z := ⟨_, rfl⟩
  obtain ⟨G, eG⟩ : ∃ G, z2.heap.size = G := ⟨_, rfl⟩
  have HZ := hide hZ
  have EG := hide eG
  rw [hZ, eG] at Z0
  clear hZ eG F3 R3 C3
  go_upto_region 2 with fail
  rw [HZ.out, EG.out]
  clear HZ EG
  have hcase : k = 0 ∨ k = 1 ∨ k = 2 ∨ k = 3 ∨ k = 4 ∨ k = 5 ∨ k = 6 ∨ k = 7 ∨ k = 8 ∨ k = 9 := by omega
  rcases hcase with rfl | rfl | rfl | rfl | rfl | rfl | rfl | rfl | rfl | rfl
  · have Z1 : Hid (DnZ w base g w.heap.size G 1 (m : Int) 0 0 Z) := Z0
    clear Z0 hk10 hw1
    have b0 := Lib.cell_of_heap Z1.out.bO 0
    have g0 := Lib.frozen_of_heap Z1.out.bO 0
    have b1 := Lib.cell_of_heap Z1.out.bO 1
    have g1 := Lib.frozen_of_heap Z1.out.bO 1
    have b2 := Lib.cell_of_heap Z1.out.bO 2
    have g2 := Lib.frozen_of_heap Z1.out.bO 2
    have b3 := Lib.cell_of_heap Z1.out.bO 3
    have g3 := Lib.frozen_of_heap Z1.out.bO 3
    obtain ⟨ra, rb, rc, rd, hrr⟩ := Z1.out.bR
    have s0 := Lib.cell_of_heap hrr 0
    have f0 := Lib.frozen_of_heap hrr 0
    have s1 := Lib.cell_of_heap hrr 1
    have f1 := Lib.frozen_of_heap hrr 1
    have s2 := Lib.cell_of_heap hrr 2
    have f2 := Lib.frozen_of_heap hrr 2
    have s3 := Lib.cell_of_heap hrr 3
    have f3 := Lib.frozen_of_heap hrr 3
    simp at b0 b1 b2 b3 s0 s1 s2 s3
    clear hrr
    go_wp2_with fail
    refine (pickInt_made _ _ base g [0, 1, 7, 1000000] 3 (by decide) (by decide) Z1.out.cur rfl).mono ?_
    rintro e y1 ⟨x1, hx1, rfl, hf, hc⟩
    have hx1b : 0 ≤ x1 ∧ x1 ≤ 1000000 := by simp at hx1; omega
    have Z2 := hide (Z1.out.draws hf hc)
    clear hf hc hx1 b0 b1 b2 b3 g0 g1 g2 g3 s0 s1 s2 s3 f0 f1 f2 f3 ra rb rc rd
    have b0 := Lib.cell_of_heap Z2.out.bO 0
    have g0 := Lib.frozen_of_heap Z2.out.bO 0
    have b1 := Lib.cell_of_heap Z2.out.bO 1
    have g1 := Lib.frozen_of_heap Z2.out.bO 1
    have b2 := Lib.cell_of_heap Z2.out.bO 2
    have g2 := Lib.frozen_of_heap Z2.out.bO 2
    have b3 := Lib.cell_of_heap Z2.out.bO 3
    have g3 := Lib.frozen_of_heap Z2.out.bO 3
    obtain ⟨ra, rb, rc, rd, hrr⟩ := Z2.out.bR
    have s0 := Lib.cell_of_heap hrr 0
    have f0 := Lib.frozen_of_heap hrr 0
    have s1 := Lib.cell_of_heap hrr 1
    have f1 := Lib.frozen_of_heap hrr 1
    have s2 := Lib.cell_of_heap hrr 2
    have f2 := Lib.frozen_of_heap hrr 2
    have s3 := Lib.cell_of_heap hrr 3
    have f3 := Lib.frozen_of_heap hrr 3
    simp at b0 b1 b2 b3 s0 s1 s2 s3
    clear hrr
    have Z3 := hide (Z2.out.setB (op' := (1 : Int)) (a' := (m : Int)) (b' := 0) (c' := x1) 3 (.int .i64 x1) rfl)
    clear s0 s1 s2 s3 f0 f1 f2 f3 ra rb rc rd
    obtain ⟨ra, rb, rc, rd, hrr⟩ := Z3.out.bR
    have s0 := Lib.cell_of_heap hrr 0
    have f0 := Lib.frozen_of_heap hrr 0
    have d0 := Lib.cell_of_heap Z3.out.bO 0
    have s1 := Lib.cell_of_heap hrr 1
    have f1 := Lib.frozen_of_heap hrr 1
    have d1 := Lib.cell_of_heap Z3.out.bO 1
    have s2 := Lib.cell_of_heap hrr 2
    have f2 := Lib.frozen_of_heap hrr 2
    have d2 := Lib.cell_of_heap Z3.out.bO 2
    have s3 := Lib.cell_of_heap hrr 3
    have f3 := Lib.frozen_of_heap hrr 3
    have d3 := Lib.cell_of_heap Z3.out.bO 3
    simp at s0 s1 s2 s3 d0 d1 d2 d3
    clear hrr
    go_wp2
    obtain ⟨W, eW, hB, hF, hC⟩ := Z3.out.fin
    rw [eW]
    refine box_ret (g := w.heap.size) (t := 34) (cs := #[.int .i64 (1 : Int), .int .i64 (m : Int), .int .i64 0, .int .i64 x1]) rfl rfl ?_ _ Try.underlying34 rfl (by kernel_rfl) rfl ?_
    · exact hB
    · refine ⟨_, _, _, _, rfl, ?_, hF, hC⟩
      simp [insB, insTwo, insArgs, inZ]
      omega
  · have Z1 : Hid (DnZ w base g w.heap.size G 2 (m : Int) 0 0 Z) := Z0
    clear Z0 hk10 hw1
    have b0 := Lib.cell_of_heap Z1.out.bO 0
    have g0 := Lib.frozen_of_heap Z1.out.bO 0
    have b1 := Lib.cell_of_heap Z1.out.bO 1
    have g1 := Lib.frozen_of_heap Z1.out.bO 1
    have b2 := Lib.cell_of_heap Z1.out.bO 2
    have g2 := Lib.frozen_of_heap Z1.out.bO 2
    have b3 := Lib.cell_of_heap Z1.out.bO 3
    have g3 := Lib.frozen_of_heap Z1.out.bO 3
    obtain ⟨ra, rb, rc, rd, hrr⟩ := Z1.out.bR
    have s0 := Lib.cell_of_heap hrr 0
    have f0 := Lib.frozen_of_heap hrr 0
    have s1 := Lib.cell_of_heap hrr 1
    have f1 := Lib.frozen_of_heap hrr 1
    have s2 := Lib.cell_of_heap hrr 2
    have f2 := Lib.frozen_of_heap hrr 2
    have s3 := Lib.cell_of_heap hrr 3
    have f3 := Lib.frozen_of_heap hrr 3
    simp at b0 b1 b2 b3 s0 s1 s2 s3
    clear hrr
    go_wp2_with fail
    refine (unhide (CB _ 30 (by omega) Z1.out.cur)).mono ?_
    rintro e y1 ⟨x1, hx1, rfl, hf, hc⟩
    have hx1b : x1 < 30 := by omega
    have Z2 := hide (Z1.out.draws hf hc)
    clear hf hc hx1 b0 b1 b2 b3 g0 g1 g2 g3 s0 s1 s2 s3 f0 f1 f2 f3 ra rb rc rd
    have b0 := Lib.cell_of_heap Z2.out.bO 0
    have g0 := Lib.frozen_of_heap Z2.out.bO 0
    have b1 := Lib.cell_of_heap Z2.out.bO 1
    have g1 := Lib.frozen_of_heap Z2.out.bO 1
    have b2 := Lib.cell_of_heap Z2.out.bO 2
    have g2 := Lib.frozen_of_heap Z2.out.bO 2
    have b3 := Lib.cell_of_heap Z2.out.bO 3
    have g3 := Lib.frozen_of_heap Z2.out.bO 3
    obtain ⟨ra, rb, rc, rd, hrr⟩ := Z2.out.bR
    have s0 := Lib.cell_of_heap hrr 0
    have f0 := Lib.frozen_of_heap hrr 0
    have s1 := Lib.cell_of_heap hrr 1
    have f1 := Lib.frozen_of_heap hrr 1
    have s2 := Lib.cell_of_heap hrr 2
    have f2 := Lib.frozen_of_heap hrr 2
    have s3 := Lib.cell_of_heap hrr 3
    have f3 := Lib.frozen_of_heap hrr 3
    simp at b0 b1 b2 b3 s0 s1 s2 s3
    clear hrr
    have Z3 := hide (Z2.out.setB (op' := (2 : Int)) (a' := (m : Int)) (b' := 0) (c' := (x1 : Int)) 3 (.int .i64 (x1 : Int)) rfl)
    clear s0 s1 s2 s3 f0 f1 f2 f3 ra rb rc rd
    obtain ⟨ra, rb, rc, rd, hrr⟩ := Z3.out.bR
    have s0 := Lib.cell_of_heap hrr 0
    have f0 := Lib.frozen_of_heap hrr 0
    have d0 := Lib.cell_of_heap Z3.out.bO 0
    have s1 := Lib.cell_of_heap hrr 1
    have f1 := Lib.frozen_of_heap hrr 1
    have d1 := Lib.cell_of_heap Z3.out.bO 1
    have s2 := Lib.cell_of_heap hrr 2
    have f2 := Lib.frozen_of_heap hrr 2
    have d2 := Lib.cell_of_heap Z3.out.bO 2
    have s3 := Lib.cell_of_heap hrr 3
    have f3 := Lib.frozen_of_heap hrr 3
    have d3 := Lib.cell_of_heap Z3.out.bO 3
    simp at s0 s1 s2 s3 d0 d1 d2 d3
    clear hrr
    go_wp2
    obtain ⟨W, eW, hB, hF, hC⟩ := Z3.out.fin
    rw [eW]
    refine box_ret (g := w.heap.size) (t := 34) (cs := #[.int .i64 (2 : Int), .int .i64 (m : Int), .int .i64 0, .int .i64 (x1 : Int)]) rfl rfl ?_ _ Try.underlying34 rfl (by kernel_rfl) rfl ?_
    · exact hB
    · refine ⟨_, _, _, _, rfl, ?_, hF, hC⟩
      simp [insB, insTwo, insArgs, inZ]
      omega
  · have Z1 : Hid (DnZ w base g w.heap.size G 3 (m : Int) 0 0 Z) := Z0
    clear Z0 hk10 hw1
    have b0 := Lib.cell_of_heap Z1.out.bO 0
    have g0 := Lib.frozen_of_heap Z1.out.bO 0
    have b1 := Lib.cell_of_heap Z1.out.bO 1
    have g1 := Lib.frozen_of_heap Z1.out.bO 1
    have b2 := Lib.cell_of_heap Z1.out.bO 2
    have g2 := Lib.frozen_of_heap Z1.out.bO 2
    have b3 := Lib.cell_of_heap Z1.out.bO 3
    have g3 := Lib.frozen_of_heap Z1.out.bO 3
    obtain ⟨ra, rb, rc, rd, hrr⟩ := Z1.out.bR
    have s0 := Lib.cell_of_heap hrr 0
    have f0 := Lib.frozen_of_heap hrr 0
    have s1 := Lib.cell_of_heap hrr 1
    have f1 := Lib.frozen_of_heap hrr 1
    have s2 := Lib.cell_of_heap hrr 2
    have f2 := Lib.frozen_of_heap hrr 2
    have s3 := Lib.cell_of_heap hrr 3
    have f3 := Lib.frozen_of_heap hrr 3
    simp at b0 b1 b2 b3 s0 s1 s2 s3
    clear hrr
    go_wp2_with fail
    refine (unhide (CB _ 30 (by omega) Z1.out.cur)).mono ?_
    rintro e y1 ⟨x1, hx1, rfl, hf, hc⟩
    have hx1b : x1 < 30 := by omega
    have Z2 := hide (Z1.out.draws hf hc)
    clear hf hc hx1 b0 b1 b2 b3 g0 g1 g2 g3 s0 s1 s2 s3 f0 f1 f2 f3 ra rb rc rd
    have b0 := Lib.cell_of_heap Z2.out.bO 0
    have g0 := Lib.frozen_of_heap Z2.out.bO 0
    have b1 := Lib.cell_of_heap Z2.out.bO 1
    have g1 := Lib.frozen_of_heap Z2.out.bO 1
    have b2 := Lib.cell_of_heap Z2.out.bO 2
    have g2 := Lib.frozen_of_heap Z2.out.bO 2
    have b3 := Lib.cell_of_heap Z2.out.bO 3
    have g3 := Lib.frozen_of_heap Z2.out.bO 3
    obtain ⟨ra, rb, rc, rd, hrr⟩ := Z2.out.bR
    have s0 := Lib.cell_of_heap hrr 0
    have f0 := Lib.frozen_of_heap hrr 0
    have s1 := Lib.cell_of_heap hrr 1
    have f1 := Lib.frozen_of_heap hrr 1
    have s2 := Lib.cell_of_heap hrr 2
    have f2 := Lib.frozen_of_heap hrr 2
    have s3 := Lib.cell_of_heap hrr 3
    have f3 := Lib.frozen_of_heap hrr 3
    simp at b0 b1 b2 b3 s0 s1 s2 s3
    clear hrr
    have Z3 := hide (Z2.out.setB (op' := (3 : Int)) (a' := (m : Int)) (b' := 0) (c' := (x1 : Int)) 3 (.int .i64 (x1 : Int)) rfl)
    clear s0 s1 s2 s3 f0 f1 f2 f3 ra rb rc rd
    obtain ⟨ra, rb, rc, rd, hrr⟩ := Z3.out.bR
    have s0 := Lib.cell_of_heap hrr 0
    have f0 := Lib.frozen_of_heap hrr 0
    have d0 := Lib.cell_of_heap Z3.out.bO 0
    have s1 := Lib.cell_of_heap hrr 1
    have f1 := Lib.frozen_of_heap hrr 1
    have d1 := Lib.cell_of_heap Z3.out.bO 1
    have s2 := Lib.cell_of_heap hrr 2
    have f2 := Lib.frozen_of_heap hrr 2
    have d2 := Lib.cell_of_heap Z3.out.bO 2
    have s3 := Lib.cell_of_heap hrr 3
    have f3 := Lib.frozen_of_heap hrr 3
    have d3 := Lib.cell_of_heap Z3.out.bO 3
    simp at s0 s1 s2 s3 d0 d1 d2 d3
    clear hrr
    go_wp2
    obtain ⟨W, eW, hB, hF, hC⟩ := Z3.out.fin
    rw [eW]
    refine box_ret (g := w.heap.size) (t := 34) (cs := #[.int .i64 (3 : Int), .int .i64 (m : Int), .int .i64 0, .int .i64 (x1 : Int)]) rfl rfl ?_ _ Try.underlying34 rfl (by kernel_rfl) rfl ?_
    · exact hB
    · refine ⟨_, _, _, _, rfl, ?_, hF, hC⟩
      simp [insB, insTwo, insArgs, inZ]
      omega
  · have Z1 : Hid (DnZ w base g w.heap.size G 4 (m : Int) 0 0 Z) := Z0
    clear Z0 hk10 hw1
    have b0 := Lib.cell_of_heap Z1.out.bO 0
    have g0 := Lib.frozen_of_heap Z1.out.bO 0
    have b1 := Lib.cell_of_heap Z1.out.bO 1
    have g1 := Lib.frozen_of_heap Z1.out.bO 1
    have b2 := Lib.cell_of_heap Z1.out.bO 2
    have g2 := Lib.frozen_of_heap Z1.out.bO 2
    have b3 := Lib.cell_of_heap Z1.out.bO 3
    have g3 := Lib.frozen_of_heap Z1.out.bO 3
    obtain ⟨ra, rb, rc, rd, hrr⟩ := Z1.out.bR
    have s0 := Lib.cell_of_heap hrr 0
    have f0 := Lib.frozen_of_heap hrr 0
    have s1 := Lib.cell_of_heap hrr 1
    have f1 := Lib.frozen_of_heap hrr 1
    have s2 := Lib.cell_of_heap hrr 2
    have f2 := Lib.frozen_of_heap hrr 2
    have s3 := Lib.cell_of_heap hrr 3
    have f3 := Lib.frozen_of_heap hrr 3
    simp at b0 b1 b2 b3 s0 s1 s2 s3
    clear hrr
    go_wp2_with fail
    refine (unhide (CB _ 8 (by omega) Z1.out.cur)).mono ?_
    rintro e y1 ⟨x1, hx1, rfl, hf, hc⟩
    have hx1b : x1 < 8 := by omega
    have Z2 := hide (Z1.out.draws hf hc)
    clear hf hc hx1 b0 b1 b2 b3 g0 g1 g2 g3 s0 s1 s2 s3 f0 f1 f2 f3 ra rb rc rd
    have b0 := Lib.cell_of_heap Z2.out.bO 0
    have g0 := Lib.frozen_of_heap Z2.out.bO 0
    have b1 := Lib.cell_of_heap Z2.out.bO 1
    have g1 := Lib.frozen_of_heap Z2.out.bO 1
    have b2 := Lib.cell_of_heap Z2.out.bO 2
    have g2 := Lib.frozen_of_heap Z2.out.bO 2
    have b3 := Lib.cell_of_heap Z2.out.bO 3
    have g3 := Lib.frozen_of_heap Z2.out.bO 3
    obtain ⟨ra, rb, rc, rd, hrr⟩ := Z2.out.bR
    have s0 := Lib.cell_of_heap hrr 0
    have f0 := Lib.frozen_of_heap hrr 0
    have s1 := Lib.cell_of_heap hrr 1
    have f1 := Lib.frozen_of_heap hrr 1
    have s2 := Lib.cell_of_heap hrr 2
    have f2 := Lib.frozen_of_heap hrr 2
    have s3 := Lib.cell_of_heap hrr 3
    have f3 := Lib.frozen_of_heap hrr 3
    simp at b0 b1 b2 b3 s0 s1 s2 s3
    clear hrr
    have Z3 := hide (Z2.out.setB (op' := (4 : Int)) (a' := (m : Int)) (b' := (x1 : Int)) (c' := 0) 2 (.int .i64 (x1 : Int)) rfl)
    clear s0 s1 s2 s3 f0 f1 f2 f3 ra rb rc rd
    obtain ⟨ra, rb, rc, rd, hrr⟩ := Z3.out.bR
    have s0 := Lib.cell_of_heap hrr 0
    have f0 := Lib.frozen_of_heap hrr 0
    have d0 := Lib.cell_of_heap Z3.out.bO 0
    have s1 := Lib.cell_of_heap hrr 1
    have f1 := Lib.frozen_of_heap hrr 1
    have d1 := Lib.cell_of_heap Z3.out.bO 1
    have s2 := Lib.cell_of_heap hrr 2
    have f2 := Lib.frozen_of_heap hrr 2
    have d2 := Lib.cell_of_heap Z3.out.bO 2
    have s3 := Lib.cell_of_heap hrr 3
    have f3 := Lib.frozen_of_heap hrr 3
    have d3 := Lib.cell_of_heap Z3.out.bO 3
    simp at s0 s1 s2 s3 d0 d1 d2 d3
    clear hrr
    go_wp2_with fail
    refine (unhide (CB _ 9 (by omega) Z3.out.cur)).mono ?_
    rintro e y2 ⟨x2, hx2, rfl, hf, hc⟩
    have hx2b : x2 < 9 := by omega
    have hw2 : wrap64 (1 + (x2 : Int)) = 1 + (x2 : Int) := by unfold wrap64; omega
    have Z4 := hide (Z3.out.draws hf hc)
    clear hf hc hx2 b0 b1 b2 b3 g0 g1 g2 g3 s0 s1 s2 s3 f0 f1 f2 f3 ra rb rc rd d0 d1 d2 d3
    have b0 := Lib.cell_of_heap Z4.out.bO 0
    have g0 := Lib.frozen_of_heap Z4.out.bO 0
    have b1 := Lib.cell_of_heap Z4.out.bO 1
    have g1 := Lib.frozen_of_heap Z4.out.bO 1
    have b2 := Lib.cell_of_heap Z4.out.bO 2
    have g2 := Lib.frozen_of_heap Z4.out.bO 2
    have b3 := Lib.cell_of_heap Z4.out.bO 3
    have g3 := Lib.frozen_of_heap Z4.out.bO 3
    obtain ⟨ra, rb, rc, rd, hrr⟩ := Z4.out.bR
    have s0 := Lib.cell_of_heap hrr 0
    have f0 := Lib.frozen_of_heap hrr 0
    have s1 := Lib.cell_of_heap hrr 1
    have f1 := Lib.frozen_of_heap hrr 1
    have s2 := Lib.cell_of_heap hrr 2
    have f2 := Lib.frozen_of_heap hrr 2
    have s3 := Lib.cell_of_heap hrr 3
    have f3 := Lib.frozen_of_heap hrr 3
    simp at b0 b1 b2 b3 s0 s1 s2 s3
    clear hrr
    have Z5 := hide (Z4.out.setB (op' := (4 : Int)) (a' := (m : Int)) (b' := (x1 : Int)) (c' := (1 + (x2 : Int))) 3 (.int .i64 (1 + (x2 : Int))) rfl)
    clear s0 s1 s2 s3 f0 f1 f2 f3 ra rb rc rd
    obtain ⟨ra, rb, rc, rd, hrr⟩ := Z5.out.bR
    have s0 := Lib.cell_of_heap hrr 0
    have f0 := Lib.frozen_of_heap hrr 0
    have d0 := Lib.cell_of_heap Z5.out.bO 0
    have s1 := Lib.cell_of_heap hrr 1
    have f1 := Lib.frozen_of_heap hrr 1
    have d1 := Lib.cell_of_heap Z5.out.bO 1
    have s2 := Lib.cell_of_heap hrr 2
    have f2 := Lib.frozen_of_heap hrr 2
    have d2 := Lib.cell_of_heap Z5.out.bO 2
    have s3 := Lib.cell_of_heap hrr 3
    have f3 := Lib.frozen_of_heap hrr 3
    have d3 := Lib.cell_of_heap Z5.out.bO 3
    simp at s0 s1 s2 s3 d0 d1 d2 d3
    clear hrr
    go_wp2
    obtain ⟨W, eW, hB, hF, hC⟩ := Z5.out.fin
    rw [eW]
    refine box_ret (g := w.heap.size) (t := 34) (cs := #[.int .i64 (4 : Int), .int .i64 (m : Int), .int .i64 (x1 : Int), .int .i64 (1 + (x2 : Int))]) rfl rfl ?_ _ Try.underlying34 rfl (by kernel_rfl) rfl ?_
    · exact hB
    · refine ⟨_, _, _, _, rfl, ?_, hF, hC⟩
      simp [insB, insTwo, insArgs, inZ]
      omega
  · have Z1 : Hid (DnZ w base g w.heap.size G 5 (m : Int) 0 0 Z) := Z0
    clear Z0 hk10 hw1
    have b0 := Lib.cell_of_heap Z1.out.bO 0
    have g0 := Lib.frozen_of_heap Z1.out.bO 0
    have b1 := Lib.cell_of_heap Z1.out.bO 1
    have g1 := Lib.frozen_of_heap Z1.out.bO 1
    have b2 := Lib.cell_of_heap Z1.out.bO 2
    have g2 := Lib.frozen_of_heap Z1.out.bO 2
    have b3 := Lib.cell_of_heap Z1.out.bO 3
    have g3 := Lib.frozen_of_heap Z1.out.bO 3
    obtain ⟨ra, rb, rc, rd, hrr⟩ := Z1.out.bR
    have s0 := Lib.cell_of_heap hrr 0
    have f0 := Lib.frozen_of_heap hrr 0
    have s1 := Lib.cell_of_heap hrr 1
    have f1 := Lib.frozen_of_heap hrr 1
    have s2 := Lib.cell_of_heap hrr 2
    have f2 := Lib.frozen_of_heap hrr 2
    have s3 := Lib.cell_of_heap hrr 3
    have f3 := Lib.frozen_of_heap hrr 3
    simp at b0 b1 b2 b3 s0 s1 s2 s3
    clear hrr
    go_wp2
    obtain ⟨W, eW, hB, hF, hC⟩ := Z1.out.fin
    rw [eW]
    refine box_ret (g := w.heap.size) (t := 34) (cs := #[.int .i64 (5 : Int), .int .i64 (m : Int), .int .i64 0, .int .i64 0]) rfl rfl ?_ _ Try.underlying34 rfl (by kernel_rfl) rfl ?_
    · exact hB
    · refine ⟨_, _, _, _, rfl, ?_, hF, hC⟩
      simp [insB, insTwo, insArgs, inZ]
      omega
  · have Z1 : Hid (DnZ w base g w.heap.size G 6 (m : Int) 0 0 Z) := Z0
    clear Z0 hk10 hw1
    have b0 := Lib.cell_of_heap Z1.out.bO 0
    have g0 := Lib.frozen_of_heap Z1.out.bO 0
    have b1 := Lib.cell_of_heap Z1.out.bO 1
    have g1 := Lib.frozen_of_heap Z1.out.bO 1
    have b2 := Lib.cell_of_heap Z1.out.bO 2
    have g2 := Lib.frozen_of_heap Z1.out.bO 2
    have b3 := Lib.cell_of_heap Z1.out.bO 3
    have g3 := Lib.frozen_of_heap Z1.out.bO 3
    obtain ⟨ra, rb, rc, rd, hrr⟩ := Z1.out.bR
    have s0 := Lib.cell_of_heap hrr 0
    have f0 := Lib.frozen_of_heap hrr 0
    have s1 := Lib.cell_of_heap hrr 1
    have f1 := Lib.frozen_of_heap hrr 1
    have s2 := Lib.cell_of_heap hrr 2
    have f2 := Lib.frozen_of_heap hrr 2
    have s3 := Lib.cell_of_heap hrr 3
    have f3 := Lib.frozen_of_heap hrr 3
    simp at b0 b1 b2 b3 s0 s1 s2 s3
    clear hrr
    go_wp2
    obtain ⟨W, eW, hB, hF, hC⟩ := Z1.out.fin
    rw [eW]
    refine box_ret (g := w.heap.size) (t := 34) (cs := #[.int .i64 (6 : Int), .int .i64 (m : Int), .int .i64 0, .int .i64 0]) rfl rfl ?_ _ Try.underlying34 rfl (by kernel_rfl) rfl ?_
    · exact hB
    · refine ⟨_, _, _, _, rfl, ?_, hF, hC⟩
      simp [insB, insTwo, insArgs, inZ]
      omega
  · have Z1 : Hid (DnZ w base g w.heap.size G 7 (m : Int) 0 0 Z) := Z0
    clear Z0 hk10 hw1
    have b0 := Lib.cell_of_heap Z1.out.bO 0
    have g0 := Lib.frozen_of_heap Z1.out.bO 0
    have b1 := Lib.cell_of_heap Z1.out.bO 1
    have g1 := Lib.frozen_of_heap Z1.out.bO 1
    have b2 := Lib.cell_of_heap Z1.out.bO 2
    have g2 := Lib.frozen_of_heap Z1.out.bO 2
    have b3 := Lib.cell_of_heap Z1.out.bO 3
    have g3 := Lib.frozen_of_heap Z1.out.bO 3
    obtain ⟨ra, rb, rc, rd, hrr⟩ := Z1.out.bR
    have s0 := Lib.cell_of_heap hrr 0
    have f0 := Lib.frozen_of_heap hrr 0
    have s1 := Lib.cell_of_heap hrr 1
    have f1 := Lib.frozen_of_heap hrr 1
    have s2 := Lib.cell_of_heap hrr 2
    have f2 := Lib.frozen_of_heap hrr 2
    have s3 := Lib.cell_of_heap hrr 3
    have f3 := Lib.frozen_of_heap hrr 3
    simp at b0 b1 b2 b3 s0 s1 s2 s3
    clear hrr
    go_wp2_with fail
    refine (unhide (CB _ 30 (by omega) Z1.out.cur)).mono ?_
    rintro e y1 ⟨x1, hx1, rfl, hf, hc⟩
    have hx1b : x1 < 30 := by omega
    have Z2 := hide (Z1.out.draws hf hc)
    clear hf hc hx1 b0 b1 b2 b3 g0 g1 g2 g3 s0 s1 s2 s3 f0 f1 f2 f3 ra rb rc rd
    have b0 := Lib.cell_of_heap Z2.out.bO 0
    have g0 := Lib.frozen_of_heap Z2.out.bO 0
    have b1 := Lib.cell_of_heap Z2.out.bO 1
    have g1 := Lib.frozen_of_heap Z2.out.bO 1
    have b2 := Lib.cell_of_heap Z2.out.bO 2
    have g2 := Lib.frozen_of_heap Z2.out.bO 2
    have b3 := Lib.cell_of_heap Z2.out.bO 3
    have g3 := Lib.frozen_of_heap Z2.out.bO 3
    obtain ⟨ra, rb, rc, rd, hrr⟩ := Z2.out.bR
    have s0 := Lib.cell_of_heap hrr 0
    have f0 := Lib.frozen_of_heap hrr 0
    have s1 := Lib.cell_of_heap hrr 1
    have f1 := Lib.frozen_of_heap hrr 1
    have s2 := Lib.cell_of_heap hrr 2
    have f2 := Lib.frozen_of_heap hrr 2
    have s3 := Lib.cell_of_heap hrr 3
    have f3 := Lib.frozen_of_heap hrr 3
    simp at b0 b1 b2 b3 s0 s1 s2 s3
    clear hrr
    have Z3 := hide (Z2.out.setB (op' := (7 : Int)) (a' := (m : Int)) (b' := 0) (c' := (x1 : Int)) 3 (.int .i64 (x1 : Int)) rfl)
    clear s0 s1 s2 s3 f0 f1 f2 f3 ra rb rc rd
    obtain ⟨ra, rb, rc, rd, hrr⟩ := Z3.out.bR
    have s0 := Lib.cell_of_heap hrr 0
    have f0 := Lib.frozen_of_heap hrr 0
    have d0 := Lib.cell_of_heap Z3.out.bO 0
    have s1 := Lib.cell_of_heap hrr 1
    have f1 := Lib.frozen_of_heap hrr 1
    have d1 := Lib.cell_of_heap Z3.out.bO 1
    have s2 := Lib.cell_of_heap hrr 2
    have f2 := Lib.frozen_of_heap hrr 2
    have d2 := Lib.cell_of_heap Z3.out.bO 2
    have s3 := Lib.cell_of_heap hrr 3
    have f3 := Lib.frozen_of_heap hrr 3
    have d3 := Lib.cell_of_heap Z3.out.bO 3
    simp at s0 s1 s2 s3 d0 d1 d2 d3
    clear hrr
    go_wp2
    obtain ⟨W, eW, hB, hF, hC⟩ := Z3.out.fin
    rw [eW]
    refine box_ret (g := w.heap.size) (t := 34) (cs := #[.int .i64 (7 : Int), .int .i64 (m : Int), .int .i64 0, .int .i64 (x1 : Int)]) rfl rfl ?_ _ Try.underlying34 rfl (by kernel_rfl) rfl ?_
    · exact hB
    · refine ⟨_, _, _, _, rfl, ?_, hF, hC⟩
      simp [insB, insTwo, insArgs, inZ]
      omega
  · have Z1 : Hid (DnZ w base g w.heap.size G 8 (m : Int) 0 0 Z) := Z0
    clear Z0 hk10 hw1
    have b0 := Lib.cell_of_heap Z1.out.bO 0
    have g0 := Lib.frozen_of_heap Z1.out.bO 0
    have b1 := Lib.cell_of_heap Z1.out.bO 1
    have g1 := Lib.frozen_of_heap Z1.out.bO 1
    have b2 := Lib.cell_of_heap Z1.out.bO 2
    have g2 := Lib.frozen_of_heap Z1.out.bO 2
    have b3 := Lib.cell_of_heap Z1.out.bO 3
    have g3 := Lib.frozen_of_heap Z1.out.bO 3
    obtain ⟨ra, rb, rc, rd, hrr⟩ := Z1.out.bR
    have s0 := Lib.cell_of_heap hrr 0
    have f0 := Lib.frozen_of_heap hrr 0
    have s1 := Lib.cell_of_heap hrr 1
    have f1 := Lib.frozen_of_heap hrr 1
    have s2 := Lib.cell_of_heap hrr 2
    have f2 := Lib.frozen_of_heap hrr 2
    have s3 := Lib.cell_of_heap hrr 3
    have f3 := Lib.frozen_of_heap hrr 3
    simp at b0 b1 b2 b3 s0 s1 s2 s3
    clear hrr
    have Z2 := hide (Z1.out.setB (op' := (8 : Int)) (a' := 0) (b' := 0) (c' := 0) 1 (.int .i64 0) rfl)
    go_wp2_with fail
    refine (unhide (CB _ 20 (by omega) Z2.out.cur)).mono ?_
    rintro e y1 ⟨x1, hx1, rfl, hf, hc⟩
    have hx1b : x1 < 20 := by omega
    have Z3 := hide (Z2.out.draws hf hc)
    clear hf hc hx1 b0 b1 b2 b3 g0 g1 g2 g3 s0 s1 s2 s3 f0 f1 f2 f3 ra rb rc rd
    have b0 := Lib.cell_of_heap Z3.out.bO 0
    have g0 := Lib.frozen_of_heap Z3.out.bO 0
    have b1 := Lib.cell_of_heap Z3.out.bO 1
    have g1 := Lib.frozen_of_heap Z3.out.bO 1
    have b2 := Lib.cell_of_heap Z3.out.bO 2
    have g2 := Lib.frozen_of_heap Z3.out.bO 2
    have b3 := Lib.cell_of_heap Z3.out.bO 3
    have g3 := Lib.frozen_of_heap Z3.out.bO 3
    obtain ⟨ra, rb, rc, rd, hrr⟩ := Z3.out.bR
    have s0 := Lib.cell_of_heap hrr 0
    have f0 := Lib.frozen_of_heap hrr 0
    have s1 := Lib.cell_of_heap hrr 1
    have f1 := Lib.frozen_of_heap hrr 1
    have s2 := Lib.cell_of_heap hrr 2
    have f2 := Lib.frozen_of_heap hrr 2
    have s3 := Lib.cell_of_heap hrr 3
    have f3 := Lib.frozen_of_heap hrr 3
    simp at b0 b1 b2 b3 s0 s1 s2 s3
    clear hrr
    have Z4 := hide (Z3.out.setB (op' := (8 : Int)) (a' := 0) (b' := 0) (c' := (x1 : Int)) 3 (.int .i64 (x1 : Int)) rfl)
    clear s0 s1 s2 s3 f0 f1 f2 f3 ra rb rc rd
    obtain ⟨ra, rb, rc, rd, hrr⟩ := Z4.out.bR
    have s0 := Lib.cell_of_heap hrr 0
    have f0 := Lib.frozen_of_heap hrr 0
    have d0 := Lib.cell_of_heap Z4.out.bO 0
    have s1 := Lib.cell_of_heap hrr 1
    have f1 := Lib.frozen_of_heap hrr 1
    have d1 := Lib.cell_of_heap Z4.out.bO 1
    have s2 := Lib.cell_of_heap hrr 2
    have f2 := Lib.frozen_of_heap hrr 2
    have d2 := Lib.cell_of_heap Z4.out.bO 2
    have s3 := Lib.cell_of_heap hrr 3
    have f3 := Lib.frozen_of_heap hrr 3
    have d3 := Lib.cell_of_heap Z4.out.bO 3
    simp at s0 s1 s2 s3 d0 d1 d2 d3
    clear hrr
    go_wp2
    obtain ⟨W, eW, hB, hF, hC⟩ := Z4.out.fin
    rw [eW]
    refine box_ret (g := w.heap.size) (t := 34) (cs := #[.int .i64 (8 : Int), .int .i64 0, .int .i64 0, .int .i64 (x1 : Int)]) rfl rfl ?_ _ Try.underlying34 rfl (by kernel_rfl) rfl ?_
    · exact hB
    · refine ⟨_, _, _, _, rfl, ?_, hF, hC⟩
      simp [insB, insTwo, insArgs, inZ]
      omega
  · have Z1 : Hid (DnZ w base g w.heap.size G 9 (m : Int) 0 0 Z) := Z0
    clear Z0 hk10 hw1
    have b0 := Lib.cell_of_heap Z1.out.bO 0
    have g0 := Lib.frozen_of_heap Z1.out.bO 0
    have b1 := Lib.cell_of_heap Z1.out.bO 1
    have g1 := Lib.frozen_of_heap Z1.out.bO 1
    have b2 := Lib.cell_of_heap Z1.out.bO 2
    have g2 := Lib.frozen_of_heap Z1.out.bO 2
    have b3 := Lib.cell_of_heap Z1.out.bO 3
    have g3 := Lib.frozen_of_heap Z1.out.bO 3
    obtain ⟨ra, rb, rc, rd, hrr⟩ := Z1.out.bR
    have s0 := Lib.cell_of_heap hrr 0
    have f0 := Lib.frozen_of_heap hrr 0
    have s1 := Lib.cell_of_heap hrr 1
    have f1 := Lib.frozen_of_heap hrr 1
    have s2 := Lib.cell_of_heap hrr 2
    have f2 := Lib.frozen_of_heap hrr 2
    have s3 := Lib.cell_of_heap hrr 3
    have f3 := Lib.frozen_of_heap hrr 3
    simp at b0 b1 b2 b3 s0 s1 s2 s3
    clear hrr
    go_wp2_with fail
    refine (unhide (CB _ 30 (by omega) Z1.out.cur)).mono ?_
    rintro e y1 ⟨x1, hx1, rfl, hf, hc⟩
    have hx1b : x1 < 30 := by omega
    have Z2 := hide (Z1.out.draws hf hc)
    clear hf hc hx1 b0 b1 b2 b3 g0 g1 g2 g3 s0 s1 s2 s3 f0 f1 f2 f3 ra rb rc rd
    have b0 := Lib.cell_of_heap Z2.out.bO 0
    have g0 := Lib.frozen_of_heap Z2.out.bO 0
    have b1 := Lib.cell_of_heap Z2.out.bO 1
    have g1 := Lib.frozen_of_heap Z2.out.bO 1
    have b2 := Lib.cell_of_heap Z2.out.bO 2
    have g2 := Lib.frozen_of_heap Z2.out.bO 2
    have b3 := Lib.cell_of_heap Z2.out.bO 3
    have g3 := Lib.frozen_of_heap Z2.out.bO 3
    obtain ⟨ra, rb, rc, rd, hrr⟩ := Z2.out.bR
    have s0 := Lib.cell_of_heap hrr 0
    have f0 := Lib.frozen_of_heap hrr 0
    have s1 := Lib.cell_of_heap hrr 1
    have f1 := Lib.frozen_of_heap hrr 1
    have s2 := Lib.cell_of_heap hrr 2
    have f2 := Lib.frozen_of_heap hrr 2
    have s3 := Lib.cell_of_heap hrr 3
    have f3 := Lib.frozen_of_heap hrr 3
    simp at b0 b1 b2 b3 s0 s1 s2 s3
    clear hrr
    have Z3 := hide (Z2.out.setB (op' := (9 : Int)) (a' := (m : Int)) (b' := 0) (c' := (x1 : Int)) 3 (.int .i64 (x1 : Int)) rfl)
    clear s0 s1 s2 s3 f0 f1 f2 f3 ra rb rc rd
    obtain ⟨ra, rb, rc, rd, hrr⟩ := Z3.out.bR
    have s0 := Lib.cell_of_heap hrr 0
    have f0 := Lib.frozen_of_heap hrr 0
    have d0 := Lib.cell_of_heap Z3.out.bO 0
    have s1 := Lib.cell_of_heap hrr 1
    have f1 := Lib.frozen_of_heap hrr 1
    have d1 := Lib.cell_of_heap Z3.out.bO 1
    have s2 := Lib.cell_of_heap hrr 2
    have f2 := Lib.frozen_of_heap hrr 2
    have d2 := Lib.cell_of_heap Z3.out.bO 2
    have s3 := Lib.cell_of_heap hrr 3
    have f3 := Lib.frozen_of_heap hrr 3
    have d3 := Lib.cell_of_heap Z3.out.bO 3
    simp at s0 s1 s2 s3 d0 d1 d2 d3
    clear hrr
    go_wp2
    obtain ⟨W, eW, hB, hF, hC⟩ := Z3.out.fin
    rw [eW]
    refine box_ret (g := w.heap.size) (t := 34) (cs := #[.int .i64 (9 : Int), .int .i64 (m : Int), .int .i64 0, .int .i64 (x1 : Int)]) rfl rfl ?_ _ Try.underlying34 rfl (by kernel_rfl) rfl ?_
    · exact hB
    · refine ⟨_, _, _, _, rfl, ?_, hF, hC⟩
      simp [insB, insTwo, insArgs, inZ]
      omega
  · have Z1 : Hid (DnZ w base g w.heap.size G 10 (m : Int) 0 0 Z) := Z0
    clear Z0 hk10 hw1
    have b0 := Lib.cell_of_heap Z1.out.bO 0
    have g0 := Lib.frozen_of_heap Z1.out.bO 0
    have b1 := Lib.cell_of_heap Z1.out.bO 1
    have g1 := Lib.frozen_of_heap Z1.out.bO 1
    have b2 := Lib.cell_of_heap Z1.out.bO 2
    have g2 := Lib.frozen_of_heap Z1.out.bO 2
    have b3 := Lib.cell_of_heap Z1.out.bO 3
    have g3 := Lib.frozen_of_heap Z1.out.bO 3
    obtain ⟨ra, rb, rc, rd, hrr⟩ := Z1.out.bR
    have s0 := Lib.cell_of_heap hrr 0
    have f0 := Lib.frozen_of_heap hrr 0
    have s1 := Lib.cell_of_heap hrr 1
    have f1 := Lib.frozen_of_heap hrr 1
    have s2 := Lib.cell_of_heap hrr 2
    have f2 := Lib.frozen_of_heap hrr 2
    have s3 := Lib.cell_of_heap hrr 3
    have f3 := Lib.frozen_of_heap hrr 3
    simp at b0 b1 b2 b3 s0 s1 s2 s3
    clear hrr
    go_wp2_with fail
    refine (unhide (CB _ 7 (by omega) Z1.out.cur)).mono ?_
    rintro e y1 ⟨x1, hx1, rfl, hf, hc⟩
    have hx1b : x1 < 7 := by omega
    have hw1 : wrap64 (1 + (x1 : Int)) = 1 + (x1 : Int) := by unfold wrap64; omega
    have Z2 := hide (Z1.out.draws hf hc)
    clear hf hc hx1 b0 b1 b2 b3 g0 g1 g2 g3 s0 s1 s2 s3 f0 f1 f2 f3 ra rb rc rd
    have b0 := Lib.cell_of_heap Z2.out.bO 0
    have g0 := Lib.frozen_of_heap Z2.out.bO 0
    have b1 := Lib.cell_of_heap Z2.out.bO 1
    have g1 := Lib.frozen_of_heap Z2.out.bO 1
    have b2 := Lib.cell_of_heap Z2.out.bO 2
    have g2 := Lib.frozen_of_heap Z2.out.bO 2
    have b3 := Lib.cell_of_heap Z2.out.bO 3
    have g3 := Lib.frozen_of_heap Z2.out.bO 3
    obtain ⟨ra, rb, rc, rd, hrr⟩ := Z2.out.bR
    have s0 := Lib.cell_of_heap hrr 0
    have f0 := Lib.frozen_of_heap hrr 0
    have s1 := Lib.cell_of_heap hrr 1
    have f1 := Lib.frozen_of_heap hrr 1
    have s2 := Lib.cell_of_heap hrr 2
    have f2 := Lib.frozen_of_heap hrr 2
    have s3 := Lib.cell_of_heap hrr 3
    have f3 := Lib.frozen_of_heap hrr 3
    simp at b0 b1 b2 b3 s0 s1 s2 s3
    clear hrr
    have Z3 := hide (Z2.out.setB (op' := (10 : Int)) (a' := (1 + (x1 : Int))) (b' := 0) (c' := 0) 1 (.int .i64 (1 + (x1 : Int))) rfl)
    clear s0 s1 s2 s3 f0 f1 f2 f3 ra rb rc rd
    obtain ⟨ra, rb, rc, rd, hrr⟩ := Z3.out.bR
    have s0 := Lib.cell_of_heap hrr 0
    have f0 := Lib.frozen_of_heap hrr 0
    have d0 := Lib.cell_of_heap Z3.out.bO 0
    have s1 := Lib.cell_of_heap hrr 1
    have f1 := Lib.frozen_of_heap hrr 1
    have d1 := Lib.cell_of_heap Z3.out.bO 1
    have s2 := Lib.cell_of_heap hrr 2
    have f2 := Lib.frozen_of_heap hrr 2
    have d2 := Lib.cell_of_heap Z3.out.bO 2
    have s3 := Lib.cell_of_heap hrr 3
    have f3 := Lib.frozen_of_heap hrr 3
    have d3 := Lib.cell_of_heap Z3.out.bO 3
    simp at s0 s1 s2 s3 d0 d1 d2 d3
    clear hrr
    go_wp2_with fail
    refine (unhide (CB _ 5 (by omega) Z3.out.cur)).mono ?_
    rintro e y2 ⟨x2, hx2, rfl, hf, hc⟩
    have hx2b : x2 < 5 := by omega
    have Z4 := hide (Z3.out.draws hf hc)
    clear hf hc hx2 b0 b1 b2 b3 g0 g1 g2 g3 s0 s1 s2 s3 f0 f1 f2 f3 ra rb rc rd d0 d1 d2 d3
    have b0 := Lib.cell_of_heap Z4.out.bO 0
    have g0 := Lib.frozen_of_heap Z4.out.bO 0
    have b1 := Lib.cell_of_heap Z4.out.bO 1
    have g1 := Lib.frozen_of_heap Z4.out.bO 1
    have b2 := Lib.cell_of_heap Z4.out.bO 2
    have g2 := Lib.frozen_of_heap Z4.out.bO 2
    have b3 := Lib.cell_of_heap Z4.out.bO 3
    have g3 := Lib.frozen_of_heap Z4.out.bO 3
    obtain ⟨ra, rb, rc, rd, hrr⟩ := Z4.out.bR
    have s0 := Lib.cell_of_heap hrr 0
    have f0 := Lib.frozen_of_heap hrr 0
    have s1 := Lib.cell_of_heap hrr 1
    have f1 := Lib.frozen_of_heap hrr 1
    have s2 := Lib.cell_of_heap hrr 2
    have f2 := Lib.frozen_of_heap hrr 2
    have s3 := Lib.cell_of_heap hrr 3
    have f3 := Lib.frozen_of_heap hrr 3
    simp at b0 b1 b2 b3 s0 s1 s2 s3
    clear hrr
    have Z5 := hide (Z4.out.setB (op' := (10 : Int)) (a' := (1 + (x1 : Int))) (b' := 0) (c' := (x2 : Int)) 3 (.int .i64 (x2 : Int)) rfl)
    clear s0 s1 s2 s3 f0 f1 f2 f3 ra rb rc rd
    obtain ⟨ra, rb, rc, rd, hrr⟩ := Z5.out.bR
    have s0 := Lib.cell_of_heap hrr 0
    have f0 := Lib.frozen_of_heap hrr 0
    have d0 := Lib.cell_of_heap Z5.out.bO 0
    have s1 := Lib.cell_of_heap hrr 1
    have f1 := Lib.frozen_of_heap hrr 1
    have d1 := Lib.cell_of_heap Z5.out.bO 1
    have s2 := Lib.cell_of_heap hrr 2
    have f2 := Lib.frozen_of_heap hrr 2
    have d2 := Lib.cell_of_heap Z5.out.bO 2
    have s3 := Lib.cell_of_heap hrr 3
    have f3 := Lib.frozen_of_heap hrr 3
    have d3 := Lib.cell_of_heap Z5.out.bO 3
    simp at s0 s1 s2 s3 d0 d1 d2 d3
    clear hrr
    go_wp2
    obtain ⟨W, eW, hB, hF, hC⟩ := Z5.out.fin
    rw [eW]
    refine box_ret (g := w.heap.size) (t := 34) (cs := #[.int .i64 (10 : Int), .int .i64 (1 + (x1 : Int)), .int .i64 0, .int .i64 (x2 : Int)]) rfl rfl ?_ _ Try.underlying34 rfl (by kernel_rfl) rfl ?_
    · exact hB
    · refine ⟨_, _, _, _, rfl, ?_, hF, hC⟩
      simp [insB, insTwo, insArgs, inZ]
      omega
end Go.Proofs.Ytmchgmpdhfefjaa
