/-
  The law of Together, over what both sides answer.
-/
import Derived.Test.YtbghdbclckanjaaNameW
import Derived.Deep.RegionHeld3
import Derived.Deep.Cut
namespace Go.Proofs.Ytbghdbclckanjaa
open Go.RowKit

set_option maxRecDepth 100000 in
set_option maxHeartbeats 8000000 in
theorem lawTogether (v0_0 v0_1 v1_0 v1_1 : Value) (x0 : Ev) (x1 : Ev) (w : World) (h0 : EvAt w v0_0 v0_1 x0) (m0 : EvMax x0) (h1 : EvAt w v1_0 v1_1 x1) (m1 : EvMax x1)
    (SP : szEv x0 + szEv x1 ≤ 1048576 → ∀ (v0_0 v0_1 v1_0 v1_1 : Value) (z : World) (b0 : Nat) (b1 : Nat), EvC b0 z [v0_0, v0_1] x0 → EvC b1 z [v1_0, v1_1] x1 → Calls Try.prog 16 #[.agg #[v0_0, v0_1], .agg #[v1_0, v1_1]] z fun e w' => ∃ r0_0 r0_1, e = .returned (.agg #[r0_0, r0_1]) ∧ EvOwn z.heap.size w' r0_0 r0_1 (togE x0 x1) ∧ Below z.heap.size z w')
    (IP : szEv x0 + szEv x1 ≤ 1048576 → ∀ (v0_0 v0_1 v1_0 v1_1 : Value) (z : World) (b0 : Nat) (b1 : Nat), EvC b0 z [v0_0, v0_1] x0 → EvC b1 z [v1_0, v1_1] x1 → Calls Try.prog 11 #[.agg #[v0_0, v0_1], .agg #[v1_0, v1_1]] z fun e w' => ∃ r0_0 r0_1, e = .returned (.agg #[r0_0, r0_1]) ∧ EvOwn z.heap.size w' r0_0 r0_1 (togE x0 x1) ∧ Below z.heap.size z w')
    (LP0 : szEv x0 + szEv x1 ≤ 1048576 → EvLen (togE x0 x1)) :
    Calls Try.prog 4 #[.agg #[v0_0, v0_1], .agg #[v1_0, v1_1]] w fun e w' => e = .returned (.bool true) ∧ Below w.heap.size w w' := by
  have HPS := hide SP
  have HPI := hide IP
  have HLP0 := hide LP0
  clear SP IP LP0
  have HW0 := hide h0
  have HM0 := hide m0
  have HW1 := hide h1
  have HM1 := hide m1
  have HB : Hid (Below w.heap.size w ((w.alloc (.cells #[v0_0, v0_1] 39)).alloc (.cells #[v1_0, v1_1] 39))) := by show Below w.heap.size w _; go_grown
  have BA0 := hide ((Box.madeAt (g := w.heap.size) (w := w) (by simp) #[v0_0, v0_1] 39).stays ((Below.refl _ _).alloc (Nat.le_refl _) (.cells #[v1_0, v1_1] 39)))
  have BA1 := hide (Box.madeAt (g := w.heap.size + 1) (w := (w.alloc (.cells #[v0_0, v0_1] 39))) (by simp) #[v1_0, v1_1] 39)
  obtain ⟨⟨a0_0, b0_0, rfl, _⟩, ⟨a0_1, b0_1, rfl, _⟩⟩ := h0
  obtain ⟨⟨a1_0, b1_0, rfl, _⟩, ⟨a1_1, b1_1, rfl, _⟩⟩ := h1
  clear m0
  clear m1
  have SZ1 : Hid (((w.alloc (.cells #[.slice a0_0 x0.names.length b0_0, .slice a0_1 x0.vals.length b0_1] 39)).alloc (.cells #[.slice a1_0 x1.names.length b1_0, .slice a1_1 x1.vals.length b1_1] 39)).heap.size = w.heap.size + 2) := by show _ = _; simp
  go_enter Try.func4, Try.ntmps4
  have c_BA0_0 := Lib.cell_of_heap BA0.out 0
  simp at c_BA0_0
  have c_BA0_1 := Lib.cell_of_heap BA0.out 1
  simp at c_BA0_1
  have c_BA1_0 := Lib.cell_of_heap BA1.out 0
  simp at c_BA1_0
  have c_BA1_1 := Lib.cell_of_heap BA1.out 1
  simp at c_BA1_1
  go_wp2_with fail
  clear c_BA0_0 c_BA0_1 c_BA1_0 c_BA1_1
  obtain ⟨y0, hy0⟩ : ∃ Z, (w.alloc (.cells #[.slice a0_0 x0.names.length b0_0, .slice a0_1 x0.vals.length b0_1] 39)).alloc (.cells #[.slice a1_0 x1.names.length b1_0, .slice a1_1 x1.vals.length b1_1] 39) = Z := ⟨_, rfl⟩
  rw [hy0] at HB BA0 BA1 SZ1 ⊢
  clear hy0
  refine (szEnv_any x0 _ _ _ _ (by omega) (by omega) (HW0.out.stays HB.out).a0 (HW0.out.stays HB.out).a1 HM0.out).mono ?_
  rintro e z1 ⟨r0, rfl, hr0, hb0⟩
  have SZ2 : Hid (y0.heap.size ≤ z1.heap.size) := hb0.size
  have HB_1 := hide (HB.out.trans (hb0.mono HB.out.size))
  clear HB
  have BA0_1 := hide (BA0.out.stays hb0)
  clear BA0
  have BA1_1 := hide (BA1.out.stays hb0)
  clear BA1
  clear hb0
  have c_BA0_0 := Lib.cell_of_heap BA0_1.out 0
  simp at c_BA0_0
  have c_BA0_1 := Lib.cell_of_heap BA0_1.out 1
  simp at c_BA0_1
  have c_BA1_0 := Lib.cell_of_heap BA1_1.out 0
  simp at c_BA1_0
  have c_BA1_1 := Lib.cell_of_heap BA1_1.out 1
  simp at c_BA1_1
  by_cases hn0 : r0 < 0
  · clear hr0
    go_wp2
    go_ret
    exact ⟨rfl, HB_1.out⟩
  obtain ⟨hp0, hq0⟩ := hr0.resolve_left hn0
  have HQ0 := hide hq0
  have hq0b : r0 ≤ 1048576 := by omega
  clear hq0 hr0
  go_wp2_with fail
  clear c_BA0_0 c_BA0_1 c_BA1_0 c_BA1_1
  refine (szEnv_any x1 _ _ _ _ (by omega) (by omega) (HW1.out.stays HB_1.out).a0 (HW1.out.stays HB_1.out).a1 HM1.out).mono ?_
  rintro e z2 ⟨r1, rfl, hr1, hb1⟩
  have SZ3 : Hid (z1.heap.size ≤ z2.heap.size) := hb1.size
  have HB_2 := hide (HB_1.out.trans (hb1.mono HB_1.out.size))
  clear HB_1
  have BA0_2 := hide (BA0_1.out.stays hb1)
  clear BA0_1
  have BA1_2 := hide (BA1_1.out.stays hb1)
  clear BA1_1
  clear hb1
  have c_BA0_0 := Lib.cell_of_heap BA0_2.out 0
  simp at c_BA0_0
  have c_BA0_1 := Lib.cell_of_heap BA0_2.out 1
  simp at c_BA0_1
  have c_BA1_0 := Lib.cell_of_heap BA1_2.out 0
  simp at c_BA1_0
  have c_BA1_1 := Lib.cell_of_heap BA1_2.out 1
  simp at c_BA1_1
  by_cases hn1 : r1 < 0
  · clear hr1
    go_wp2
    go_ret
    exact ⟨rfl, HB_2.out⟩
  obtain ⟨hp1, hq1⟩ := hr1.resolve_left hn1
  have HQ1 := hide hq1
  have hq1b : r1 ≤ 1048576 := by omega
  clear hq1 hr1
  have HSZ : Hid (szEv x0 + szEv x1 ≤ 1048576) := by
    show _ ≤ _
    have := HQ0.out
    have := HQ1.out
    omega
  have HPS1 := hide (HPS.out HSZ.out)
  have HPI1 := hide (HPI.out HSZ.out)
  have HL0 := hide (HLP0.out HSZ.out)
  have HN0 : Hid (EvLen x0) := szEv_len (by have := HSZ.out; omega)
  have HN1 : Hid (EvLen x1) := szEv_len (by have := HSZ.out; omega)
  go_wp2_with fail
  clear c_BA0_0 c_BA0_1 c_BA1_0 c_BA1_1
  have KT : Hid (∀ z : World, Below z2.heap.size z2 z → (Below w.heap.size w z ∧ Box z (w.heap.size) #[.slice a0_0 x0.names.length b0_0, .slice a0_1 x0.vals.length b0_1] 39 ∧ Box z (w.heap.size + 1) #[.slice a1_0 x1.names.length b1_0, .slice a1_1 x1.vals.length b1_1] 39)) := fun z hb => ⟨HB_2.out.trans (hb.mono HB_2.out.size), BA0_2.out.stays hb, BA1_2.out.stays hb⟩
  go_cut [6] from 24 (fun s z => ∃ B0 bx pw0_0 qw0_0 pw0_1 qw0_1, s = .pointer (some ⟨bx, 0, none⟩) ∧ Hid (Below z2.heap.size z2 z) ∧ Hid (Box z bx #[.slice pw0_0 (togE x0 x1).names.length qw0_0, .slice pw0_1 (togE x0 x1).vals.length qw0_1] 27) ∧ Hid (EvOwn B0 z (.slice pw0_0 (togE x0 x1).names.length qw0_0) (.slice pw0_1 (togE x0 x1).vals.length qw0_1) (togE x0 x1)) ∧ Hid (z2.heap.size ≤ B0 ∧ z2.heap.size ≤ bx))
  case first =>
    have KC : Hid (∀ z : World, Below z2.heap.size z2 z → (z.cell? ⟨(w.heap.size), 0, none⟩ = some (.slice a0_0 x0.names.length b0_0) ∧ z.cell? ⟨(w.heap.size), 1, none⟩ = some (.slice a0_1 x0.vals.length b0_1) ∧ z.cell? ⟨(w.heap.size + 1), 0, none⟩ = some (.slice a1_0 x1.names.length b1_0) ∧ z.cell? ⟨(w.heap.size + 1), 1, none⟩ = some (.slice a1_1 x1.vals.length b1_1) ∧ Hid (Below z2.heap.size z2 z))) := fun z hz => ⟨Lib.cell_of_heap (BA0_2.out.stays hz) 0, Lib.cell_of_heap (BA0_2.out.stays hz) 1, Lib.cell_of_heap (BA1_2.out.stays hz) 0, Lib.cell_of_heap (BA1_2.out.stays hz) 1, hz⟩
    have KV : Hid (∀ z : World, (z.cell? ⟨(w.heap.size), 0, none⟩ = some (.slice a0_0 x0.names.length b0_0) ∧ z.cell? ⟨(w.heap.size), 1, none⟩ = some (.slice a0_1 x0.vals.length b0_1) ∧ z.cell? ⟨(w.heap.size + 1), 0, none⟩ = some (.slice a1_0 x1.names.length b1_0) ∧ z.cell? ⟨(w.heap.size + 1), 1, none⟩ = some (.slice a1_1 x1.vals.length b1_1) ∧ Hid (Below z2.heap.size z2 z)) → Below z2.heap.size z2 z) := fun z hz => hz.2.2.2.2.out
    have KP : Hid (∀ z z' : World, (z.cell? ⟨(w.heap.size), 0, none⟩ = some (.slice a0_0 x0.names.length b0_0) ∧ z.cell? ⟨(w.heap.size), 1, none⟩ = some (.slice a0_1 x0.vals.length b0_1) ∧ z.cell? ⟨(w.heap.size + 1), 0, none⟩ = some (.slice a1_0 x1.names.length b1_0) ∧ z.cell? ⟨(w.heap.size + 1), 1, none⟩ = some (.slice a1_1 x1.vals.length b1_1) ∧ Hid (Below z2.heap.size z2 z)) → Below z.heap.size z z' → (z'.cell? ⟨(w.heap.size), 0, none⟩ = some (.slice a0_0 x0.names.length b0_0) ∧ z'.cell? ⟨(w.heap.size), 1, none⟩ = some (.slice a0_1 x0.vals.length b0_1) ∧ z'.cell? ⟨(w.heap.size + 1), 0, none⟩ = some (.slice a1_0 x1.names.length b1_0) ∧ z'.cell? ⟨(w.heap.size + 1), 1, none⟩ = some (.slice a1_1 x1.vals.length b1_1) ∧ Hid (Below z2.heap.size z2 z'))) := fun z z' hz hb => KC.out _ ((KV.out _ hz).trans (hb.mono (KV.out _ hz).size))
    have KA : Hid (∀ (z : World) (o : Obj), (z.cell? ⟨(w.heap.size), 0, none⟩ = some (.slice a0_0 x0.names.length b0_0) ∧ z.cell? ⟨(w.heap.size), 1, none⟩ = some (.slice a0_1 x0.vals.length b0_1) ∧ z.cell? ⟨(w.heap.size + 1), 0, none⟩ = some (.slice a1_0 x1.names.length b1_0) ∧ z.cell? ⟨(w.heap.size + 1), 1, none⟩ = some (.slice a1_1 x1.vals.length b1_1) ∧ Hid (Below z2.heap.size z2 z)) → ((z.alloc o).cell? ⟨(w.heap.size), 0, none⟩ = some (.slice a0_0 x0.names.length b0_0) ∧ (z.alloc o).cell? ⟨(w.heap.size), 1, none⟩ = some (.slice a0_1 x0.vals.length b0_1) ∧ (z.alloc o).cell? ⟨(w.heap.size + 1), 0, none⟩ = some (.slice a1_0 x1.names.length b1_0) ∧ (z.alloc o).cell? ⟨(w.heap.size + 1), 1, none⟩ = some (.slice a1_1 x1.vals.length b1_1) ∧ Hid (Below z2.heap.size z2 (z.alloc o)))) := fun z o hz => KP.out _ _ hz ((Below.refl _ _).alloc (Nat.le_refl _) _)
    have K0 := hide (KC.out _ (Below.refl z2.heap.size z2).drew)
    have KE0 : Hid (∀ z : World, (z.cell? ⟨(w.heap.size), 0, none⟩ = some (.slice a0_0 x0.names.length b0_0) ∧ z.cell? ⟨(w.heap.size), 1, none⟩ = some (.slice a0_1 x0.vals.length b0_1) ∧ z.cell? ⟨(w.heap.size + 1), 0, none⟩ = some (.slice a1_0 x1.names.length b1_0) ∧ z.cell? ⟨(w.heap.size + 1), 1, none⟩ = some (.slice a1_1 x1.vals.length b1_1) ∧ Hid (Below z2.heap.size z2 z)) → EvAt z (.slice a0_0 x0.names.length b0_0) (.slice a0_1 x0.vals.length b0_1) x0) := fun z hz => HW0.out.stays (HB_2.out.trans ((KV.out _ hz).mono HB_2.out.size))
    have KE1 : Hid (∀ z : World, (z.cell? ⟨(w.heap.size), 0, none⟩ = some (.slice a0_0 x0.names.length b0_0) ∧ z.cell? ⟨(w.heap.size), 1, none⟩ = some (.slice a0_1 x0.vals.length b0_1) ∧ z.cell? ⟨(w.heap.size + 1), 0, none⟩ = some (.slice a1_0 x1.names.length b1_0) ∧ z.cell? ⟨(w.heap.size + 1), 1, none⟩ = some (.slice a1_1 x1.vals.length b1_1) ∧ Hid (Below z2.heap.size z2 z)) → EvAt z (.slice a1_0 x1.names.length b1_0) (.slice a1_1 x1.vals.length b1_1) x1) := fun z hz => HW1.out.stays (HB_2.out.trans ((KV.out _ hz).mono HB_2.out.size))
    go_region_held3 (fun z => z.cell? ⟨(w.heap.size), 0, none⟩ = some (.slice a0_0 x0.names.length b0_0) ∧ z.cell? ⟨(w.heap.size), 1, none⟩ = some (.slice a0_1 x0.vals.length b0_1) ∧ z.cell? ⟨(w.heap.size + 1), 0, none⟩ = some (.slice a1_0 x1.names.length b1_0) ∧ z.cell? ⟨(w.heap.size + 1), 1, none⟩ = some (.slice a1_1 x1.vals.length b1_1) ∧ Hid (Below z2.heap.size z2 z)) (first | exact K0.out | exact KA.out _ _ (by assumption) | exact KP.out _ _ (by assumption) hb0_ | exact KP.out _ _ (by assumption) hb1_ | exact KP.out _ _ (by assumption) hb8_ | (with_reducible exact KC.out _ (HBq8.out.alloc HBq8.out.size _)) | (with_reducible exact KC.out _ ((HBq8.out.setCell (p := ⟨_, 0, none⟩) (by have := HBq0.out.size; have := HBq1.out.size; have := HBq8.out.size; dsimp only; first | omega | (simp; done) | (simp; omega)) _).setCell (p := ⟨_, 1, none⟩) (by have := HBq0.out.size; have := HBq1.out.size; have := HBq8.out.size; dsimp only; first | omega | (simp; done) | (simp; omega)) _)))
      (first
        | (go_at_call 20; with_reducible refine (toEnv_any x0 (.slice a0_0 x0.names.length b0_0) (.slice a0_1 x0.vals.length b0_1) _ (KE0.out _ (by assumption)).a0 (KE0.out _ (by assumption)).a1 HN0.out.l0 HN0.out.l1).mono ?_; rintro e w0_ ⟨oo0_0, kk0_0, cc0_0, oo0_1, kk0_1, cc0_1, rfl, hc0_, hb0_⟩; have HBq0 := hide ((KV.out _ (by assumption)).trans (hb0_.mono (KV.out _ (by assumption)).size)); (first | (with_reducible have bx0_ := box_alloc_below hb0_) | (with_reducible have bx0_ := box_alloc_drew hb0_) | skip))
        | (go_at_call 20; with_reducible refine (toEnv_any x1 (.slice a1_0 x1.names.length b1_0) (.slice a1_1 x1.vals.length b1_1) _ (KE1.out _ (by assumption)).a0 (KE1.out _ (by assumption)).a1 HN1.out.l0 HN1.out.l1).mono ?_; rintro e w1_ ⟨oo1_0, kk1_0, cc1_0, oo1_1, kk1_1, cc1_1, rfl, hc1_, hb1_⟩; have HBq1 := hide ((KV.out _ (by assumption)).trans (hb1_.mono (KV.out _ (by assumption)).size)); (first | (with_reducible have hd0_1 := hc0_.stays hb1_) | (with_reducible have hd0_1 := (hc0_.stays ((Below.refl _ _).alloc (Nat.le_refl _) _)).stays hb1_)); (first | (with_reducible have bx1_ := box_alloc_below hb1_) | (with_reducible have bx1_ := Box.stays bx0_ hb1_) | skip))
        | (go_at_call 16; refine (HPS1.out _ _ _ _ _ _ _ (by first | (with_reducible exact hd0_1) | (with_reducible exact hd0_1.stays ((Below.refl _ _).alloc (Nat.le_refl _) _))) (by first | (with_reducible exact hc1_) | (with_reducible exact hc1_.stays ((Below.refl _ _).alloc (Nat.le_refl _) _)))).mono ?_; rintro e w8_ ⟨r8_0, r8_1, rfl, ho8_, hb8_⟩; have HBq8 := hide ((KV.out _ (by assumption)).trans (hb8_.mono (KV.out _ (by assumption)).size)); obtain ⟨pw0_0, qw0_0, rfl⟩ := form_own ho8_.o0; obtain ⟨pw0_1, qw0_1, rfl⟩ := form_own ho8_.o1; (first | (with_reducible have bx8_ := box_alloc_below hb8_) | (with_reducible have bx8_ := Box.stays bx1_ hb8_) | skip); (first | (have y0 := Lib.cell_of_heap bx8_ 0; simp at y0; have f0 := Lib.frozen_of_heap bx8_ 0; have y1 := Lib.cell_of_heap bx8_ 1; simp at y1; have f1 := Lib.frozen_of_heap bx8_ 1) | skip)))
    all_goals (go_wp2_with fail; go_meet)
    all_goals (first
      | exact ⟨_, _, _, _, _, _, rfl, hide (HBq8.out.alloc HBq8.out.size _), hide (Box.made _ _ _), hide (ho8_.stays ((Below.refl _ _).alloc (Nat.le_refl _) _)), hide ⟨by have := HBq0.out.size; have := HBq1.out.size; have := HBq8.out.size; first | omega | (simp; done) | (simp; omega), by have := HBq0.out.size; have := HBq1.out.size; have := HBq8.out.size; first | omega | (simp; done) | (simp; omega)⟩⟩
      | exact ⟨_, _, _, _, _, _, rfl, hide ((HBq8.out.setCell (p := ⟨_, 0, none⟩) (by have := HBq0.out.size; have := HBq1.out.size; have := HBq8.out.size; dsimp only; first | omega | (simp; done) | (simp; omega)) _).setCell (p := ⟨_, 1, none⟩) (by have := HBq0.out.size; have := HBq1.out.size; have := HBq8.out.size; dsimp only; first | omega | (simp; done) | (simp; omega)) _), hide (by simpa using ((bx8_.set 0 _).set 1 _)), hide ((ho8_.boxed (i := 0) bx8_ (by decide) (by decide) _).boxed (i := 1) (bx8_.set 0 _) (by decide) (by decide) _), hide ⟨by have := HBq0.out.size; have := HBq1.out.size; have := HBq8.out.size; first | omega | (simp; done) | (simp; omega), by have := HBq0.out.size; have := HBq1.out.size; have := HBq8.out.size; first | omega | (simp; done) | (simp; omega)⟩⟩)
  case rest =>
    obtain ⟨B0w, bxw, pw0_0, qw0_0, pw0_1, qw0_1, rfl, HBc, BXc, OWc, ORc⟩ := hcut
    obtain ⟨f0, f1, f2⟩ := KT.out _ HBc.out
    have SZ4 : Hid (z2.heap.size ≤ wc.heap.size) := HBc.out.size
    have SZ5 : Hid (z2.heap.size ≤ B0w ∧ z2.heap.size ≤ bxw ∧ bxw < wc.heap.size) := ⟨ORc.out.1, ORc.out.2, BXc.out.lt⟩
    obtain ⟨wcw, ewc⟩ : ∃ z, wc = z := ⟨_, rfl⟩
    subst ewc
    have HB_4 := hide f0
    clear HB_2
    have BA0_4 := hide f1
    clear BA0_2
    have BA1_4 := hide f2
    clear BA1_2
    clear KT HBc f0 f1 f2
    have BW0_5 := hide (BXc.out)
    have WO0_6 := hide (OWc.out)
    clear BXc OWc ORc
    have WL0 := hide (WO0_6.out).lt
    have c_BA0_0 := Lib.cell_of_heap BA0_4.out 0
    simp at c_BA0_0
    have c_BA0_1 := Lib.cell_of_heap BA0_4.out 1
    simp at c_BA0_1
    have c_BA1_0 := Lib.cell_of_heap BA1_4.out 0
    simp at c_BA1_0
    have c_BA1_1 := Lib.cell_of_heap BA1_4.out 1
    simp at c_BA1_1
    have c_BW0_0 := Lib.cell_of_heap BW0_5.out 0
    simp at c_BW0_0
    have c_BW0_1 := Lib.cell_of_heap BW0_5.out 1
    simp at c_BW0_1
    go_wp2_with fail
    clear c_BA0_0 c_BA0_1 c_BA1_0 c_BA1_1 c_BW0_0 c_BW0_1
    refine (toEnv_any x0 _ _ _ (HW0.out.stays HB_4.out).a0 (HW0.out.stays HB_4.out).a1 HN0.out.l0 HN0.out.l1).mono ?_
    rintro e z3 ⟨o1_0, k1_0, c1_0, o1_1, k1_1, c1_1, rfl, hc1, hb1⟩
    have SZ6 : Hid (wc.heap.size ≤ z3.heap.size) := hb1.size
    have HB_7 := hide (HB_4.out.trans (hb1.mono HB_4.out.size))
    clear HB_4
    have BA0_7 := hide (BA0_4.out.stays hb1)
    clear BA0_4
    have BA1_7 := hide (BA1_4.out.stays hb1)
    clear BA1_4
    have BW0_7 := hide (BW0_5.out.stays hb1)
    clear BW0_5
    have WO0_7 := hide (WO0_6.out.stays hb1)
    clear WO0_6
    have XC1_8 := hide (hc1)
    clear hc1 hb1
    have XS0_9 := hide (XC1_8.out.sh (T := z3.heap.size) (Nat.le_refl _))
    have hba10 : Below z3.heap.size z3 (z3.alloc (.cells #[.slice o1_0 k1_0 c1_0, .slice o1_1 k1_1 c1_1] 27)) := (Below.refl _ _).alloc (Nat.le_refl _) _
    have SZ7 : Hid ((z3.alloc (.cells #[.slice o1_0 k1_0 c1_0, .slice o1_1 k1_1 c1_1] 27)).heap.size = z3.heap.size + 1) := by show _ = _; simp
    have HB_11 := hide (HB_7.out.trans (hba10.mono HB_7.out.size))
    clear HB_7
    have BA0_11 := hide (BA0_7.out.stays hba10)
    clear BA0_7
    have BA1_11 := hide (BA1_7.out.stays hba10)
    clear BA1_7
    have BW0_11 := hide (BW0_7.out.stays hba10)
    clear BW0_7
    have WO0_11 := hide (WO0_7.out.stays hba10)
    clear WO0_7
    have XC1_11 := hide (XC1_8.out.stays hba10)
    clear XC1_8
    have XS0_11 := hide (XS0_9.out.stays hba10)
    clear XS0_9
    have BX0_12 := hide (Box.made z3 #[.slice o1_0 k1_0 c1_0, .slice o1_1 k1_1 c1_1] 27)
    clear hba10
    have c_BA0_0 := Lib.cell_of_heap BA0_11.out 0
    simp at c_BA0_0
    have c_BA0_1 := Lib.cell_of_heap BA0_11.out 1
    simp at c_BA0_1
    have c_BA1_0 := Lib.cell_of_heap BA1_11.out 0
    simp at c_BA1_0
    have c_BA1_1 := Lib.cell_of_heap BA1_11.out 1
    simp at c_BA1_1
    have c_BW0_0 := Lib.cell_of_heap BW0_11.out 0
    simp at c_BW0_0
    have c_BW0_1 := Lib.cell_of_heap BW0_11.out 1
    simp at c_BW0_1
    have c_BX0_0 := Lib.cell_of_heap BX0_12.out 0
    simp at c_BX0_0
    have c_BX0_1 := Lib.cell_of_heap BX0_12.out 1
    simp at c_BX0_1
    go_wp2_with fail
    clear c_BA0_0 c_BA0_1 c_BA1_0 c_BA1_1 c_BW0_0 c_BW0_1 c_BX0_0 c_BX0_1
    obtain ⟨y1, hy1⟩ : ∃ Z, z3.alloc (.cells #[.slice o1_0 k1_0 c1_0, .slice o1_1 k1_1 c1_1] 27) = Z := ⟨_, rfl⟩
    rw [hy1] at HB_11 BA0_11 BA1_11 BW0_11 WO0_11 XC1_11 XS0_11 BX0_12 SZ7 ⊢
    clear hy1
    refine (toEnv_any x1 _ _ _ (HW1.out.stays HB_11.out).a0 (HW1.out.stays HB_11.out).a1 HN1.out.l0 HN1.out.l1).mono ?_
    rintro e z4 ⟨o2_0, k2_0, c2_0, o2_1, k2_1, c2_1, rfl, hc2, hb2⟩
    have SZ8 : Hid (y1.heap.size ≤ z4.heap.size) := hb2.size
    have HB_13 := hide (HB_11.out.trans (hb2.mono HB_11.out.size))
    clear HB_11
    have BA0_13 := hide (BA0_11.out.stays hb2)
    clear BA0_11
    have BA1_13 := hide (BA1_11.out.stays hb2)
    clear BA1_11
    have BW0_13 := hide (BW0_11.out.stays hb2)
    clear BW0_11
    have WO0_13 := hide (WO0_11.out.stays hb2)
    clear WO0_11
    have XC1_13 := hide (XC1_11.out.stays hb2)
    clear XC1_11
    have XS0_13 := hide (XS0_11.out.stays hb2)
    clear XS0_11
    have BX0_13 := hide (BX0_12.out.stays hb2)
    clear BX0_12
    have XC2_14 := hide (hc2)
    clear hc2 hb2
    have XS1_15 := hide (XC2_14.out.sh (T := z4.heap.size) (Nat.le_refl _))
    have hba16 : Below z4.heap.size z4 (z4.alloc (.cells #[.slice o2_0 k2_0 c2_0, .slice o2_1 k2_1 c2_1] 27)) := (Below.refl _ _).alloc (Nat.le_refl _) _
    have SZ9 : Hid ((z4.alloc (.cells #[.slice o2_0 k2_0 c2_0, .slice o2_1 k2_1 c2_1] 27)).heap.size = z4.heap.size + 1) := by show _ = _; simp
    have HB_17 := hide (HB_13.out.trans (hba16.mono HB_13.out.size))
    clear HB_13
    have BA0_17 := hide (BA0_13.out.stays hba16)
    clear BA0_13
    have BA1_17 := hide (BA1_13.out.stays hba16)
    clear BA1_13
    have BW0_17 := hide (BW0_13.out.stays hba16)
    clear BW0_13
    have WO0_17 := hide (WO0_13.out.stays hba16)
    clear WO0_13
    have XC1_17 := hide (XC1_13.out.stays hba16)
    clear XC1_13
    have XS0_17 := hide (XS0_13.out.stays hba16)
    clear XS0_13
    have BX0_17 := hide (BX0_13.out.stays hba16)
    clear BX0_13
    have XC2_17 := hide (XC2_14.out.stays hba16)
    clear XC2_14
    have XS1_17 := hide (XS1_15.out.stays hba16)
    clear XS1_15
    have BX1_18 := hide (Box.made z4 #[.slice o2_0 k2_0 c2_0, .slice o2_1 k2_1 c2_1] 27)
    clear hba16
    have c_BA0_0 := Lib.cell_of_heap BA0_17.out 0
    simp at c_BA0_0
    have c_BA0_1 := Lib.cell_of_heap BA0_17.out 1
    simp at c_BA0_1
    have c_BA1_0 := Lib.cell_of_heap BA1_17.out 0
    simp at c_BA1_0
    have c_BA1_1 := Lib.cell_of_heap BA1_17.out 1
    simp at c_BA1_1
    have c_BW0_0 := Lib.cell_of_heap BW0_17.out 0
    simp at c_BW0_0
    have c_BW0_1 := Lib.cell_of_heap BW0_17.out 1
    simp at c_BW0_1
    have c_BX0_0 := Lib.cell_of_heap BX0_17.out 0
    simp at c_BX0_0
    have c_BX0_1 := Lib.cell_of_heap BX0_17.out 1
    simp at c_BX0_1
    have c_BX1_0 := Lib.cell_of_heap BX1_18.out 0
    simp at c_BX1_0
    have c_BX1_1 := Lib.cell_of_heap BX1_18.out 1
    simp at c_BX1_1
    go_wp2_with fail
    clear c_BA0_0 c_BA0_1 c_BA1_0 c_BA1_1 c_BW0_0 c_BW0_1 c_BX0_0 c_BX0_1 c_BX1_0 c_BX1_1
    obtain ⟨y2, hy2⟩ : ∃ Z, z4.alloc (.cells #[.slice o2_0 k2_0 c2_0, .slice o2_1 k2_1 c2_1] 27) = Z := ⟨_, rfl⟩
    rw [hy2] at HB_17 BA0_17 BA1_17 BW0_17 WO0_17 XC1_17 XS0_17 BX0_17 XC2_17 XS1_17 BX1_18 SZ9 ⊢
    clear hy2
    refine (HPI1.out _ _ _ _ _ _ _ XC1_17.out XC2_17.out).mono ?_
    rintro e z5 ⟨g0_0, g0_1, rfl, hog0, hbg⟩
    have SZ10 : Hid (y2.heap.size ≤ z5.heap.size) := hbg.size
    have HB_19 := hide (HB_17.out.trans (hbg.mono HB_17.out.size))
    clear HB_17
    have BA0_19 := hide (BA0_17.out.stays hbg)
    clear BA0_17
    have BA1_19 := hide (BA1_17.out.stays hbg)
    clear BA1_17
    have BW0_19 := hide (BW0_17.out.stays hbg)
    clear BW0_17
    have WO0_19 := hide (WO0_17.out.stays hbg)
    clear WO0_17
    have XC1_19 := hide (XC1_17.out.stays hbg)
    clear XC1_17
    have XS0_19 := hide (XS0_17.out.stays hbg)
    clear XS0_17
    have BX0_19 := hide (BX0_17.out.stays hbg)
    clear BX0_17
    have XC2_19 := hide (XC2_17.out.stays hbg)
    clear XC2_17
    have XS1_19 := hide (XS1_17.out.stays hbg)
    clear XS1_17
    have BX1_19 := hide (BX1_18.out.stays hbg)
    clear BX1_18
    obtain ⟨pg0_0, qg0_0, rfl⟩ := form_own hog0.o0
    obtain ⟨pg0_1, qg0_1, rfl⟩ := form_own hog0.o1
    have GO0_20 := hide (hog0)
    clear hog0
    clear hbg
    have GL0 := hide (GO0_20.out).lt
    have hba21 : Below z5.heap.size z5 (z5.alloc (.cells #[.slice pg0_0 (togE x0 x1).names.length qg0_0, .slice pg0_1 (togE x0 x1).vals.length qg0_1] 27)) := (Below.refl _ _).alloc (Nat.le_refl _) _
    have SZ11 : Hid ((z5.alloc (.cells #[.slice pg0_0 (togE x0 x1).names.length qg0_0, .slice pg0_1 (togE x0 x1).vals.length qg0_1] 27)).heap.size = z5.heap.size + 1) := by show _ = _; simp
    have HB_22 := hide (HB_19.out.trans (hba21.mono HB_19.out.size))
    clear HB_19
    have BA0_22 := hide (BA0_19.out.stays hba21)
    clear BA0_19
    have BA1_22 := hide (BA1_19.out.stays hba21)
    clear BA1_19
    have BW0_22 := hide (BW0_19.out.stays hba21)
    clear BW0_19
    have WO0_22 := hide (WO0_19.out.stays hba21)
    clear WO0_19
    have XC1_22 := hide (XC1_19.out.stays hba21)
    clear XC1_19
    have XS0_22 := hide (XS0_19.out.stays hba21)
    clear XS0_19
    have BX0_22 := hide (BX0_19.out.stays hba21)
    clear BX0_19
    have XC2_22 := hide (XC2_19.out.stays hba21)
    clear XC2_19
    have XS1_22 := hide (XS1_19.out.stays hba21)
    clear XS1_19
    have BX1_22 := hide (BX1_19.out.stays hba21)
    clear BX1_19
    have GO0_22 := hide (GO0_20.out.stays hba21)
    clear GO0_20
    have BG0_23 := hide (Box.made z5 #[.slice pg0_0 (togE x0 x1).names.length qg0_0, .slice pg0_1 (togE x0 x1).vals.length qg0_1] 27)
    clear hba21
    have c_BA0_0 := Lib.cell_of_heap BA0_22.out 0
    simp at c_BA0_0
    have c_BA0_1 := Lib.cell_of_heap BA0_22.out 1
    simp at c_BA0_1
    have c_BA1_0 := Lib.cell_of_heap BA1_22.out 0
    simp at c_BA1_0
    have c_BA1_1 := Lib.cell_of_heap BA1_22.out 1
    simp at c_BA1_1
    have c_BW0_0 := Lib.cell_of_heap BW0_22.out 0
    simp at c_BW0_0
    have c_BW0_1 := Lib.cell_of_heap BW0_22.out 1
    simp at c_BW0_1
    have c_BX0_0 := Lib.cell_of_heap BX0_22.out 0
    simp at c_BX0_0
    have c_BX0_1 := Lib.cell_of_heap BX0_22.out 1
    simp at c_BX0_1
    have c_BX1_0 := Lib.cell_of_heap BX1_22.out 0
    simp at c_BX1_0
    have c_BX1_1 := Lib.cell_of_heap BX1_22.out 1
    simp at c_BX1_1
    have c_BG0_0 := Lib.cell_of_heap BG0_23.out 0
    simp at c_BG0_0
    have c_BG0_1 := Lib.cell_of_heap BG0_23.out 1
    simp at c_BG0_1
    go_wp2_with fail
    clear c_BA0_0 c_BA0_1 c_BA1_0 c_BA1_1 c_BW0_0 c_BW0_1 c_BX0_0 c_BX0_1 c_BX1_0 c_BX1_1 c_BG0_0 c_BG0_1
    obtain ⟨y3, hy3⟩ : ∃ Z, z5.alloc (.cells #[.slice pg0_0 (togE x0 x1).names.length qg0_0, .slice pg0_1 (togE x0 x1).vals.length qg0_1] 27) = Z := ⟨_, rfl⟩
    rw [hy3] at HB_22 BA0_22 BA1_22 BW0_22 WO0_22 XC1_22 XS0_22 BX0_22 XC2_22 XS1_22 BX1_22 GO0_22 BG0_23 SZ11 ⊢
    clear hy3
    refine (eqEnv_same (togE x0 x1) _ _ _ _ _ (GO0_22.out).at.a0 (WO0_22.out).at.a0 (GO0_22.out).at.a1 (WO0_22.out).at.a1 HL0.out.l0 HL0.out.l1).mono ?_
    rintro e z6 ⟨rfl, hbe24⟩
    have SZ12 : Hid (y3.heap.size ≤ z6.heap.size) := hbe24.size
    have HB_25 := hide (HB_22.out.trans (hbe24.mono HB_22.out.size))
    clear HB_22
    have BA0_25 := hide (BA0_22.out.stays hbe24)
    clear BA0_22
    have BA1_25 := hide (BA1_22.out.stays hbe24)
    clear BA1_22
    have BW0_25 := hide (BW0_22.out.stays hbe24)
    clear BW0_22
    have WO0_25 := hide (WO0_22.out.stays hbe24)
    clear WO0_22
    have XC1_25 := hide (XC1_22.out.stays hbe24)
    clear XC1_22
    have XS0_25 := hide (XS0_22.out.stays hbe24)
    clear XS0_22
    have BX0_25 := hide (BX0_22.out.stays hbe24)
    clear BX0_22
    have XC2_25 := hide (XC2_22.out.stays hbe24)
    clear XC2_22
    have XS1_25 := hide (XS1_22.out.stays hbe24)
    clear XS1_22
    have BX1_25 := hide (BX1_22.out.stays hbe24)
    clear BX1_22
    have GO0_25 := hide (GO0_22.out.stays hbe24)
    clear GO0_22
    have BG0_25 := hide (BG0_23.out.stays hbe24)
    clear BG0_23
    clear hbe24
    have c_BA0_0 := Lib.cell_of_heap BA0_25.out 0
    simp at c_BA0_0
    have c_BA0_1 := Lib.cell_of_heap BA0_25.out 1
    simp at c_BA0_1
    have c_BA1_0 := Lib.cell_of_heap BA1_25.out 0
    simp at c_BA1_0
    have c_BA1_1 := Lib.cell_of_heap BA1_25.out 1
    simp at c_BA1_1
    have c_BW0_0 := Lib.cell_of_heap BW0_25.out 0
    simp at c_BW0_0
    have c_BW0_1 := Lib.cell_of_heap BW0_25.out 1
    simp at c_BW0_1
    have c_BX0_0 := Lib.cell_of_heap BX0_25.out 0
    simp at c_BX0_0
    have c_BX0_1 := Lib.cell_of_heap BX0_25.out 1
    simp at c_BX0_1
    have c_BX1_0 := Lib.cell_of_heap BX1_25.out 0
    simp at c_BX1_0
    have c_BX1_1 := Lib.cell_of_heap BX1_25.out 1
    simp at c_BX1_1
    have c_BG0_0 := Lib.cell_of_heap BG0_25.out 0
    simp at c_BG0_0
    have c_BG0_1 := Lib.cell_of_heap BG0_25.out 1
    simp at c_BG0_1
    go_wp2_with fail
    clear c_BA0_0 c_BA0_1 c_BA1_0 c_BA1_1 c_BW0_0 c_BW0_1 c_BX0_0 c_BX0_1 c_BX1_0 c_BX1_1 c_BG0_0 c_BG0_1
    have KT : Hid (∀ z z' : World, (Below w.heap.size w z ∧ Box z (w.heap.size) #[.slice a0_0 x0.names.length b0_0, .slice a0_1 x0.vals.length b0_1] 39 ∧ Box z (w.heap.size + 1) #[.slice a1_0 x1.names.length b1_0, .slice a1_1 x1.vals.length b1_1] 39 ∧ Box z bxw #[.slice pw0_0 (togE x0 x1).names.length qw0_0, .slice pw0_1 (togE x0 x1).vals.length qw0_1] 27 ∧ EvOwn B0w z (.slice pw0_0 (togE x0 x1).names.length qw0_0) (.slice pw0_1 (togE x0 x1).vals.length qw0_1) (togE x0 x1) ∧ EvC wc.heap.size z [.slice o1_0 k1_0 c1_0, .slice o1_1 k1_1 c1_1] x0 ∧ EvSh wc.heap.size z3.heap.size z (.slice o1_0 k1_0 c1_0) (.slice o1_1 k1_1 c1_1) x0 ∧ Box z z3.heap.size #[.slice o1_0 k1_0 c1_0, .slice o1_1 k1_1 c1_1] 27 ∧ EvC y1.heap.size z [.slice o2_0 k2_0 c2_0, .slice o2_1 k2_1 c2_1] x1 ∧ EvSh y1.heap.size z4.heap.size z (.slice o2_0 k2_0 c2_0) (.slice o2_1 k2_1 c2_1) x1 ∧ Box z z4.heap.size #[.slice o2_0 k2_0 c2_0, .slice o2_1 k2_1 c2_1] 27 ∧ EvOwn y2.heap.size z (.slice pg0_0 (togE x0 x1).names.length qg0_0) (.slice pg0_1 (togE x0 x1).vals.length qg0_1) (togE x0 x1) ∧ Box z z5.heap.size #[.slice pg0_0 (togE x0 x1).names.length qg0_0, .slice pg0_1 (togE x0 x1).vals.length qg0_1] 27) → Below z.heap.size z z' → (Below w.heap.size w z' ∧ Box z' (w.heap.size) #[.slice a0_0 x0.names.length b0_0, .slice a0_1 x0.vals.length b0_1] 39 ∧ Box z' (w.heap.size + 1) #[.slice a1_0 x1.names.length b1_0, .slice a1_1 x1.vals.length b1_1] 39 ∧ Box z' bxw #[.slice pw0_0 (togE x0 x1).names.length qw0_0, .slice pw0_1 (togE x0 x1).vals.length qw0_1] 27 ∧ EvOwn B0w z' (.slice pw0_0 (togE x0 x1).names.length qw0_0) (.slice pw0_1 (togE x0 x1).vals.length qw0_1) (togE x0 x1) ∧ EvC wc.heap.size z' [.slice o1_0 k1_0 c1_0, .slice o1_1 k1_1 c1_1] x0 ∧ EvSh wc.heap.size z3.heap.size z' (.slice o1_0 k1_0 c1_0) (.slice o1_1 k1_1 c1_1) x0 ∧ Box z' z3.heap.size #[.slice o1_0 k1_0 c1_0, .slice o1_1 k1_1 c1_1] 27 ∧ EvC y1.heap.size z' [.slice o2_0 k2_0 c2_0, .slice o2_1 k2_1 c2_1] x1 ∧ EvSh y1.heap.size z4.heap.size z' (.slice o2_0 k2_0 c2_0) (.slice o2_1 k2_1 c2_1) x1 ∧ Box z' z4.heap.size #[.slice o2_0 k2_0 c2_0, .slice o2_1 k2_1 c2_1] 27 ∧ EvOwn y2.heap.size z' (.slice pg0_0 (togE x0 x1).names.length qg0_0) (.slice pg0_1 (togE x0 x1).vals.length qg0_1) (togE x0 x1) ∧ Box z' z5.heap.size #[.slice pg0_0 (togE x0 x1).names.length qg0_0, .slice pg0_1 (togE x0 x1).vals.length qg0_1] 27)) := fun z z' hz hb => ⟨(hz.1).trans (hb.mono (hz.1).size), (hz.2.1).stays hb, (hz.2.2.1).stays hb, (hz.2.2.2.1).stays hb, (hz.2.2.2.2.1).stays hb, (hz.2.2.2.2.2.1).stays hb, (hz.2.2.2.2.2.2.1).stays hb, (hz.2.2.2.2.2.2.2.1).stays hb, (hz.2.2.2.2.2.2.2.2.1).stays hb, (hz.2.2.2.2.2.2.2.2.2.1).stays hb, (hz.2.2.2.2.2.2.2.2.2.2.1).stays hb, (hz.2.2.2.2.2.2.2.2.2.2.2.1).stays hb, (hz.2.2.2.2.2.2.2.2.2.2.2.2).stays hb⟩
    have KC : Hid (∀ z : World, (Below w.heap.size w z ∧ Box z (w.heap.size) #[.slice a0_0 x0.names.length b0_0, .slice a0_1 x0.vals.length b0_1] 39 ∧ Box z (w.heap.size + 1) #[.slice a1_0 x1.names.length b1_0, .slice a1_1 x1.vals.length b1_1] 39 ∧ Box z bxw #[.slice pw0_0 (togE x0 x1).names.length qw0_0, .slice pw0_1 (togE x0 x1).vals.length qw0_1] 27 ∧ EvOwn B0w z (.slice pw0_0 (togE x0 x1).names.length qw0_0) (.slice pw0_1 (togE x0 x1).vals.length qw0_1) (togE x0 x1) ∧ EvC wc.heap.size z [.slice o1_0 k1_0 c1_0, .slice o1_1 k1_1 c1_1] x0 ∧ EvSh wc.heap.size z3.heap.size z (.slice o1_0 k1_0 c1_0) (.slice o1_1 k1_1 c1_1) x0 ∧ Box z z3.heap.size #[.slice o1_0 k1_0 c1_0, .slice o1_1 k1_1 c1_1] 27 ∧ EvC y1.heap.size z [.slice o2_0 k2_0 c2_0, .slice o2_1 k2_1 c2_1] x1 ∧ EvSh y1.heap.size z4.heap.size z (.slice o2_0 k2_0 c2_0) (.slice o2_1 k2_1 c2_1) x1 ∧ Box z z4.heap.size #[.slice o2_0 k2_0 c2_0, .slice o2_1 k2_1 c2_1] 27 ∧ EvOwn y2.heap.size z (.slice pg0_0 (togE x0 x1).names.length qg0_0) (.slice pg0_1 (togE x0 x1).vals.length qg0_1) (togE x0 x1) ∧ Box z z5.heap.size #[.slice pg0_0 (togE x0 x1).names.length qg0_0, .slice pg0_1 (togE x0 x1).vals.length qg0_1] 27) → (z.cell? ⟨(w.heap.size), 0, none⟩ = some (.slice a0_0 x0.names.length b0_0) ∧ z.cell? ⟨(w.heap.size), 1, none⟩ = some (.slice a0_1 x0.vals.length b0_1) ∧ z.cell? ⟨z3.heap.size, 0, none⟩ = some (.slice o1_0 k1_0 c1_0) ∧ z.cell? ⟨z3.heap.size, 1, none⟩ = some (.slice o1_1 k1_1 c1_1) ∧ Hid ((Below w.heap.size w z ∧ Box z (w.heap.size) #[.slice a0_0 x0.names.length b0_0, .slice a0_1 x0.vals.length b0_1] 39 ∧ Box z (w.heap.size + 1) #[.slice a1_0 x1.names.length b1_0, .slice a1_1 x1.vals.length b1_1] 39 ∧ Box z bxw #[.slice pw0_0 (togE x0 x1).names.length qw0_0, .slice pw0_1 (togE x0 x1).vals.length qw0_1] 27 ∧ EvOwn B0w z (.slice pw0_0 (togE x0 x1).names.length qw0_0) (.slice pw0_1 (togE x0 x1).vals.length qw0_1) (togE x0 x1) ∧ EvC wc.heap.size z [.slice o1_0 k1_0 c1_0, .slice o1_1 k1_1 c1_1] x0 ∧ EvSh wc.heap.size z3.heap.size z (.slice o1_0 k1_0 c1_0) (.slice o1_1 k1_1 c1_1) x0 ∧ Box z z3.heap.size #[.slice o1_0 k1_0 c1_0, .slice o1_1 k1_1 c1_1] 27 ∧ EvC y1.heap.size z [.slice o2_0 k2_0 c2_0, .slice o2_1 k2_1 c2_1] x1 ∧ EvSh y1.heap.size z4.heap.size z (.slice o2_0 k2_0 c2_0) (.slice o2_1 k2_1 c2_1) x1 ∧ Box z z4.heap.size #[.slice o2_0 k2_0 c2_0, .slice o2_1 k2_1 c2_1] 27 ∧ EvOwn y2.heap.size z (.slice pg0_0 (togE x0 x1).names.length qg0_0) (.slice pg0_1 (togE x0 x1).vals.length qg0_1) (togE x0 x1) ∧ Box z z5.heap.size #[.slice pg0_0 (togE x0 x1).names.length qg0_0, .slice pg0_1 (togE x0 x1).vals.length qg0_1] 27)))) := fun z hz => ⟨Lib.cell_of_heap (hz.2.1) 0, Lib.cell_of_heap (hz.2.1) 1, Lib.cell_of_heap (hz.2.2.2.2.2.2.2.1) 0, Lib.cell_of_heap (hz.2.2.2.2.2.2.2.1) 1, hz⟩
    have KV : Hid (∀ z : World, (z.cell? ⟨(w.heap.size), 0, none⟩ = some (.slice a0_0 x0.names.length b0_0) ∧ z.cell? ⟨(w.heap.size), 1, none⟩ = some (.slice a0_1 x0.vals.length b0_1) ∧ z.cell? ⟨z3.heap.size, 0, none⟩ = some (.slice o1_0 k1_0 c1_0) ∧ z.cell? ⟨z3.heap.size, 1, none⟩ = some (.slice o1_1 k1_1 c1_1) ∧ Hid ((Below w.heap.size w z ∧ Box z (w.heap.size) #[.slice a0_0 x0.names.length b0_0, .slice a0_1 x0.vals.length b0_1] 39 ∧ Box z (w.heap.size + 1) #[.slice a1_0 x1.names.length b1_0, .slice a1_1 x1.vals.length b1_1] 39 ∧ Box z bxw #[.slice pw0_0 (togE x0 x1).names.length qw0_0, .slice pw0_1 (togE x0 x1).vals.length qw0_1] 27 ∧ EvOwn B0w z (.slice pw0_0 (togE x0 x1).names.length qw0_0) (.slice pw0_1 (togE x0 x1).vals.length qw0_1) (togE x0 x1) ∧ EvC wc.heap.size z [.slice o1_0 k1_0 c1_0, .slice o1_1 k1_1 c1_1] x0 ∧ EvSh wc.heap.size z3.heap.size z (.slice o1_0 k1_0 c1_0) (.slice o1_1 k1_1 c1_1) x0 ∧ Box z z3.heap.size #[.slice o1_0 k1_0 c1_0, .slice o1_1 k1_1 c1_1] 27 ∧ EvC y1.heap.size z [.slice o2_0 k2_0 c2_0, .slice o2_1 k2_1 c2_1] x1 ∧ EvSh y1.heap.size z4.heap.size z (.slice o2_0 k2_0 c2_0) (.slice o2_1 k2_1 c2_1) x1 ∧ Box z z4.heap.size #[.slice o2_0 k2_0 c2_0, .slice o2_1 k2_1 c2_1] 27 ∧ EvOwn y2.heap.size z (.slice pg0_0 (togE x0 x1).names.length qg0_0) (.slice pg0_1 (togE x0 x1).vals.length qg0_1) (togE x0 x1) ∧ Box z z5.heap.size #[.slice pg0_0 (togE x0 x1).names.length qg0_0, .slice pg0_1 (togE x0 x1).vals.length qg0_1] 27))) → (Below w.heap.size w z ∧ Box z (w.heap.size) #[.slice a0_0 x0.names.length b0_0, .slice a0_1 x0.vals.length b0_1] 39 ∧ Box z (w.heap.size + 1) #[.slice a1_0 x1.names.length b1_0, .slice a1_1 x1.vals.length b1_1] 39 ∧ Box z bxw #[.slice pw0_0 (togE x0 x1).names.length qw0_0, .slice pw0_1 (togE x0 x1).vals.length qw0_1] 27 ∧ EvOwn B0w z (.slice pw0_0 (togE x0 x1).names.length qw0_0) (.slice pw0_1 (togE x0 x1).vals.length qw0_1) (togE x0 x1) ∧ EvC wc.heap.size z [.slice o1_0 k1_0 c1_0, .slice o1_1 k1_1 c1_1] x0 ∧ EvSh wc.heap.size z3.heap.size z (.slice o1_0 k1_0 c1_0) (.slice o1_1 k1_1 c1_1) x0 ∧ Box z z3.heap.size #[.slice o1_0 k1_0 c1_0, .slice o1_1 k1_1 c1_1] 27 ∧ EvC y1.heap.size z [.slice o2_0 k2_0 c2_0, .slice o2_1 k2_1 c2_1] x1 ∧ EvSh y1.heap.size z4.heap.size z (.slice o2_0 k2_0 c2_0) (.slice o2_1 k2_1 c2_1) x1 ∧ Box z z4.heap.size #[.slice o2_0 k2_0 c2_0, .slice o2_1 k2_1 c2_1] 27 ∧ EvOwn y2.heap.size z (.slice pg0_0 (togE x0 x1).names.length qg0_0) (.slice pg0_1 (togE x0 x1).vals.length qg0_1) (togE x0 x1) ∧ Box z z5.heap.size #[.slice pg0_0 (togE x0 x1).names.length qg0_0, .slice pg0_1 (togE x0 x1).vals.length qg0_1] 27)) := fun z hz => hz.2.2.2.2.out
    have KP : Hid (∀ z z' : World, (z.cell? ⟨(w.heap.size), 0, none⟩ = some (.slice a0_0 x0.names.length b0_0) ∧ z.cell? ⟨(w.heap.size), 1, none⟩ = some (.slice a0_1 x0.vals.length b0_1) ∧ z.cell? ⟨z3.heap.size, 0, none⟩ = some (.slice o1_0 k1_0 c1_0) ∧ z.cell? ⟨z3.heap.size, 1, none⟩ = some (.slice o1_1 k1_1 c1_1) ∧ Hid ((Below w.heap.size w z ∧ Box z (w.heap.size) #[.slice a0_0 x0.names.length b0_0, .slice a0_1 x0.vals.length b0_1] 39 ∧ Box z (w.heap.size + 1) #[.slice a1_0 x1.names.length b1_0, .slice a1_1 x1.vals.length b1_1] 39 ∧ Box z bxw #[.slice pw0_0 (togE x0 x1).names.length qw0_0, .slice pw0_1 (togE x0 x1).vals.length qw0_1] 27 ∧ EvOwn B0w z (.slice pw0_0 (togE x0 x1).names.length qw0_0) (.slice pw0_1 (togE x0 x1).vals.length qw0_1) (togE x0 x1) ∧ EvC wc.heap.size z [.slice o1_0 k1_0 c1_0, .slice o1_1 k1_1 c1_1] x0 ∧ EvSh wc.heap.size z3.heap.size z (.slice o1_0 k1_0 c1_0) (.slice o1_1 k1_1 c1_1) x0 ∧ Box z z3.heap.size #[.slice o1_0 k1_0 c1_0, .slice o1_1 k1_1 c1_1] 27 ∧ EvC y1.heap.size z [.slice o2_0 k2_0 c2_0, .slice o2_1 k2_1 c2_1] x1 ∧ EvSh y1.heap.size z4.heap.size z (.slice o2_0 k2_0 c2_0) (.slice o2_1 k2_1 c2_1) x1 ∧ Box z z4.heap.size #[.slice o2_0 k2_0 c2_0, .slice o2_1 k2_1 c2_1] 27 ∧ EvOwn y2.heap.size z (.slice pg0_0 (togE x0 x1).names.length qg0_0) (.slice pg0_1 (togE x0 x1).vals.length qg0_1) (togE x0 x1) ∧ Box z z5.heap.size #[.slice pg0_0 (togE x0 x1).names.length qg0_0, .slice pg0_1 (togE x0 x1).vals.length qg0_1] 27))) → Below z.heap.size z z' → (z'.cell? ⟨(w.heap.size), 0, none⟩ = some (.slice a0_0 x0.names.length b0_0) ∧ z'.cell? ⟨(w.heap.size), 1, none⟩ = some (.slice a0_1 x0.vals.length b0_1) ∧ z'.cell? ⟨z3.heap.size, 0, none⟩ = some (.slice o1_0 k1_0 c1_0) ∧ z'.cell? ⟨z3.heap.size, 1, none⟩ = some (.slice o1_1 k1_1 c1_1) ∧ Hid ((Below w.heap.size w z' ∧ Box z' (w.heap.size) #[.slice a0_0 x0.names.length b0_0, .slice a0_1 x0.vals.length b0_1] 39 ∧ Box z' (w.heap.size + 1) #[.slice a1_0 x1.names.length b1_0, .slice a1_1 x1.vals.length b1_1] 39 ∧ Box z' bxw #[.slice pw0_0 (togE x0 x1).names.length qw0_0, .slice pw0_1 (togE x0 x1).vals.length qw0_1] 27 ∧ EvOwn B0w z' (.slice pw0_0 (togE x0 x1).names.length qw0_0) (.slice pw0_1 (togE x0 x1).vals.length qw0_1) (togE x0 x1) ∧ EvC wc.heap.size z' [.slice o1_0 k1_0 c1_0, .slice o1_1 k1_1 c1_1] x0 ∧ EvSh wc.heap.size z3.heap.size z' (.slice o1_0 k1_0 c1_0) (.slice o1_1 k1_1 c1_1) x0 ∧ Box z' z3.heap.size #[.slice o1_0 k1_0 c1_0, .slice o1_1 k1_1 c1_1] 27 ∧ EvC y1.heap.size z' [.slice o2_0 k2_0 c2_0, .slice o2_1 k2_1 c2_1] x1 ∧ EvSh y1.heap.size z4.heap.size z' (.slice o2_0 k2_0 c2_0) (.slice o2_1 k2_1 c2_1) x1 ∧ Box z' z4.heap.size #[.slice o2_0 k2_0 c2_0, .slice o2_1 k2_1 c2_1] 27 ∧ EvOwn y2.heap.size z' (.slice pg0_0 (togE x0 x1).names.length qg0_0) (.slice pg0_1 (togE x0 x1).vals.length qg0_1) (togE x0 x1) ∧ Box z' z5.heap.size #[.slice pg0_0 (togE x0 x1).names.length qg0_0, .slice pg0_1 (togE x0 x1).vals.length qg0_1] 27)))) := fun z z' hz hb => KC.out _ (KT.out _ _ (KV.out _ hz) hb)
    have K0 := hide (KC.out _ (KT.out _ _ ⟨HB_25.out, BA0_25.out, BA1_25.out, BW0_25.out, WO0_25.out, XC1_25.out, XS0_25.out, BX0_25.out, XC2_25.out, XS1_25.out, BX1_25.out, GO0_25.out, BG0_25.out⟩ (Below.refl _ _).drew))
    clear HB_25 BA0_25 BA1_25 BW0_25 WO0_25 XC1_25 XS0_25 BX0_25 XC2_25 XS1_25 BX1_25 GO0_25 BG0_25
    go_region_held3 (fun z => z.cell? ⟨(w.heap.size), 0, none⟩ = some (.slice a0_0 x0.names.length b0_0) ∧ z.cell? ⟨(w.heap.size), 1, none⟩ = some (.slice a0_1 x0.vals.length b0_1) ∧ z.cell? ⟨z3.heap.size, 0, none⟩ = some (.slice o1_0 k1_0 c1_0) ∧ z.cell? ⟨z3.heap.size, 1, none⟩ = some (.slice o1_1 k1_1 c1_1) ∧ Hid ((Below w.heap.size w z ∧ Box z (w.heap.size) #[.slice a0_0 x0.names.length b0_0, .slice a0_1 x0.vals.length b0_1] 39 ∧ Box z (w.heap.size + 1) #[.slice a1_0 x1.names.length b1_0, .slice a1_1 x1.vals.length b1_1] 39 ∧ Box z bxw #[.slice pw0_0 (togE x0 x1).names.length qw0_0, .slice pw0_1 (togE x0 x1).vals.length qw0_1] 27 ∧ EvOwn B0w z (.slice pw0_0 (togE x0 x1).names.length qw0_0) (.slice pw0_1 (togE x0 x1).vals.length qw0_1) (togE x0 x1) ∧ EvC wc.heap.size z [.slice o1_0 k1_0 c1_0, .slice o1_1 k1_1 c1_1] x0 ∧ EvSh wc.heap.size z3.heap.size z (.slice o1_0 k1_0 c1_0) (.slice o1_1 k1_1 c1_1) x0 ∧ Box z z3.heap.size #[.slice o1_0 k1_0 c1_0, .slice o1_1 k1_1 c1_1] 27 ∧ EvC y1.heap.size z [.slice o2_0 k2_0 c2_0, .slice o2_1 k2_1 c2_1] x1 ∧ EvSh y1.heap.size z4.heap.size z (.slice o2_0 k2_0 c2_0) (.slice o2_1 k2_1 c2_1) x1 ∧ Box z z4.heap.size #[.slice o2_0 k2_0 c2_0, .slice o2_1 k2_1 c2_1] 27 ∧ EvOwn y2.heap.size z (.slice pg0_0 (togE x0 x1).names.length qg0_0) (.slice pg0_1 (togE x0 x1).vals.length qg0_1) (togE x0 x1) ∧ Box z z5.heap.size #[.slice pg0_0 (togE x0 x1).names.length qg0_0, .slice pg0_1 (togE x0 x1).vals.length qg0_1] 27))) (first | exact K0.out | exact KP.out _ _ (by assumption) hb7)
      (first
        | (go_at_call 20; refine (toEnv_any x0 _ _ _ (HW0.out.stays ((KV.out _ (by assumption)).1)).a0 (HW0.out.stays ((KV.out _ (by assumption)).1)).a1 HN0.out.l0 HN0.out.l1).mono ?_; rintro e w7 ⟨oo0, kk0, cc0, oo1, kk1, cc1, rfl, hc7, hb7⟩; have P7 := hide hc7.at; clear hc7)
        | (go_at_call 21; refine (eqEnv_same x0 _ _ _ _ _ (((KV.out _ (by assumption)).2.2.2.2.2.1)).at.a0 P7.out.a0 (((KV.out _ (by assumption)).2.2.2.2.2.1)).at.a1 P7.out.a1 HN0.out.l0 HN0.out.l1).mono ?_; rintro e z7 ⟨rfl, hb7⟩))
    obtain ⟨f0, f1, f2, f3, f4, f5, f6, f7, f8, f9, f10, f11, f12⟩ := KV.out z7 (by assumption)
    clear KT KC KV KP K0
    have HB_26 := hide f0
    have BA0_26 := hide f1
    have BA1_26 := hide f2
    have BW0_26 := hide f3
    have WO0_26 := hide f4
    have XC1_26 := hide f5
    have XS0_26 := hide f6
    have BX0_26 := hide f7
    have XC2_26 := hide f8
    have XS1_26 := hide f9
    have BX1_26 := hide f10
    have GO0_26 := hide f11
    have BG0_26 := hide f12
    clear f0 f1 f2 f3 f4 f5 f6 f7 f8 f9 f10 f11 f12
    have c_BA0_0 := Lib.cell_of_heap BA0_26.out 0
    simp at c_BA0_0
    have c_BA0_1 := Lib.cell_of_heap BA0_26.out 1
    simp at c_BA0_1
    have c_BA1_0 := Lib.cell_of_heap BA1_26.out 0
    simp at c_BA1_0
    have c_BA1_1 := Lib.cell_of_heap BA1_26.out 1
    simp at c_BA1_1
    have c_BW0_0 := Lib.cell_of_heap BW0_26.out 0
    simp at c_BW0_0
    have c_BW0_1 := Lib.cell_of_heap BW0_26.out 1
    simp at c_BW0_1
    have c_BX0_0 := Lib.cell_of_heap BX0_26.out 0
    simp at c_BX0_0
    have c_BX0_1 := Lib.cell_of_heap BX0_26.out 1
    simp at c_BX0_1
    have c_BX1_0 := Lib.cell_of_heap BX1_26.out 0
    simp at c_BX1_0
    have c_BX1_1 := Lib.cell_of_heap BX1_26.out 1
    simp at c_BX1_1
    have c_BG0_0 := Lib.cell_of_heap BG0_26.out 0
    simp at c_BG0_0
    have c_BG0_1 := Lib.cell_of_heap BG0_26.out 1
    simp at c_BG0_1
    go_wp2_with fail
    clear c_BA0_0 c_BA0_1 c_BA1_0 c_BA1_1 c_BW0_0 c_BW0_1 c_BX0_0 c_BX0_1 c_BX1_0 c_BX1_1 c_BG0_0 c_BG0_1
    have KT : Hid (∀ z z' : World, (Below w.heap.size w z ∧ Box z (w.heap.size) #[.slice a0_0 x0.names.length b0_0, .slice a0_1 x0.vals.length b0_1] 39 ∧ Box z (w.heap.size + 1) #[.slice a1_0 x1.names.length b1_0, .slice a1_1 x1.vals.length b1_1] 39 ∧ Box z bxw #[.slice pw0_0 (togE x0 x1).names.length qw0_0, .slice pw0_1 (togE x0 x1).vals.length qw0_1] 27 ∧ EvOwn B0w z (.slice pw0_0 (togE x0 x1).names.length qw0_0) (.slice pw0_1 (togE x0 x1).vals.length qw0_1) (togE x0 x1) ∧ EvC wc.heap.size z [.slice o1_0 k1_0 c1_0, .slice o1_1 k1_1 c1_1] x0 ∧ EvSh wc.heap.size z3.heap.size z (.slice o1_0 k1_0 c1_0) (.slice o1_1 k1_1 c1_1) x0 ∧ Box z z3.heap.size #[.slice o1_0 k1_0 c1_0, .slice o1_1 k1_1 c1_1] 27 ∧ EvC y1.heap.size z [.slice o2_0 k2_0 c2_0, .slice o2_1 k2_1 c2_1] x1 ∧ EvSh y1.heap.size z4.heap.size z (.slice o2_0 k2_0 c2_0) (.slice o2_1 k2_1 c2_1) x1 ∧ Box z z4.heap.size #[.slice o2_0 k2_0 c2_0, .slice o2_1 k2_1 c2_1] 27 ∧ EvOwn y2.heap.size z (.slice pg0_0 (togE x0 x1).names.length qg0_0) (.slice pg0_1 (togE x0 x1).vals.length qg0_1) (togE x0 x1) ∧ Box z z5.heap.size #[.slice pg0_0 (togE x0 x1).names.length qg0_0, .slice pg0_1 (togE x0 x1).vals.length qg0_1] 27) → Below z.heap.size z z' → (Below w.heap.size w z' ∧ Box z' (w.heap.size) #[.slice a0_0 x0.names.length b0_0, .slice a0_1 x0.vals.length b0_1] 39 ∧ Box z' (w.heap.size + 1) #[.slice a1_0 x1.names.length b1_0, .slice a1_1 x1.vals.length b1_1] 39 ∧ Box z' bxw #[.slice pw0_0 (togE x0 x1).names.length qw0_0, .slice pw0_1 (togE x0 x1).vals.length qw0_1] 27 ∧ EvOwn B0w z' (.slice pw0_0 (togE x0 x1).names.length qw0_0) (.slice pw0_1 (togE x0 x1).vals.length qw0_1) (togE x0 x1) ∧ EvC wc.heap.size z' [.slice o1_0 k1_0 c1_0, .slice o1_1 k1_1 c1_1] x0 ∧ EvSh wc.heap.size z3.heap.size z' (.slice o1_0 k1_0 c1_0) (.slice o1_1 k1_1 c1_1) x0 ∧ Box z' z3.heap.size #[.slice o1_0 k1_0 c1_0, .slice o1_1 k1_1 c1_1] 27 ∧ EvC y1.heap.size z' [.slice o2_0 k2_0 c2_0, .slice o2_1 k2_1 c2_1] x1 ∧ EvSh y1.heap.size z4.heap.size z' (.slice o2_0 k2_0 c2_0) (.slice o2_1 k2_1 c2_1) x1 ∧ Box z' z4.heap.size #[.slice o2_0 k2_0 c2_0, .slice o2_1 k2_1 c2_1] 27 ∧ EvOwn y2.heap.size z' (.slice pg0_0 (togE x0 x1).names.length qg0_0) (.slice pg0_1 (togE x0 x1).vals.length qg0_1) (togE x0 x1) ∧ Box z' z5.heap.size #[.slice pg0_0 (togE x0 x1).names.length qg0_0, .slice pg0_1 (togE x0 x1).vals.length qg0_1] 27)) := fun z z' hz hb => ⟨(hz.1).trans (hb.mono (hz.1).size), (hz.2.1).stays hb, (hz.2.2.1).stays hb, (hz.2.2.2.1).stays hb, (hz.2.2.2.2.1).stays hb, (hz.2.2.2.2.2.1).stays hb, (hz.2.2.2.2.2.2.1).stays hb, (hz.2.2.2.2.2.2.2.1).stays hb, (hz.2.2.2.2.2.2.2.2.1).stays hb, (hz.2.2.2.2.2.2.2.2.2.1).stays hb, (hz.2.2.2.2.2.2.2.2.2.2.1).stays hb, (hz.2.2.2.2.2.2.2.2.2.2.2.1).stays hb, (hz.2.2.2.2.2.2.2.2.2.2.2.2).stays hb⟩
    have KC : Hid (∀ z : World, (Below w.heap.size w z ∧ Box z (w.heap.size) #[.slice a0_0 x0.names.length b0_0, .slice a0_1 x0.vals.length b0_1] 39 ∧ Box z (w.heap.size + 1) #[.slice a1_0 x1.names.length b1_0, .slice a1_1 x1.vals.length b1_1] 39 ∧ Box z bxw #[.slice pw0_0 (togE x0 x1).names.length qw0_0, .slice pw0_1 (togE x0 x1).vals.length qw0_1] 27 ∧ EvOwn B0w z (.slice pw0_0 (togE x0 x1).names.length qw0_0) (.slice pw0_1 (togE x0 x1).vals.length qw0_1) (togE x0 x1) ∧ EvC wc.heap.size z [.slice o1_0 k1_0 c1_0, .slice o1_1 k1_1 c1_1] x0 ∧ EvSh wc.heap.size z3.heap.size z (.slice o1_0 k1_0 c1_0) (.slice o1_1 k1_1 c1_1) x0 ∧ Box z z3.heap.size #[.slice o1_0 k1_0 c1_0, .slice o1_1 k1_1 c1_1] 27 ∧ EvC y1.heap.size z [.slice o2_0 k2_0 c2_0, .slice o2_1 k2_1 c2_1] x1 ∧ EvSh y1.heap.size z4.heap.size z (.slice o2_0 k2_0 c2_0) (.slice o2_1 k2_1 c2_1) x1 ∧ Box z z4.heap.size #[.slice o2_0 k2_0 c2_0, .slice o2_1 k2_1 c2_1] 27 ∧ EvOwn y2.heap.size z (.slice pg0_0 (togE x0 x1).names.length qg0_0) (.slice pg0_1 (togE x0 x1).vals.length qg0_1) (togE x0 x1) ∧ Box z z5.heap.size #[.slice pg0_0 (togE x0 x1).names.length qg0_0, .slice pg0_1 (togE x0 x1).vals.length qg0_1] 27) → (z.cell? ⟨(w.heap.size + 1), 0, none⟩ = some (.slice a1_0 x1.names.length b1_0) ∧ z.cell? ⟨(w.heap.size + 1), 1, none⟩ = some (.slice a1_1 x1.vals.length b1_1) ∧ z.cell? ⟨z4.heap.size, 0, none⟩ = some (.slice o2_0 k2_0 c2_0) ∧ z.cell? ⟨z4.heap.size, 1, none⟩ = some (.slice o2_1 k2_1 c2_1) ∧ Hid ((Below w.heap.size w z ∧ Box z (w.heap.size) #[.slice a0_0 x0.names.length b0_0, .slice a0_1 x0.vals.length b0_1] 39 ∧ Box z (w.heap.size + 1) #[.slice a1_0 x1.names.length b1_0, .slice a1_1 x1.vals.length b1_1] 39 ∧ Box z bxw #[.slice pw0_0 (togE x0 x1).names.length qw0_0, .slice pw0_1 (togE x0 x1).vals.length qw0_1] 27 ∧ EvOwn B0w z (.slice pw0_0 (togE x0 x1).names.length qw0_0) (.slice pw0_1 (togE x0 x1).vals.length qw0_1) (togE x0 x1) ∧ EvC wc.heap.size z [.slice o1_0 k1_0 c1_0, .slice o1_1 k1_1 c1_1] x0 ∧ EvSh wc.heap.size z3.heap.size z (.slice o1_0 k1_0 c1_0) (.slice o1_1 k1_1 c1_1) x0 ∧ Box z z3.heap.size #[.slice o1_0 k1_0 c1_0, .slice o1_1 k1_1 c1_1] 27 ∧ EvC y1.heap.size z [.slice o2_0 k2_0 c2_0, .slice o2_1 k2_1 c2_1] x1 ∧ EvSh y1.heap.size z4.heap.size z (.slice o2_0 k2_0 c2_0) (.slice o2_1 k2_1 c2_1) x1 ∧ Box z z4.heap.size #[.slice o2_0 k2_0 c2_0, .slice o2_1 k2_1 c2_1] 27 ∧ EvOwn y2.heap.size z (.slice pg0_0 (togE x0 x1).names.length qg0_0) (.slice pg0_1 (togE x0 x1).vals.length qg0_1) (togE x0 x1) ∧ Box z z5.heap.size #[.slice pg0_0 (togE x0 x1).names.length qg0_0, .slice pg0_1 (togE x0 x1).vals.length qg0_1] 27)))) := fun z hz => ⟨Lib.cell_of_heap (hz.2.2.1) 0, Lib.cell_of_heap (hz.2.2.1) 1, Lib.cell_of_heap (hz.2.2.2.2.2.2.2.2.2.2.1) 0, Lib.cell_of_heap (hz.2.2.2.2.2.2.2.2.2.2.1) 1, hz⟩
    have KV : Hid (∀ z : World, (z.cell? ⟨(w.heap.size + 1), 0, none⟩ = some (.slice a1_0 x1.names.length b1_0) ∧ z.cell? ⟨(w.heap.size + 1), 1, none⟩ = some (.slice a1_1 x1.vals.length b1_1) ∧ z.cell? ⟨z4.heap.size, 0, none⟩ = some (.slice o2_0 k2_0 c2_0) ∧ z.cell? ⟨z4.heap.size, 1, none⟩ = some (.slice o2_1 k2_1 c2_1) ∧ Hid ((Below w.heap.size w z ∧ Box z (w.heap.size) #[.slice a0_0 x0.names.length b0_0, .slice a0_1 x0.vals.length b0_1] 39 ∧ Box z (w.heap.size + 1) #[.slice a1_0 x1.names.length b1_0, .slice a1_1 x1.vals.length b1_1] 39 ∧ Box z bxw #[.slice pw0_0 (togE x0 x1).names.length qw0_0, .slice pw0_1 (togE x0 x1).vals.length qw0_1] 27 ∧ EvOwn B0w z (.slice pw0_0 (togE x0 x1).names.length qw0_0) (.slice pw0_1 (togE x0 x1).vals.length qw0_1) (togE x0 x1) ∧ EvC wc.heap.size z [.slice o1_0 k1_0 c1_0, .slice o1_1 k1_1 c1_1] x0 ∧ EvSh wc.heap.size z3.heap.size z (.slice o1_0 k1_0 c1_0) (.slice o1_1 k1_1 c1_1) x0 ∧ Box z z3.heap.size #[.slice o1_0 k1_0 c1_0, .slice o1_1 k1_1 c1_1] 27 ∧ EvC y1.heap.size z [.slice o2_0 k2_0 c2_0, .slice o2_1 k2_1 c2_1] x1 ∧ EvSh y1.heap.size z4.heap.size z (.slice o2_0 k2_0 c2_0) (.slice o2_1 k2_1 c2_1) x1 ∧ Box z z4.heap.size #[.slice o2_0 k2_0 c2_0, .slice o2_1 k2_1 c2_1] 27 ∧ EvOwn y2.heap.size z (.slice pg0_0 (togE x0 x1).names.length qg0_0) (.slice pg0_1 (togE x0 x1).vals.length qg0_1) (togE x0 x1) ∧ Box z z5.heap.size #[.slice pg0_0 (togE x0 x1).names.length qg0_0, .slice pg0_1 (togE x0 x1).vals.length qg0_1] 27))) → (Below w.heap.size w z ∧ Box z (w.heap.size) #[.slice a0_0 x0.names.length b0_0, .slice a0_1 x0.vals.length b0_1] 39 ∧ Box z (w.heap.size + 1) #[.slice a1_0 x1.names.length b1_0, .slice a1_1 x1.vals.length b1_1] 39 ∧ Box z bxw #[.slice pw0_0 (togE x0 x1).names.length qw0_0, .slice pw0_1 (togE x0 x1).vals.length qw0_1] 27 ∧ EvOwn B0w z (.slice pw0_0 (togE x0 x1).names.length qw0_0) (.slice pw0_1 (togE x0 x1).vals.length qw0_1) (togE x0 x1) ∧ EvC wc.heap.size z [.slice o1_0 k1_0 c1_0, .slice o1_1 k1_1 c1_1] x0 ∧ EvSh wc.heap.size z3.heap.size z (.slice o1_0 k1_0 c1_0) (.slice o1_1 k1_1 c1_1) x0 ∧ Box z z3.heap.size #[.slice o1_0 k1_0 c1_0, .slice o1_1 k1_1 c1_1] 27 ∧ EvC y1.heap.size z [.slice o2_0 k2_0 c2_0, .slice o2_1 k2_1 c2_1] x1 ∧ EvSh y1.heap.size z4.heap.size z (.slice o2_0 k2_0 c2_0) (.slice o2_1 k2_1 c2_1) x1 ∧ Box z z4.heap.size #[.slice o2_0 k2_0 c2_0, .slice o2_1 k2_1 c2_1] 27 ∧ EvOwn y2.heap.size z (.slice pg0_0 (togE x0 x1).names.length qg0_0) (.slice pg0_1 (togE x0 x1).vals.length qg0_1) (togE x0 x1) ∧ Box z z5.heap.size #[.slice pg0_0 (togE x0 x1).names.length qg0_0, .slice pg0_1 (togE x0 x1).vals.length qg0_1] 27)) := fun z hz => hz.2.2.2.2.out
    have KP : Hid (∀ z z' : World, (z.cell? ⟨(w.heap.size + 1), 0, none⟩ = some (.slice a1_0 x1.names.length b1_0) ∧ z.cell? ⟨(w.heap.size + 1), 1, none⟩ = some (.slice a1_1 x1.vals.length b1_1) ∧ z.cell? ⟨z4.heap.size, 0, none⟩ = some (.slice o2_0 k2_0 c2_0) ∧ z.cell? ⟨z4.heap.size, 1, none⟩ = some (.slice o2_1 k2_1 c2_1) ∧ Hid ((Below w.heap.size w z ∧ Box z (w.heap.size) #[.slice a0_0 x0.names.length b0_0, .slice a0_1 x0.vals.length b0_1] 39 ∧ Box z (w.heap.size + 1) #[.slice a1_0 x1.names.length b1_0, .slice a1_1 x1.vals.length b1_1] 39 ∧ Box z bxw #[.slice pw0_0 (togE x0 x1).names.length qw0_0, .slice pw0_1 (togE x0 x1).vals.length qw0_1] 27 ∧ EvOwn B0w z (.slice pw0_0 (togE x0 x1).names.length qw0_0) (.slice pw0_1 (togE x0 x1).vals.length qw0_1) (togE x0 x1) ∧ EvC wc.heap.size z [.slice o1_0 k1_0 c1_0, .slice o1_1 k1_1 c1_1] x0 ∧ EvSh wc.heap.size z3.heap.size z (.slice o1_0 k1_0 c1_0) (.slice o1_1 k1_1 c1_1) x0 ∧ Box z z3.heap.size #[.slice o1_0 k1_0 c1_0, .slice o1_1 k1_1 c1_1] 27 ∧ EvC y1.heap.size z [.slice o2_0 k2_0 c2_0, .slice o2_1 k2_1 c2_1] x1 ∧ EvSh y1.heap.size z4.heap.size z (.slice o2_0 k2_0 c2_0) (.slice o2_1 k2_1 c2_1) x1 ∧ Box z z4.heap.size #[.slice o2_0 k2_0 c2_0, .slice o2_1 k2_1 c2_1] 27 ∧ EvOwn y2.heap.size z (.slice pg0_0 (togE x0 x1).names.length qg0_0) (.slice pg0_1 (togE x0 x1).vals.length qg0_1) (togE x0 x1) ∧ Box z z5.heap.size #[.slice pg0_0 (togE x0 x1).names.length qg0_0, .slice pg0_1 (togE x0 x1).vals.length qg0_1] 27))) → Below z.heap.size z z' → (z'.cell? ⟨(w.heap.size + 1), 0, none⟩ = some (.slice a1_0 x1.names.length b1_0) ∧ z'.cell? ⟨(w.heap.size + 1), 1, none⟩ = some (.slice a1_1 x1.vals.length b1_1) ∧ z'.cell? ⟨z4.heap.size, 0, none⟩ = some (.slice o2_0 k2_0 c2_0) ∧ z'.cell? ⟨z4.heap.size, 1, none⟩ = some (.slice o2_1 k2_1 c2_1) ∧ Hid ((Below w.heap.size w z' ∧ Box z' (w.heap.size) #[.slice a0_0 x0.names.length b0_0, .slice a0_1 x0.vals.length b0_1] 39 ∧ Box z' (w.heap.size + 1) #[.slice a1_0 x1.names.length b1_0, .slice a1_1 x1.vals.length b1_1] 39 ∧ Box z' bxw #[.slice pw0_0 (togE x0 x1).names.length qw0_0, .slice pw0_1 (togE x0 x1).vals.length qw0_1] 27 ∧ EvOwn B0w z' (.slice pw0_0 (togE x0 x1).names.length qw0_0) (.slice pw0_1 (togE x0 x1).vals.length qw0_1) (togE x0 x1) ∧ EvC wc.heap.size z' [.slice o1_0 k1_0 c1_0, .slice o1_1 k1_1 c1_1] x0 ∧ EvSh wc.heap.size z3.heap.size z' (.slice o1_0 k1_0 c1_0) (.slice o1_1 k1_1 c1_1) x0 ∧ Box z' z3.heap.size #[.slice o1_0 k1_0 c1_0, .slice o1_1 k1_1 c1_1] 27 ∧ EvC y1.heap.size z' [.slice o2_0 k2_0 c2_0, .slice o2_1 k2_1 c2_1] x1 ∧ EvSh y1.heap.size z4.heap.size z' (.slice o2_0 k2_0 c2_0) (.slice o2_1 k2_1 c2_1) x1 ∧ Box z' z4.heap.size #[.slice o2_0 k2_0 c2_0, .slice o2_1 k2_1 c2_1] 27 ∧ EvOwn y2.heap.size z' (.slice pg0_0 (togE x0 x1).names.length qg0_0) (.slice pg0_1 (togE x0 x1).vals.length qg0_1) (togE x0 x1) ∧ Box z' z5.heap.size #[.slice pg0_0 (togE x0 x1).names.length qg0_0, .slice pg0_1 (togE x0 x1).vals.length qg0_1] 27)))) := fun z z' hz hb => KC.out _ (KT.out _ _ (KV.out _ hz) hb)
    have K0 := hide (KC.out _ (KT.out _ _ ⟨HB_26.out, BA0_26.out, BA1_26.out, BW0_26.out, WO0_26.out, XC1_26.out, XS0_26.out, BX0_26.out, XC2_26.out, XS1_26.out, BX1_26.out, GO0_26.out, BG0_26.out⟩ (Below.refl _ _).drew))
    clear HB_26 BA0_26 BA1_26 BW0_26 WO0_26 XC1_26 XS0_26 BX0_26 XC2_26 XS1_26 BX1_26 GO0_26 BG0_26
    go_region_held3 (fun z => z.cell? ⟨(w.heap.size + 1), 0, none⟩ = some (.slice a1_0 x1.names.length b1_0) ∧ z.cell? ⟨(w.heap.size + 1), 1, none⟩ = some (.slice a1_1 x1.vals.length b1_1) ∧ z.cell? ⟨z4.heap.size, 0, none⟩ = some (.slice o2_0 k2_0 c2_0) ∧ z.cell? ⟨z4.heap.size, 1, none⟩ = some (.slice o2_1 k2_1 c2_1) ∧ Hid ((Below w.heap.size w z ∧ Box z (w.heap.size) #[.slice a0_0 x0.names.length b0_0, .slice a0_1 x0.vals.length b0_1] 39 ∧ Box z (w.heap.size + 1) #[.slice a1_0 x1.names.length b1_0, .slice a1_1 x1.vals.length b1_1] 39 ∧ Box z bxw #[.slice pw0_0 (togE x0 x1).names.length qw0_0, .slice pw0_1 (togE x0 x1).vals.length qw0_1] 27 ∧ EvOwn B0w z (.slice pw0_0 (togE x0 x1).names.length qw0_0) (.slice pw0_1 (togE x0 x1).vals.length qw0_1) (togE x0 x1) ∧ EvC wc.heap.size z [.slice o1_0 k1_0 c1_0, .slice o1_1 k1_1 c1_1] x0 ∧ EvSh wc.heap.size z3.heap.size z (.slice o1_0 k1_0 c1_0) (.slice o1_1 k1_1 c1_1) x0 ∧ Box z z3.heap.size #[.slice o1_0 k1_0 c1_0, .slice o1_1 k1_1 c1_1] 27 ∧ EvC y1.heap.size z [.slice o2_0 k2_0 c2_0, .slice o2_1 k2_1 c2_1] x1 ∧ EvSh y1.heap.size z4.heap.size z (.slice o2_0 k2_0 c2_0) (.slice o2_1 k2_1 c2_1) x1 ∧ Box z z4.heap.size #[.slice o2_0 k2_0 c2_0, .slice o2_1 k2_1 c2_1] 27 ∧ EvOwn y2.heap.size z (.slice pg0_0 (togE x0 x1).names.length qg0_0) (.slice pg0_1 (togE x0 x1).vals.length qg0_1) (togE x0 x1) ∧ Box z z5.heap.size #[.slice pg0_0 (togE x0 x1).names.length qg0_0, .slice pg0_1 (togE x0 x1).vals.length qg0_1] 27))) (first | exact K0.out | exact KP.out _ _ (by assumption) hb7)
      (first
        | (go_at_call 20; refine (toEnv_any x1 _ _ _ (HW1.out.stays ((KV.out _ (by assumption)).1)).a0 (HW1.out.stays ((KV.out _ (by assumption)).1)).a1 HN1.out.l0 HN1.out.l1).mono ?_; rintro e w7 ⟨oo0, kk0, cc0, oo1, kk1, cc1, rfl, hc7, hb7⟩; have P7 := hide hc7.at; clear hc7)
        | (go_at_call 21; refine (eqEnv_same x1 _ _ _ _ _ (((KV.out _ (by assumption)).2.2.2.2.2.2.2.2.1)).at.a0 P7.out.a0 (((KV.out _ (by assumption)).2.2.2.2.2.2.2.2.1)).at.a1 P7.out.a1 HN1.out.l0 HN1.out.l1).mono ?_; rintro e z8 ⟨rfl, hb7⟩))
    obtain ⟨f0, f1, f2, f3, f4, f5, f6, f7, f8, f9, f10, f11, f12⟩ := KV.out z8 (by assumption)
    clear KT KC KV KP K0
    have HB_27 := hide f0
    have BA0_27 := hide f1
    have BA1_27 := hide f2
    have BW0_27 := hide f3
    have WO0_27 := hide f4
    have XC1_27 := hide f5
    have XS0_27 := hide f6
    have BX0_27 := hide f7
    have XC2_27 := hide f8
    have XS1_27 := hide f9
    have BX1_27 := hide f10
    have GO0_27 := hide f11
    have BG0_27 := hide f12
    clear f0 f1 f2 f3 f4 f5 f6 f7 f8 f9 f10 f11 f12
    have c_BA0_0 := Lib.cell_of_heap BA0_27.out 0
    simp at c_BA0_0
    have c_BA0_1 := Lib.cell_of_heap BA0_27.out 1
    simp at c_BA0_1
    have c_BA1_0 := Lib.cell_of_heap BA1_27.out 0
    simp at c_BA1_0
    have c_BA1_1 := Lib.cell_of_heap BA1_27.out 1
    simp at c_BA1_1
    have c_BW0_0 := Lib.cell_of_heap BW0_27.out 0
    simp at c_BW0_0
    have c_BW0_1 := Lib.cell_of_heap BW0_27.out 1
    simp at c_BW0_1
    have c_BX0_0 := Lib.cell_of_heap BX0_27.out 0
    simp at c_BX0_0
    have c_BX0_1 := Lib.cell_of_heap BX0_27.out 1
    simp at c_BX0_1
    have c_BX1_0 := Lib.cell_of_heap BX1_27.out 0
    simp at c_BX1_0
    have c_BX1_1 := Lib.cell_of_heap BX1_27.out 1
    simp at c_BX1_1
    have c_BG0_0 := Lib.cell_of_heap BG0_27.out 0
    simp at c_BG0_0
    have c_BG0_1 := Lib.cell_of_heap BG0_27.out 1
    simp at c_BG0_1
    go_wp2_with fail
    clear c_BA0_0 c_BA0_1 c_BA1_0 c_BA1_1 c_BW0_0 c_BW0_1 c_BX0_0 c_BX0_1 c_BX1_0 c_BX1_1 c_BG0_0 c_BG0_1
    refine (turnEnv_any (B := wc.heap.size) (T := z3.heap.size) _ _ _ _ XS0_27.out.s0 XS0_27.out.s1 HN0.out.l0 HN0.out.l1 (by have := SZ1.out; have := SZ2.out; have := SZ3.out; have := SZ4.out; have := SZ5.out; have := SZ6.out; have := SZ7.out; have := SZ8.out; have := SZ9.out; have := SZ10.out; have := SZ11.out; have := SZ12.out; have := BX0_27.out.lt; omega) (by have := SZ1.out; have := SZ2.out; have := SZ3.out; have := SZ4.out; have := SZ5.out; have := SZ6.out; have := SZ7.out; have := SZ8.out; have := SZ9.out; have := SZ10.out; have := SZ11.out; have := SZ12.out; have := BX0_27.out.lt; omega) (by omega) (by omega)).mono ?_
    rintro e z9 ⟨kx0, rfl, hka0, hkb0, ht0⟩
    have HB_28 : Hid (Below w.heap.size w z9) := HB_27.out.trans (ht0.bel.mono (by have := SZ1.out; have := SZ2.out; have := SZ3.out; have := SZ4.out; have := SZ5.out; have := SZ6.out; have := SZ7.out; have := SZ8.out; have := SZ9.out; have := SZ10.out; have := SZ11.out; have := SZ12.out; omega))
    clear HB_27
    have BA0_28 : Hid (Box z9 (w.heap.size) #[.slice a0_0 x0.names.length b0_0, .slice a0_1 x0.vals.length b0_1] 39) := (ht0.bel.block _ (by have := SZ1.out; have := SZ2.out; have := SZ3.out; have := SZ4.out; have := SZ5.out; have := SZ6.out; have := SZ7.out; have := SZ8.out; have := SZ9.out; have := SZ10.out; have := SZ11.out; have := SZ12.out; omega)).trans BA0_27.out
    clear BA0_27
    have BA1_28 : Hid (Box z9 (w.heap.size + 1) #[.slice a1_0 x1.names.length b1_0, .slice a1_1 x1.vals.length b1_1] 39) := (ht0.bel.block _ (by have := SZ1.out; have := SZ2.out; have := SZ3.out; have := SZ4.out; have := SZ5.out; have := SZ6.out; have := SZ7.out; have := SZ8.out; have := SZ9.out; have := SZ10.out; have := SZ11.out; have := SZ12.out; omega)).trans BA1_27.out
    clear BA1_27
    have BW0_28 : Hid (Box z9 bxw #[.slice pw0_0 (togE x0 x1).names.length qw0_0, .slice pw0_1 (togE x0 x1).vals.length qw0_1] 27) := (ht0.bel.block _ (by have := SZ1.out; have := SZ2.out; have := SZ3.out; have := SZ4.out; have := SZ5.out; have := SZ6.out; have := SZ7.out; have := SZ8.out; have := SZ9.out; have := SZ10.out; have := SZ11.out; have := SZ12.out; omega)).trans BW0_27.out
    clear BW0_27
    have WO0_28 : Hid (EvOwn B0w z9 (.slice pw0_0 (togE x0 x1).names.length qw0_0) (.slice pw0_1 (togE x0 x1).vals.length qw0_1) (togE x0 x1)) := WO0_27.out.low ht0.bel ⟨fun i hi => by have := WL0.out.1 i hi; have := SZ1.out; have := SZ2.out; have := SZ3.out; have := SZ4.out; have := SZ5.out; have := SZ6.out; have := SZ7.out; have := SZ8.out; have := SZ9.out; have := SZ10.out; have := SZ11.out; have := SZ12.out; omega, fun i hi => by have := WL0.out.2 i hi; have := SZ1.out; have := SZ2.out; have := SZ3.out; have := SZ4.out; have := SZ5.out; have := SZ6.out; have := SZ7.out; have := SZ8.out; have := SZ9.out; have := SZ10.out; have := SZ11.out; have := SZ12.out; omega⟩
    clear WO0_27
    clear XC1_27
    clear XS0_27
    have BX0_28 : Hid (Box z9 z3.heap.size #[.slice o1_0 k1_0 c1_0, .slice o1_1 k1_1 c1_1] 27) := (ht0.out _ (by have := SZ1.out; have := SZ2.out; have := SZ3.out; have := SZ4.out; have := SZ5.out; have := SZ6.out; have := SZ7.out; have := SZ8.out; have := SZ9.out; have := SZ10.out; have := SZ11.out; have := SZ12.out; omega) BX0_27.out.lt).trans BX0_27.out
    clear BX0_27
    clear XC2_27
    have XS1_28 : Hid (EvSh y1.heap.size z4.heap.size z9 (.slice o2_0 k2_0 c2_0) (.slice o2_1 k2_1 c2_1) x1) := XS1_27.out.turn ht0
    clear XS1_27
    have BX1_28 : Hid (Box z9 z4.heap.size #[.slice o2_0 k2_0 c2_0, .slice o2_1 k2_1 c2_1] 27) := (ht0.out _ (by have := SZ1.out; have := SZ2.out; have := SZ3.out; have := SZ4.out; have := SZ5.out; have := SZ6.out; have := SZ7.out; have := SZ8.out; have := SZ9.out; have := SZ10.out; have := SZ11.out; have := SZ12.out; omega) BX1_27.out.lt).trans BX1_27.out
    clear BX1_27
    have GO0_28 : Hid (EvOwn y2.heap.size z9 (.slice pg0_0 (togE x0 x1).names.length qg0_0) (.slice pg0_1 (togE x0 x1).vals.length qg0_1) (togE x0 x1)) := GO0_27.out.turn ht0 (by have := SZ1.out; have := SZ2.out; have := SZ3.out; have := SZ4.out; have := SZ5.out; have := SZ6.out; have := SZ7.out; have := SZ8.out; have := SZ9.out; have := SZ10.out; have := SZ11.out; have := SZ12.out; omega)
    clear GO0_27
    have BG0_28 : Hid (Box z9 z5.heap.size #[.slice pg0_0 (togE x0 x1).names.length qg0_0, .slice pg0_1 (togE x0 x1).vals.length qg0_1] 27) := (ht0.out _ (by have := SZ1.out; have := SZ2.out; have := SZ3.out; have := SZ4.out; have := SZ5.out; have := SZ6.out; have := SZ7.out; have := SZ8.out; have := SZ9.out; have := SZ10.out; have := SZ11.out; have := SZ12.out; omega) BG0_27.out.lt).trans BG0_27.out
    clear BG0_27
    clear ht0
    have hkn0 : ¬ kx0 < 0 := by omega
    have c_BA0_0 := Lib.cell_of_heap BA0_28.out 0
    simp at c_BA0_0
    have c_BA0_1 := Lib.cell_of_heap BA0_28.out 1
    simp at c_BA0_1
    have c_BA1_0 := Lib.cell_of_heap BA1_28.out 0
    simp at c_BA1_0
    have c_BA1_1 := Lib.cell_of_heap BA1_28.out 1
    simp at c_BA1_1
    have c_BW0_0 := Lib.cell_of_heap BW0_28.out 0
    simp at c_BW0_0
    have c_BW0_1 := Lib.cell_of_heap BW0_28.out 1
    simp at c_BW0_1
    have c_BX0_0 := Lib.cell_of_heap BX0_28.out 0
    simp at c_BX0_0
    have c_BX0_1 := Lib.cell_of_heap BX0_28.out 1
    simp at c_BX0_1
    have c_BX1_0 := Lib.cell_of_heap BX1_28.out 0
    simp at c_BX1_0
    have c_BX1_1 := Lib.cell_of_heap BX1_28.out 1
    simp at c_BX1_1
    have c_BG0_0 := Lib.cell_of_heap BG0_28.out 0
    simp at c_BG0_0
    have c_BG0_1 := Lib.cell_of_heap BG0_28.out 1
    simp at c_BG0_1
    go_wp2_with fail
    clear c_BA0_0 c_BA0_1 c_BA1_0 c_BA1_1 c_BW0_0 c_BW0_1 c_BX0_0 c_BX0_1 c_BX1_0 c_BX1_1 c_BG0_0 c_BG0_1
    refine (turnEnv_any (B := y1.heap.size) (T := z4.heap.size) _ _ _ _ XS1_28.out.s0 XS1_28.out.s1 HN1.out.l0 HN1.out.l1 (by have := SZ1.out; have := SZ2.out; have := SZ3.out; have := SZ4.out; have := SZ5.out; have := SZ6.out; have := SZ7.out; have := SZ8.out; have := SZ9.out; have := SZ10.out; have := SZ11.out; have := SZ12.out; have := BX1_28.out.lt; omega) (by have := SZ1.out; have := SZ2.out; have := SZ3.out; have := SZ4.out; have := SZ5.out; have := SZ6.out; have := SZ7.out; have := SZ8.out; have := SZ9.out; have := SZ10.out; have := SZ11.out; have := SZ12.out; have := BX1_28.out.lt; omega) (by omega) (by omega)).mono ?_
    rintro e z10 ⟨kx1, rfl, hka1, hkb1, ht1⟩
    have HB_29 : Hid (Below w.heap.size w z10) := HB_28.out.trans (ht1.bel.mono (by have := SZ1.out; have := SZ2.out; have := SZ3.out; have := SZ4.out; have := SZ5.out; have := SZ6.out; have := SZ7.out; have := SZ8.out; have := SZ9.out; have := SZ10.out; have := SZ11.out; have := SZ12.out; omega))
    clear HB_28
    have BA0_29 : Hid (Box z10 (w.heap.size) #[.slice a0_0 x0.names.length b0_0, .slice a0_1 x0.vals.length b0_1] 39) := (ht1.bel.block _ (by have := SZ1.out; have := SZ2.out; have := SZ3.out; have := SZ4.out; have := SZ5.out; have := SZ6.out; have := SZ7.out; have := SZ8.out; have := SZ9.out; have := SZ10.out; have := SZ11.out; have := SZ12.out; omega)).trans BA0_28.out
    clear BA0_28
    have BA1_29 : Hid (Box z10 (w.heap.size + 1) #[.slice a1_0 x1.names.length b1_0, .slice a1_1 x1.vals.length b1_1] 39) := (ht1.bel.block _ (by have := SZ1.out; have := SZ2.out; have := SZ3.out; have := SZ4.out; have := SZ5.out; have := SZ6.out; have := SZ7.out; have := SZ8.out; have := SZ9.out; have := SZ10.out; have := SZ11.out; have := SZ12.out; omega)).trans BA1_28.out
    clear BA1_28
    have BW0_29 : Hid (Box z10 bxw #[.slice pw0_0 (togE x0 x1).names.length qw0_0, .slice pw0_1 (togE x0 x1).vals.length qw0_1] 27) := (ht1.bel.block _ (by have := SZ1.out; have := SZ2.out; have := SZ3.out; have := SZ4.out; have := SZ5.out; have := SZ6.out; have := SZ7.out; have := SZ8.out; have := SZ9.out; have := SZ10.out; have := SZ11.out; have := SZ12.out; omega)).trans BW0_28.out
    clear BW0_28
    have WO0_29 : Hid (EvOwn B0w z10 (.slice pw0_0 (togE x0 x1).names.length qw0_0) (.slice pw0_1 (togE x0 x1).vals.length qw0_1) (togE x0 x1)) := WO0_28.out.low ht1.bel ⟨fun i hi => by have := WL0.out.1 i hi; have := SZ1.out; have := SZ2.out; have := SZ3.out; have := SZ4.out; have := SZ5.out; have := SZ6.out; have := SZ7.out; have := SZ8.out; have := SZ9.out; have := SZ10.out; have := SZ11.out; have := SZ12.out; omega, fun i hi => by have := WL0.out.2 i hi; have := SZ1.out; have := SZ2.out; have := SZ3.out; have := SZ4.out; have := SZ5.out; have := SZ6.out; have := SZ7.out; have := SZ8.out; have := SZ9.out; have := SZ10.out; have := SZ11.out; have := SZ12.out; omega⟩
    clear WO0_28
    have BX0_29 : Hid (Box z10 z3.heap.size #[.slice o1_0 k1_0 c1_0, .slice o1_1 k1_1 c1_1] 27) := (ht1.bel.block _ (by have := SZ1.out; have := SZ2.out; have := SZ3.out; have := SZ4.out; have := SZ5.out; have := SZ6.out; have := SZ7.out; have := SZ8.out; have := SZ9.out; have := SZ10.out; have := SZ11.out; have := SZ12.out; omega)).trans BX0_28.out
    clear BX0_28
    clear XS1_28
    have BX1_29 : Hid (Box z10 z4.heap.size #[.slice o2_0 k2_0 c2_0, .slice o2_1 k2_1 c2_1] 27) := (ht1.out _ (by have := SZ1.out; have := SZ2.out; have := SZ3.out; have := SZ4.out; have := SZ5.out; have := SZ6.out; have := SZ7.out; have := SZ8.out; have := SZ9.out; have := SZ10.out; have := SZ11.out; have := SZ12.out; omega) BX1_28.out.lt).trans BX1_28.out
    clear BX1_28
    have GO0_29 : Hid (EvOwn y2.heap.size z10 (.slice pg0_0 (togE x0 x1).names.length qg0_0) (.slice pg0_1 (togE x0 x1).vals.length qg0_1) (togE x0 x1)) := GO0_28.out.turn ht1 (by have := SZ1.out; have := SZ2.out; have := SZ3.out; have := SZ4.out; have := SZ5.out; have := SZ6.out; have := SZ7.out; have := SZ8.out; have := SZ9.out; have := SZ10.out; have := SZ11.out; have := SZ12.out; omega)
    clear GO0_28
    have BG0_29 : Hid (Box z10 z5.heap.size #[.slice pg0_0 (togE x0 x1).names.length qg0_0, .slice pg0_1 (togE x0 x1).vals.length qg0_1] 27) := (ht1.out _ (by have := SZ1.out; have := SZ2.out; have := SZ3.out; have := SZ4.out; have := SZ5.out; have := SZ6.out; have := SZ7.out; have := SZ8.out; have := SZ9.out; have := SZ10.out; have := SZ11.out; have := SZ12.out; omega) BG0_28.out.lt).trans BG0_28.out
    clear BG0_28
    clear ht1
    have hkn1 : ¬ kx1 < 0 := by omega
    have c_BA0_0 := Lib.cell_of_heap BA0_29.out 0
    simp at c_BA0_0
    have c_BA0_1 := Lib.cell_of_heap BA0_29.out 1
    simp at c_BA0_1
    have c_BA1_0 := Lib.cell_of_heap BA1_29.out 0
    simp at c_BA1_0
    have c_BA1_1 := Lib.cell_of_heap BA1_29.out 1
    simp at c_BA1_1
    have c_BW0_0 := Lib.cell_of_heap BW0_29.out 0
    simp at c_BW0_0
    have c_BW0_1 := Lib.cell_of_heap BW0_29.out 1
    simp at c_BW0_1
    have c_BX0_0 := Lib.cell_of_heap BX0_29.out 0
    simp at c_BX0_0
    have c_BX0_1 := Lib.cell_of_heap BX0_29.out 1
    simp at c_BX0_1
    have c_BX1_0 := Lib.cell_of_heap BX1_29.out 0
    simp at c_BX1_0
    have c_BX1_1 := Lib.cell_of_heap BX1_29.out 1
    simp at c_BX1_1
    have c_BG0_0 := Lib.cell_of_heap BG0_29.out 0
    simp at c_BG0_0
    have c_BG0_1 := Lib.cell_of_heap BG0_29.out 1
    simp at c_BG0_1
    go_wp2_with fail
    clear c_BA0_0 c_BA0_1 c_BA1_0 c_BA1_1 c_BW0_0 c_BW0_1 c_BX0_0 c_BX0_1 c_BX1_0 c_BX1_1 c_BG0_0 c_BG0_1
    refine (eqEnv_same (togE x0 x1) _ _ _ _ _ (GO0_29.out).at.a0 (WO0_29.out).at.a0 (GO0_29.out).at.a1 (WO0_29.out).at.a1 HL0.out.l0 HL0.out.l1).mono ?_
    rintro e z11 ⟨rfl, hbe30⟩
    have SZ13 : Hid (z10.heap.size ≤ z11.heap.size) := hbe30.size
    have HB_31 := hide (HB_29.out.trans (hbe30.mono HB_29.out.size))
    clear HB_29
    have BA0_31 := hide (BA0_29.out.stays hbe30)
    clear BA0_29
    have BA1_31 := hide (BA1_29.out.stays hbe30)
    clear BA1_29
    have BW0_31 := hide (BW0_29.out.stays hbe30)
    clear BW0_29
    have WO0_31 := hide (WO0_29.out.stays hbe30)
    clear WO0_29
    have BX0_31 := hide (BX0_29.out.stays hbe30)
    clear BX0_29
    have BX1_31 := hide (BX1_29.out.stays hbe30)
    clear BX1_29
    have GO0_31 := hide (GO0_29.out.stays hbe30)
    clear GO0_29
    have BG0_31 := hide (BG0_29.out.stays hbe30)
    clear BG0_29
    clear hbe30
    have c_BA0_0 := Lib.cell_of_heap BA0_31.out 0
    simp at c_BA0_0
    have c_BA0_1 := Lib.cell_of_heap BA0_31.out 1
    simp at c_BA0_1
    have c_BA1_0 := Lib.cell_of_heap BA1_31.out 0
    simp at c_BA1_0
    have c_BA1_1 := Lib.cell_of_heap BA1_31.out 1
    simp at c_BA1_1
    have c_BW0_0 := Lib.cell_of_heap BW0_31.out 0
    simp at c_BW0_0
    have c_BW0_1 := Lib.cell_of_heap BW0_31.out 1
    simp at c_BW0_1
    have c_BX0_0 := Lib.cell_of_heap BX0_31.out 0
    simp at c_BX0_0
    have c_BX0_1 := Lib.cell_of_heap BX0_31.out 1
    simp at c_BX0_1
    have c_BX1_0 := Lib.cell_of_heap BX1_31.out 0
    simp at c_BX1_0
    have c_BX1_1 := Lib.cell_of_heap BX1_31.out 1
    simp at c_BX1_1
    have c_BG0_0 := Lib.cell_of_heap BG0_31.out 0
    simp at c_BG0_0
    have c_BG0_1 := Lib.cell_of_heap BG0_31.out 1
    simp at c_BG0_1
    go_wp2_with fail
    clear c_BA0_0 c_BA0_1 c_BA1_0 c_BA1_1 c_BW0_0 c_BW0_1 c_BX0_0 c_BX0_1 c_BX1_0 c_BX1_1 c_BG0_0 c_BG0_1
    refine (markEnv_any _ _ (togE x0 x1) _ GO0_31.out _ rfl _ rfl (by have := SZ1.out; have := SZ2.out; have := SZ3.out; have := SZ4.out; have := SZ5.out; have := SZ6.out; have := SZ7.out; have := SZ8.out; have := SZ9.out; have := SZ10.out; have := SZ11.out; have := SZ12.out; have := SZ13.out; have := BG0_31.out.lt; omega) HL0.out.l0 HL0.out.l1).mono ?_
    rintro e z12 ⟨rfl, hhd, hbm, hot⟩
    have HB_32 : Hid (Below w.heap.size w z12) := HB_31.out.trans (hbm.mono (by have := SZ1.out; have := SZ2.out; have := SZ3.out; have := SZ4.out; have := SZ5.out; have := SZ6.out; have := SZ7.out; have := SZ8.out; have := SZ9.out; have := SZ10.out; have := SZ11.out; have := SZ12.out; have := SZ13.out; omega))
    clear HB_31
    have BA0_32 : Hid (Box z12 (w.heap.size) #[.slice a0_0 x0.names.length b0_0, .slice a0_1 x0.vals.length b0_1] 39) := (hbm.block _ (by have := SZ1.out; have := SZ2.out; have := SZ3.out; have := SZ4.out; have := SZ5.out; have := SZ6.out; have := SZ7.out; have := SZ8.out; have := SZ9.out; have := SZ10.out; have := SZ11.out; have := SZ12.out; have := SZ13.out; omega)).trans BA0_31.out
    clear BA0_31
    have BA1_32 : Hid (Box z12 (w.heap.size + 1) #[.slice a1_0 x1.names.length b1_0, .slice a1_1 x1.vals.length b1_1] 39) := (hbm.block _ (by have := SZ1.out; have := SZ2.out; have := SZ3.out; have := SZ4.out; have := SZ5.out; have := SZ6.out; have := SZ7.out; have := SZ8.out; have := SZ9.out; have := SZ10.out; have := SZ11.out; have := SZ12.out; have := SZ13.out; omega)).trans BA1_31.out
    clear BA1_31
    have BW0_32 : Hid (Box z12 bxw #[.slice pw0_0 (togE x0 x1).names.length qw0_0, .slice pw0_1 (togE x0 x1).vals.length qw0_1] 27) := (hbm.block _ (by have := SZ1.out; have := SZ2.out; have := SZ3.out; have := SZ4.out; have := SZ5.out; have := SZ6.out; have := SZ7.out; have := SZ8.out; have := SZ9.out; have := SZ10.out; have := SZ11.out; have := SZ12.out; have := SZ13.out; omega)).trans BW0_31.out
    clear BW0_31
    have WO0_32 : Hid (EvOwn B0w z12 (.slice pw0_0 (togE x0 x1).names.length qw0_0) (.slice pw0_1 (togE x0 x1).vals.length qw0_1) (togE x0 x1)) := WO0_31.out.low hbm ⟨fun i hi => by have := WL0.out.1 i hi; have := SZ1.out; have := SZ2.out; have := SZ3.out; have := SZ4.out; have := SZ5.out; have := SZ6.out; have := SZ7.out; have := SZ8.out; have := SZ9.out; have := SZ10.out; have := SZ11.out; have := SZ12.out; have := SZ13.out; omega, fun i hi => by have := WL0.out.2 i hi; have := SZ1.out; have := SZ2.out; have := SZ3.out; have := SZ4.out; have := SZ5.out; have := SZ6.out; have := SZ7.out; have := SZ8.out; have := SZ9.out; have := SZ10.out; have := SZ11.out; have := SZ12.out; have := SZ13.out; omega⟩
    clear WO0_31
    clear BX0_31
    clear BX1_31
    clear GO0_31
    have BG0_32 : Hid (Box z12 z5.heap.size #[.slice pg0_0 (togE x0 x1).names.length qg0_0, .slice pg0_1 (togE x0 x1).vals.length qg0_1] 27) := (hot _ BG0_31.out.lt (fun e => by have := GL0.out.1 _ e; omega) (fun e => by have := GL0.out.2 _ e; omega)).trans BG0_31.out
    clear BG0_31
    have GH_33 := hide (hhd)
    clear hbm hot hhd
    obtain ⟨tot, etot⟩ : ∃ tot : Int, ((1 + (togE x0 x1).names.length + (togE x0 x1).vals.length : Nat) : Int) = tot := ⟨_, rfl⟩
    have htot : ¬ tot < 0 := by omega
    have ETOT := hide etot
    rw [etot]
    clear etot
    have c_BA0_0 := Lib.cell_of_heap BA0_32.out 0
    simp at c_BA0_0
    have c_BA0_1 := Lib.cell_of_heap BA0_32.out 1
    simp at c_BA0_1
    have c_BA1_0 := Lib.cell_of_heap BA1_32.out 0
    simp at c_BA1_0
    have c_BA1_1 := Lib.cell_of_heap BA1_32.out 1
    simp at c_BA1_1
    have c_BW0_0 := Lib.cell_of_heap BW0_32.out 0
    simp at c_BW0_0
    have c_BW0_1 := Lib.cell_of_heap BW0_32.out 1
    simp at c_BW0_1
    have c_BG0_0 := Lib.cell_of_heap BG0_32.out 0
    simp at c_BG0_0
    have c_BG0_1 := Lib.cell_of_heap BG0_32.out 1
    simp at c_BG0_1
    go_wp2_with fail
    clear c_BA0_0 c_BA0_1 c_BA1_0 c_BA1_1 c_BW0_0 c_BW0_1 c_BG0_0 c_BG0_1
    refine (heldEnv_any _ _ _ _ _ GH_33.out HL0.out.l0 HL0.out.l1).mono ?_
    rintro e z13 ⟨rfl, hbh34⟩
    have HB_35 := hide (HB_32.out.trans (hbh34.mono HB_32.out.size))
    clear HB_32
    have BA0_35 := hide (BA0_32.out.stays hbh34)
    clear BA0_32
    have BA1_35 := hide (BA1_32.out.stays hbh34)
    clear BA1_32
    have BW0_35 := hide (BW0_32.out.stays hbh34)
    clear BW0_32
    have WO0_35 := hide (WO0_32.out.stays hbh34)
    clear WO0_32
    have BG0_35 := hide (BG0_32.out.stays hbh34)
    clear BG0_32
    have GH_35 := hide (GH_33.out.stays hbh34)
    clear GH_33
    clear hbh34
    rw [ETOT.out]
    have c_BA0_0 := Lib.cell_of_heap BA0_35.out 0
    simp at c_BA0_0
    have c_BA0_1 := Lib.cell_of_heap BA0_35.out 1
    simp at c_BA0_1
    have c_BA1_0 := Lib.cell_of_heap BA1_35.out 0
    simp at c_BA1_0
    have c_BA1_1 := Lib.cell_of_heap BA1_35.out 1
    simp at c_BA1_1
    have c_BW0_0 := Lib.cell_of_heap BW0_35.out 0
    simp at c_BW0_0
    have c_BW0_1 := Lib.cell_of_heap BW0_35.out 1
    simp at c_BW0_1
    have c_BG0_0 := Lib.cell_of_heap BG0_35.out 0
    simp at c_BG0_0
    have c_BG0_1 := Lib.cell_of_heap BG0_35.out 1
    simp at c_BG0_1
    go_wp2_with fail
    clear c_BA0_0 c_BA0_1 c_BA1_0 c_BA1_1 c_BW0_0 c_BW0_1 c_BG0_0 c_BG0_1
    have KT : Hid (∀ z : World, Below z13.heap.size z13 z → (Below w.heap.size w z ∧ Box z (w.heap.size) #[.slice a0_0 x0.names.length b0_0, .slice a0_1 x0.vals.length b0_1] 39 ∧ Box z (w.heap.size + 1) #[.slice a1_0 x1.names.length b1_0, .slice a1_1 x1.vals.length b1_1] 39 ∧ Box z bxw #[.slice pw0_0 (togE x0 x1).names.length qw0_0, .slice pw0_1 (togE x0 x1).vals.length qw0_1] 27 ∧ EvOwn B0w z (.slice pw0_0 (togE x0 x1).names.length qw0_0) (.slice pw0_1 (togE x0 x1).vals.length qw0_1) (togE x0 x1) ∧ Box z z5.heap.size #[.slice pg0_0 (togE x0 x1).names.length qg0_0, .slice pg0_1 (togE x0 x1).vals.length qg0_1] 27 ∧ EvHeld y2.heap.size z (.slice pg0_0 (togE x0 x1).names.length qg0_0) (.slice pg0_1 (togE x0 x1).vals.length qg0_1) (togE x0 x1).names.length (togE x0 x1).vals.length)) := fun z hb => ⟨HB_35.out.trans (hb.mono HB_35.out.size), BA0_35.out.stays hb, BA1_35.out.stays hb, BW0_35.out.stays hb, WO0_35.out.stays hb, BG0_35.out.stays hb, GH_35.out.stays hb⟩
    go_cut [13] from 75 (fun s z => ∃ B0 bx ph0_0 qh0_0 ph0_1 qh0_1, s = .pointer (some ⟨bx, 0, none⟩) ∧ Hid (Below z13.heap.size z13 z) ∧ Hid (Box z bx #[.slice ph0_0 (togE x0 x1).names.length qh0_0, .slice ph0_1 (togE x0 x1).vals.length qh0_1] 27) ∧ Hid (EvOwn B0 z (.slice ph0_0 (togE x0 x1).names.length qh0_0) (.slice ph0_1 (togE x0 x1).vals.length qh0_1) (togE x0 x1)) ∧ Hid (z13.heap.size ≤ B0 ∧ z13.heap.size ≤ bx))
    case first =>
      have KC : Hid (∀ z : World, Below z13.heap.size z13 z → (z.cell? ⟨(w.heap.size), 0, none⟩ = some (.slice a0_0 x0.names.length b0_0) ∧ z.cell? ⟨(w.heap.size), 1, none⟩ = some (.slice a0_1 x0.vals.length b0_1) ∧ z.cell? ⟨(w.heap.size + 1), 0, none⟩ = some (.slice a1_0 x1.names.length b1_0) ∧ z.cell? ⟨(w.heap.size + 1), 1, none⟩ = some (.slice a1_1 x1.vals.length b1_1) ∧ Hid (Below z13.heap.size z13 z))) := fun z hz => ⟨Lib.cell_of_heap (BA0_35.out.stays hz) 0, Lib.cell_of_heap (BA0_35.out.stays hz) 1, Lib.cell_of_heap (BA1_35.out.stays hz) 0, Lib.cell_of_heap (BA1_35.out.stays hz) 1, hz⟩
      have KV : Hid (∀ z : World, (z.cell? ⟨(w.heap.size), 0, none⟩ = some (.slice a0_0 x0.names.length b0_0) ∧ z.cell? ⟨(w.heap.size), 1, none⟩ = some (.slice a0_1 x0.vals.length b0_1) ∧ z.cell? ⟨(w.heap.size + 1), 0, none⟩ = some (.slice a1_0 x1.names.length b1_0) ∧ z.cell? ⟨(w.heap.size + 1), 1, none⟩ = some (.slice a1_1 x1.vals.length b1_1) ∧ Hid (Below z13.heap.size z13 z)) → Below z13.heap.size z13 z) := fun z hz => hz.2.2.2.2.out
      have KP : Hid (∀ z z' : World, (z.cell? ⟨(w.heap.size), 0, none⟩ = some (.slice a0_0 x0.names.length b0_0) ∧ z.cell? ⟨(w.heap.size), 1, none⟩ = some (.slice a0_1 x0.vals.length b0_1) ∧ z.cell? ⟨(w.heap.size + 1), 0, none⟩ = some (.slice a1_0 x1.names.length b1_0) ∧ z.cell? ⟨(w.heap.size + 1), 1, none⟩ = some (.slice a1_1 x1.vals.length b1_1) ∧ Hid (Below z13.heap.size z13 z)) → Below z.heap.size z z' → (z'.cell? ⟨(w.heap.size), 0, none⟩ = some (.slice a0_0 x0.names.length b0_0) ∧ z'.cell? ⟨(w.heap.size), 1, none⟩ = some (.slice a0_1 x0.vals.length b0_1) ∧ z'.cell? ⟨(w.heap.size + 1), 0, none⟩ = some (.slice a1_0 x1.names.length b1_0) ∧ z'.cell? ⟨(w.heap.size + 1), 1, none⟩ = some (.slice a1_1 x1.vals.length b1_1) ∧ Hid (Below z13.heap.size z13 z'))) := fun z z' hz hb => KC.out _ ((KV.out _ hz).trans (hb.mono (KV.out _ hz).size))
      have KA : Hid (∀ (z : World) (o : Obj), (z.cell? ⟨(w.heap.size), 0, none⟩ = some (.slice a0_0 x0.names.length b0_0) ∧ z.cell? ⟨(w.heap.size), 1, none⟩ = some (.slice a0_1 x0.vals.length b0_1) ∧ z.cell? ⟨(w.heap.size + 1), 0, none⟩ = some (.slice a1_0 x1.names.length b1_0) ∧ z.cell? ⟨(w.heap.size + 1), 1, none⟩ = some (.slice a1_1 x1.vals.length b1_1) ∧ Hid (Below z13.heap.size z13 z)) → ((z.alloc o).cell? ⟨(w.heap.size), 0, none⟩ = some (.slice a0_0 x0.names.length b0_0) ∧ (z.alloc o).cell? ⟨(w.heap.size), 1, none⟩ = some (.slice a0_1 x0.vals.length b0_1) ∧ (z.alloc o).cell? ⟨(w.heap.size + 1), 0, none⟩ = some (.slice a1_0 x1.names.length b1_0) ∧ (z.alloc o).cell? ⟨(w.heap.size + 1), 1, none⟩ = some (.slice a1_1 x1.vals.length b1_1) ∧ Hid (Below z13.heap.size z13 (z.alloc o)))) := fun z o hz => KP.out _ _ hz ((Below.refl _ _).alloc (Nat.le_refl _) _)
      have K0 := hide (KC.out _ (Below.refl z13.heap.size z13).drew)
      have KE0 : Hid (∀ z : World, (z.cell? ⟨(w.heap.size), 0, none⟩ = some (.slice a0_0 x0.names.length b0_0) ∧ z.cell? ⟨(w.heap.size), 1, none⟩ = some (.slice a0_1 x0.vals.length b0_1) ∧ z.cell? ⟨(w.heap.size + 1), 0, none⟩ = some (.slice a1_0 x1.names.length b1_0) ∧ z.cell? ⟨(w.heap.size + 1), 1, none⟩ = some (.slice a1_1 x1.vals.length b1_1) ∧ Hid (Below z13.heap.size z13 z)) → EvAt z (.slice a0_0 x0.names.length b0_0) (.slice a0_1 x0.vals.length b0_1) x0) := fun z hz => HW0.out.stays (HB_35.out.trans ((KV.out _ hz).mono HB_35.out.size))
      have KE1 : Hid (∀ z : World, (z.cell? ⟨(w.heap.size), 0, none⟩ = some (.slice a0_0 x0.names.length b0_0) ∧ z.cell? ⟨(w.heap.size), 1, none⟩ = some (.slice a0_1 x0.vals.length b0_1) ∧ z.cell? ⟨(w.heap.size + 1), 0, none⟩ = some (.slice a1_0 x1.names.length b1_0) ∧ z.cell? ⟨(w.heap.size + 1), 1, none⟩ = some (.slice a1_1 x1.vals.length b1_1) ∧ Hid (Below z13.heap.size z13 z)) → EvAt z (.slice a1_0 x1.names.length b1_0) (.slice a1_1 x1.vals.length b1_1) x1) := fun z hz => HW1.out.stays (HB_35.out.trans ((KV.out _ hz).mono HB_35.out.size))
      go_region_held3 (fun z => z.cell? ⟨(w.heap.size), 0, none⟩ = some (.slice a0_0 x0.names.length b0_0) ∧ z.cell? ⟨(w.heap.size), 1, none⟩ = some (.slice a0_1 x0.vals.length b0_1) ∧ z.cell? ⟨(w.heap.size + 1), 0, none⟩ = some (.slice a1_0 x1.names.length b1_0) ∧ z.cell? ⟨(w.heap.size + 1), 1, none⟩ = some (.slice a1_1 x1.vals.length b1_1) ∧ Hid (Below z13.heap.size z13 z)) (first | exact K0.out | exact KA.out _ _ (by assumption) | exact KP.out _ _ (by assumption) hb0_ | exact KP.out _ _ (by assumption) hb1_ | exact KP.out _ _ (by assumption) hb8_ | (with_reducible exact KC.out _ (HBq8.out.alloc HBq8.out.size _)) | (with_reducible exact KC.out _ ((HBq8.out.setCell (p := ⟨_, 0, none⟩) (by have := HBq0.out.size; have := HBq1.out.size; have := HBq8.out.size; dsimp only; first | omega | (simp; done) | (simp; omega)) _).setCell (p := ⟨_, 1, none⟩) (by have := HBq0.out.size; have := HBq1.out.size; have := HBq8.out.size; dsimp only; first | omega | (simp; done) | (simp; omega)) _)))
        (first
          | (go_at_call 20; with_reducible refine (toEnv_any x0 (.slice a0_0 x0.names.length b0_0) (.slice a0_1 x0.vals.length b0_1) _ (KE0.out _ (by assumption)).a0 (KE0.out _ (by assumption)).a1 HN0.out.l0 HN0.out.l1).mono ?_; rintro e w0_ ⟨oo0_0, kk0_0, cc0_0, oo0_1, kk0_1, cc0_1, rfl, hc0_, hb0_⟩; have HBq0 := hide ((KV.out _ (by assumption)).trans (hb0_.mono (KV.out _ (by assumption)).size)); (first | (with_reducible have bx0_ := box_alloc_below hb0_) | (with_reducible have bx0_ := box_alloc_drew hb0_) | skip))
          | (go_at_call 20; with_reducible refine (toEnv_any x1 (.slice a1_0 x1.names.length b1_0) (.slice a1_1 x1.vals.length b1_1) _ (KE1.out _ (by assumption)).a0 (KE1.out _ (by assumption)).a1 HN1.out.l0 HN1.out.l1).mono ?_; rintro e w1_ ⟨oo1_0, kk1_0, cc1_0, oo1_1, kk1_1, cc1_1, rfl, hc1_, hb1_⟩; have HBq1 := hide ((KV.out _ (by assumption)).trans (hb1_.mono (KV.out _ (by assumption)).size)); (first | (with_reducible have hd0_1 := hc0_.stays hb1_) | (with_reducible have hd0_1 := (hc0_.stays ((Below.refl _ _).alloc (Nat.le_refl _) _)).stays hb1_)); (first | (with_reducible have bx1_ := box_alloc_below hb1_) | (with_reducible have bx1_ := Box.stays bx0_ hb1_) | skip))
          | (go_at_call 11; refine (HPI1.out _ _ _ _ _ _ _ (by first | (with_reducible exact hd0_1) | (with_reducible exact hd0_1.stays ((Below.refl _ _).alloc (Nat.le_refl _) _))) (by first | (with_reducible exact hc1_) | (with_reducible exact hc1_.stays ((Below.refl _ _).alloc (Nat.le_refl _) _)))).mono ?_; rintro e w8_ ⟨r8_0, r8_1, rfl, ho8_, hb8_⟩; have HBq8 := hide ((KV.out _ (by assumption)).trans (hb8_.mono (KV.out _ (by assumption)).size)); obtain ⟨ph0_0, qh0_0, rfl⟩ := form_own ho8_.o0; obtain ⟨ph0_1, qh0_1, rfl⟩ := form_own ho8_.o1; (first | (with_reducible have bx8_ := box_alloc_below hb8_) | (with_reducible have bx8_ := Box.stays bx1_ hb8_) | skip); (first | (have y0 := Lib.cell_of_heap bx8_ 0; simp at y0; have f0 := Lib.frozen_of_heap bx8_ 0; have y1 := Lib.cell_of_heap bx8_ 1; simp at y1; have f1 := Lib.frozen_of_heap bx8_ 1) | skip)))
      all_goals (go_wp2_with fail; go_meet)
      all_goals (first
        | exact ⟨_, _, _, _, _, _, rfl, hide (HBq8.out.alloc HBq8.out.size _), hide (Box.made _ _ _), hide (ho8_.stays ((Below.refl _ _).alloc (Nat.le_refl _) _)), hide ⟨by have := HBq0.out.size; have := HBq1.out.size; have := HBq8.out.size; first | omega | (simp; done) | (simp; omega), by have := HBq0.out.size; have := HBq1.out.size; have := HBq8.out.size; first | omega | (simp; done) | (simp; omega)⟩⟩
        | exact ⟨_, _, _, _, _, _, rfl, hide ((HBq8.out.setCell (p := ⟨_, 0, none⟩) (by have := HBq0.out.size; have := HBq1.out.size; have := HBq8.out.size; dsimp only; first | omega | (simp; done) | (simp; omega)) _).setCell (p := ⟨_, 1, none⟩) (by have := HBq0.out.size; have := HBq1.out.size; have := HBq8.out.size; dsimp only; first | omega | (simp; done) | (simp; omega)) _), hide (by simpa using ((bx8_.set 0 _).set 1 _)), hide ((ho8_.boxed (i := 0) bx8_ (by decide) (by decide) _).boxed (i := 1) (bx8_.set 0 _) (by decide) (by decide) _), hide ⟨by have := HBq0.out.size; have := HBq1.out.size; have := HBq8.out.size; first | omega | (simp; done) | (simp; omega), by have := HBq0.out.size; have := HBq1.out.size; have := HBq8.out.size; first | omega | (simp; done) | (simp; omega)⟩⟩)
    case rest =>
      obtain ⟨B0h, bxh, ph0_0, qh0_0, ph0_1, qh0_1, rfl, HBc, BXc, OWc, ORc⟩ := hcut
      obtain ⟨f0, f1, f2, f3, f4, f5, f6⟩ := KT.out _ HBc.out
      have SZ14 : Hid (z13.heap.size ≤ wc.heap.size) := HBc.out.size
      have SZ15 : Hid (z13.heap.size ≤ B0h ∧ z13.heap.size ≤ bxh ∧ bxh < wc.heap.size) := ⟨ORc.out.1, ORc.out.2, BXc.out.lt⟩
      obtain ⟨wch, ewc⟩ : ∃ z, wc = z := ⟨_, rfl⟩
      subst ewc
      have HB_37 := hide f0
      clear HB_35
      have BA0_37 := hide f1
      clear BA0_35
      have BA1_37 := hide f2
      clear BA1_35
      have BW0_37 := hide f3
      clear BW0_35
      have WO0_37 := hide f4
      clear WO0_35
      have BG0_37 := hide f5
      clear BG0_35
      have GH_37 := hide f6
      clear GH_35
      clear KT HBc f0 f1 f2 f3 f4 f5 f6
      have BH0_38 := hide (BXc.out)
      have HO0_39 := hide (OWc.out)
      clear BXc OWc ORc
      have c_BA0_0 := Lib.cell_of_heap BA0_37.out 0
      simp at c_BA0_0
      have c_BA0_1 := Lib.cell_of_heap BA0_37.out 1
      simp at c_BA0_1
      have c_BA1_0 := Lib.cell_of_heap BA1_37.out 0
      simp at c_BA1_0
      have c_BA1_1 := Lib.cell_of_heap BA1_37.out 1
      simp at c_BA1_1
      have c_BW0_0 := Lib.cell_of_heap BW0_37.out 0
      simp at c_BW0_0
      have c_BW0_1 := Lib.cell_of_heap BW0_37.out 1
      simp at c_BW0_1
      have c_BG0_0 := Lib.cell_of_heap BG0_37.out 0
      simp at c_BG0_0
      have c_BG0_1 := Lib.cell_of_heap BG0_37.out 1
      simp at c_BG0_1
      have c_BH0_0 := Lib.cell_of_heap BH0_38.out 0
      simp at c_BH0_0
      have c_BH0_1 := Lib.cell_of_heap BH0_38.out 1
      simp at c_BH0_1
      go_wp2_with fail
      clear c_BA0_0 c_BA0_1 c_BA1_0 c_BA1_1 c_BW0_0 c_BW0_1 c_BG0_0 c_BG0_1 c_BH0_0 c_BH0_1
      refine (eqEnv_same (togE x0 x1) _ _ _ _ _ (HO0_39.out).at.a0 (WO0_37.out).at.a0 (HO0_39.out).at.a1 (WO0_37.out).at.a1 HL0.out.l0 HL0.out.l1).mono ?_
      rintro e z14 ⟨rfl, hbe40⟩
      have SZ16 : Hid (wc.heap.size ≤ z14.heap.size) := hbe40.size
      have HB_41 := hide (HB_37.out.trans (hbe40.mono HB_37.out.size))
      clear HB_37
      have BA0_41 := hide (BA0_37.out.stays hbe40)
      clear BA0_37
      have BA1_41 := hide (BA1_37.out.stays hbe40)
      clear BA1_37
      have BW0_41 := hide (BW0_37.out.stays hbe40)
      clear BW0_37
      have WO0_41 := hide (WO0_37.out.stays hbe40)
      clear WO0_37
      have BG0_41 := hide (BG0_37.out.stays hbe40)
      clear BG0_37
      have GH_41 := hide (GH_37.out.stays hbe40)
      clear GH_37
      have BH0_41 := hide (BH0_38.out.stays hbe40)
      clear BH0_38
      have HO0_41 := hide (HO0_39.out.stays hbe40)
      clear HO0_39
      clear hbe40
      have c_BA0_0 := Lib.cell_of_heap BA0_41.out 0
      simp at c_BA0_0
      have c_BA0_1 := Lib.cell_of_heap BA0_41.out 1
      simp at c_BA0_1
      have c_BA1_0 := Lib.cell_of_heap BA1_41.out 0
      simp at c_BA1_0
      have c_BA1_1 := Lib.cell_of_heap BA1_41.out 1
      simp at c_BA1_1
      have c_BW0_0 := Lib.cell_of_heap BW0_41.out 0
      simp at c_BW0_0
      have c_BW0_1 := Lib.cell_of_heap BW0_41.out 1
      simp at c_BW0_1
      have c_BG0_0 := Lib.cell_of_heap BG0_41.out 0
      simp at c_BG0_0
      have c_BG0_1 := Lib.cell_of_heap BG0_41.out 1
      simp at c_BG0_1
      have c_BH0_0 := Lib.cell_of_heap BH0_41.out 0
      simp at c_BH0_0
      have c_BH0_1 := Lib.cell_of_heap BH0_41.out 1
      simp at c_BH0_1
      clear c_BA0_0 c_BA0_1 c_BA1_0 c_BA1_1 c_BW0_0 c_BW0_1 c_BG0_0 c_BG0_1 c_BH0_0 c_BH0_1
      have c_BA0_0 := Lib.cell_of_heap BA0_41.out 0
      simp at c_BA0_0
      have c_BA0_1 := Lib.cell_of_heap BA0_41.out 1
      simp at c_BA0_1
      have c_BA1_0 := Lib.cell_of_heap BA1_41.out 0
      simp at c_BA1_0
      have c_BA1_1 := Lib.cell_of_heap BA1_41.out 1
      simp at c_BA1_1
      have c_BW0_0 := Lib.cell_of_heap BW0_41.out 0
      simp at c_BW0_0
      have c_BW0_1 := Lib.cell_of_heap BW0_41.out 1
      simp at c_BW0_1
      have c_BG0_0 := Lib.cell_of_heap BG0_41.out 0
      simp at c_BG0_0
      have c_BG0_1 := Lib.cell_of_heap BG0_41.out 1
      simp at c_BG0_1
      have c_BH0_0 := Lib.cell_of_heap BH0_41.out 0
      simp at c_BH0_0
      have c_BH0_1 := Lib.cell_of_heap BH0_41.out 1
      simp at c_BH0_1
      go_wp2_with fail
      clear c_BA0_0 c_BA0_1 c_BA1_0 c_BA1_1 c_BW0_0 c_BW0_1 c_BG0_0 c_BG0_1 c_BH0_0 c_BH0_1
      refine (heldEnv_any _ _ _ _ _ GH_41.out HL0.out.l0 HL0.out.l1).mono ?_
      rintro e z15 ⟨rfl, hbh42⟩
      have HB_43 := hide (HB_41.out.trans (hbh42.mono HB_41.out.size))
      clear HB_41
      have BA0_43 := hide (BA0_41.out.stays hbh42)
      clear BA0_41
      have BA1_43 := hide (BA1_41.out.stays hbh42)
      clear BA1_41
      have BW0_43 := hide (BW0_41.out.stays hbh42)
      clear BW0_41
      have WO0_43 := hide (WO0_41.out.stays hbh42)
      clear WO0_41
      have BG0_43 := hide (BG0_41.out.stays hbh42)
      clear BG0_41
      have GH_43 := hide (GH_41.out.stays hbh42)
      clear GH_41
      have BH0_43 := hide (BH0_41.out.stays hbh42)
      clear BH0_41
      have HO0_43 := hide (HO0_41.out.stays hbh42)
      clear HO0_41
      clear hbh42
      rw [ETOT.out]
      go_wp2
      go_ret
      exact ⟨rfl, HB_43.out⟩
end Go.Proofs.Ytbghdbclckanjaa
