/-
  Walk: one word after the other, by the program (StepCore): where no word is done.
-/
import Derived.Test.YtmchgmpdhfefjaaWkJ
import Derived.Test.YtmchgmpdhfefjaaGatK
namespace Go.Proofs.Ytmchgmpdhfefjaa
open Go.RowKit

theorem stepE_none {x : Co} {text mem : List Int} (h : wordB text x.pc = false ∨ coreOkB x = false) : stepE x text mem = (x, mem, 4) := by
  unfold stepE
  rw [if_neg]
  rintro ⟨h1, h2, h3⟩
  rcases h with h | h
  · unfold wordB at h
    rw [h2, h3] at h
    cases h
  · rw [h1] at h
    cases h

set_option maxRecDepth 100000 in
set_option maxHeartbeats 8000000 in
theorem implStepCore_none (v tv mv : Value) (x : Co) (text mem : List Int) (w : World) (h : CoAt w v x) (hl : CoLen x) (ht : IntsAt w tv text) (htl : text.length ≤ 1048576) (hm : IntsAt w mv mem) (hml : mem.length ≤ 1048576) (hno : wordB text x.pc = false ∨ coreOkB x = false) :
    Calls Try.prog 7 #[.agg #[v, .int .i64 x.pc, .int .i64 x.process], tv, mv] w fun e w' => ∃ r m, e = .returned (.tuple #[.agg #[r, .int .i64 x.pc, .int .i64 x.process], m, .int .i64 4]) ∧ CoOwn w.heap.size w' r x ∧ RiOwn w.heap.size w' m ⟨mem⟩ ∧ (∀ i, r.ownBlock = some i → m.ownBlock ≠ some i) ∧ Below w.heap.size w w' := by
  obtain ⟨W0, hW⟩ : ∃ W0, (w.alloc (.cells #[v, .int .i64 x.pc, .int .i64 x.process] 26)).alloc (.cells #[.slice none 0 0, .int .i64 0, .int .i64 0] 26) = W0 := ⟨_, rfl⟩
  have D0 : Hid (OkD w #[v, .int .i64 x.pc, .int .i64 x.process] 26 W0) := by
    rw [← hW]
    exact hide ⟨(Box.made _ _ _).stays ((Below.refl _ _).alloc (Nat.le_refl _) _), ⟨_, _, _, Box.madeAt (by simp) _ _⟩, by go_grown⟩
  have HW := hide hW
  clear hW
  have CWD := fun z (h : Below w.heap.size w z) => hide (implWordAt_any tv text x.pc z (ht.stays h) htl)
  have COK := fun z (hb : Below w.heap.size w z) => hide (implCoreOk_any v x z (h.stays hb) hl)
  have CCP := fun z (hb : Below w.heap.size w z) => hide (implCopied_any v x z (h.stays hb) hl)
  have CCL := fun z (hb : Below w.heap.size w z) => hide (cloneI_own mv mem z (hm.stays hb) hml)
  have EX := hide (show x = ⟨x.regs, x.pc, x.process⟩ from rfl)
  obtain ⟨vo, vc, rfl, _⟩ := h.a0
  obtain ⟨o1, c1, rfl, _⟩ := ht
  obtain ⟨o2, c2, rfl, _⟩ := hm
  clear h hl htl hml
  generalize (wordI text x.pc).op = p0 at *
  generalize (wordI text x.pc).a = p1 at *
  generalize (wordI text x.pc).b = p2 at *
  generalize (wordI text x.pc).c = p3 at *
  obtain ⟨tn, etn⟩ : ∃ n, text.length = n := ⟨_, rfl⟩
  obtain ⟨mn, emn⟩ : ∃ n, mem.length = n := ⟨_, rfl⟩
  obtain ⟨xn, exn⟩ : ∃ n, x.regs.length = n := ⟨_, rfl⟩
  have EMN := hide emn
  have EXN := hide exn
  simp only [etn] at CWD
  simp only [emn] at CCL
  simp only [exn] at COK CCP D0 HW
  rw [etn, emn, exn]
  clear etn emn exn
  obtain ⟨B1, eB1⟩ : ∃ B, wordB text x.pc = B := ⟨_, rfl⟩
  obtain ⟨B2, eB2⟩ : ∃ B, coreOkB x = B := ⟨_, rfl⟩
  simp only [eB1] at CWD
  simp only [eB2] at COK
  rw [eB1, eB2] at hno
  clear eB1 eB2
  have a0 := Lib.cell_of_heap D0.out.bA 1
  simp at a0
  go_enter Try.func7, Try.ntmps7
  go_upto_region 1 with fail
  rw [HW.out]
  clear HW
  go_wp2_with fail
  refine (unhide (CWD _ D0.out.bel)).mono ?_
  rintro e z1 ⟨rfl, hb1⟩
  have D1 := hide ((D0.out.stays hb1).stays ((Below.refl _ _).alloc (Nat.le_refl _) (.cells #[.int .i64 p0, .int .i64 p1, .int .i64 p2, .int .i64 p3] 34)))
  clear hb1 a0 D0 CWD
  obtain ⟨z2, h2⟩ : ∃ z2, z1.alloc (.cells #[.int .i64 p0, .int .i64 p1, .int .i64 p2, .int .i64 p3] 34) = z2 := ⟨_, rfl⟩
  obtain ⟨I, hI⟩ : ∃ I, z1.heap.size = I := ⟨_, rfl⟩
  rw [h2] at D1
  have H2 := hide h2
  have HI := hide hI
  clear h2 hI
  go_upto_region 2 with fail
  rw [H2.out, HI.out]
  clear H2 HI
  have y0 := Lib.cell_of_heap D1.out.bA 0
  have y1 := Lib.cell_of_heap D1.out.bA 1
  have y2 := Lib.cell_of_heap D1.out.bA 2
  simp at y0 y1 y2
  cases B1 with
  | false =>
    clear COK hno
    go_wp2_with fail
    have D2 := D1
    clear D1
    refine (unhide (CCP _ D2.out.bel)).mono ?_
    rintro e z3 ⟨r, rfl, hr, hb3⟩
    have hr9 := hr.o0
    rw [EXN.out] at hr9
    obtain ⟨ro, rc, rfl⟩ := form_own hr9
    have D3 := hide (D2.out.stays hb3)
    obtain ⟨_, _, _, hl2⟩ := D2.out.bR
    have hlt2 := hl2.lt
    have HR9 := hide hr9
    clear hb3 hr hr9 hl2 D2 y0 y1 y2
    go_wp2_with fail
    refine (unhide (CCL _ D3.out.bel)).mono ?_
    rintro e z4 ⟨m, rfl, hm9, hb4⟩
    obtain ⟨mo, mc, rfl⟩ := form_own hm9
    have D4 := hide (D3.out.stays hb4)
    obtain ⟨_, _, _, hl3⟩ := D3.out.bR
    have hlt3 := hl3.lt
    obtain ⟨W, eW, hB, hO, hk⟩ := D4.out.put (.slice ro xn rc) (.int .i64 x.pc) (.int .i64 x.process)
    have OW := hide (owns_lo (owns_eq HR9.out fun k hk9 => (hk k (by have := (HR9.out.lt k hk9).1; omega)).trans (hb4.block k (HR9.out.lt k hk9).2)) (show w.heap.size ≤ _ by omega))
    have OM := hide (owns_lo (owns_eq hm9 fun k hk9 => hk k (by have := (hm9.lt k hk9).1; omega)) (show w.heap.size ≤ _ by omega))
    have HAP : Hid (∀ i, (Value.slice ro xn rc).ownBlock = some i → (Value.slice mo mn mc).ownBlock ≠ some i) := hide fun i h1 h2 => by
      have q1 := (HR9.out.lt i h1).2
      have q2 := (hm9.lt i h2).1
      omega
    have EW := hide eW
    have HB := hide hB
    have HO := hide hO
    obtain ⟨ra, rb, rd, hrr⟩ := D4.out.bR
    have u0 := Lib.cell_of_heap hrr 0
    have u1 := Lib.cell_of_heap hrr 1
    have u2 := Lib.cell_of_heap hrr 2
    simp at u0 u1 u2
    have f0 := Lib.frozen_of_heap hrr 0
    have f1 := Lib.frozen_of_heap hrr 1
    have f2 := Lib.frozen_of_heap hrr 2
    clear eW hB hO hk hlt2 hlt3 hl3 hb4 hm9 HR9 D3 D4 hrr CCL CCP
    go_wp2
    rw [EW.out]
    refine box_retVV (g := w.heap.size + 1) (t := 26) rfl rfl HB.out _ Try.underlying26 rfl (by kernel_rfl) rfl ⟨_, _, rfl, ⟨?_⟩, ⟨?_⟩, HAP.out, HO.out.bel⟩
    · have := OW.out
      rw [← EXN.out] at this ⊢
      exact this
    · have := OM.out
      rw [← EMN.out] at this ⊢
      exact this
  | true =>
    obtain rfl : B2 = false := by rcases hno with h | h; cases h; exact h
    clear hno
    go_wp2_with fail
    refine (unhide (COK _ D1.out.bel)).mono ?_
    rintro e z2b ⟨rfl, hb2⟩
    have D2 := hide (D1.out.stays hb2)
    clear D1 hb2 COK y0 y1 y2
    have y0 := Lib.cell_of_heap D2.out.bA 0
    have y1 := Lib.cell_of_heap D2.out.bA 1
    have y2 := Lib.cell_of_heap D2.out.bA 2
    simp at y0 y1 y2
    go_wp2_with fail
    refine (unhide (CCP _ D2.out.bel)).mono ?_
    rintro e z3 ⟨r, rfl, hr, hb3⟩
    have hr9 := hr.o0
    rw [EXN.out] at hr9
    obtain ⟨ro, rc, rfl⟩ := form_own hr9
    have D3 := hide (D2.out.stays hb3)
    obtain ⟨_, _, _, hl2⟩ := D2.out.bR
    have hlt2 := hl2.lt
    have HR9 := hide hr9
    clear hb3 hr hr9 hl2 D2 y0 y1 y2
    go_wp2_with fail
    refine (unhide (CCL _ D3.out.bel)).mono ?_
    rintro e z4 ⟨m, rfl, hm9, hb4⟩
    obtain ⟨mo, mc, rfl⟩ := form_own hm9
    have D4 := hide (D3.out.stays hb4)
    obtain ⟨_, _, _, hl3⟩ := D3.out.bR
    have hlt3 := hl3.lt
    obtain ⟨W, eW, hB, hO, hk⟩ := D4.out.put (.slice ro xn rc) (.int .i64 x.pc) (.int .i64 x.process)
    have OW := hide (owns_lo (owns_eq HR9.out fun k hk9 => (hk k (by have := (HR9.out.lt k hk9).1; omega)).trans (hb4.block k (HR9.out.lt k hk9).2)) (show w.heap.size ≤ _ by omega))
    have OM := hide (owns_lo (owns_eq hm9 fun k hk9 => hk k (by have := (hm9.lt k hk9).1; omega)) (show w.heap.size ≤ _ by omega))
    have HAP : Hid (∀ i, (Value.slice ro xn rc).ownBlock = some i → (Value.slice mo mn mc).ownBlock ≠ some i) := hide fun i h1 h2 => by
      have q1 := (HR9.out.lt i h1).2
      have q2 := (hm9.lt i h2).1
      omega
    have EW := hide eW
    have HB := hide hB
    have HO := hide hO
    obtain ⟨ra, rb, rd, hrr⟩ := D4.out.bR
    have u0 := Lib.cell_of_heap hrr 0
    have u1 := Lib.cell_of_heap hrr 1
    have u2 := Lib.cell_of_heap hrr 2
    simp at u0 u1 u2
    have f0 := Lib.frozen_of_heap hrr 0
    have f1 := Lib.frozen_of_heap hrr 1
    have f2 := Lib.frozen_of_heap hrr 2
    clear eW hB hO hk hlt2 hlt3 hl3 hb4 hm9 HR9 D3 D4 hrr CCL CCP
    go_wp2
    rw [EW.out]
    refine box_retVV (g := w.heap.size + 1) (t := 26) rfl rfl HB.out _ Try.underlying26 rfl (by kernel_rfl) rfl ⟨_, _, rfl, ⟨?_⟩, ⟨?_⟩, HAP.out, HO.out.bel⟩
    · have := OW.out
      rw [← EXN.out] at this ⊢
      exact this
    · have := OM.out
      rw [← EMN.out] at this ⊢
      exact this
end Go.Proofs.Ytmchgmpdhfefjaa
