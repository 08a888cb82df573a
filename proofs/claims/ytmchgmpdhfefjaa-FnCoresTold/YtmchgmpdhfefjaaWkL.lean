/-
  Walk: one word after the other, by the program (StepCore): where a word is done.
-/
import Derived.Test.YtmchgmpdhfefjaaWkK
import Derived.Deep.CutRange
namespace Go.Proofs.Ytmchgmpdhfefjaa
open Go.RowKit

theorem wordI_right {xs : List Int} {pc : Int} (h : wordB xs pc = true) : (1 ≤ (wordI xs pc).op ∧ (wordI xs pc).op ≤ 10) ∧ (0 ≤ (wordI xs pc).a ∧ (wordI xs pc).a ≤ 7) ∧ (0 ≤ (wordI xs pc).b ∧ (wordI xs pc).b ≤ 7) ∧ 0 ≤ (wordI xs pc).c ∧ (0 ≤ pc ∧ pc < xs.length) := by
  unfold wordB at h
  rw [Bool.and_eq_true] at h
  obtain ⟨h1, h2⟩ := h
  unfold wordI
  rw [if_pos h1]
  have h3 := inZ_yes.1 h1
  have e : decE (xs.getD pc.toNat 0) = ⟨decOp (xs.getD pc.toNat 0), decA (xs.getD pc.toNat 0), decBb (xs.getD pc.toNat 0), decC (xs.getD pc.toNat 0)⟩ := by rw [decE, if_pos h2]
  rw [e]
  unfold decB at h2
  rw [Bool.and_eq_true] at h2
  have h4 := insB_in h2.2
  exact ⟨h4.1, h4.2.1, h4.2.2.1, h4.2.2.2.1, by omega⟩
theorem stepE_some {x : Co} {text mem : List Int} (hw : wordB text x.pc = true) (hc : coreOkB x = true) : stepE x text mem = doE x (wordI text x.pc) mem := by
  have h := wordI_right hw
  rw [doE_eq x _ mem h.1.1 h.1.2 h.2.2.2.1]
  unfold wordB at hw
  rw [Bool.and_eq_true] at hw
  unfold stepE wordI
  rw [if_pos ⟨hc, hw⟩, if_pos hw.1]
theorem coreOk_len {x : Co} (h : coreOkB x = true) : x.regs.length = 8 := by
  unfold coreOkB at h
  simp at h
  exact h.2.1.1
/-- Behind a word: the result's box, the worker's. -/
structure EdZ (w : World) (G : Nat) (mv : Value) (xs : List Int) (p q : Int) (mem : List Int) (z : World) : Prop where
  wk : WkZ (w.heap.size + 2) G mv xs p q mem z
  bR : ∃ a b d, Box z (w.heap.size + 1) #[a, b, d] 26
  bel : Below w.heap.size w z
theorem EdZ.stays {w : World} {G : Nat} {mv : Value} {xs : List Int} {p q : Int} {mem : List Int} {z z' : World} (h : EdZ w G mv xs p q mem z) (hb : Below z.heap.size z z') : EdZ w G mv xs p q mem z' := by
  obtain ⟨a, b, d, hr⟩ := h.bR
  exact ⟨h.wk.stays hb, ⟨a, b, d, hr.stays hb⟩, h.bel.trans (hb.mono h.bel.size)⟩
theorem EdZ.put {w : World} {G : Nat} {mv : Value} {xs : List Int} {p q : Int} {mem : List Int} {z : World} (h : EdZ w G mv xs p q mem z) (u0 u1 u2 : Value) : ∃ W, (((z.setCell ⟨w.heap.size + 1, 0, none⟩ u0).setCell ⟨w.heap.size + 1, 1, none⟩ u1).setCell ⟨w.heap.size + 1, 2, none⟩ u2) = W ∧ Box W (w.heap.size + 1) #[u0, u1, u2] 26 ∧ EdZ w G mv xs p q mem W ∧ (∀ k, k ≠ w.heap.size + 1 → W.heap[k]? = z.heap[k]?) := by
  obtain ⟨a, b, d, hr⟩ := h.bR
  have hB : Box (((z.setCell ⟨w.heap.size + 1, 0, none⟩ u0).setCell ⟨w.heap.size + 1, 1, none⟩ u1).setCell ⟨w.heap.size + 1, 2, none⟩ u2) (w.heap.size + 1) #[u0, u1, u2] 26 := by simpa using ((hr.set 0 u0).set 1 u1).set 2 u2
  have hk : ∀ k, k ≠ w.heap.size + 1 → (((z.setCell ⟨w.heap.size + 1, 0, none⟩ u0).setCell ⟨w.heap.size + 1, 1, none⟩ u1).setCell ⟨w.heap.size + 1, 2, none⟩ u2).heap[k]? = z.heap[k]? := fun k hk =>
    (Below.heap_setCell _ ⟨w.heap.size + 1, 2, none⟩ _ k hk).trans ((Below.heap_setCell _ ⟨w.heap.size + 1, 1, none⟩ _ k hk).trans (Below.heap_setCell _ ⟨w.heap.size + 1, 0, none⟩ _ k hk))
  have hG := h.wk.hB
  exact ⟨_, rfl, hB, ⟨⟨(hk _ (by omega)).trans h.wk.bO, owns_eq h.wk.mo fun k hk9 => hk k (by have := (h.wk.mo.lt k hk9).1; omega), hG⟩, ⟨_, _, _, hB⟩, ((h.bel.setCell (p := ⟨w.heap.size + 1, 0, none⟩) (by show w.heap.size ≤ w.heap.size + 1; omega) u0).setCell (p := ⟨w.heap.size + 1, 1, none⟩) (by show w.heap.size ≤ w.heap.size + 1; omega) u1).setCell (p := ⟨w.heap.size + 1, 2, none⟩) (by show w.heap.size ≤ w.heap.size + 1; omega) u2⟩, hk⟩
/-- Ahead of a word: what came in, the result's box, the word's, the state's. -/
structure StD (w : World) (A : Array Value) (I : Nat) (cs : Array Value) (S : Nat) (ss : Array Value) (z : World) : Prop where
  d : OkD w A 26 z
  bI : Box z I cs 34
  bS : Box z S ss 57
theorem StD.stays {w : World} {A : Array Value} {I : Nat} {cs : Array Value} {S : Nat} {ss : Array Value} {z z' : World} (h : StD w A I cs S ss z) (hb : Below z.heap.size z z') : StD w A I cs S ss z' := ⟨h.d.stays hb, h.bI.stays hb, h.bS.stays hb⟩

/-- A worker that was made, ahead of its word. -/
structure EwZ (w : World) (I : Nat) (cs : Array Value) (G : Nat) (mv : Value) (xs : List Int) (p q : Int) (mem : List Int) (z : World) : Prop where
  ed : EdZ w G mv xs p q mem z
  bI : Box z I cs 34
theorem EwZ.mk1 {w : World} {A cs ss : Array Value} {I S b n c : Nat} {o : Option Addr} {r0 r1 r2 r3 r4 r5 r6 r7 p q : Int} {mem : List Int} {z : World} (h : StD w A I cs S ss z) (hn : mem.length = n) (hm : z.ownsRow b 3 1 (.slice o n c) n (mem.map I64)) (hb : w.heap.size + 2 ≤ b) :
    EwZ w I cs z.heap.size (.slice o n c) [r0, r1, r2, r3, r4, r5, r6, r7] p q mem (z.alloc (.cells #[.int .i64 r0, .int .i64 r1, .int .i64 r2, .int .i64 r3, .int .i64 r4, .int .i64 r5, .int .i64 r6, .int .i64 r7, .int .i64 p, .int .i64 q, (.slice o n c)] 61)) := by
  subst hn
  have hal : Below z.heap.size z (z.alloc (.cells #[.int .i64 r0, .int .i64 r1, .int .i64 r2, .int .i64 r3, .int .i64 r4, .int .i64 r5, .int .i64 r6, .int .i64 r7, .int .i64 p, .int .i64 q, (.slice o mem.length c)] 61)) := (Below.refl _ _).alloc (Nat.le_refl _) _
  have h2 := h.d.stays hal
  obtain ⟨_, _, _, hr⟩ := h.d.bR
  have := hr.lt
  exact ⟨⟨⟨Box.made _ _ _, owns_eq (owns_lo hm hb) fun k hk => hal.block k (hm.lt k hk).2, by omega⟩, h2.bR, h2.bel⟩, h.bI.stays hal⟩
theorem EwZ.mk2 {w : World} {A cs ss : Array Value} {I S b g n c : Nat} {o : Option Addr} {r0 r1 r2 r3 r4 r5 r6 r7 p q : Int} {mem : List Int} {z : World} (h : StD w A I cs S ss z) (hn : mem.length = n) (hm : z.ownsRow b 3 1 (.slice o n c) n (mem.map I64)) (hb : w.heap.size + 2 ≤ b) {c0 c1 c2 c3 c4 c5 c6 c7 c8 c9 c10 : Value}
    (hG : Box z g #[c0, c1, c2, c3, c4, c5, c6, c7, c8, c9, c10] 61) (hg : w.heap.size + 2 ≤ g) (hI : I ≠ g) :
    EwZ w I cs g (.slice o n c) [r0, r1, r2, r3, r4, r5, r6, r7] p q mem (((((((((((z.setCell ⟨g, 0, none⟩ (.int .i64 r0)).setCell ⟨g, 1, none⟩ (.int .i64 r1)).setCell ⟨g, 2, none⟩ (.int .i64 r2)).setCell ⟨g, 3, none⟩ (.int .i64 r3)).setCell ⟨g, 4, none⟩ (.int .i64 r4)).setCell ⟨g, 5, none⟩ (.int .i64 r5)).setCell ⟨g, 6, none⟩ (.int .i64 r6)).setCell ⟨g, 7, none⟩ (.int .i64 r7)).setCell ⟨g, 8, none⟩ (.int .i64 p)).setCell ⟨g, 9, none⟩ (.int .i64 q)).setCell ⟨g, 10, none⟩ (.slice o n c)) := by
  subst hn
  have hk : ∀ k, k ≠ g → ((((((((((((z.setCell ⟨g, 0, none⟩ (.int .i64 r0)).setCell ⟨g, 1, none⟩ (.int .i64 r1)).setCell ⟨g, 2, none⟩ (.int .i64 r2)).setCell ⟨g, 3, none⟩ (.int .i64 r3)).setCell ⟨g, 4, none⟩ (.int .i64 r4)).setCell ⟨g, 5, none⟩ (.int .i64 r5)).setCell ⟨g, 6, none⟩ (.int .i64 r6)).setCell ⟨g, 7, none⟩ (.int .i64 r7)).setCell ⟨g, 8, none⟩ (.int .i64 p)).setCell ⟨g, 9, none⟩ (.int .i64 q)).setCell ⟨g, 10, none⟩ (.slice o mem.length c))).heap[k]? = z.heap[k]? := fun k hk => ((Below.heap_setCell _ ⟨g, 10, none⟩ _ k hk).trans ((Below.heap_setCell _ ⟨g, 9, none⟩ _ k hk).trans ((Below.heap_setCell _ ⟨g, 8, none⟩ _ k hk).trans ((Below.heap_setCell _ ⟨g, 7, none⟩ _ k hk).trans ((Below.heap_setCell _ ⟨g, 6, none⟩ _ k hk).trans ((Below.heap_setCell _ ⟨g, 5, none⟩ _ k hk).trans ((Below.heap_setCell _ ⟨g, 4, none⟩ _ k hk).trans ((Below.heap_setCell _ ⟨g, 3, none⟩ _ k hk).trans ((Below.heap_setCell _ ⟨g, 2, none⟩ _ k hk).trans ((Below.heap_setCell _ ⟨g, 1, none⟩ _ k hk).trans (Below.heap_setCell _ ⟨g, 0, none⟩ _ k hk)))))))))))
  have hB : Box ((((((((((((z.setCell ⟨g, 0, none⟩ (.int .i64 r0)).setCell ⟨g, 1, none⟩ (.int .i64 r1)).setCell ⟨g, 2, none⟩ (.int .i64 r2)).setCell ⟨g, 3, none⟩ (.int .i64 r3)).setCell ⟨g, 4, none⟩ (.int .i64 r4)).setCell ⟨g, 5, none⟩ (.int .i64 r5)).setCell ⟨g, 6, none⟩ (.int .i64 r6)).setCell ⟨g, 7, none⟩ (.int .i64 r7)).setCell ⟨g, 8, none⟩ (.int .i64 p)).setCell ⟨g, 9, none⟩ (.int .i64 q)).setCell ⟨g, 10, none⟩ (.slice o mem.length c))) g #[.int .i64 r0, .int .i64 r1, .int .i64 r2, .int .i64 r3, .int .i64 r4, .int .i64 r5, .int .i64 r6, .int .i64 r7, .int .i64 p, .int .i64 q, (.slice o mem.length c)] 61 := by simpa using ((((((((((hG.set 0 (.int .i64 r0)).set 1 (.int .i64 r1)).set 2 (.int .i64 r2)).set 3 (.int .i64 r3)).set 4 (.int .i64 r4)).set 5 (.int .i64 r5)).set 6 (.int .i64 r6)).set 7 (.int .i64 r7)).set 8 (.int .i64 p)).set 9 (.int .i64 q)).set 10 (.slice o mem.length c)
  have hE : Below w.heap.size z ((((((((((((z.setCell ⟨g, 0, none⟩ (.int .i64 r0)).setCell ⟨g, 1, none⟩ (.int .i64 r1)).setCell ⟨g, 2, none⟩ (.int .i64 r2)).setCell ⟨g, 3, none⟩ (.int .i64 r3)).setCell ⟨g, 4, none⟩ (.int .i64 r4)).setCell ⟨g, 5, none⟩ (.int .i64 r5)).setCell ⟨g, 6, none⟩ (.int .i64 r6)).setCell ⟨g, 7, none⟩ (.int .i64 r7)).setCell ⟨g, 8, none⟩ (.int .i64 p)).setCell ⟨g, 9, none⟩ (.int .i64 q)).setCell ⟨g, 10, none⟩ (.slice o mem.length c))) := ((((((((((((Below.refl _ _).setCell (p := ⟨g, 0, none⟩) (by show w.heap.size ≤ g; omega) _).setCell (p := ⟨g, 1, none⟩) (by show w.heap.size ≤ g; omega) _).setCell (p := ⟨g, 2, none⟩) (by show w.heap.size ≤ g; omega) _).setCell (p := ⟨g, 3, none⟩) (by show w.heap.size ≤ g; omega) _).setCell (p := ⟨g, 4, none⟩) (by show w.heap.size ≤ g; omega) _).setCell (p := ⟨g, 5, none⟩) (by show w.heap.size ≤ g; omega) _).setCell (p := ⟨g, 6, none⟩) (by show w.heap.size ≤ g; omega) _).setCell (p := ⟨g, 7, none⟩) (by show w.heap.size ≤ g; omega) _).setCell (p := ⟨g, 8, none⟩) (by show w.heap.size ≤ g; omega) _).setCell (p := ⟨g, 9, none⟩) (by show w.heap.size ≤ g; omega) _).setCell (p := ⟨g, 10, none⟩) (by show w.heap.size ≤ g; omega) _)
  obtain ⟨x0, x1, x2, hr⟩ := h.d.bR
  have hm2 := owns_eq (owns_lo hm hb) fun k hk9 => hk k (fun e => Lib.ownBlock_ne hm hG (by decide) (by rw [hk9, e]))
  exact ⟨⟨⟨hB, hm2, hg⟩, ⟨x0, x1, x2, (hk _ (by omega)).trans hr⟩, h.d.bel.trans hE⟩, (hk _ hI).trans h.bI⟩

set_option maxRecDepth 100000 in
set_option maxHeartbeats 8000000 in
theorem implStepCore_some (v tv mv : Value) (r0 r1 r2 r3 r4 r5 r6 r7 p q : Int) (text mem : List Int) (w : World) (h : CoAt w v ⟨[r0, r1, r2, r3, r4, r5, r6, r7], p, q⟩) (ht : IntsAt w tv text) (htl : text.length ≤ 1048576) (hm : IntsAt w mv mem) (hml : mem.length ≤ 1048576) (hw : wordB text p = true) (hc : coreOkB ⟨[r0, r1, r2, r3, r4, r5, r6, r7], p, q⟩ = true) :
    Calls Try.prog 7 #[.agg #[v, .int .i64 p, .int .i64 q], tv, mv] w fun e w' => ∃ r m, e = .returned (.tuple #[.agg #[r, .int .i64 (doE ⟨[r0, r1, r2, r3, r4, r5, r6, r7], p, q⟩ (wordI text p) mem).1.pc, .int .i64 q], m, .int .i64 (doE ⟨[r0, r1, r2, r3, r4, r5, r6, r7], p, q⟩ (wordI text p) mem).2.2]) ∧ CoOwn w.heap.size w' r (doE ⟨[r0, r1, r2, r3, r4, r5, r6, r7], p, q⟩ (wordI text p) mem).1 ∧ RiOwn w.heap.size w' m ⟨(doE ⟨[r0, r1, r2, r3, r4, r5, r6, r7], p, q⟩ (wordI text p) mem).2.1⟩ ∧ (∀ i, r.ownBlock = some i → m.ownBlock ≠ some i) ∧ Below w.heap.size w w' := by
  obtain ⟨hop, ha, hb, hcc, hp⟩ := wordI_right hw
  obtain ⟨W0, hW⟩ : ∃ W0, (w.alloc (.cells #[v, .int .i64 p, .int .i64 q] 26)).alloc (.cells #[.slice none 0 0, .int .i64 0, .int .i64 0] 26) = W0 := ⟨_, rfl⟩
  have D0 : Hid (OkD w #[v, .int .i64 p, .int .i64 q] 26 W0) := by
    rw [← hW]
    exact hide ⟨(Box.made _ _ _).stays ((Below.refl _ _).alloc (Nat.le_refl _) _), ⟨_, _, _, Box.madeAt (by simp) _ _⟩, by go_grown⟩
  have HW := hide hW
  clear hW
  have CWD := fun z (h : Below w.heap.size w z) => hide (implWordAt_any tv text p z (ht.stays h) htl)
  have COK := fun z (hb : Below w.heap.size w z) => hide (implCoreOk_any v ⟨[r0, r1, r2, r3, r4, r5, r6, r7], p, q⟩ z (h.stays hb) ⟨by simp⟩)
  have CST := fun z (hb : Below w.heap.size w z) => hide (implStateOf_yes v r0 r1 r2 r3 r4 r5 r6 r7 p q z (h.stays hb).a0)
  have CCL := fun z (hb : Below w.heap.size w z) => hide (cloneI_own mv mem z (hm.stays hb) hml)
  obtain ⟨i, ei⟩ : ∃ i, wordI text p = i := ⟨_, rfl⟩
  rw [ei] at hop ha hb hcc ⊢
  simp only [ei, hw] at CWD
  simp only [hc] at COK
  obtain ⟨op, a, b, c⟩ := i
  have CDO := fun (B G : Nat) (mv : Value) z (hz : WkZ B G mv [r0, r1, r2, r3, r4, r5, r6, r7] p q mem z) => hide (implDo_any r0 r1 r2 r3 r4 r5 r6 r7 p q mem op a b c z hz ha hb hcc (by omega))
  obtain ⟨X, eX⟩ : ∃ X, doE ⟨[r0, r1, r2, r3, r4, r5, r6, r7], p, q⟩ ⟨op, a, b, c⟩ mem = X := ⟨_, rfl⟩
  have hX8 : X.1.regs.length = 8 := by
    rw [← eX]
    unfold doE
    split
    · rfl
    split
    · rfl
    split
    · rfl
    · simp
  simp only [eX] at CDO
  rw [eX]
  obtain ⟨⟨xs, P⟩, M, N⟩ := X
  obtain ⟨vo, vc, ev, _⟩ := h.a0
  obtain rfl : v = .slice vo 8 vc := ev
  obtain ⟨o1, c1, rfl, _⟩ := ht
  obtain ⟨o2, c2, rfl, _⟩ := hm
  obtain ⟨s0, s1, s2, s3, s4, s5, s6, s7, rfl⟩ := eight hX8
  dsimp only at CDO ⊢
  clear hop ha hb hcc hp htl hml h hw hc ei eX hX8
  obtain ⟨tn, etn⟩ : ∃ n, text.length = n := ⟨_, rfl⟩
  obtain ⟨mn, emn⟩ : ∃ n, mem.length = n := ⟨_, rfl⟩
  have EMN := hide emn
  simp only [etn] at CWD
  simp only [emn] at CCL
  rw [etn, emn]
  clear etn emn
  have a0 := Lib.cell_of_heap D0.out.bA 1
  simp at a0
  go_enter Try.func7, Try.ntmps7
  go_upto_region 1 with fail
  rw [HW.out]
  clear HW
  go_wp2_with fail
  refine (unhide (CWD _ D0.out.bel)).mono ?_
  rintro e z1 ⟨rfl, hb1⟩
  have D1 := hide ((D0.out.stays hb1).stays ((Below.refl _ _).alloc (Nat.le_refl _) (.cells #[.int .i64 op, .int .i64 a, .int .i64 b, .int .i64 c] 34)))
  have I1 := hide (Box.made z1 #[.int .i64 op, .int .i64 a, .int .i64 b, .int .i64 c] 34)
  clear hb1 a0 D0 CWD
  obtain ⟨z2, h2⟩ : ∃ z2, z1.alloc (.cells #[.int .i64 op, .int .i64 a, .int .i64 b, .int .i64 c] 34) = z2 := ⟨_, rfl⟩
  obtain ⟨I, hI⟩ : ∃ I, z1.heap.size = I := ⟨_, rfl⟩
  rw [h2] at D1 I1
  rw [hI] at I1
  have H2 := hide h2
  have HI := hide hI
  clear h2 hI
  go_upto_region 2 with fail
  rw [H2.out, HI.out]
  clear H2 HI
  have y0 := Lib.cell_of_heap D1.out.bA 0
  have y1 := Lib.cell_of_heap D1.out.bA 1
  have y2 := Lib.cell_of_heap D1.out.bA 2
  simp at y0 y1 y2
  go_wp2_with fail
  refine (unhide (COK _ D1.out.bel)).mono ?_
  rintro e z3 ⟨rfl, hb3⟩
  have D3 := hide (D1.out.stays hb3)
  have I3 := hide (I1.out.stays hb3)
  clear hb3 y0 y1 y2 D1 I1 COK
  have y0 := Lib.cell_of_heap D3.out.bA 0
  have y1 := Lib.cell_of_heap D3.out.bA 1
  have y2 := Lib.cell_of_heap D3.out.bA 2
  simp at y0 y1 y2
  go_wp2_with fail
  refine (unhide (CST _ D3.out.bel)).mono ?_
  rintro e z4 ⟨rfl, hb4⟩
  have hal4 : Below z4.heap.size z4 (z4.alloc (.cells #[.int .i64 r0, .int .i64 r1, .int .i64 r2, .int .i64 r3, .int .i64 r4, .int .i64 r5, .int .i64 r6, .int .i64 r7, .int .i64 p, .int .i64 q] 57)) := (Below.refl _ _).alloc (Nat.le_refl _) _
  have E4 : Hid (StD w #[.slice vo 8 vc, .int .i64 p, .int .i64 q] I #[.int .i64 op, .int .i64 a, .int .i64 b, .int .i64 c] z4.heap.size #[.int .i64 r0, .int .i64 r1, .int .i64 r2, .int .i64 r3, .int .i64 r4, .int .i64 r5, .int .i64 r6, .int .i64 r7, .int .i64 p, .int .i64 q] (z4.alloc (.cells #[.int .i64 r0, .int .i64 r1, .int .i64 r2, .int .i64 r3, .int .i64 r4, .int .i64 r5, .int .i64 r6, .int .i64 r7, .int .i64 p, .int .i64 q] 57))) :=
    hide ⟨(D3.out.stays hb4).stays hal4, (I3.out.stays hb4).stays hal4, Box.made _ _ _⟩
  obtain ⟨z5, h5⟩ : ∃ z5, z4.alloc (.cells #[.int .i64 r0, .int .i64 r1, .int .i64 r2, .int .i64 r3, .int .i64 r4, .int .i64 r5, .int .i64 r6, .int .i64 r7, .int .i64 p, .int .i64 q] 57) = z5 := ⟨_, rfl⟩
  obtain ⟨S, hS⟩ : ∃ S, z4.heap.size = S := ⟨_, rfl⟩
  rw [h5, hS] at E4
  have H5 := hide h5
  have HS := hide hS
  clear h5 hS hal4 hb4 y0 y1 y2 D3 I3 CST
  go_upto_region 5 with fail
  rw [H5.out, HS.out]
  clear H5 HS
  have q0 := Lib.cell_of_heap E4.out.bS 0
  have q1 := Lib.cell_of_heap E4.out.bS 1
  have q2 := Lib.cell_of_heap E4.out.bS 2
  have q3 := Lib.cell_of_heap E4.out.bS 3
  have q4 := Lib.cell_of_heap E4.out.bS 4
  have q5 := Lib.cell_of_heap E4.out.bS 5
  have q6 := Lib.cell_of_heap E4.out.bS 6
  have q7 := Lib.cell_of_heap E4.out.bS 7
  have q8 := Lib.cell_of_heap E4.out.bS 8
  have q9 := Lib.cell_of_heap E4.out.bS 9
  simp at q0 q1 q2 q3 q4 q5 q6 q7 q8 q9
  have d0 := fun o => Lib.cell_of_heap (E4.out.bS.stays ((Below.refl _ _).alloc (Nat.le_refl _) o)) 0
  have d1 := fun o => Lib.cell_of_heap (E4.out.bS.stays ((Below.refl _ _).alloc (Nat.le_refl _) o)) 1
  have d2 := fun o => Lib.cell_of_heap (E4.out.bS.stays ((Below.refl _ _).alloc (Nat.le_refl _) o)) 2
  have d3 := fun o => Lib.cell_of_heap (E4.out.bS.stays ((Below.refl _ _).alloc (Nat.le_refl _) o)) 3
  have d4 := fun o => Lib.cell_of_heap (E4.out.bS.stays ((Below.refl _ _).alloc (Nat.le_refl _) o)) 4
  have d5 := fun o => Lib.cell_of_heap (E4.out.bS.stays ((Below.refl _ _).alloc (Nat.le_refl _) o)) 5
  have d6 := fun o => Lib.cell_of_heap (E4.out.bS.stays ((Below.refl _ _).alloc (Nat.le_refl _) o)) 6
  have d7 := fun o => Lib.cell_of_heap (E4.out.bS.stays ((Below.refl _ _).alloc (Nat.le_refl _) o)) 7
  have d8 := fun o => Lib.cell_of_heap (E4.out.bS.stays ((Below.refl _ _).alloc (Nat.le_refl _) o)) 8
  have d9 := fun o => Lib.cell_of_heap (E4.out.bS.stays ((Below.refl _ _).alloc (Nat.le_refl _) o)) 9
  simp at d0 d1 d2 d3 d4 d5 d6 d7 d8 d9
  go_cut [13] from 38 (fun s z => ∃ G mvo mvc, s = .pointer (some ⟨G, 0, none⟩) ∧ Hid (EwZ w I #[.int .i64 op, .int .i64 a, .int .i64 b, .int .i64 c] G (.slice mvo mn mvc) [r0, r1, r2, r3, r4, r5, r6, r7] p q mem z))
  case first =>
    have P1 := hide (E4.out.d.bel.drew)
    have CC1 := CCL _ P1.out
    have P2 : Hid (Below w.heap.size w (z5.alloc (.cells #[.int .i64 0, .int .i64 0, .int .i64 0, .int .i64 0, .int .i64 0, .int .i64 0, .int .i64 0, .int .i64 0, .int .i64 0, .int .i64 0, .slice none 0 0] 61)).drew) := hide ((E4.out.d.bel.alloc E4.out.d.bel.size _).drew)
    have CC2 := CCL _ P2.out
    have BG : Hid (Box (z5.alloc (.cells #[.int .i64 0, .int .i64 0, .int .i64 0, .int .i64 0, .int .i64 0, .int .i64 0, .int .i64 0, .int .i64 0, .int .i64 0, .int .i64 0, .slice none 0 0] 61)).drew z5.heap.size #[.int .i64 0, .int .i64 0, .int .i64 0, .int .i64 0, .int .i64 0, .int .i64 0, .int .i64 0, .int .i64 0, .int .i64 0, .int .i64 0, .slice none 0 0] 61) := hide (Box.made z5 _ _)
    go_region_with ((go_at_call 28; first | (refine (unhide CC1).mono ?_; rintro e z6 ⟨m6, rfl, hm6, hb6⟩; obtain ⟨po, pc, rfl⟩ := form_own hm6; have HM6 := hide hm6; have F6 := hide ((E4.out.stays (Below.refl _ _).drew).stays hb6); clear hm6 hb6; have k0 := Lib.cell_of_heap F6.out.bS 0; have k1 := Lib.cell_of_heap F6.out.bS 1; have k2 := Lib.cell_of_heap F6.out.bS 2; have k3 := Lib.cell_of_heap F6.out.bS 3; have k4 := Lib.cell_of_heap F6.out.bS 4; have k5 := Lib.cell_of_heap F6.out.bS 5; have k6 := Lib.cell_of_heap F6.out.bS 6; have k7 := Lib.cell_of_heap F6.out.bS 7; have k8 := Lib.cell_of_heap F6.out.bS 8; have k9 := Lib.cell_of_heap F6.out.bS 9; simp at k0 k1 k2 k3 k4 k5 k6 k7 k8 k9; have l0 := fun o => Lib.cell_of_heap (F6.out.bS.stays ((Below.refl _ _).alloc (Nat.le_refl _) o)) 0; have l1 := fun o => Lib.cell_of_heap (F6.out.bS.stays ((Below.refl _ _).alloc (Nat.le_refl _) o)) 1; have l2 := fun o => Lib.cell_of_heap (F6.out.bS.stays ((Below.refl _ _).alloc (Nat.le_refl _) o)) 2; have l3 := fun o => Lib.cell_of_heap (F6.out.bS.stays ((Below.refl _ _).alloc (Nat.le_refl _) o)) 3; have l4 := fun o => Lib.cell_of_heap (F6.out.bS.stays ((Below.refl _ _).alloc (Nat.le_refl _) o)) 4; have l5 := fun o => Lib.cell_of_heap (F6.out.bS.stays ((Below.refl _ _).alloc (Nat.le_refl _) o)) 5; have l6 := fun o => Lib.cell_of_heap (F6.out.bS.stays ((Below.refl _ _).alloc (Nat.le_refl _) o)) 6; have l7 := fun o => Lib.cell_of_heap (F6.out.bS.stays ((Below.refl _ _).alloc (Nat.le_refl _) o)) 7; have l8 := fun o => Lib.cell_of_heap (F6.out.bS.stays ((Below.refl _ _).alloc (Nat.le_refl _) o)) 8; have l9 := fun o => Lib.cell_of_heap (F6.out.bS.stays ((Below.refl _ _).alloc (Nat.le_refl _) o)) 9; simp at l0 l1 l2 l3 l4 l5 l6 l7 l8 l9) | (refine (unhide CC2).mono ?_; rintro e z6 ⟨m6, rfl, hm6, hb6⟩; obtain ⟨po, pc, rfl⟩ := form_own hm6; have HM6 := hide hm6; have F6 := hide ((E4.out.stays ((Below.refl _ _).alloc (Nat.le_refl _) (.cells #[.int .i64 0, .int .i64 0, .int .i64 0, .int .i64 0, .int .i64 0, .int .i64 0, .int .i64 0, .int .i64 0, .int .i64 0, .int .i64 0, .slice none 0 0] 61)).drew).stays hb6); have BG6 := hide (BG.out.stays hb6); clear hm6 hb6; have k0 := Lib.cell_of_heap F6.out.bS 0; have k1 := Lib.cell_of_heap F6.out.bS 1; have k2 := Lib.cell_of_heap F6.out.bS 2; have k3 := Lib.cell_of_heap F6.out.bS 3; have k4 := Lib.cell_of_heap F6.out.bS 4; have k5 := Lib.cell_of_heap F6.out.bS 5; have k6 := Lib.cell_of_heap F6.out.bS 6; have k7 := Lib.cell_of_heap F6.out.bS 7; have k8 := Lib.cell_of_heap F6.out.bS 8; have k9 := Lib.cell_of_heap F6.out.bS 9; simp at k0 k1 k2 k3 k4 k5 k6 k7 k8 k9; have g0 := Lib.cell_of_heap BG6.out 0; have g1 := Lib.cell_of_heap BG6.out 1; have g2 := Lib.cell_of_heap BG6.out 2; have g3 := Lib.cell_of_heap BG6.out 3; have g4 := Lib.cell_of_heap BG6.out 4; have g5 := Lib.cell_of_heap BG6.out 5; have g6 := Lib.cell_of_heap BG6.out 6; have g7 := Lib.cell_of_heap BG6.out 7; have g8 := Lib.cell_of_heap BG6.out 8; have g9 := Lib.cell_of_heap BG6.out 9; have g10 := Lib.cell_of_heap BG6.out 10; simp at g0 g1 g2 g3 g4 g5 g6 g7 g8 g9 g10; have f0 := Lib.frozen_of_heap BG6.out 0; have f1 := Lib.frozen_of_heap BG6.out 1; have f2 := Lib.frozen_of_heap BG6.out 2; have f3 := Lib.frozen_of_heap BG6.out 3; have f4 := Lib.frozen_of_heap BG6.out 4; have f5 := Lib.frozen_of_heap BG6.out 5; have f6 := Lib.frozen_of_heap BG6.out 6; have f7 := Lib.frozen_of_heap BG6.out 7; have f8 := Lib.frozen_of_heap BG6.out 8; have f9 := Lib.frozen_of_heap BG6.out 9; have f10 := Lib.frozen_of_heap BG6.out 10)))
    all_goals go_wp2_with fail
    all_goals go_meet
    all_goals
      have hI5 := E4.out.bI.lt
      obtain ⟨_, _, _, hr5⟩ := E4.out.d.bR
      have hr5 := hr5.lt
      have hz5 : z5.drew.heap.size = z5.heap.size := rfl
      first
        | (have hx := BG6.out
           have M2 := EwZ.mk2 (q := q) (p := p) (r0 := r0) (r1 := r1) (r2 := r2) (r3 := r3) (r4 := r4) (r5 := r5) (r6 := r6) (r7 := r7) F6.out EMN.out HM6.out (by simp; omega) hx (by omega) (by omega)
           exact ⟨_, _, _, rfl, hide M2⟩)
        | (have M1 := EwZ.mk1 (q := q) (p := p) (r0 := r0) (r1 := r1) (r2 := r2) (r3 := r3) (r4 := r4) (r5 := r5) (r6 := r6) (r7 := r7) F6.out EMN.out HM6.out (by first | omega | (simp; omega))
           exact ⟨_, _, _, rfl, hide M1⟩)
  case rest =>
    obtain ⟨G, mvo, mvc, rfl, E5⟩ := hcut
    clear E4 CCL q0 q1 q2 q3 q4 q5 q6 q7 q8 q9 d0 d1 d2 d3 d4 d5 d6 d7 d8 d9
    have i0 := Lib.cell_of_heap E5.out.bI 0
    have i1 := Lib.cell_of_heap E5.out.bI 1
    have i2 := Lib.cell_of_heap E5.out.bI 2
    have i3 := Lib.cell_of_heap E5.out.bI 3
    simp at i0 i1 i2 i3
    go_wp2_with fail
    refine (unhide (CDO _ _ _ _ E5.out.ed.wk)).mono ?_
    rintro e z6 ⟨rfl, hz6, hb6⟩
    have E6 : Hid (EdZ w G (.slice mvo mn mvc) [s0, s1, s2, s3, s4, s5, s6, s7] P q M z6) := by
      obtain ⟨x0, x1, x2, hr⟩ := E5.out.ed.bR
      exact hide ⟨hz6, ⟨x0, x1, x2, (hb6.block _ (by omega)).trans hr⟩, E5.out.ed.bel.trans (hb6.mono (by omega))⟩
    clear hz6 hb6 E5 i0 i1 i2 i3 CDO
    have CCR := fun z => hide (implCore_any s0 s1 s2 s3 s4 s5 s6 s7 P q z)
    have KC : Hid (∀ z : World, EdZ w G (.slice mvo mn mvc) [s0, s1, s2, s3, s4, s5, s6, s7] P q M z → z.cell? ⟨G, 0, none⟩ = some (.int .i64 s0) ∧ z.cell? ⟨G, 1, none⟩ = some (.int .i64 s1) ∧ z.cell? ⟨G, 2, none⟩ = some (.int .i64 s2) ∧ z.cell? ⟨G, 3, none⟩ = some (.int .i64 s3) ∧ z.cell? ⟨G, 4, none⟩ = some (.int .i64 s4) ∧ z.cell? ⟨G, 5, none⟩ = some (.int .i64 s5) ∧ z.cell? ⟨G, 6, none⟩ = some (.int .i64 s6) ∧ z.cell? ⟨G, 7, none⟩ = some (.int .i64 s7) ∧ z.cell? ⟨G, 8, none⟩ = some (.int .i64 P) ∧ z.cell? ⟨G, 9, none⟩ = some (.int .i64 q) ∧ z.cell? ⟨G, 10, none⟩ = some (.slice mvo mn mvc) ∧ Hid (EdZ w G (.slice mvo mn mvc) [s0, s1, s2, s3, s4, s5, s6, s7] P q M z)) := hide fun z h => ⟨Lib.cell_of_heap (show Box z G #[.int .i64 s0, .int .i64 s1, .int .i64 s2, .int .i64 s3, .int .i64 s4, .int .i64 s5, .int .i64 s6, .int .i64 s7, .int .i64 P, .int .i64 q, (.slice mvo mn mvc)] 61 from h.wk.bO) 0, Lib.cell_of_heap (show Box z G #[.int .i64 s0, .int .i64 s1, .int .i64 s2, .int .i64 s3, .int .i64 s4, .int .i64 s5, .int .i64 s6, .int .i64 s7, .int .i64 P, .int .i64 q, (.slice mvo mn mvc)] 61 from h.wk.bO) 1, Lib.cell_of_heap (show Box z G #[.int .i64 s0, .int .i64 s1, .int .i64 s2, .int .i64 s3, .int .i64 s4, .int .i64 s5, .int .i64 s6, .int .i64 s7, .int .i64 P, .int .i64 q, (.slice mvo mn mvc)] 61 from h.wk.bO) 2, Lib.cell_of_heap (show Box z G #[.int .i64 s0, .int .i64 s1, .int .i64 s2, .int .i64 s3, .int .i64 s4, .int .i64 s5, .int .i64 s6, .int .i64 s7, .int .i64 P, .int .i64 q, (.slice mvo mn mvc)] 61 from h.wk.bO) 3, Lib.cell_of_heap (show Box z G #[.int .i64 s0, .int .i64 s1, .int .i64 s2, .int .i64 s3, .int .i64 s4, .int .i64 s5, .int .i64 s6, .int .i64 s7, .int .i64 P, .int .i64 q, (.slice mvo mn mvc)] 61 from h.wk.bO) 4, Lib.cell_of_heap (show Box z G #[.int .i64 s0, .int .i64 s1, .int .i64 s2, .int .i64 s3, .int .i64 s4, .int .i64 s5, .int .i64 s6, .int .i64 s7, .int .i64 P, .int .i64 q, (.slice mvo mn mvc)] 61 from h.wk.bO) 5, Lib.cell_of_heap (show Box z G #[.int .i64 s0, .int .i64 s1, .int .i64 s2, .int .i64 s3, .int .i64 s4, .int .i64 s5, .int .i64 s6, .int .i64 s7, .int .i64 P, .int .i64 q, (.slice mvo mn mvc)] 61 from h.wk.bO) 6, Lib.cell_of_heap (show Box z G #[.int .i64 s0, .int .i64 s1, .int .i64 s2, .int .i64 s3, .int .i64 s4, .int .i64 s5, .int .i64 s6, .int .i64 s7, .int .i64 P, .int .i64 q, (.slice mvo mn mvc)] 61 from h.wk.bO) 7, Lib.cell_of_heap (show Box z G #[.int .i64 s0, .int .i64 s1, .int .i64 s2, .int .i64 s3, .int .i64 s4, .int .i64 s5, .int .i64 s6, .int .i64 s7, .int .i64 P, .int .i64 q, (.slice mvo mn mvc)] 61 from h.wk.bO) 8, Lib.cell_of_heap (show Box z G #[.int .i64 s0, .int .i64 s1, .int .i64 s2, .int .i64 s3, .int .i64 s4, .int .i64 s5, .int .i64 s6, .int .i64 s7, .int .i64 P, .int .i64 q, (.slice mvo mn mvc)] 61 from h.wk.bO) 9, Lib.cell_of_heap (show Box z G #[.int .i64 s0, .int .i64 s1, .int .i64 s2, .int .i64 s3, .int .i64 s4, .int .i64 s5, .int .i64 s6, .int .i64 s7, .int .i64 P, .int .i64 q, (.slice mvo mn mvc)] 61 from h.wk.bO) 10, h⟩
    have KV : Hid (∀ z : World, (z.cell? ⟨G, 0, none⟩ = some (.int .i64 s0) ∧ z.cell? ⟨G, 1, none⟩ = some (.int .i64 s1) ∧ z.cell? ⟨G, 2, none⟩ = some (.int .i64 s2) ∧ z.cell? ⟨G, 3, none⟩ = some (.int .i64 s3) ∧ z.cell? ⟨G, 4, none⟩ = some (.int .i64 s4) ∧ z.cell? ⟨G, 5, none⟩ = some (.int .i64 s5) ∧ z.cell? ⟨G, 6, none⟩ = some (.int .i64 s6) ∧ z.cell? ⟨G, 7, none⟩ = some (.int .i64 s7) ∧ z.cell? ⟨G, 8, none⟩ = some (.int .i64 P) ∧ z.cell? ⟨G, 9, none⟩ = some (.int .i64 q) ∧ z.cell? ⟨G, 10, none⟩ = some (.slice mvo mn mvc) ∧ Hid (EdZ w G (.slice mvo mn mvc) [s0, s1, s2, s3, s4, s5, s6, s7] P q M z)) → EdZ w G (.slice mvo mn mvc) [s0, s1, s2, s3, s4, s5, s6, s7] P q M z) := hide fun z h => h.2.2.2.2.2.2.2.2.2.2.2.out
    have KW : Hid (∀ (z : World) (u0 u1 u2 : Value), EdZ w G (.slice mvo mn mvc) [s0, s1, s2, s3, s4, s5, s6, s7] P q M z → EdZ w G (.slice mvo mn mvc) [s0, s1, s2, s3, s4, s5, s6, s7] P q M (((z.setCell ⟨w.heap.size + 1, 0, none⟩ u0).setCell ⟨w.heap.size + 1, 1, none⟩ u1).setCell ⟨w.heap.size + 1, 2, none⟩ u2)) := hide fun z u0 u1 u2 h => by
      obtain ⟨W, e, _, h2, _⟩ := h.put u0 u1 u2
      rw [e]
      exact h2
    have K1 := hide (KC.out _ (E6.out.stays (Below.refl _ _).drew))
    clear E6
    go_wp2_with fail
    go_region_held3 (fun z => z.cell? ⟨G, 0, none⟩ = some (.int .i64 s0) ∧ z.cell? ⟨G, 1, none⟩ = some (.int .i64 s1) ∧ z.cell? ⟨G, 2, none⟩ = some (.int .i64 s2) ∧ z.cell? ⟨G, 3, none⟩ = some (.int .i64 s3) ∧ z.cell? ⟨G, 4, none⟩ = some (.int .i64 s4) ∧ z.cell? ⟨G, 5, none⟩ = some (.int .i64 s5) ∧ z.cell? ⟨G, 6, none⟩ = some (.int .i64 s6) ∧ z.cell? ⟨G, 7, none⟩ = some (.int .i64 s7) ∧ z.cell? ⟨G, 8, none⟩ = some (.int .i64 P) ∧ z.cell? ⟨G, 9, none⟩ = some (.int .i64 q) ∧ z.cell? ⟨G, 10, none⟩ = some (.slice mvo mn mvc) ∧ Hid (EdZ w G (.slice mvo mn mvc) [s0, s1, s2, s3, s4, s5, s6, s7] P q M z)) (first | with_reducible exact K1.out | with_reducible exact KC.out _ CW.out | with_reducible exact KC.out _ (KW.out _ _ _ _ CW.out))
      ((go_at_call 31; have CB := hide (KV.out _ (by assumption)); refine (unhide (CCR _)).mono ?_; rintro e z7 ⟨r7', rfl, ho7, hb7⟩; obtain ⟨q7, c7, rfl, hq7⟩ := own_form ho7.o0 (by simp); have HO7 := hide ho7; have CW : Hid (EdZ w G (.slice mvo mn mvc) [s0, s1, s2, s3, s4, s5, s6, s7] P q M z7) := (hide (CB.out.stays hb7)); clear hb7 ho7; obtain ⟨ra, rb, rd, hrr⟩ := CW.out.bR; have y0 := Lib.cell_of_heap hrr 0; have y1 := Lib.cell_of_heap hrr 1; have y2 := Lib.cell_of_heap hrr 2; simp at y0 y1 y2; have f0 := Lib.frozen_of_heap hrr 0; have f1 := Lib.frozen_of_heap hrr 1; have f2 := Lib.frozen_of_heap hrr 2; clear hrr))
    obtain ⟨_, _, _, hl⟩ := CB.out.bR
    have hz := hl.lt
    obtain ⟨W, eW, hB, hO, hk⟩ := CW.out.put (.slice (some ⟨q7, 0, none⟩) 8 c7) (.int .i64 P) (.int .i64 q)
    have OW := hide (owns_lo (owns_eq HO7.out.o0 fun k hk9 => hk k (by have := (HO7.out.o0.lt k hk9).1; omega)) (show w.heap.size ≤ _ by omega))
    have OM := hide (owns_lo hO.wk.mo (show w.heap.size ≤ _ by omega))
    have HAP : Hid (∀ i, (Value.slice (some ⟨q7, 0, none⟩) 8 c7).ownBlock = some i → (Value.slice mvo mn mvc).ownBlock ≠ some i) := hide fun i h1 h2 => by
      have e1 := (HO7.out.o0.lt i h1).1
      have e2 := (CB.out.wk.mo.lt i h2).2
      omega
    have EW := hide eW
    have HB := hide hB
    have HO := hide hO.bel
    clear eW hB hO hk hl hz HO7 CW CB KC KV KW K1 CCR
    go_wp2
    rw [EW.out]
    exact box_retVV (g := w.heap.size + 1) (t := 26) rfl rfl HB.out _ Try.underlying26 rfl (by kernel_rfl) rfl ⟨_, _, rfl, ⟨OW.out⟩, ⟨OM.out⟩, HAP.out, HO.out⟩

theorem doE_process (x : Co) (i : In4) (mem : List Int) : (doE x i mem).1.process = x.process := by
  unfold doE
  split
  · rfl
  split
  · rfl
  split <;> rfl
theorem implStepCore_any (v tv mv : Value) (x : Co) (text mem : List Int) (w : World) (h : CoAt w v x) (hl : CoLen x) (ht : IntsAt w tv text) (htl : text.length ≤ 1048576) (hm : IntsAt w mv mem) (hml : mem.length ≤ 1048576) :
    Calls Try.prog 7 #[.agg #[v, .int .i64 x.pc, .int .i64 x.process], tv, mv] w fun e w' => ∃ r m, e = .returned (.tuple #[.agg #[r, .int .i64 (stepE x text mem).1.pc, .int .i64 (stepE x text mem).1.process], m, .int .i64 (stepE x text mem).2.2]) ∧ CoOwn w.heap.size w' r (stepE x text mem).1 ∧ RiOwn w.heap.size w' m ⟨(stepE x text mem).2.1⟩ ∧ (∀ i, r.ownBlock = some i → m.ownBlock ≠ some i) ∧ Below w.heap.size w w' := by
  cases hw : wordB text x.pc with
  | false =>
    rw [stepE_none (.inl hw)]
    exact implStepCore_none v tv mv x text mem w h hl ht htl hm hml (.inl hw)
  | true =>
    cases hc : coreOkB x with
    | false =>
      rw [stepE_none (.inr hc)]
      exact implStepCore_none v tv mv x text mem w h hl ht htl hm hml (.inr hc)
    | true =>
      rw [stepE_some hw hc, doE_process]
      obtain ⟨xs, p, q⟩ := x
      obtain ⟨r0, r1, r2, r3, r4, r5, r6, r7, rfl⟩ := eight (coreOk_len hc)
      exact implStepCore_some v tv mv r0 r1 r2 r3 r4 r5 r6 r7 p q text mem w h ht htl hm hml hw hc
end Go.Proofs.Ytmchgmpdhfefjaa
