/-
  Walks: a core in memory of its own, by the program.
-/
import Derived.Test.YtmchgmpdhfefjaaWkC
namespace Go.Proofs.Ytmchgmpdhfefjaa
open Go.RowKit

/-- The registers of a state, as a row. -/
theorem ints_of_box {z : World} {g T : Nat} {r0 r1 r2 r3 r4 r5 r6 r7 : Int} {u v : Value} (h : Box z g #[.int .i64 r0, .int .i64 r1, .int .i64 r2, .int .i64 r3, .int .i64 r4, .int .i64 r5, .int .i64 r6, .int .i64 r7, u, v] T) : IntsAt z (.slice (some ⟨g, 0, none⟩) 8 8) [r0, r1, r2, r3, r4, r5, r6, r7] := by
  refine ⟨_, _, rfl, fun j hj => ⟨⟨g, 0, none⟩, rfl, h.lt, ?_⟩⟩
  have e : (⟨g, 0, none⟩ : Addr).add j = ⟨g, j, none⟩ := by
    simp only [Addr.add]
    split
    · next h => subst h; rfl
    · simp
  rw [e, Lib.cell_of_heap h j]
  match j, hj with
  | 0, _ | 1, _ | 2, _ | 3, _ | 4, _ | 5, _ | 6, _ | 7, _ => rfl
/-- What is taken from, in its box; the result's box behind it. -/
structure OkD (w : World) (A : Array Value) (T : Nat) (z : World) : Prop where
  bA : Box z w.heap.size A T
  bR : ∃ a b d, Box z (w.heap.size + 1) #[a, b, d] 26
  bel : Below w.heap.size w z
theorem OkD.stays {w : World} {A : Array Value} {T : Nat} {z z' : World} (h : OkD w A T z) (hb : Below z.heap.size z z') : OkD w A T z' := by
  obtain ⟨a, b, d, hr⟩ := h.bR
  exact ⟨h.bA.stays hb, ⟨a, b, d, hr.stays hb⟩, h.bel.trans (hb.mono h.bel.size)⟩
theorem OkD.put {w : World} {A : Array Value} {T : Nat} {z : World} (h : OkD w A T z) (u0 u1 u2 : Value) : ∃ W, (((z.setCell ⟨w.heap.size + 1, 0, none⟩ u0).setCell ⟨w.heap.size + 1, 1, none⟩ u1).setCell ⟨w.heap.size + 1, 2, none⟩ u2) = W ∧ Box W (w.heap.size + 1) #[u0, u1, u2] 26 ∧ OkD w A T W ∧ (∀ k, k ≠ w.heap.size + 1 → W.heap[k]? = z.heap[k]?) := by
  obtain ⟨a, b, d, hr⟩ := h.bR
  have hB : Box (((z.setCell ⟨w.heap.size + 1, 0, none⟩ u0).setCell ⟨w.heap.size + 1, 1, none⟩ u1).setCell ⟨w.heap.size + 1, 2, none⟩ u2) (w.heap.size + 1) #[u0, u1, u2] 26 := by simpa using ((hr.set 0 u0).set 1 u1).set 2 u2
  have hk : ∀ k, k ≠ w.heap.size + 1 → (((z.setCell ⟨w.heap.size + 1, 0, none⟩ u0).setCell ⟨w.heap.size + 1, 1, none⟩ u1).setCell ⟨w.heap.size + 1, 2, none⟩ u2).heap[k]? = z.heap[k]? := fun k hk =>
    (Below.heap_setCell _ ⟨w.heap.size + 1, 2, none⟩ _ k hk).trans ((Below.heap_setCell _ ⟨w.heap.size + 1, 1, none⟩ _ k hk).trans (Below.heap_setCell _ ⟨w.heap.size + 1, 0, none⟩ _ k hk))
  exact ⟨_, rfl, hB, ⟨(hk _ (by omega)).trans h.bA, ⟨_, _, _, hB⟩, ((h.bel.setCell (p := ⟨w.heap.size + 1, 0, none⟩) (by show w.heap.size ≤ w.heap.size + 1; omega) u0).setCell (p := ⟨w.heap.size + 1, 1, none⟩) (by show w.heap.size ≤ w.heap.size + 1; omega) u1).setCell (p := ⟨w.heap.size + 1, 2, none⟩) (by show w.heap.size ≤ w.heap.size + 1; omega) u2⟩, hk⟩

set_option maxRecDepth 100000 in
set_option maxHeartbeats 4000000 in
theorem implCore_any (r0 r1 r2 r3 r4 r5 r6 r7 p q : Int) (w : World) :
    Calls Try.prog 31 #[.agg #[.int .i64 r0, .int .i64 r1, .int .i64 r2, .int .i64 r3, .int .i64 r4, .int .i64 r5, .int .i64 r6, .int .i64 r7, .int .i64 p, .int .i64 q]] w fun e w' => ∃ r, e = .returned (.agg #[r, .int .i64 p, .int .i64 q]) ∧ CoOwn w.heap.size w' r ⟨[r0, r1, r2, r3, r4, r5, r6, r7], p, q⟩ ∧ Below w.heap.size w w' := by
  obtain ⟨W0, hW⟩ : ∃ W0, (w.alloc (.cells #[.int .i64 r0, .int .i64 r1, .int .i64 r2, .int .i64 r3, .int .i64 r4, .int .i64 r5, .int .i64 r6, .int .i64 r7, .int .i64 p, .int .i64 q] 57)).alloc (.cells #[.slice none 0 0, .int .i64 0, .int .i64 0] 26) = W0 := ⟨_, rfl⟩
  have C0 : Hid (OkD w #[.int .i64 r0, .int .i64 r1, .int .i64 r2, .int .i64 r3, .int .i64 r4, .int .i64 r5, .int .i64 r6, .int .i64 r7, .int .i64 p, .int .i64 q] 57 W0) := by
    rw [← hW]
    exact hide ⟨(Box.made _ _ _).stays ((Below.refl _ _).alloc (Nat.le_refl _) _), ⟨_, _, _, Box.madeAt (by simp) _ _⟩, by go_grown⟩
  have HW := hide hW
  clear hW
  have CK : ∀ z, IntsAt z (.slice (some ⟨w.heap.size, 0, none⟩) 8 8) [r0, r1, r2, r3, r4, r5, r6, r7] → Hid (Calls Try.prog 28 #[.slice (some ⟨w.heap.size, 0, none⟩) 8 8] z fun e w' => ∃ v', e = .returned v' ∧ w'.ownsRow z.heap.size 3 1 v' 8 ([r0, r1, r2, r3, r4, r5, r6, r7].map I64) ∧ Below z.heap.size z w') := fun z h => hide (cloneI_own (.slice (some ⟨w.heap.size, 0, none⟩) 8 8) [r0, r1, r2, r3, r4, r5, r6, r7] z h (by simp))
  have KC : Hid (∀ z : World, OkD w #[.int .i64 r0, .int .i64 r1, .int .i64 r2, .int .i64 r3, .int .i64 r4, .int .i64 r5, .int .i64 r6, .int .i64 r7, .int .i64 p, .int .i64 q] 57 z → z.cell? ⟨w.heap.size, 8, none⟩ = some (.int .i64 p) ∧ z.cell? ⟨w.heap.size, 9, none⟩ = some (.int .i64 q) ∧ Hid (OkD w #[.int .i64 r0, .int .i64 r1, .int .i64 r2, .int .i64 r3, .int .i64 r4, .int .i64 r5, .int .i64 r6, .int .i64 r7, .int .i64 p, .int .i64 q] 57 z)) := hide fun z h => ⟨Lib.cell_of_heap h.bA 8, Lib.cell_of_heap h.bA 9, h⟩
  have KV : Hid (∀ z : World, (z.cell? ⟨w.heap.size, 8, none⟩ = some (.int .i64 p) ∧ z.cell? ⟨w.heap.size, 9, none⟩ = some (.int .i64 q) ∧ Hid (OkD w #[.int .i64 r0, .int .i64 r1, .int .i64 r2, .int .i64 r3, .int .i64 r4, .int .i64 r5, .int .i64 r6, .int .i64 r7, .int .i64 p, .int .i64 q] 57 z)) → OkD w #[.int .i64 r0, .int .i64 r1, .int .i64 r2, .int .i64 r3, .int .i64 r4, .int .i64 r5, .int .i64 r6, .int .i64 r7, .int .i64 p, .int .i64 q] 57 z) := hide fun z h => h.2.2.out
  have KW : Hid (∀ (z : World) (u0 u1 u2 : Value), OkD w #[.int .i64 r0, .int .i64 r1, .int .i64 r2, .int .i64 r3, .int .i64 r4, .int .i64 r5, .int .i64 r6, .int .i64 r7, .int .i64 p, .int .i64 q] 57 z → OkD w #[.int .i64 r0, .int .i64 r1, .int .i64 r2, .int .i64 r3, .int .i64 r4, .int .i64 r5, .int .i64 r6, .int .i64 r7, .int .i64 p, .int .i64 q] 57 (((z.setCell ⟨w.heap.size + 1, 0, none⟩ u0).setCell ⟨w.heap.size + 1, 1, none⟩ u1).setCell ⟨w.heap.size + 1, 2, none⟩ u2)) := hide fun z u0 u1 u2 h => by
    obtain ⟨W, e, _, h2, _⟩ := h.put u0 u1 u2
    rw [e]
    exact h2
  have K1 := hide (KC.out _ (C0.out.stays (Below.refl _ _).drew))
  go_enter Try.func31, Try.ntmps31
  go_wp2_with fail
  rw [HW.out]
  clear HW C0
  go_region_held3 (fun z => z.cell? ⟨w.heap.size, 8, none⟩ = some (.int .i64 p) ∧ z.cell? ⟨w.heap.size, 9, none⟩ = some (.int .i64 q) ∧ Hid (OkD w #[.int .i64 r0, .int .i64 r1, .int .i64 r2, .int .i64 r3, .int .i64 r4, .int .i64 r5, .int .i64 r6, .int .i64 r7, .int .i64 p, .int .i64 q] 57 z)) (first | with_reducible exact K1.out | with_reducible exact KC.out _ CW.out | with_reducible exact KC.out _ (KW.out _ _ _ _ CW.out))
    ((go_at_call 28; refine (unhide (CK _ (ints_of_box (KV.out _ (by assumption)).bA))).mono ?_; rintro e w6 ⟨v6, rfl, ho6, hb6⟩; obtain ⟨q6, c6, rfl, hq6⟩ := own_form ho6 (by simp); have hlt6 := (KV.out _ (by assumption)).bR; have CW : Hid (OkD w #[.int .i64 r0, .int .i64 r1, .int .i64 r2, .int .i64 r3, .int .i64 r4, .int .i64 r5, .int .i64 r6, .int .i64 r7, .int .i64 p, .int .i64 q] 57 w6) := (hide ((KV.out _ (by assumption)).stays hb6)); clear hb6; obtain ⟨ra, rb, rd, hrr⟩ := CW.out.bR; have y0 := Lib.cell_of_heap hrr 0; have y1 := Lib.cell_of_heap hrr 1; have y2 := Lib.cell_of_heap hrr 2; simp at y0 y1 y2; have f0 := Lib.frozen_of_heap hrr 0; have f1 := Lib.frozen_of_heap hrr 1; have f2 := Lib.frozen_of_heap hrr 2; clear hrr))
  obtain ⟨_, _, _, hl⟩ := hlt6
  have hz := hl.lt
  obtain ⟨W, eW, hB, hO, hk⟩ := CW.out.put (.slice (some ⟨q6, 0, none⟩) 8 c6) (.int .i64 p) (.int .i64 q)
  have OW := hide (owns_lo (owns_eq ho6 fun k hk9 => hk k (by have := (ho6.lt k hk9).1; omega)) (show w.heap.size ≤ _ by omega))
  have EW := hide eW
  have HB := hide hB
  have HO := hide hO
  clear eW hB hO hk hl hz ho6 CW y0 y1 y2 f0 f1 f2 KC KV KW K1 CK
  go_wp2
  rw [EW.out]
  exact box_ret (g := w.heap.size + 1) (t := 26) rfl rfl HB.out _ Try.underlying26 rfl (by kernel_rfl) rfl ⟨_, rfl, ⟨OW.out⟩, HO.out.bel⟩

set_option maxRecDepth 100000 in
set_option maxHeartbeats 4000000 in
theorem implCopied_any (v : Value) (x : Co) (w : World) (h : CoAt w v x) (hl : CoLen x) :
    Calls Try.prog 27 #[.agg #[v, .int .i64 x.pc, .int .i64 x.process]] w fun e w' => ∃ r, e = .returned (.agg #[r, .int .i64 x.pc, .int .i64 x.process]) ∧ CoOwn w.heap.size w' r x ∧ Below w.heap.size w w' := by
  obtain ⟨W0, hW⟩ : ∃ W0, (w.alloc (.cells #[v, .int .i64 x.pc, .int .i64 x.process] 26)).alloc (.cells #[.slice none 0 0, .int .i64 0, .int .i64 0] 26) = W0 := ⟨_, rfl⟩
  have C0 : Hid (OkD w #[v, .int .i64 x.pc, .int .i64 x.process] 26 W0) := by
    rw [← hW]
    exact hide ⟨(Box.made _ _ _).stays ((Below.refl _ _).alloc (Nat.le_refl _) _), ⟨_, _, _, Box.madeAt (by simp) _ _⟩, by go_grown⟩
  have HW := hide hW
  clear hW
  have HA := hide h
  have CK := fun z (h : Below w.heap.size w z) => hide (cloneI_own v x.regs z (HA.out.stays h).a0 hl.l0)
  obtain ⟨o, c, rfl, _⟩ := h.a0
  clear h hl
  obtain ⟨xs, p, q⟩ := x
  obtain ⟨n, en⟩ : ∃ n, xs.length = n := ⟨_, rfl⟩
  simp only [en] at CK HW C0 ⊢
  clear HA
  have EN := hide en
  clear en
  have KC : Hid (∀ z : World, OkD w #[.slice o n c, .int .i64 p, .int .i64 q] 26 z → z.cell? ⟨w.heap.size, 0, none⟩ = some (.slice o n c) ∧ z.cell? ⟨w.heap.size, 1, none⟩ = some (.int .i64 p) ∧ z.cell? ⟨w.heap.size, 2, none⟩ = some (.int .i64 q) ∧ Hid (OkD w #[.slice o n c, .int .i64 p, .int .i64 q] 26 z)) := hide fun z h => ⟨Lib.cell_of_heap h.bA 0, Lib.cell_of_heap h.bA 1, Lib.cell_of_heap h.bA 2, h⟩
  have KV : Hid (∀ z : World, (z.cell? ⟨w.heap.size, 0, none⟩ = some (.slice o n c) ∧ z.cell? ⟨w.heap.size, 1, none⟩ = some (.int .i64 p) ∧ z.cell? ⟨w.heap.size, 2, none⟩ = some (.int .i64 q) ∧ Hid (OkD w #[.slice o n c, .int .i64 p, .int .i64 q] 26 z)) → OkD w #[.slice o n c, .int .i64 p, .int .i64 q] 26 z) := hide fun z h => h.2.2.2.out
  have KW : Hid (∀ (z : World) (u0 u1 u2 : Value), OkD w #[.slice o n c, .int .i64 p, .int .i64 q] 26 z → OkD w #[.slice o n c, .int .i64 p, .int .i64 q] 26 (((z.setCell ⟨w.heap.size + 1, 0, none⟩ u0).setCell ⟨w.heap.size + 1, 1, none⟩ u1).setCell ⟨w.heap.size + 1, 2, none⟩ u2)) := hide fun z u0 u1 u2 h => by
    obtain ⟨W, e, _, h2, _⟩ := h.put u0 u1 u2
    rw [e]
    exact h2
  have K1 := hide (KC.out _ (C0.out.stays (Below.refl _ _).drew))
  go_enter Try.func27, Try.ntmps27
  go_wp2_with fail
  rw [HW.out]
  clear HW C0
  go_region_held3 (fun z => z.cell? ⟨w.heap.size, 0, none⟩ = some (.slice o n c) ∧ z.cell? ⟨w.heap.size, 1, none⟩ = some (.int .i64 p) ∧ z.cell? ⟨w.heap.size, 2, none⟩ = some (.int .i64 q) ∧ Hid (OkD w #[.slice o n c, .int .i64 p, .int .i64 q] 26 z)) (first | with_reducible exact K1.out | with_reducible exact KC.out _ CW.out | with_reducible exact KC.out _ (KW.out _ _ _ _ CW.out))
    ((go_at_call 28; refine (unhide (CK _ (KV.out _ (by assumption)).bel)).mono ?_; rintro e w6 ⟨v6, rfl, ho6, hb6⟩; obtain ⟨po6, pc6, rfl⟩ := form_own ho6; have hlt6 := (KV.out _ (by assumption)).bR; have CW : Hid (OkD w #[.slice o n c, .int .i64 p, .int .i64 q] 26 w6) := (hide ((KV.out _ (by assumption)).stays hb6)); clear hb6; obtain ⟨ra, rb, rd, hrr⟩ := CW.out.bR; have y0 := Lib.cell_of_heap hrr 0; have y1 := Lib.cell_of_heap hrr 1; have y2 := Lib.cell_of_heap hrr 2; simp at y0 y1 y2; have f0 := Lib.frozen_of_heap hrr 0; have f1 := Lib.frozen_of_heap hrr 1; have f2 := Lib.frozen_of_heap hrr 2; clear hrr))
  obtain ⟨_, _, _, hl⟩ := hlt6
  have hz := hl.lt
  obtain ⟨W, eW, hB, hO, hk⟩ := CW.out.put (.slice po6 n pc6) (.int .i64 p) (.int .i64 q)
  have OW := hide (owns_lo (owns_eq ho6 fun k hk9 => hk k (by have := (ho6.lt k hk9).1; omega)) (show w.heap.size ≤ _ by omega))
  have EW := hide eW
  have HB := hide hB
  have HO := hide hO
  clear eW hB hO hk hl hz ho6 CW y0 y1 y2 f0 f1 f2 KC KV KW K1 CK
  go_wp2
  rw [EW.out]
  refine box_ret (g := w.heap.size + 1) (t := 26) rfl rfl HB.out _ Try.underlying26 rfl (by kernel_rfl) rfl ⟨_, rfl, ⟨?_⟩, HO.out.bel⟩
  have := OW.out
  rw [← EN.out] at this ⊢
  exact this

set_option maxRecDepth 100000 in
set_option maxHeartbeats 4000000 in
theorem implCoreNew_any (w : World) :
    Calls Try.prog 16 #[] w fun e w' => ∃ r0, e = .returned (.agg #[r0, .int .i64 coreNewE.pc, .int .i64 coreNewE.process]) ∧ CoOwn w.heap.size w' r0 coreNewE ∧ Below w.heap.size w w' := by
  have hal : Below w.heap.size w (w.alloc (.cells #[.slice none 0 0, .int .i64 0, .int .i64 0] 26)) := (Below.refl _ _).alloc (Nat.le_refl _) _
  have C1 := hide (implCore_any 0 0 0 0 0 0 0 0 0 (-1) (w.alloc (.cells #[.slice none 0 0, .int .i64 0, .int .i64 0] 26)))
  have B1 := hide (Box.made w #[.slice none 0 0, .int .i64 0, .int .i64 0] 26)
  have HAL := hide hal
  have HS : Hid ((w.alloc (.cells #[.slice none 0 0, .int .i64 0, .int .i64 0] 26)).heap.size = w.heap.size + 1) := by show _ = _; simp
  clear hal
  go_enter Try.func16, Try.ntmps16
  go_wp2_with fail
  refine (unhide C1).mono ?_
  rintro e z ⟨r, rfl, ho, hb⟩
  have Bz := B1.out.stays hb
  obtain ⟨po, pc, rfl⟩ := form_own ho.o0
  have hz := HS.out
  have hk : ∀ k, k ≠ w.heap.size → (((z.setCell ⟨w.heap.size, 0, none⟩ (.slice po 8 pc)).setCell ⟨w.heap.size, 1, none⟩ (.int .i64 0)).setCell ⟨w.heap.size, 2, none⟩ (.int .i64 (-1))).heap[k]? = z.heap[k]? := fun k hk =>
    (Below.heap_setCell _ ⟨w.heap.size, 2, none⟩ _ k hk).trans ((Below.heap_setCell _ ⟨w.heap.size, 1, none⟩ _ k hk).trans (Below.heap_setCell _ ⟨w.heap.size, 0, none⟩ _ k hk))
  have hB : Box (((z.setCell ⟨w.heap.size, 0, none⟩ (.slice po 8 pc)).setCell ⟨w.heap.size, 1, none⟩ (.int .i64 0)).setCell ⟨w.heap.size, 2, none⟩ (.int .i64 (-1))) w.heap.size #[.slice po 8 pc, .int .i64 0, .int .i64 (-1)] 26 := by simpa using ((Bz.set 0 (.slice po 8 pc)).set 1 (.int .i64 0)).set 2 (.int .i64 (-1))
  have hE : Below w.heap.size w (((z.setCell ⟨w.heap.size, 0, none⟩ (.slice po 8 pc)).setCell ⟨w.heap.size, 1, none⟩ (.int .i64 0)).setCell ⟨w.heap.size, 2, none⟩ (.int .i64 (-1))) := (((HAL.out.trans (hb.mono HAL.out.size)).setCell (p := ⟨w.heap.size, 0, none⟩) (Nat.le_refl _) _).setCell (p := ⟨w.heap.size, 1, none⟩) (Nat.le_refl _) _).setCell (p := ⟨w.heap.size, 2, none⟩) (Nat.le_refl _) _
  have OW := hide (owns_lo (owns_eq ho.o0 fun k hk9 => hk k (by have := (ho.o0.lt k hk9).1; omega)) (show w.heap.size ≤ _ by omega))
  obtain ⟨W, eW⟩ : ∃ W, (((z.setCell ⟨w.heap.size, 0, none⟩ (.slice po 8 pc)).setCell ⟨w.heap.size, 1, none⟩ (.int .i64 0)).setCell ⟨w.heap.size, 2, none⟩ (.int .i64 (-1))) = W := ⟨_, rfl⟩
  have EW := hide eW
  rw [eW] at OW hB hE
  have HB := hide hB
  have HE := hide hE
  have y0 := Lib.cell_of_heap Bz 0
  have y1 := Lib.cell_of_heap Bz 1
  have y2 := Lib.cell_of_heap Bz 2
  simp at y0 y1 y2
  have f0 := Lib.frozen_of_heap Bz 0
  have f1 := Lib.frozen_of_heap Bz 1
  have f2 := Lib.frozen_of_heap Bz 2
  clear eW hB hE hk hz ho hb Bz B1 HAL HS C1
  go_wp2
  rw [EW.out]
  exact box_ret (g := w.heap.size) (t := 26) rfl rfl HB.out _ Try.underlying26 rfl (by kernel_rfl) rfl ⟨_, rfl, ⟨OW.out⟩, HE.out⟩
end Go.Proofs.Ytmchgmpdhfefjaa
