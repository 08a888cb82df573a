/-
  Walks: Core copied, by the specification.
-/
import Derived.Test.YtoageggcbpjlmaaFlC
import Derived.Test.YtoageggcbpjlmaaCopP
namespace Go.Proofs.Ytoageggcbpjlmaa
open Go.RowKit

structure CpCo (w W : World) (a : Array Value) (z : World) : Prop where
  bA : Box z w.heap.size a 24
  bR : ∃ r0 r1 r2, Box z (w.heap.size + 1) #[r0, r1, r2] 24
  bel : Below w.heap.size w z
  le : w.heap.size + 2 ≤ z.heap.size
theorem CpCo.go {w W : World} {a : Array Value} {z z' : World} (h : CpCo w W a z) (hb : Below (w.heap.size + 2) z z') : CpCo w W a z' :=
  ⟨(hb.block _ (by omega)).trans h.bA, by
    obtain ⟨r0, r1, r2, hr⟩ := h.bR
    exact ⟨r0, r1, r2, (hb.block _ (by omega)).trans hr⟩, h.bel.trans (hb.mono (by omega)), Nat.le_trans h.le hb.size⟩
theorem CpCo.store {w W : World} {a : Array Value} {z : World} (h : CpCo w W a z) (t0 t1 t2 : Value) : CpCo w W a ((((z.setCell ⟨w.heap.size + 1, 0, none⟩ t0).setCell ⟨w.heap.size + 1, 1, none⟩ t1).setCell ⟨w.heap.size + 1, 2, none⟩ t2)) ∧ Box ((((z.setCell ⟨w.heap.size + 1, 0, none⟩ t0).setCell ⟨w.heap.size + 1, 1, none⟩ t1).setCell ⟨w.heap.size + 1, 2, none⟩ t2)) (w.heap.size + 1) #[t0, t1, t2] 24 := by
  obtain ⟨r0, r1, r2, hr⟩ := h.bR
  have hs : Box ((((z.setCell ⟨w.heap.size + 1, 0, none⟩ t0).setCell ⟨w.heap.size + 1, 1, none⟩ t1).setCell ⟨w.heap.size + 1, 2, none⟩ t2)) (w.heap.size + 1) #[t0, t1, t2] 24 := by simpa using (((hr.set 0 t0).set 1 t1).set 2 t2)
  refine ⟨⟨?_, ⟨t0, t1, t2, hs⟩, ?_, ?_⟩, hs⟩
  · exact (((h.bA.other ⟨w.heap.size + 1, 0, none⟩ t0 (by show w.heap.size ≠ _; simp)).other ⟨w.heap.size + 1, 1, none⟩ t1 (by show w.heap.size ≠ _; simp)).other ⟨w.heap.size + 1, 2, none⟩ t2 (by show w.heap.size ≠ _; simp))
  · exact (((h.bel.setCell (p := ⟨w.heap.size + 1, 0, none⟩) (by show w.heap.size ≤ w.heap.size + 1; omega) t0).setCell (p := ⟨w.heap.size + 1, 1, none⟩) (by show w.heap.size ≤ w.heap.size + 1; omega) t1).setCell (p := ⟨w.heap.size + 1, 2, none⟩) (by show w.heap.size ≤ w.heap.size + 1; omega) t2)
  · have := h.le
    simpa [World.setCell] using this

set_option maxRecDepth 100000 in
set_option maxHeartbeats 8000000 in
theorem copyCo_any (v0 : Value) (x : Co) (w : World) (h : CoAt w v0 x) (hl : CoLen x) :
    Calls Try.prog 30 #[.agg #[v0, .int .i64 x.pc, .int .i64 x.process]] w fun e w' => ∃ r0, e = .returned (.agg #[r0, .int .i64 x.pc, .int .i64 x.process]) ∧ CoOwn w.heap.size w' r0 x ∧ Below w.heap.size w w' := by
  have HA := hide h
  have L0 := hl.l0
  obtain ⟨o0, c0, rfl, _⟩ := h.a0
  clear h hl
  obtain ⟨W0, hW⟩ : ∃ W0, (w.alloc (.cells #[.slice o0 x.regs.length c0, .int .i64 x.pc, .int .i64 x.process] 24)).alloc (.cells #[.slice none 0 0, .int .i64 0, .int .i64 0] 24) = W0 := ⟨_, rfl⟩
  have C0 : Hid (CpCo w W0 #[.slice o0 x.regs.length c0, .int .i64 x.pc, .int .i64 x.process] W0) := by
    rw [← hW]
    exact hide ⟨(Box.made w #[.slice o0 x.regs.length c0, .int .i64 x.pc, .int .i64 x.process] 24).stays ((Below.refl _ _).alloc (Nat.le_refl _) _), ⟨_, _, _, Box.madeAt (by simp) _ _⟩, by go_grown, by simp⟩
  have HZ : Hid (W0.heap.size = w.heap.size + 2) := by rw [← hW]; show _ = _; simp
  have HW := hide hW
  clear hW
  have KC : Hid (∀ z : World, CpCo w W0 #[.slice o0 x.regs.length c0, .int .i64 x.pc, .int .i64 x.process] z → (z.cell? ⟨w.heap.size, 0, none⟩ = some (.slice o0 x.regs.length c0) ∧ z.cell? ⟨w.heap.size, 1, none⟩ = some (.int .i64 x.pc) ∧ z.cell? ⟨w.heap.size, 2, none⟩ = some (.int .i64 x.process) ∧ Hid (CpCo w W0 #[.slice o0 x.regs.length c0, .int .i64 x.pc, .int .i64 x.process] z))) := fun z hz => ⟨Lib.cell_of_heap hz.bA 0, Lib.cell_of_heap hz.bA 1, Lib.cell_of_heap hz.bA 2, hz⟩
  have KV : Hid (∀ z : World, (z.cell? ⟨w.heap.size, 0, none⟩ = some (.slice o0 x.regs.length c0) ∧ z.cell? ⟨w.heap.size, 1, none⟩ = some (.int .i64 x.pc) ∧ z.cell? ⟨w.heap.size, 2, none⟩ = some (.int .i64 x.process) ∧ Hid (CpCo w W0 #[.slice o0 x.regs.length c0, .int .i64 x.pc, .int .i64 x.process] z)) → CpCo w W0 #[.slice o0 x.regs.length c0, .int .i64 x.pc, .int .i64 x.process] z) := fun z hz => hz.2.2.2.out
  have KP : Hid (∀ z z' : World, (z.cell? ⟨w.heap.size, 0, none⟩ = some (.slice o0 x.regs.length c0) ∧ z.cell? ⟨w.heap.size, 1, none⟩ = some (.int .i64 x.pc) ∧ z.cell? ⟨w.heap.size, 2, none⟩ = some (.int .i64 x.process) ∧ Hid (CpCo w W0 #[.slice o0 x.regs.length c0, .int .i64 x.pc, .int .i64 x.process] z)) → Below (w.heap.size + 2) z z' → (z'.cell? ⟨w.heap.size, 0, none⟩ = some (.slice o0 x.regs.length c0) ∧ z'.cell? ⟨w.heap.size, 1, none⟩ = some (.int .i64 x.pc) ∧ z'.cell? ⟨w.heap.size, 2, none⟩ = some (.int .i64 x.process) ∧ Hid (CpCo w W0 #[.slice o0 x.regs.length c0, .int .i64 x.pc, .int .i64 x.process] z'))) := fun z z' hz hb => KC.out _ ((KV.out _ hz).go hb)
  have KA : Hid (∀ (z : World) (o : Obj), (z.cell? ⟨w.heap.size, 0, none⟩ = some (.slice o0 x.regs.length c0) ∧ z.cell? ⟨w.heap.size, 1, none⟩ = some (.int .i64 x.pc) ∧ z.cell? ⟨w.heap.size, 2, none⟩ = some (.int .i64 x.process) ∧ Hid (CpCo w W0 #[.slice o0 x.regs.length c0, .int .i64 x.pc, .int .i64 x.process] z)) → ((z.alloc o).cell? ⟨w.heap.size, 0, none⟩ = some (.slice o0 x.regs.length c0) ∧ (z.alloc o).cell? ⟨w.heap.size, 1, none⟩ = some (.int .i64 x.pc) ∧ (z.alloc o).cell? ⟨w.heap.size, 2, none⟩ = some (.int .i64 x.process) ∧ Hid (CpCo w W0 #[.slice o0 x.regs.length c0, .int .i64 x.pc, .int .i64 x.process] (z.alloc o)))) := fun z o hz => KP.out _ _ hz ((Below.refl _ _).alloc (KV.out _ hz).le _)
  have K0 := hide (KC.out _ (C0.out.go (Below.refl _ _).drew))
  have KR0 : Hid (∀ z : World, (z.cell? ⟨w.heap.size, 0, none⟩ = some (.slice o0 x.regs.length c0) ∧ z.cell? ⟨w.heap.size, 1, none⟩ = some (.int .i64 x.pc) ∧ z.cell? ⟨w.heap.size, 2, none⟩ = some (.int .i64 x.process) ∧ Hid (CpCo w W0 #[.slice o0 x.regs.length c0, .int .i64 x.pc, .int .i64 x.process] z)) → RowAt z (.slice o0 x.regs.length c0) (x.regs.map I64)) := fun z hz => (HA.out.a0.stays (KV.out _ hz).bel).row
  have KO0 : Hid (∀ u ∈ x.regs.map I64, u.oneCell' = true) := fun u hu => by obtain ⟨y, _, rfl⟩ := List.mem_map.1 hu; rfl
  have KL0 : Hid ((x.regs.map I64).length ≤ maxLen) := by rw [List.length_map]; show _ ≤ _; unfold maxLen; omega
  have KM0 : Hid ((x.regs.map I64).length * 8 ≤ 140737488355328) := by rw [List.length_map]; show _ ≤ _; omega
  go_enter Try.func30, Try.ntmps30
  go_wp2_with fail
  rw [HW.out]
  go_region_held3 (fun z => z.cell? ⟨w.heap.size, 0, none⟩ = some (.slice o0 x.regs.length c0) ∧ z.cell? ⟨w.heap.size, 1, none⟩ = some (.int .i64 x.pc) ∧ z.cell? ⟨w.heap.size, 2, none⟩ = some (.int .i64 x.process) ∧ Hid (CpCo w W0 #[.slice o0 x.regs.length c0, .int .i64 x.pc, .int .i64 x.process] z)) (first | exact K0.out | exact KA.out _ _ (by assumption) | exact KP.out _ _ (by assumption) (hq6.bel.mono (by have := HZ.out; simp; omega)) | exact KC.out _ (CW.out.store _ _ _).1)
    (first
      | (refine step_copy rfl _ _ 22 rfl (w.heap.size + 2) 3 (.int .i64 0) 8 Try.underlying22 Try.infoInt rfl _ rfl (by first | (first | (show Box (W0.alloc _) _ _ _; exact box_one _ _) | (show Box ((W0.alloc _).alloc _) _ _ _; exact box_two1 _ _ _) | (show Box ((W0.alloc _).alloc _) _ _ _; exact box_two2 _ _ _))) (by have := HZ.out; simp; omega) _ (x.regs.map I64) rfl (KR0.out _ (by assumption)) KO0.out KL0.out KM0.out ?_; intro u6 w6 hq6; obtain ⟨po6, pc6, rfl⟩ := form_own hq6.own; have CW := hide ((KV.out _ (by assumption)).go (hq6.bel.mono (by have := HZ.out; simp; omega))); obtain ⟨rr0, rr1, rr2, hrr⟩ := CW.out.bR; have y0 := Lib.cell_of_heap hrr 0; simp at y0; have f0 := Lib.frozen_of_heap hrr 0; have y1 := Lib.cell_of_heap hrr 1; simp at y1; have f1 := Lib.frozen_of_heap hrr 1; have y2 := Lib.cell_of_heap hrr 2; simp at y2; have f2 := Lib.frozen_of_heap hrr 2; clear hrr))
  all_goals go_wp2
  all_goals
    have HS := CW.out.store (.slice po6 x.regs.length pc6) (.int .i64 x.pc) (.int .i64 x.process)
    have Q6 := hq6.own
    have S6 := hq6.pos
    simp only [List.length_map] at Q6 S6
    refine box_ret (g := w.heap.size + 1) (t := 24) (cs := #[.slice po6 x.regs.length pc6, .int .i64 x.pc, .int .i64 x.process]) rfl rfl ?_ _ Try.underlying24 rfl (by kernel_rfl) rfl ?_
    · exact HS.2
    · exact ⟨_, rfl, ⟨owns_lo (owns_eq Q6 fun g hg => by have hg2 := (Q6.lt g hg).1; exact (Below.heap_setCell _ ⟨w.heap.size + 1, 2, none⟩ _ g (by show g ≠ w.heap.size + 1; omega)).trans ((Below.heap_setCell _ ⟨w.heap.size + 1, 1, none⟩ _ g (by show g ≠ w.heap.size + 1; omega)).trans (Below.heap_setCell _ ⟨w.heap.size + 1, 0, none⟩ _ g (by show g ≠ w.heap.size + 1; omega)))) (by omega)⟩, HS.1.bel⟩
end Go.Proofs.Ytoageggcbpjlmaa
