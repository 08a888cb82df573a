/-
  Walks: Gate copied, by the specification.
-/
import Derived.Test.YtnedpcgdepiakaaFlG
import Derived.Test.YtnedpcgdepiakaaCopP
namespace Go.Proofs.Ytnedpcgdepiakaa
open Go.RowKit

structure CpGt (w W : World) (a : Array Value) (z : World) : Prop where
  bA : Box z w.heap.size a 24
  bR : ∃ r0 r1 r2, Box z (w.heap.size + 1) #[r0, r1, r2] 24
  bel : Below w.heap.size w z
  le : w.heap.size + 2 ≤ z.heap.size
theorem CpGt.go {w W : World} {a : Array Value} {z z' : World} (h : CpGt w W a z) (hb : Below (w.heap.size + 2) z z') : CpGt w W a z' :=
  ⟨(hb.block _ (by omega)).trans h.bA, by
    obtain ⟨r0, r1, r2, hr⟩ := h.bR
    exact ⟨r0, r1, r2, (hb.block _ (by omega)).trans hr⟩, h.bel.trans (hb.mono (by omega)), Nat.le_trans h.le hb.size⟩
theorem CpGt.store {w W : World} {a : Array Value} {z : World} (h : CpGt w W a z) (t0 t1 t2 : Value) : CpGt w W a ((((z.setCell ⟨w.heap.size + 1, 0, none⟩ t0).setCell ⟨w.heap.size + 1, 1, none⟩ t1).setCell ⟨w.heap.size + 1, 2, none⟩ t2)) ∧ Box ((((z.setCell ⟨w.heap.size + 1, 0, none⟩ t0).setCell ⟨w.heap.size + 1, 1, none⟩ t1).setCell ⟨w.heap.size + 1, 2, none⟩ t2)) (w.heap.size + 1) #[t0, t1, t2] 24 := by
  obtain ⟨r0, r1, r2, hr⟩ := h.bR
  have hs : Box ((((z.setCell ⟨w.heap.size + 1, 0, none⟩ t0).setCell ⟨w.heap.size + 1, 1, none⟩ t1).setCell ⟨w.heap.size + 1, 2, none⟩ t2)) (w.heap.size + 1) #[t0, t1, t2] 24 := by simpa using (((hr.set 0 t0).set 1 t1).set 2 t2)
  refine ⟨⟨?_, ⟨t0, t1, t2, hs⟩, ?_, ?_⟩, hs⟩
  · exact (((h.bA.other ⟨w.heap.size + 1, 0, none⟩ t0 (by show w.heap.size ≠ _; simp)).other ⟨w.heap.size + 1, 1, none⟩ t1 (by show w.heap.size ≠ _; simp)).other ⟨w.heap.size + 1, 2, none⟩ t2 (by show w.heap.size ≠ _; simp))
  · exact (((h.bel.setCell (p := ⟨w.heap.size + 1, 0, none⟩) (by show w.heap.size ≤ w.heap.size + 1; omega) t0).setCell (p := ⟨w.heap.size + 1, 1, none⟩) (by show w.heap.size ≤ w.heap.size + 1; omega) t1).setCell (p := ⟨w.heap.size + 1, 2, none⟩) (by show w.heap.size ≤ w.heap.size + 1; omega) t2)
  · have := h.le
    simpa [World.setCell] using this

set_option maxRecDepth 100000 in
set_option maxHeartbeats 8000000 in
theorem copyGt_any (v1 v2 : Value) (x : Gt) (w : World) (h : GtAt w v1 v2 x) (hl : GtLen x) :
    Calls Try.prog 37 #[.agg #[.int .i64 x.owner, v1, v2]] w fun e w' => ∃ r1 r2, e = .returned (.agg #[.int .i64 x.owner, r1, r2]) ∧ GtOwn w.heap.size w' r1 r2 x ∧ Below w.heap.size w w' := by
  have HA := hide h
  have L1 := hl.l1
  have L2 := hl.l2
  obtain ⟨o1, c1, rfl, _⟩ := h.a1
  obtain ⟨o2, c2, rfl, _⟩ := h.a2
  clear h hl
  obtain ⟨W0, hW⟩ : ∃ W0, (w.alloc (.cells #[.int .i64 x.owner, .slice o1 x.waits.length c1, .slice o2 x.queues.length c2] 24)).alloc (.cells #[.int .i64 0, .slice none 0 0, .slice none 0 0] 24) = W0 := ⟨_, rfl⟩
  have C0 : Hid (CpGt w W0 #[.int .i64 x.owner, .slice o1 x.waits.length c1, .slice o2 x.queues.length c2] W0) := by
    rw [← hW]
    exact hide ⟨(Box.made w #[.int .i64 x.owner, .slice o1 x.waits.length c1, .slice o2 x.queues.length c2] 24).stays ((Below.refl _ _).alloc (Nat.le_refl _) _), ⟨_, _, _, Box.madeAt (by simp) _ _⟩, by go_grown, by simp⟩
  have HZ : Hid (W0.heap.size = w.heap.size + 2) := by rw [← hW]; show _ = _; simp
  have HW := hide hW
  clear hW
  have KC : Hid (∀ z : World, CpGt w W0 #[.int .i64 x.owner, .slice o1 x.waits.length c1, .slice o2 x.queues.length c2] z → (z.cell? ⟨w.heap.size, 0, none⟩ = some (.int .i64 x.owner) ∧ z.cell? ⟨w.heap.size, 1, none⟩ = some (.slice o1 x.waits.length c1) ∧ z.cell? ⟨w.heap.size, 2, none⟩ = some (.slice o2 x.queues.length c2) ∧ Hid (CpGt w W0 #[.int .i64 x.owner, .slice o1 x.waits.length c1, .slice o2 x.queues.length c2] z))) := fun z hz => ⟨Lib.cell_of_heap hz.bA 0, Lib.cell_of_heap hz.bA 1, Lib.cell_of_heap hz.bA 2, hz⟩
  have KV : Hid (∀ z : World, (z.cell? ⟨w.heap.size, 0, none⟩ = some (.int .i64 x.owner) ∧ z.cell? ⟨w.heap.size, 1, none⟩ = some (.slice o1 x.waits.length c1) ∧ z.cell? ⟨w.heap.size, 2, none⟩ = some (.slice o2 x.queues.length c2) ∧ Hid (CpGt w W0 #[.int .i64 x.owner, .slice o1 x.waits.length c1, .slice o2 x.queues.length c2] z)) → CpGt w W0 #[.int .i64 x.owner, .slice o1 x.waits.length c1, .slice o2 x.queues.length c2] z) := fun z hz => hz.2.2.2.out
  have KP : Hid (∀ z z' : World, (z.cell? ⟨w.heap.size, 0, none⟩ = some (.int .i64 x.owner) ∧ z.cell? ⟨w.heap.size, 1, none⟩ = some (.slice o1 x.waits.length c1) ∧ z.cell? ⟨w.heap.size, 2, none⟩ = some (.slice o2 x.queues.length c2) ∧ Hid (CpGt w W0 #[.int .i64 x.owner, .slice o1 x.waits.length c1, .slice o2 x.queues.length c2] z)) → Below (w.heap.size + 2) z z' → (z'.cell? ⟨w.heap.size, 0, none⟩ = some (.int .i64 x.owner) ∧ z'.cell? ⟨w.heap.size, 1, none⟩ = some (.slice o1 x.waits.length c1) ∧ z'.cell? ⟨w.heap.size, 2, none⟩ = some (.slice o2 x.queues.length c2) ∧ Hid (CpGt w W0 #[.int .i64 x.owner, .slice o1 x.waits.length c1, .slice o2 x.queues.length c2] z'))) := fun z z' hz hb => KC.out _ ((KV.out _ hz).go hb)
  have KA : Hid (∀ (z : World) (o : Obj), (z.cell? ⟨w.heap.size, 0, none⟩ = some (.int .i64 x.owner) ∧ z.cell? ⟨w.heap.size, 1, none⟩ = some (.slice o1 x.waits.length c1) ∧ z.cell? ⟨w.heap.size, 2, none⟩ = some (.slice o2 x.queues.length c2) ∧ Hid (CpGt w W0 #[.int .i64 x.owner, .slice o1 x.waits.length c1, .slice o2 x.queues.length c2] z)) → ((z.alloc o).cell? ⟨w.heap.size, 0, none⟩ = some (.int .i64 x.owner) ∧ (z.alloc o).cell? ⟨w.heap.size, 1, none⟩ = some (.slice o1 x.waits.length c1) ∧ (z.alloc o).cell? ⟨w.heap.size, 2, none⟩ = some (.slice o2 x.queues.length c2) ∧ Hid (CpGt w W0 #[.int .i64 x.owner, .slice o1 x.waits.length c1, .slice o2 x.queues.length c2] (z.alloc o)))) := fun z o hz => KP.out _ _ hz ((Below.refl _ _).alloc (KV.out _ hz).le _)
  have K0 := hide (KC.out _ (C0.out.go (Below.refl _ _).drew))
  have KR1 : Hid (∀ z : World, (z.cell? ⟨w.heap.size, 0, none⟩ = some (.int .i64 x.owner) ∧ z.cell? ⟨w.heap.size, 1, none⟩ = some (.slice o1 x.waits.length c1) ∧ z.cell? ⟨w.heap.size, 2, none⟩ = some (.slice o2 x.queues.length c2) ∧ Hid (CpGt w W0 #[.int .i64 x.owner, .slice o1 x.waits.length c1, .slice o2 x.queues.length c2] z)) → RowAt z (.slice o1 x.waits.length c1) (x.waits.map I64)) := fun z hz => (HA.out.a1.stays (KV.out _ hz).bel).row
  have KO1 : Hid (∀ u ∈ x.waits.map I64, u.oneCell' = true) := fun u hu => by obtain ⟨y, _, rfl⟩ := List.mem_map.1 hu; rfl
  have KL1 : Hid ((x.waits.map I64).length ≤ maxLen) := by rw [List.length_map]; show _ ≤ _; unfold maxLen; omega
  have KM1 : Hid ((x.waits.map I64).length * 8 ≤ 140737488355328) := by rw [List.length_map]; show _ ≤ _; omega
  have KR2 : Hid (∀ z : World, (z.cell? ⟨w.heap.size, 0, none⟩ = some (.int .i64 x.owner) ∧ z.cell? ⟨w.heap.size, 1, none⟩ = some (.slice o1 x.waits.length c1) ∧ z.cell? ⟨w.heap.size, 2, none⟩ = some (.slice o2 x.queues.length c2) ∧ Hid (CpGt w W0 #[.int .i64 x.owner, .slice o1 x.waits.length c1, .slice o2 x.queues.length c2] z)) → RowAt z (.slice o2 x.queues.length c2) (x.queues.map I64)) := fun z hz => (HA.out.a2.stays (KV.out _ hz).bel).row
  have KO2 : Hid (∀ u ∈ x.queues.map I64, u.oneCell' = true) := fun u hu => by obtain ⟨y, _, rfl⟩ := List.mem_map.1 hu; rfl
  have KL2 : Hid ((x.queues.map I64).length ≤ maxLen) := by rw [List.length_map]; show _ ≤ _; unfold maxLen; omega
  have KM2 : Hid ((x.queues.map I64).length * 8 ≤ 140737488355328) := by rw [List.length_map]; show _ ≤ _; omega
  go_enter Try.func37, Try.ntmps37
  go_wp2_with fail
  rw [HW.out]
  go_region_held3 (fun z => z.cell? ⟨w.heap.size, 0, none⟩ = some (.int .i64 x.owner) ∧ z.cell? ⟨w.heap.size, 1, none⟩ = some (.slice o1 x.waits.length c1) ∧ z.cell? ⟨w.heap.size, 2, none⟩ = some (.slice o2 x.queues.length c2) ∧ Hid (CpGt w W0 #[.int .i64 x.owner, .slice o1 x.waits.length c1, .slice o2 x.queues.length c2] z)) (first | exact K0.out | exact KA.out _ _ (by assumption) | exact KP.out _ _ (by assumption) (hq6.bel.mono (by have := HZ.out; simp; omega)) | exact KP.out _ _ (by assumption) (hq7.bel.mono (by have := HZ.out; have h6 := hq6.bel.size; simp at h6 ⊢; omega)) | exact KC.out _ (CW.out.store _ _ _).1)
    (first
      | (refine step_copy rfl _ _ 22 rfl (w.heap.size + 2) 3 (.int .i64 0) 8 Try.underlying22 Try.infoInt rfl _ rfl (by first | (first | (show Box (W0.alloc _) _ _ _; exact box_one _ _) | (show Box ((W0.alloc _).alloc _) _ _ _; exact box_two1 _ _ _) | (show Box ((W0.alloc _).alloc _) _ _ _; exact box_two2 _ _ _))) (by have := HZ.out; simp; omega) _ (x.waits.map I64) rfl (KR1.out _ (by assumption)) KO1.out KL1.out KM1.out ?_; intro u6 w6 hq6; obtain ⟨po6, pc6, rfl⟩ := form_own hq6.own)
      | (refine step_copy rfl _ _ 22 rfl (w.heap.size + 2) 3 (.int .i64 0) 8 Try.underlying22 Try.infoInt rfl _ rfl (by first | (first | (show Box (W0.alloc _) _ _ _; exact box_one _ _) | (show Box ((W0.alloc _).alloc _) _ _ _; exact box_two1 _ _ _) | (show Box ((W0.alloc _).alloc _) _ _ _; exact box_two2 _ _ _)) | (show Box (w6.alloc _) _ _ _; exact box_one _ _) | (refine hq6.box ?_ (by simp); first | (show Box (W0.alloc _) _ _ _; exact box_one _ _) | (show Box ((W0.alloc _).alloc _) _ _ _; exact box_two1 _ _ _) | (show Box ((W0.alloc _).alloc _) _ _ _; exact box_two2 _ _ _))) (by have := HZ.out; have h6 := hq6.bel.size; simp at h6 ⊢; omega) _ (x.queues.map I64) rfl (KR2.out _ (by assumption)) KO2.out KL2.out KM2.out ?_; intro u7 w7 hq7; obtain ⟨po7, pc7, rfl⟩ := form_own hq7.own; have CW := hide ((KV.out _ (by assumption)).go (hq7.bel.mono (by have := HZ.out; have h6 := hq6.bel.size; simp at h6 ⊢; omega))); obtain ⟨rr0, rr1, rr2, hrr⟩ := CW.out.bR; have y0 := Lib.cell_of_heap hrr 0; simp at y0; have f0 := Lib.frozen_of_heap hrr 0; have y1 := Lib.cell_of_heap hrr 1; simp at y1; have f1 := Lib.frozen_of_heap hrr 1; have y2 := Lib.cell_of_heap hrr 2; simp at y2; have f2 := Lib.frozen_of_heap hrr 2; clear hrr))
  all_goals go_wp2
  all_goals
    have HS := CW.out.store (.int .i64 x.owner) (.slice po6 x.waits.length pc6) (.slice po7 x.queues.length pc7)
    have Q6 := hq6.own
    have S6 := hq6.pos
    have Q7 := hq7.own
    have S7 := hq7.pos
    simp only [List.length_map] at Q6 S6
    simp only [List.length_map] at Q7 S7
    have K6 : ∀ g, ((.slice po6 x.waits.length pc6) : Value).ownBlock = some g → w7.heap[g]? = w6.heap[g]? := fun g hg => by
      have hlt := (Q6.lt g hg).2
      first
        | exact (hq7.oth g (by omega) (by simp; omega)).trans (Below.heap_alloc w6 _ g hlt)
        | (refine hq7.oth g ?_ hlt; rcases S6 with e | e <;> rw [hg] at e <;> injection e with e <;> (try simp at e) <;> omega)
    have E6 := owns_eq Q6 K6
    have AP : ∀ i, ((.slice po6 x.waits.length pc6) : Value).ownBlock = some i → ((.slice po7 x.queues.length pc7) : Value).ownBlock ≠ some i := fun i h6 h7 => by
      have hlt := (Q6.lt i h6).2
      rcases S7 with e | e <;> rw [h7] at e <;> injection e with e <;> (try simp at e)
      all_goals first | omega | (rcases S6 with e2 | e2 <;> rw [h6] at e2 <;> injection e2 with e2 <;> (try simp at e2) <;> omega)
    refine box_ret (g := w.heap.size + 1) (t := 24) (cs := #[.int .i64 x.owner, .slice po6 x.waits.length pc6, .slice po7 x.queues.length pc7]) rfl rfl ?_ _ Try.underlying24 rfl (by kernel_rfl) rfl ?_
    · exact HS.2
    · exact ⟨_, _, rfl, ⟨owns_lo (owns_eq E6 fun g hg => by have hg2 := (E6.lt g hg).1; exact (Below.heap_setCell _ ⟨w.heap.size + 1, 2, none⟩ _ g (by show g ≠ w.heap.size + 1; omega)).trans ((Below.heap_setCell _ ⟨w.heap.size + 1, 1, none⟩ _ g (by show g ≠ w.heap.size + 1; omega)).trans (Below.heap_setCell _ ⟨w.heap.size + 1, 0, none⟩ _ g (by show g ≠ w.heap.size + 1; omega)))) (by omega), owns_lo (owns_eq Q7 fun g hg => by have hg2 := (Q7.lt g hg).1; exact (Below.heap_setCell _ ⟨w.heap.size + 1, 2, none⟩ _ g (by show g ≠ w.heap.size + 1; omega)).trans ((Below.heap_setCell _ ⟨w.heap.size + 1, 1, none⟩ _ g (by show g ≠ w.heap.size + 1; omega)).trans (Below.heap_setCell _ ⟨w.heap.size + 1, 0, none⟩ _ g (by show g ≠ w.heap.size + 1; omega)))) (by omega), AP⟩, HS.1.bel⟩
end Go.Proofs.Ytnedpcgdepiakaa
