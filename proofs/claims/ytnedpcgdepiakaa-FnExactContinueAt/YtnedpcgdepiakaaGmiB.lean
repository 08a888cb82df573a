/-
  Walk: a gate copied, by the program.
-/
import Derived.Test.YtnedpcgdepiakaaGmiA
import Derived.Test.YtnedpcgdepiakaaCopG
import Derived.Deep.RegionHeld3
namespace Go.Proofs.Ytnedpcgdepiakaa
open Go.RowKit

set_option maxRecDepth 100000 in
set_option maxHeartbeats 8000000 in
theorem copiedG_any (v1 v2 : Value) (x : Gt) (w : World) (h : GtAt w v1 v2 x) (hl : GtLen x) :
    Calls Try.prog 38 #[.agg #[.int .i64 x.owner, v1, v2]] w fun e w' => ∃ r1 r2, e = .returned (.agg #[.int .i64 x.owner, r1, r2]) ∧ GtOwn w.heap.size w' r1 r2 x ∧ Below w.heap.size w w' ∧ FullV r1 x.waits.length := by
  have HA := hide h
  have L1 := hl.l1
  have L2 := hl.l2
  have C1 := fun z h => hide (moved_any v1 x.waits z h L1)
  have C2 := fun z h => hide (moved_any v2 x.queues z h L2)
  obtain ⟨o1, c1, rfl, _⟩ := h.a1
  obtain ⟨o2, c2, rfl, _⟩ := h.a2
  clear h hl
  obtain ⟨W0, hW⟩ : ∃ W0, (w.alloc (.cells #[.int .i64 x.owner, .slice o1 x.waits.length c1, .slice o2 x.queues.length c2] 24)).alloc (.cells #[.int .i64 0, .slice none 0 0, .slice none 0 0] 24) = W0 := ⟨_, rfl⟩
  have C0 : Hid (CpGt w W0 #[.int .i64 x.owner, .slice o1 x.waits.length c1, .slice o2 x.queues.length c2] W0) := by
    rw [← hW]
    exact hide ⟨(Box.made w #[.int .i64 x.owner, .slice o1 x.waits.length c1, .slice o2 x.queues.length c2] 24).stays ((Below.refl _ _).alloc (Nat.le_refl _) _), ⟨_, _, _, Box.madeAt (by simp) _ _⟩, by go_grown, by simp⟩
  have HZ : Hid (W0.heap.size = w.heap.size + 2) := by rw [← hW]; show _ = _; simp
  have HW := hide hW
  clear hW
  have KC : Hid (∀ z : World, CpGt w W0 #[.int .i64 x.owner, .slice o1 x.waits.length c1, .slice o2 x.queues.length c2] z → (z.cell? ⟨w.heap.size, 0, none⟩ = some (.int .i64 x.owner) ∧ z.cell? ⟨w.heap.size, 1, none⟩ = some (.slice o1 x.waits.length c1) ∧ z.cell? ⟨w.heap.size, 2, none⟩ = some (.slice o2 x.queues.length c2) ∧ Hid (CpGt w W0 #[.int .i64 x.owner, .slice o1 x.waits.length c1, .slice o2 x.queues.length c2] z))) := fun z hz => ⟨Lib.cell_of_heap hz.bA 0, Lib.cell_of_heap hz.bA 1, Lib.cell_of_heap hz.bA 2, hz⟩
  have KV : Hid (∀ z : World, (z.cell? ⟨w.heap.size, 0, none⟩ = some (.int .i64 x.owner) ∧ z.cell? ⟨w.heap.size, 1, none⟩ = some (.slice o1 x.waits.length c1) ∧ z.cell? ⟨w.heap.size, 2, none⟩ = some (.slice o2 x.queues.length c2) ∧ Hid (CpGt w W0 #[.int .i64 x.owner, .slice o1 x.waits.length c1, .slice o2 x.queues.length c2] z)) → CpGt w W0 #[.int .i64 x.owner, .slice o1 x.waits.length c1, .slice o2 x.queues.length c2] z) := fun z hz => hz.2.2.2.out
  have KP : Hid (∀ z z' : World, (z.cell? ⟨w.heap.size, 0, none⟩ = some (.int .i64 x.owner) ∧ z.cell? ⟨w.heap.size, 1, none⟩ = some (.slice o1 x.waits.length c1) ∧ z.cell? ⟨w.heap.size, 2, none⟩ = some (.slice o2 x.queues.length c2) ∧ Hid (CpGt w W0 #[.int .i64 x.owner, .slice o1 x.waits.length c1, .slice o2 x.queues.length c2] z)) → Below z.heap.size z z' → (z'.cell? ⟨w.heap.size, 0, none⟩ = some (.int .i64 x.owner) ∧ z'.cell? ⟨w.heap.size, 1, none⟩ = some (.slice o1 x.waits.length c1) ∧ z'.cell? ⟨w.heap.size, 2, none⟩ = some (.slice o2 x.queues.length c2) ∧ Hid (CpGt w W0 #[.int .i64 x.owner, .slice o1 x.waits.length c1, .slice o2 x.queues.length c2] z'))) := fun z z' hz hb => KC.out _ ((KV.out _ hz).go (hb.mono (KV.out _ hz).le))
  have K0 := hide (KC.out _ (C0.out.go (Below.refl _ _).drew))
  have KR0 : Hid (∀ z : World, (z.cell? ⟨w.heap.size, 0, none⟩ = some (.int .i64 x.owner) ∧ z.cell? ⟨w.heap.size, 1, none⟩ = some (.slice o1 x.waits.length c1) ∧ z.cell? ⟨w.heap.size, 2, none⟩ = some (.slice o2 x.queues.length c2) ∧ Hid (CpGt w W0 #[.int .i64 x.owner, .slice o1 x.waits.length c1, .slice o2 x.queues.length c2] z)) → GtAt z (.slice o1 x.waits.length c1) (.slice o2 x.queues.length c2) x) := fun z hz => HA.out.stays (KV.out _ hz).bel
  go_enter Try.func38, Try.ntmps38
  go_wp2_with fail
  rw [HW.out]
  go_region_held3 (fun z => z.cell? ⟨w.heap.size, 0, none⟩ = some (.int .i64 x.owner) ∧ z.cell? ⟨w.heap.size, 1, none⟩ = some (.slice o1 x.waits.length c1) ∧ z.cell? ⟨w.heap.size, 2, none⟩ = some (.slice o2 x.queues.length c2) ∧ Hid (CpGt w W0 #[.int .i64 x.owner, .slice o1 x.waits.length c1, .slice o2 x.queues.length c2] z)) (first | exact K0.out | exact KP.out _ _ (by assumption) hb6 | exact KP.out _ _ (by assumption) hb7 | exact KC.out _ (CW.out.store _ _ _).1)
    (first
      | (go_at_call_of 48 (Value.slice o1 x.waits.length c1); refine (unhide (C1 _ (KR0.out _ (by assumption)).a1)).mono ?_; rintro e w6 ⟨u6, rfl, hq6, hb6, hf6⟩; obtain ⟨po6, pc6, rfl⟩ := form_own hq6; have HF6 := hide hf6; clear hf6; have CW := hide (KV.out _ (KP.out _ _ (by assumption) hb6)); obtain ⟨rr0, rr1, rr2, hrr⟩ := CW.out.bR; have y0 := Lib.cell_of_heap hrr 0; simp at y0; have f0 := Lib.frozen_of_heap hrr 0; have y1 := Lib.cell_of_heap hrr 1; simp at y1; have f1 := Lib.frozen_of_heap hrr 1; have y2 := Lib.cell_of_heap hrr 2; simp at y2; have f2 := Lib.frozen_of_heap hrr 2; clear hrr)
      | (go_at_call_of 48 (Value.slice o2 x.queues.length c2); refine (unhide (C2 _ (KR0.out _ (by assumption)).a2)).mono ?_; rintro e w7 ⟨u7, rfl, hq7, hb7, _⟩; obtain ⟨po7, pc7, rfl⟩ := form_own hq7; have CW := hide (KV.out _ (KP.out _ _ (by assumption) hb7)); obtain ⟨rr0, rr1, rr2, hrr⟩ := CW.out.bR; have y0 := Lib.cell_of_heap hrr 0; simp at y0; have f0 := Lib.frozen_of_heap hrr 0; have y1 := Lib.cell_of_heap hrr 1; simp at y1; have f1 := Lib.frozen_of_heap hrr 1; have y2 := Lib.cell_of_heap hrr 2; simp at y2; have f2 := Lib.frozen_of_heap hrr 2; clear hrr))
  have HS := CW.out.store (.int .i64 x.owner) (.slice po6 x.waits.length pc6) (.slice po7 x.queues.length pc7)
  have E6 := ownsInts_stays hq6 hb7
  have hs6 : W0.drew.heap.size = w.heap.size + 2 := HZ.out
  have hs7 := hb6.size
  have AP : ∀ i, ((.slice po6 x.waits.length pc6) : Value).ownBlock = some i → ((.slice po7 x.queues.length pc7) : Value).ownBlock ≠ some i := fun i h6 h7 => by
    have h8 := (hq6.lt i h6).2
    have h9 := (hq7.lt i h7).1
    omega
  obtain ⟨WR, eWR⟩ : ∃ WR, ((w7.setCell ⟨w.heap.size + 1, 0, none⟩ (.int .i64 x.owner)).setCell ⟨w.heap.size + 1, 1, none⟩ (.slice po6 x.waits.length pc6)).setCell ⟨w.heap.size + 1, 2, none⟩ (.slice po7 x.queues.length pc7) = WR := ⟨_, rfl⟩
  have R6 := owns_lo (a := w.heap.size) (owns_eq E6 (z' := WR) fun g hg => by have hg2 := (E6.lt g hg).1; rw [← eWR]; exact fill3_other _ _ _ _ _ _ (by omega)) (by omega)
  have R7 := owns_lo (a := w.heap.size) (owns_eq hq7 (z' := WR) fun g hg => by have hg2 := (hq7.lt g hg).1; rw [← eWR]; exact fill3_other _ _ _ _ _ _ (by omega)) (by omega)
  rw [eWR] at HS
  have RES : Hid (GtOwn w.heap.size WR (.slice po6 x.waits.length pc6) (.slice po7 x.queues.length pc7) x ∧ Below w.heap.size w WR) := ⟨⟨R6, R7, AP⟩, HS.1.bel⟩
  have HBX := hide HS.2
  have EWR := hide eWR
  clear HS E6 hs6 hs7 AP R6 R7 eWR
  go_wp2
  rw [EWR.out]
  refine box_ret (g := w.heap.size + 1) (t := 24) (cs := #[.int .i64 x.owner, .slice po6 x.waits.length pc6, .slice po7 x.queues.length pc7]) rfl rfl ?_ _ Try.underlying24 rfl (by kernel_rfl) rfl ?_
  · exact HBX.out
  · exact ⟨_, _, rfl, RES.out.1, RES.out.2, HF6.out⟩
end Go.Proofs.Ytnedpcgdepiakaa
