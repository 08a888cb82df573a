/-
  Walks: an Env copied, a value put in an Env, by the program.
-/
import Derived.Test.YtmckcbgdkjbpfaaEvOf
import Derived.Test.YtmckcbgdkjbpfaaEnvX
import Derived.Deep.RegionHeld3
namespace Go.Proofs.Ytmckcbgdkjbpfaa
open Go.RowKit

set_option maxRecDepth 100000 in
set_option maxHeartbeats 8000000 in
theorem copied_any (v0 v1 : Value) (x : Ev) (w : World) (h : EvAt w v0 v1 x) (hl : EvLen x) :
    Calls Try.prog 30 #[.agg #[v0, v1]] w fun e w' => ∃ r0 r1, e = .returned (.agg #[r0, r1]) ∧ EvOwn w.heap.size w' r0 r1 x ∧ Below w.heap.size w w' := by
  have HA := hide h
  have L0 := hl.l0
  have L1 := hl.l1
  have C1 := fun z h => hide (cloneS_own v0 x.names z h L0)
  have C2 := fun z h => hide (cloneI_own v1 x.vals z h L1)
  obtain ⟨o0, c0, rfl, _⟩ := h.a0
  obtain ⟨o1, c1, rfl, _⟩ := h.a1
  clear h hl
  obtain ⟨W0, hW⟩ : ∃ W0, (w.alloc (.cells #[.slice o0 x.names.length c0, .slice o1 x.vals.length c1] 27)).alloc (.cells #[.slice none 0 0, .slice none 0 0] 27) = W0 := ⟨_, rfl⟩
  have C0 : Hid (CpEv w W0 #[.slice o0 x.names.length c0, .slice o1 x.vals.length c1] W0) := by
    rw [← hW]
    exact hide ⟨(Box.made w #[.slice o0 x.names.length c0, .slice o1 x.vals.length c1] 27).stays ((Below.refl _ _).alloc (Nat.le_refl _) _), ⟨_, _, Box.madeAt (by simp) _ _⟩, by go_grown, by simp⟩
  have HZ : Hid (W0.heap.size = w.heap.size + 2) := by rw [← hW]; show _ = _; simp
  have HW := hide hW
  clear hW
  have KC : Hid (∀ z : World, CpEv w W0 #[.slice o0 x.names.length c0, .slice o1 x.vals.length c1] z → (z.cell? ⟨w.heap.size, 0, none⟩ = some (.slice o0 x.names.length c0) ∧ z.cell? ⟨w.heap.size, 1, none⟩ = some (.slice o1 x.vals.length c1) ∧ Hid (CpEv w W0 #[.slice o0 x.names.length c0, .slice o1 x.vals.length c1] z))) := fun z hz => ⟨Lib.cell_of_heap hz.bA 0, Lib.cell_of_heap hz.bA 1, hz⟩
  have KV : Hid (∀ z : World, (z.cell? ⟨w.heap.size, 0, none⟩ = some (.slice o0 x.names.length c0) ∧ z.cell? ⟨w.heap.size, 1, none⟩ = some (.slice o1 x.vals.length c1) ∧ Hid (CpEv w W0 #[.slice o0 x.names.length c0, .slice o1 x.vals.length c1] z)) → CpEv w W0 #[.slice o0 x.names.length c0, .slice o1 x.vals.length c1] z) := fun z hz => hz.2.2.out
  have KP : Hid (∀ z z' : World, (z.cell? ⟨w.heap.size, 0, none⟩ = some (.slice o0 x.names.length c0) ∧ z.cell? ⟨w.heap.size, 1, none⟩ = some (.slice o1 x.vals.length c1) ∧ Hid (CpEv w W0 #[.slice o0 x.names.length c0, .slice o1 x.vals.length c1] z)) → Below z.heap.size z z' → (z'.cell? ⟨w.heap.size, 0, none⟩ = some (.slice o0 x.names.length c0) ∧ z'.cell? ⟨w.heap.size, 1, none⟩ = some (.slice o1 x.vals.length c1) ∧ Hid (CpEv w W0 #[.slice o0 x.names.length c0, .slice o1 x.vals.length c1] z'))) := fun z z' hz hb => KC.out _ ((KV.out _ hz).go (hb.mono (KV.out _ hz).le))
  have K0 := hide (KC.out _ (C0.out.go (Below.refl _ _).drew))
  have KR0 : Hid (∀ z : World, (z.cell? ⟨w.heap.size, 0, none⟩ = some (.slice o0 x.names.length c0) ∧ z.cell? ⟨w.heap.size, 1, none⟩ = some (.slice o1 x.vals.length c1) ∧ Hid (CpEv w W0 #[.slice o0 x.names.length c0, .slice o1 x.vals.length c1] z)) → EvAt z (.slice o0 x.names.length c0) (.slice o1 x.vals.length c1) x) := fun z hz => HA.out.stays (KV.out _ hz).bel
  go_enter Try.func30, Try.ntmps30
  go_wp2_with fail
  rw [HW.out]
  go_region_held3 (fun z => z.cell? ⟨w.heap.size, 0, none⟩ = some (.slice o0 x.names.length c0) ∧ z.cell? ⟨w.heap.size, 1, none⟩ = some (.slice o1 x.vals.length c1) ∧ Hid (CpEv w W0 #[.slice o0 x.names.length c0, .slice o1 x.vals.length c1] z)) (first | exact K0.out | exact KP.out _ _ (by assumption) hb6 | exact KP.out _ _ (by assumption) hb7 | exact KC.out _ (CW.out.store _ _).1)
    (first
      | (go_at_call 57; refine (unhide (C1 _ (KR0.out _ (by assumption)).a0)).mono ?_; rintro e w6 ⟨u6, rfl, hq6, hb6⟩; obtain ⟨po6, pc6, rfl⟩ := form_own hq6; have CW := hide (KV.out _ (KP.out _ _ (by assumption) hb6)); obtain ⟨rr0, rr1, hrr⟩ := CW.out.bR; have y0 := Lib.cell_of_heap hrr 0; simp at y0; have f0 := Lib.frozen_of_heap hrr 0; have y1 := Lib.cell_of_heap hrr 1; simp at y1; have f1 := Lib.frozen_of_heap hrr 1; clear hrr)
      | (go_at_call 58; refine (unhide (C2 _ (KR0.out _ (by assumption)).a1)).mono ?_; rintro e w7 ⟨u7, rfl, hq7, hb7⟩; obtain ⟨po7, pc7, rfl⟩ := form_own hq7; have CW := hide (KV.out _ (KP.out _ _ (by assumption) hb7)); obtain ⟨rr0, rr1, hrr⟩ := CW.out.bR; have y0 := Lib.cell_of_heap hrr 0; simp at y0; have f0 := Lib.frozen_of_heap hrr 0; have y1 := Lib.cell_of_heap hrr 1; simp at y1; have f1 := Lib.frozen_of_heap hrr 1; clear hrr))
  have HS := CW.out.store (.slice po6 x.names.length pc6) (.slice po7 x.vals.length pc7)
  have E6 := ownsInts_stays hq6 hb7
  have hs6 : W0.drew.heap.size = w.heap.size + 2 := HZ.out
  have hs7 := hb6.size
  have AP : ∀ i, ((.slice po6 x.names.length pc6) : Value).ownBlock = some i → ((.slice po7 x.vals.length pc7) : Value).ownBlock ≠ some i := fun i h6 h7 => by
    have h8 := (hq6.lt i h6).2
    have h9 := (hq7.lt i h7).1
    omega
  have R6 := owns_lo (a := w.heap.size) (owns_eq E6 (z' := (w7.setCell ⟨w.heap.size + 1, 0, none⟩ (.slice po6 x.names.length pc6)).setCell ⟨w.heap.size + 1, 1, none⟩ (.slice po7 x.vals.length pc7)) fun g hg => by have hg2 := (E6.lt g hg).1; exact (Below.heap_setCell _ ⟨w.heap.size + 1, 1, none⟩ _ g (by show g ≠ w.heap.size + 1; omega)).trans (Below.heap_setCell _ ⟨w.heap.size + 1, 0, none⟩ _ g (by show g ≠ w.heap.size + 1; omega))) (by omega)
  have R7 := owns_lo (a := w.heap.size) (owns_eq hq7 (z' := (w7.setCell ⟨w.heap.size + 1, 0, none⟩ (.slice po6 x.names.length pc6)).setCell ⟨w.heap.size + 1, 1, none⟩ (.slice po7 x.vals.length pc7)) fun g hg => by have hg2 := (hq7.lt g hg).1; exact (Below.heap_setCell _ ⟨w.heap.size + 1, 1, none⟩ _ g (by show g ≠ w.heap.size + 1; omega)).trans (Below.heap_setCell _ ⟨w.heap.size + 1, 0, none⟩ _ g (by show g ≠ w.heap.size + 1; omega))) (by omega)
  have RES : Hid (EvOwn w.heap.size ((w7.setCell ⟨w.heap.size + 1, 0, none⟩ (.slice po6 x.names.length pc6)).setCell ⟨w.heap.size + 1, 1, none⟩ (.slice po7 x.vals.length pc7)) (.slice po6 x.names.length pc6) (.slice po7 x.vals.length pc7) x ∧ Below w.heap.size w ((w7.setCell ⟨w.heap.size + 1, 0, none⟩ (.slice po6 x.names.length pc6)).setCell ⟨w.heap.size + 1, 1, none⟩ (.slice po7 x.vals.length pc7))) := ⟨⟨R6, R7, AP⟩, HS.1.bel⟩
  have HBX := hide HS.2
  clear HS E6 hs6 hs7 AP R6 R7
  go_wp2
  refine box_ret (g := w.heap.size + 1) (t := 27) (cs := #[.slice po6 x.names.length pc6, .slice po7 x.vals.length pc7]) rfl rfl ?_ _ Try.underlying27 rfl (by kernel_rfl) rfl ?_
  · exact HBX.out
  · exact ⟨_, _, rfl, RES.out.1, RES.out.2⟩
theorem PuZ.stays {w : World} {v0 v1 : Value} {G : Nat} {r0 r1 : Value} {x : Ev} {z z' : World} (h : PuZ w v0 v1 G r0 r1 x z) (hb : Below z.heap.size z z') : PuZ w v0 v1 G r0 r1 x z' := by
  obtain ⟨a, b, hr⟩ := h.bR
  exact ⟨h.bA.stays hb, ⟨a, b, hr.stays hb⟩, h.bO.stays hb, h.own.stays hb, h.bel.trans (hb.mono h.bel.size)⟩
theorem PuZ.fin' {w : World} {v0 v1 : Value} {G : Nat} {r0 r1 : Value} {x : Ev} {z : World} (h : PuZ w v0 v1 G r0 r1 x z) :
    ∃ W, (z.setCell ⟨w.heap.size + 1, 0, none⟩ r0).setCell ⟨w.heap.size + 1, 1, none⟩ r1 = W ∧ Box W (w.heap.size + 1) #[r0, r1] 27 ∧ EvOwn w.heap.size W r0 r1 x ∧ Below w.heap.size w W := ⟨_, rfl, h.fin.1, h.fin.2.1, h.fin.2.2⟩
end Go.Proofs.Ytmckcbgdkjbpfaa
