/-
  Walks: what a gate does, by the specification: who arrives, leaves, waits in a queue, goes on.
-/
import Derived.Test.YtbikdpljhnhcaaaGatB
namespace Go.Proofs.Ytbikdpljhnhcaaa
open Go.RowKit

set_option maxRecDepth 100000 in
set_option maxHeartbeats 4000000 in
theorem specContinueAt_any (v1 v2 : Value) (x : Gt) (q : Int) (w : World) (h : GtAt w v1 v2 x) (hl : GtLen x) :
    Calls Try.prog 21 #[.agg #[.int .i64 x.owner, v1, v2], .int .i64 q] w fun e w' => ∃ r1 r2, e = .returned (.tuple #[.agg #[.int .i64 (contE x q).1.owner, r1, r2], .int .i64 (contE x q).2]) ∧ GtOwn w.heap.size w' r1 r2 (contE x q).1 ∧ Below w.heap.size w w' := by
  have L1 := hl.l1
  have L2 := hl.l2
  have HAW := hide h
  have HLN := hide hl
  have CC := fun z h => hide (copyGt_any v1 v2 x z h hl)
  have CK := fun z h => hide (specGateOk_any v1 v2 x z h hl)
  obtain ⟨W1, hW⟩ : ∃ W1, (w.alloc (.cells #[.int .i64 x.owner, v1, v2] 26)).alloc (.cells #[.int .i64 0, .slice none 0 0, .slice none 0 0] 26) = W1 := ⟨_, rfl⟩
  have B1 : Hid (Below w.heap.size w W1) := by rw [← hW]; show Below w.heap.size w _; go_grown
  have BA1 : Hid (Box W1 w.heap.size #[.int .i64 x.owner, v1, v2] 26) := by rw [← hW]; exact hide ((Box.made w _ _).stays ((Below.refl _ _).alloc (Nat.le_refl _) _))
  have BR1 : Hid (Box W1 (w.heap.size + 1) #[.int .i64 0, .slice none 0 0, .slice none 0 0] 26) := by rw [← hW]; exact hide (Box.madeAt (by simp) _ _)
  have HZ1 : Hid (W1.heap.size = w.heap.size + 2) := by rw [← hW]; show _ = _; simp
  have HW := hide hW
  obtain ⟨o1, c1, rfl, _⟩ := h.a1
  obtain ⟨o2, c2, rfl, _⟩ := h.a2
  clear h hl hW
  have q0 := Lib.cell_of_heap BA1.out 0
  have q1 := Lib.cell_of_heap BA1.out 1
  have q2 := Lib.cell_of_heap BA1.out 2
  simp at q0 q1 q2
  rw [← HW.out] at q0 q1 q2
  go_enter Try.func21, Try.ntmps21
  go_wp2_with fail
  rw [HW.out]
  refine (unhide (CC _ (HAW.out.stays B1.out))).mono ?_
  rintro e zc ⟨r1, r2, rfl, ho, hb⟩
  obtain ⟨p1, k1, rfl⟩ := form_own ho.o1
  obtain ⟨p2, k2, rfl⟩ := form_own ho.o2
  have hba : Below zc.heap.size zc (zc.alloc (.cells #[.int .i64 x.owner, .slice p1 x.waits.length k1, .slice p2 x.queues.length k2] 26)) := (Below.refl _ _).alloc (Nat.le_refl _) _
  have Z1 : Hid (GaZ w x.owner (.slice o1 x.waits.length c1) (.slice o2 x.queues.length c2) zc.heap.size (.slice p1 x.waits.length k1) (.slice p2 x.queues.length k2) x (zc.alloc (.cells #[.int .i64 x.owner, .slice p1 x.waits.length k1, .slice p2 x.queues.length k2] 26))) :=
    ⟨(BA1.out.stays hb).stays hba, ⟨_, _, _, (BR1.out.stays hb).stays hba⟩, Box.made _ _ _, (ho.lo (by have := HZ1.out; omega)).stays hba, (B1.out.trans (hb.mono B1.out.size)).trans (hba.mono (Nat.le_trans B1.out.size hb.size)), by have := HZ1.out; have := hb.size; omega⟩
  clear hb ho hba q0 q1 q2 CC B1 BA1 BR1
  obtain ⟨Z, hZ⟩ : ∃ Z, zc.alloc (.cells #[.int .i64 x.owner, .slice p1 x.waits.length k1, .slice p2 x.queues.length k2] 26) = Z := ⟨_, rfl⟩
  obtain ⟨G, eG⟩ : ∃ G, zc.heap.size = G := ⟨_, rfl⟩
  have HZ := hide hZ
  have EG := hide eG
  rw [hZ, eG] at Z1
  clear hZ eG
  have t0 := Lib.cell_of_heap Z1.out.bA 0
  have t1 := Lib.cell_of_heap Z1.out.bA 1
  have t2 := Lib.cell_of_heap Z1.out.bA 2
  simp at t0 t1 t2
  rw [← HZ.out] at t0 t1 t2
  go_wp2_with fail
  rw [HZ.out, EG.out]
  refine (unhide (CK _ (HAW.out.stays Z1.out.bel))).mono ?_
  rintro e z2 ⟨rfl, hb2⟩
  have Z2 := hide (Z1.out.stays hb2)
  clear hb2 t0 t1 t2 HZ EG Z1 CK
  have a0 := Lib.cell_of_heap Z2.out.bA 0
  have a1 := Lib.cell_of_heap Z2.out.bA 1
  have a2 := Lib.cell_of_heap Z2.out.bA 2
  have b0 := Lib.cell_of_heap Z2.out.bO 0
  have b1 := Lib.cell_of_heap Z2.out.bO 1
  have b2 := Lib.cell_of_heap Z2.out.bO 2
  have g0 := Lib.frozen_of_heap Z2.out.bO 0
  have g1 := Lib.frozen_of_heap Z2.out.bO 1
  obtain ⟨ra, rb, rc, hrr⟩ := Z2.out.bR
  have s0 := Lib.cell_of_heap hrr 0
  have s1 := Lib.cell_of_heap hrr 1
  have s2 := Lib.cell_of_heap hrr 2
  have f0 := Lib.frozen_of_heap hrr 0
  have f1 := Lib.frozen_of_heap hrr 1
  have f2 := Lib.frozen_of_heap hrr 2
  simp at a0 a1 a2 b0 b1 b2 s0 s1 s2
  clear hrr
  obtain ⟨ok, eok⟩ : ∃ b, gateOkB x = b := ⟨_, rfl⟩
  rw [eok]
  have HNO : Hid (gateOkB x = false ∨ x.owner < 0 ∨ inZ 0 ((x.queues.length : Int) - 1) q = false → contE x q = (x, -1)) := fun h => by unfold contE; rw [if_pos h]
  cases ok with
  | false =>
    have HE := hide (HNO.out (.inl eok))
    clear eok HNO
    go_wp2
    obtain ⟨W, eW, hB, hO, hF⟩ := Z2.out.fin
    rw [eW]
    refine box_retV (g := w.heap.size + 1) (t := 26) (cs := #[.int .i64 x.owner, .slice p1 x.waits.length k1, .slice p2 x.queues.length k2]) rfl rfl ?_ _ Try.underlying26 rfl (by kernel_rfl) rfl ?_
    · exact hB
    · rw [HE.out]
      exact ⟨_, _, rfl, hO, hF⟩
  | true =>
    by_cases hn : x.owner < 0
    · have HE := hide (HNO.out (.inr (.inl hn)))
      clear eok HNO
      go_wp2
      obtain ⟨W, eW, hB, hO, hF⟩ := Z2.out.fin
      rw [eW]
      refine box_retV (g := w.heap.size + 1) (t := 26) (cs := #[.int .i64 x.owner, .slice p1 x.waits.length k1, .slice p2 x.queues.length k2]) rfl rfl ?_ _ Try.underlying26 rfl (by kernel_rfl) rfl ?_
      · exact hB
      · rw [HE.out]
        exact ⟨_, _, rfl, hO, hF⟩
    obtain ⟨zi, ezi⟩ : ∃ b, inZ 0 ((x.queues.length : Int) - 1) q = b := ⟨_, rfl⟩
    have CI := fun z => hide (specInZ q 0 ((x.queues.length : Int) - 1) z)
    simp only [ezi] at CI
    cases zi with
    | false =>
      have HE := hide (HNO.out (.inr (.inr ezi)))
      clear eok HNO ezi
      go_wp2_with (go_at_call 41; refine (unhide (CI _)).mono ?_; rintro e z9 ⟨rfl, rfl⟩)
      obtain ⟨W, eW, hB, hO, hF⟩ := Z2.out.fin
      rw [eW]
      refine box_retV (g := w.heap.size + 1) (t := 26) (cs := #[.int .i64 x.owner, .slice p1 x.waits.length k1, .slice p2 x.queues.length k2]) rfl rfl ?_ _ Try.underlying26 rfl (by kernel_rfl) rfl ?_
      · exact hB
      · rw [HE.out]
        exact ⟨_, _, rfl, hO, hF⟩
    | true =>
      have hq := inZ_yes.1 ezi
      obtain ⟨i, rfl⟩ : ∃ i : Nat, q = (i : Int) := ⟨q.toNat, by omega⟩
      have hix : i < x.queues.length := by omega
      have hi0 := hq.1
      have hi1 : (i : Int) < (x.queues.length : Int) := by omega
      obtain ⟨ao', c', e1, hc1⟩ := (HAW.out.stays Z2.out.bel).a2
      injection e1 with e2 e3 e4
      subst e2
      obtain ⟨a, rfl, ha, hx⟩ := hc1 i hix
      have HGD : Hid (x.queues.getD (i : Int).toNat (-1) = x.queues[i]) := by show _ = _; rw [Int.toNat_natCast, List.getD_eq_getElem?_getD, List.getElem?_eq_getElem hix]; rfl
      obtain ⟨u, eu⟩ : ∃ u, x.queues[i] = u := ⟨_, rfl⟩
      rw [eu] at hx HGD
      clear hc1 e3 e4 eu hq
      have HIF : Hid (¬ (gateOkB x = false ∨ x.owner < 0 ∨ inZ 0 ((x.queues.length : Int) - 1) (i : Int) = false)) := by rintro (h | h | h); (rw [eok] at h; cases h); (exact hn h); (rw [ezi] at h; cases h)
      by_cases hu : u < 0
      · have HE : Hid (contE x (i : Int) = (nextG x, (nextG x).owner)) := by
          show _ = _
          unfold contE
          rw [if_neg HIF.out, HGD.out, if_pos hu]
        have CN := hide (next_any _ _ _ _ _ _ _ _ _ Z2.out HLN.out)
        clear eok HNO ezi
        go_wp2_with (first | (go_at_call 41; refine (unhide (CI _)).mono ?_; rintro e z9 ⟨rfl, rfl⟩) | (go_at_call 44; refine CN.out.mono ?_; rintro e z3 ⟨rn, rfl, hz3⟩; have Z4 := hide hz3; clear hz3; obtain ⟨pn, kn, ern⟩ := form_own Z4.out.own.o1; subst ern; obtain ⟨gg, egg⟩ : ∃ g, nextG x = g := ⟨_, rfl⟩; rw [egg] at Z4 HE ⊢; clear b0 b1 b2 s0 s1 s2 f0 f1 f2; have b0 := Lib.cell_of_heap Z4.out.bO 0; have b1 := Lib.cell_of_heap Z4.out.bO 1; have b2 := Lib.cell_of_heap Z4.out.bO 2; obtain ⟨ra, rb, rc, hrr⟩ := Z4.out.bR; have s0 := Lib.cell_of_heap hrr 0; have s1 := Lib.cell_of_heap hrr 1; have s2 := Lib.cell_of_heap hrr 2; have f0 := Lib.frozen_of_heap hrr 0; have f1 := Lib.frozen_of_heap hrr 1; have f2 := Lib.frozen_of_heap hrr 2; simp at b0 b1 b2 s0 s1 s2; clear hrr))
        obtain ⟨W, eW, hB, hO, hF⟩ := Z4.out.fin
        rw [eW]
        refine box_retV (g := w.heap.size + 1) (t := 26) (cs := #[.int .i64 gg.owner, .slice pn gg.waits.length kn, .slice p2 x.queues.length k2]) rfl rfl ?_ _ Try.underlying26 rfl (by kernel_rfl) rfl ?_
        · exact hB
        · rw [HE.out]
          exact ⟨_, _, rfl, hO, hF⟩
      · have HE : Hid (contE x (i : Int) = ({ x with owner := u, queues := x.queues.set i (-1) }, u)) := by
          show _ = _
          unfold contE
          rw [if_neg HIF.out, HGD.out, if_neg hu, Int.toNat_natCast]
        obtain ⟨q2, rfl⟩ : ∃ q, p2 = some ⟨q, 0, none⟩ := by
          rcases Z2.out.own.o2.2 with ⟨e, h0⟩ | ⟨g, cap, cur, e, _⟩
          · omega
          · injection e with e1 _ _
            exact ⟨g, e1⟩
        have Z3 := hide (Z2.out.owner u)
        obtain ⟨⟨uo, huo⟩, hfz⟩ := own_there Z3.out.own.o2 i hix 0 (by decide)
        rw [Nat.mul_one, Nat.add_zero] at huo hfz
        have d2 := Lib.cell_of_heap Z3.out.bO 2
        simp at d2
        have Z4 := hide (GaZ.queue (y := { x with owner := u }) (i := i) Z3.out (-1))
        clear eok HNO ezi s0 s1 s2 f0 f1 f2
        have e0 := Lib.cell_of_heap Z4.out.bO 0
        have e1 := Lib.cell_of_heap Z4.out.bO 1
        have e2 := Lib.cell_of_heap Z4.out.bO 2
        obtain ⟨ra, rb, rc, hrr⟩ := Z4.out.bR
        have s0 := Lib.cell_of_heap hrr 0
        have s1 := Lib.cell_of_heap hrr 1
        have s2 := Lib.cell_of_heap hrr 2
        have f0 := Lib.frozen_of_heap hrr 0
        have f1 := Lib.frozen_of_heap hrr 1
        have f2 := Lib.frozen_of_heap hrr 2
        simp at e0 e1 e2 s0 s1 s2
        clear hrr
        go_wp2_with (go_at_call 41; refine (unhide (CI _)).mono ?_; rintro e z9 ⟨rfl, rfl⟩)
        have hGR : ¬ G = w.heap.size + 1 := by have := Z4.out.gl; omega
        have hGR2 : ¬ w.heap.size + 1 = G := by have := Z4.out.gl; omega
        go_region
        all_goals go_wp2
        obtain ⟨W, eW, hB, hO, hF⟩ := Z4.out.fin
        rw [eW]
        refine box_retV (g := w.heap.size + 1) (t := 26) (cs := #[.int .i64 u, .slice p1 x.waits.length k1, .slice (some ⟨q2, 0, none⟩) x.queues.length k2]) rfl rfl ?_ _ Try.underlying26 rfl (by kernel_rfl) rfl ?_
        · exact hB.stays ((Below.refl _ _).drew)
        · rw [HE.out]
          exact ⟨_, _, rfl, hO.stays ((Below.refl _ _).drew), hF.drew⟩

end Go.Proofs.Ytbikdpljhnhcaaa
