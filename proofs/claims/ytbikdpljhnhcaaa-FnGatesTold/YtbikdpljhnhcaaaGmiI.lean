/-
  Walk: who arrives, by the program.
-/
import Derived.Test.YtbikdpljhnhcaaaGmiD
namespace Go.Proofs.Ytbikdpljhnhcaaa
open Go.RowKit

set_option maxRecDepth 100000 in
set_option maxHeartbeats 4000000 in
theorem implArrive_any (v1 v2 : Value) (x : Gt) (p : Int) (w : World) (h : GtAt w v1 v2 x) (hl : GtLen x) :
    Calls Try.prog 9 #[.agg #[.int .i64 x.owner, v1, v2], .int .i64 p] w fun e w' => ∃ r1 r2, e = .returned (.tuple #[.agg #[.int .i64 (arriveE x p).1.owner, r1, r2], .bool (arriveE x p).2]) ∧ GtOwn w.heap.size w' r1 r2 (arriveE x p).1 ∧ Below w.heap.size w w' := by
  have L1 := hl.l1
  have L2 := hl.l2
  have HAW := hide h
  have HLN := hide hl
  have CC := fun z h => hide (copiedG_any v1 v2 x z h hl)
  have CK := fun z h => hide (implGateOk_any v1 v2 x z h hl)
  obtain ⟨W1, hW⟩ : ∃ W1, (w.alloc (.cells #[.int .i64 x.owner, v1, v2] 26)).alloc (.cells #[.int .i64 0, .slice none 0 0, .slice none 0 0] 26) = W1 := ⟨_, rfl⟩
  have B1 : Hid (Below w.heap.size w W1) := by rw [← hW]; show Below w.heap.size w _; go_grown
  have BA1 : Hid (Box W1 w.heap.size #[.int .i64 x.owner, v1, v2] 26) := by rw [← hW]; exact hide ((Box.made w _ _).stays ((Below.refl _ _).alloc (Nat.le_refl _) _))
  have BR1 : Hid (Box W1 (w.heap.size + 1) #[.int .i64 0, .slice none 0 0, .slice none 0 0] 26) := by rw [← hW]; exact hide (Box.madeAt (by simp) _ _)
  have HZ1 : Hid (W1.heap.size = w.heap.size + 2) := by rw [← hW]; show _ = _; simp
  have HW := hide hW
  obtain ⟨o1, c1, rfl, _⟩ := h.a1
  obtain ⟨o2, c2, rfl, _⟩ := h.a2
  clear h hl hW
  have q0 := Lib.cell_of_heap BA1.out 0
  have q1 := Lib.cell_of_heap BA1.out 1
  have q2 := Lib.cell_of_heap BA1.out 2
  simp at q0 q1 q2
  rw [← HW.out] at q0 q1 q2
  go_enter Try.func9, Try.ntmps9
  go_wp2_with fail
  rw [HW.out]
  refine (unhide (CC _ (HAW.out.stays B1.out))).mono ?_
  rintro e zc ⟨r1, r2, rfl, ho, hb, hf⟩
  have HF := hide hf
  obtain ⟨p1, k1, rfl⟩ := form_own ho.o1
  obtain ⟨p2, k2, rfl⟩ := form_own ho.o2
  have hba : Below zc.heap.size zc (zc.alloc (.cells #[.int .i64 x.owner, .slice p1 x.waits.length k1, .slice p2 x.queues.length k2] 26)) := (Below.refl _ _).alloc (Nat.le_refl _) _
  have Z1 : Hid (GaZ w x.owner (.slice o1 x.waits.length c1) (.slice o2 x.queues.length c2) zc.heap.size (.slice p1 x.waits.length k1) (.slice p2 x.queues.length k2) x (zc.alloc (.cells #[.int .i64 x.owner, .slice p1 x.waits.length k1, .slice p2 x.queues.length k2] 26))) :=
    ⟨(BA1.out.stays hb).stays hba, ⟨_, _, _, (BR1.out.stays hb).stays hba⟩, Box.made _ _ _, (ho.lo (by have := HZ1.out; omega)).stays hba, (B1.out.trans (hb.mono B1.out.size)).trans (hba.mono (Nat.le_trans B1.out.size hb.size)), by have := HZ1.out; have := hb.size; omega⟩
  clear hb ho hba hf q0 q1 q2 CC B1 BA1 BR1
  obtain ⟨Z, hZ⟩ : ∃ Z, zc.alloc (.cells #[.int .i64 x.owner, .slice p1 x.waits.length k1, .slice p2 x.queues.length k2] 26) = Z := ⟨_, rfl⟩
  obtain ⟨G, eG⟩ : ∃ G, zc.heap.size = G := ⟨_, rfl⟩
  have HZ := hide hZ
  have EG := hide eG
  rw [hZ, eG] at Z1
  clear hZ eG
  have t0 := Lib.cell_of_heap Z1.out.bA 0
  have t1 := Lib.cell_of_heap Z1.out.bA 1
  have t2 := Lib.cell_of_heap Z1.out.bA 2
  simp at t0 t1 t2
  rw [← HZ.out] at t0 t1 t2
  go_wp2_with fail
  rw [HZ.out, EG.out]
  refine (unhide (CK _ (HAW.out.stays Z1.out.bel))).mono ?_
  rintro e z2 ⟨rfl, hb2⟩
  have Z2 := hide (Z1.out.stays hb2)
  clear hb2 t0 t1 t2 HZ EG Z1 CK
  have a0 := Lib.cell_of_heap Z2.out.bA 0
  have a1 := Lib.cell_of_heap Z2.out.bA 1
  have a2 := Lib.cell_of_heap Z2.out.bA 2
  have b0 := Lib.cell_of_heap Z2.out.bO 0
  have b1 := Lib.cell_of_heap Z2.out.bO 1
  have b2 := Lib.cell_of_heap Z2.out.bO 2
  have g0 := Lib.frozen_of_heap Z2.out.bO 0
  have g1 := Lib.frozen_of_heap Z2.out.bO 1
  obtain ⟨ra, rb, rc, hrr⟩ := Z2.out.bR
  have s0 := Lib.cell_of_heap hrr 0
  have s1 := Lib.cell_of_heap hrr 1
  have s2 := Lib.cell_of_heap hrr 2
  have f0 := Lib.frozen_of_heap hrr 0
  have f1 := Lib.frozen_of_heap hrr 1
  have f2 := Lib.frozen_of_heap hrr 2
  simp at a0 a1 a2 b0 b1 b2 s0 s1 s2
  clear hrr
  obtain ⟨ok, eok⟩ : ∃ b, gateOkB x = b := ⟨_, rfl⟩
  rw [eok]
  have HNO : Hid (gateOkB x = false ∨ inZ 0 3 p = false ∨ isIn x p = true → arriveE x p = (x, false)) := hide fun h => by unfold arriveE; rw [if_pos h]
  have CH := fun z h => hide (gateHas_any (.slice o1 x.waits.length c1) (.slice o2 x.queues.length c2) x p z h HLN.out)
  have CI := hide (isProcess_any p z2)
  cases ok with
  | false =>
    have HE := hide (HNO.out (.inl eok))
    clear eok HNO CH CI
    go_wp2
    obtain ⟨W, eW, hB, hO, hF⟩ := Z2.out.fin
    rw [eW]
    refine box_retV (g := w.heap.size + 1) (t := 26) (cs := #[.int .i64 x.owner, .slice p1 x.waits.length k1, .slice p2 x.queues.length k2]) rfl rfl ?_ _ Try.underlying26 rfl (by kernel_rfl) rfl ?_
    · exact hB
    · rw [HE.out]
      exact ⟨_, _, rfl, hO, hF⟩
  | true =>
    obtain ⟨zi, ezi⟩ : ∃ b, inZ 0 3 p = b := ⟨_, rfl⟩
    rw [ezi] at CI
    go_wp2_with fail
    refine CI.out.mono ?_
    rintro e z9 ⟨rfl, ez9⟩
    rw [ez9]
    clear ez9 z9 CI
    cases zi with
    | false =>
      have HE := hide (HNO.out (.inr (.inl ezi)))
      clear eok HNO CH ezi
      go_wp2
      obtain ⟨W, eW, hB, hO, hF⟩ := Z2.out.fin
      rw [eW]
      refine box_retV (g := w.heap.size + 1) (t := 26) (cs := #[.int .i64 x.owner, .slice p1 x.waits.length k1, .slice p2 x.queues.length k2]) rfl rfl ?_ _ Try.underlying26 rfl (by kernel_rfl) rfl ?_
      · exact hB
      · rw [HE.out]
        exact ⟨_, _, rfl, hO, hF⟩
    | true =>
      go_wp2_with fail
      refine (unhide (CH _ (HAW.out.stays Z2.out.bel))).mono ?_
      rintro e z3 ⟨rfl, hb3⟩
      have Z3 := hide (Z2.out.stays hb3)
      clear hb3 CH
      clear a0 a1 a2 b0 b1 b2 g0 g1 s0 s1 s2 f0 f1 f2 ra rb rc
      have a0 := Lib.cell_of_heap Z3.out.bA 0
      have a1 := Lib.cell_of_heap Z3.out.bA 1
      have a2 := Lib.cell_of_heap Z3.out.bA 2
      have b0 := Lib.cell_of_heap Z3.out.bO 0
      have b1 := Lib.cell_of_heap Z3.out.bO 1
      have b2 := Lib.cell_of_heap Z3.out.bO 2
      have g0 := Lib.frozen_of_heap Z3.out.bO 0
      have g1 := Lib.frozen_of_heap Z3.out.bO 1
      obtain ⟨ra, rb, rc, hrr⟩ := Z3.out.bR
      have s0 := Lib.cell_of_heap hrr 0
      have s1 := Lib.cell_of_heap hrr 1
      have s2 := Lib.cell_of_heap hrr 2
      have f0 := Lib.frozen_of_heap hrr 0
      have f1 := Lib.frozen_of_heap hrr 1
      have f2 := Lib.frozen_of_heap hrr 2
      simp at a0 a1 a2 b0 b1 b2 s0 s1 s2
      clear hrr
      obtain ⟨hi, ehi⟩ : ∃ b, isIn x p = b := ⟨_, rfl⟩
      rw [ehi]
      cases hi with
      | true =>
        have HE := hide (HNO.out (.inr (.inr ehi)))
        clear eok HNO ezi ehi
        go_wp2
        obtain ⟨W, eW, hB, hO, hF⟩ := Z3.out.fin
        rw [eW]
        refine box_retV (g := w.heap.size + 1) (t := 26) (cs := #[.int .i64 x.owner, .slice p1 x.waits.length k1, .slice p2 x.queues.length k2]) rfl rfl ?_ _ Try.underlying26 rfl (by kernel_rfl) rfl ?_
        · exact hB
        · rw [HE.out]
          exact ⟨_, _, rfl, hO, hF⟩
      | false =>
        have HIF : Hid (¬ (gateOkB x = false ∨ inZ 0 3 p = false ∨ isIn x p = true)) := hide (by rintro (h | h | h); (rw [eok] at h; cases h); (rw [ezi] at h; cases h); (rw [ehi] at h; cases h))
        have hob := (ok_owner eok).1
        by_cases hn : x.owner = -1
        · have HE : Hid (arriveE x p = ({ x with owner := p }, true)) := hide (by
            unfold arriveE
            rw [if_neg HIF.out, if_pos (by omega)])
          have Z4 := hide (Z3.out.owner p)
          clear eok HNO ezi ehi s0 s1 s2 f0 f1 f2 HIF hob
          have d0 := Lib.cell_of_heap Z4.out.bO 0
          have d1 := Lib.cell_of_heap Z4.out.bO 1
          have d2 := Lib.cell_of_heap Z4.out.bO 2
          obtain ⟨ra, rb, rc, hrr⟩ := Z4.out.bR
          have s0 := Lib.cell_of_heap hrr 0
          have s1 := Lib.cell_of_heap hrr 1
          have s2 := Lib.cell_of_heap hrr 2
          have f0 := Lib.frozen_of_heap hrr 0
          have f1 := Lib.frozen_of_heap hrr 1
          have f2 := Lib.frozen_of_heap hrr 2
          simp at d0 d1 d2 s0 s1 s2
          clear hrr
          go_wp2
          obtain ⟨W, eW, hB, hO, hF⟩ := Z4.out.fin
          rw [eW]
          refine box_retV (g := w.heap.size + 1) (t := 26) (cs := #[.int .i64 p, .slice p1 x.waits.length k1, .slice p2 x.queues.length k2]) rfl rfl ?_ _ Try.underlying26 rfl (by kernel_rfl) rfl ?_
          · exact hB
          · rw [HE.out]
            exact ⟨_, _, rfl, hO, hF⟩
        · have HE : Hid (arriveE x p = ({ x with waits := x.waits ++ [p] }, false)) := hide (by
            unfold arriveE
            rw [if_neg HIF.out, if_neg (by omega)])
          have CN := hide (line_any _ _ _ _ _ _ _ _ p _ Z3.out HLN.out HF.out)
          clear eok HNO ezi ehi HIF hob
          go_wp2_with fail
          refine CN.out.mono ?_
          rintro e z9 ⟨rn, rfl, hz9⟩
          have Z9 := hide hz9
          clear hz9 CN
          obtain ⟨pn, kn, rfl⟩ := form_own Z9.out.own.o1
          obtain ⟨gg, egg⟩ : ∃ g : Gt, { x with waits := x.waits ++ [p] } = g := ⟨_, rfl⟩
          rw [egg] at Z9 HE
          clear a0 a1 a2 b0 b1 b2 g0 g1 s0 s1 s2 f0 f1 f2 ra rb rc
          have a0 := Lib.cell_of_heap Z9.out.bA 0
          have a1 := Lib.cell_of_heap Z9.out.bA 1
          have a2 := Lib.cell_of_heap Z9.out.bA 2
          have b0 := Lib.cell_of_heap Z9.out.bO 0
          have b1 := Lib.cell_of_heap Z9.out.bO 1
          have b2 := Lib.cell_of_heap Z9.out.bO 2
          have g0 := Lib.frozen_of_heap Z9.out.bO 0
          have g1 := Lib.frozen_of_heap Z9.out.bO 1
          obtain ⟨ra, rb, rc, hrr⟩ := Z9.out.bR
          have s0 := Lib.cell_of_heap hrr 0
          have s1 := Lib.cell_of_heap hrr 1
          have s2 := Lib.cell_of_heap hrr 2
          have f0 := Lib.frozen_of_heap hrr 0
          have f1 := Lib.frozen_of_heap hrr 1
          have f2 := Lib.frozen_of_heap hrr 2
          simp at a0 a1 a2 b0 b1 b2 s0 s1 s2
          clear hrr
          go_wp2
          obtain ⟨W, eW, hB, hO, hF⟩ := Z9.out.fin
          rw [eW]
          refine box_retV (g := w.heap.size + 1) (t := 26) (cs := #[.int .i64 gg.owner, .slice pn gg.waits.length kn, .slice p2 x.queues.length k2]) rfl rfl ?_ _ Try.underlying26 rfl (by kernel_rfl) rfl ?_
          · exact hB
          · rw [HE.out]
            exact ⟨_, _, rfl, hO, hF⟩

end Go.Proofs.Ytbikdpljhnhcaaa
