/-
  Walk: who waits in a queue, by the program.
-/
import Derived.Test.YtnedpcgdepiakaaGmiE
namespace Go.Proofs.Ytnedpcgdepiakaa
open Go.RowKit

theorem ok_queue {x : Gt} (h : gateOkB x = true) {i : Nat} (hi : i < x.queues.length) : -1 ≤ x.queues[i] := by
  simp only [gateOkB, Bool.and_eq_true] at h
  exact (inZ_yes.1 (List.all_eq_true.1 h.1.2 _ (List.getElem_mem hi))).1

set_option maxRecDepth 100000 in
set_option maxHeartbeats 4000000 in
theorem implDelayIn_any (v1 v2 : Value) (x : Gt) (q : Int) (w : World) (h : GtAt w v1 v2 x) (hl : GtLen x) :
    Calls Try.prog 23 #[.agg #[.int .i64 x.owner, v1, v2], .int .i64 q] w fun e w' => ∃ r1 r2, e = .returned (.tuple #[.agg #[.int .i64 (delayE x q).1.owner, r1, r2], .int .i64 (delayE x q).2.1, .bool (delayE x q).2.2]) ∧ GtOwn w.heap.size w' r1 r2 (delayE x q).1 ∧ Below w.heap.size w w' := by
  have L1 := hl.l1
  have L2 := hl.l2
  have HAW := hide h
  have HLN := hide hl
  have CC := fun z h => hide (copiedG_any v1 v2 x z h hl)
  have CK := fun z h => hide (isLed_any v1 v2 x z h hl)
  obtain ⟨W1, hW⟩ : ∃ W1, (w.alloc (.cells #[.int .i64 x.owner, v1, v2] 24)).alloc (.cells #[.int .i64 0, .slice none 0 0, .slice none 0 0] 24) = W1 := ⟨_, rfl⟩
  have B1 : Hid (Below w.heap.size w W1) := by rw [← hW]; show Below w.heap.size w _; go_grown
  have BA1 : Hid (Box W1 w.heap.size #[.int .i64 x.owner, v1, v2] 24) := by rw [← hW]; exact hide ((Box.made w _ _).stays ((Below.refl _ _).alloc (Nat.le_refl _) _))
  have BR1 : Hid (Box W1 (w.heap.size + 1) #[.int .i64 0, .slice none 0 0, .slice none 0 0] 24) := by rw [← hW]; exact hide (Box.madeAt (by simp) _ _)
  have HZ1 : Hid (W1.heap.size = w.heap.size + 2) := by rw [← hW]; show _ = _; simp
  have HW := hide hW
  obtain ⟨o1, c1, rfl, _⟩ := h.a1
  obtain ⟨o2, c2, rfl, _⟩ := h.a2
  clear h hl hW
  have q0 := Lib.cell_of_heap BA1.out 0
  have q1 := Lib.cell_of_heap BA1.out 1
  have q2 := Lib.cell_of_heap BA1.out 2
  simp at q0 q1 q2
  rw [← HW.out] at q0 q1 q2
  go_enter Try.func23, Try.ntmps23
  go_wp2_with fail
  rw [HW.out]
  refine (unhide (CC _ (HAW.out.stays B1.out))).mono ?_
  rintro e zc ⟨r1, r2, rfl, ho, hb, hf⟩
  have HF := hide hf
  obtain ⟨p1, k1, rfl⟩ := form_own ho.o1
  obtain ⟨p2, k2, rfl⟩ := form_own ho.o2
  have hba : Below zc.heap.size zc (zc.alloc (.cells #[.int .i64 x.owner, .slice p1 x.waits.length k1, .slice p2 x.queues.length k2] 24)) := (Below.refl _ _).alloc (Nat.le_refl _) _
  have Z1 : Hid (GaZ w x.owner (.slice o1 x.waits.length c1) (.slice o2 x.queues.length c2) zc.heap.size (.slice p1 x.waits.length k1) (.slice p2 x.queues.length k2) x (zc.alloc (.cells #[.int .i64 x.owner, .slice p1 x.waits.length k1, .slice p2 x.queues.length k2] 24))) :=
    ⟨(BA1.out.stays hb).stays hba, ⟨_, _, _, (BR1.out.stays hb).stays hba⟩, Box.made _ _ _, (ho.lo (by have := HZ1.out; omega)).stays hba, (B1.out.trans (hb.mono B1.out.size)).trans (hba.mono (Nat.le_trans B1.out.size hb.size)), by have := HZ1.out; have := hb.size; omega⟩
  clear hb ho hba hf q0 q1 q2 CC B1 BA1 BR1
  obtain ⟨Z, hZ⟩ : ∃ Z, zc.alloc (.cells #[.int .i64 x.owner, .slice p1 x.waits.length k1, .slice p2 x.queues.length k2] 24) = Z := ⟨_, rfl⟩
  obtain ⟨G, eG⟩ : ∃ G, zc.heap.size = G := ⟨_, rfl⟩
  have HZ := hide hZ
  have EG := hide eG
  rw [hZ, eG] at Z1
  clear hZ eG
  have t0 := Lib.cell_of_heap Z1.out.bA 0
  have t1 := Lib.cell_of_heap Z1.out.bA 1
  have t2 := Lib.cell_of_heap Z1.out.bA 2
  simp at t0 t1 t2
  rw [← HZ.out] at t0 t1 t2
  go_wp2_with fail
  rw [HZ.out, EG.out]
  refine (unhide (CK _ (HAW.out.stays Z1.out.bel))).mono ?_
  rintro e z2 ⟨rfl, hb2⟩
  have Z2 := hide (Z1.out.stays hb2)
  clear hb2 t0 t1 t2 HZ EG Z1 CK
  have a0 := Lib.cell_of_heap Z2.out.bA 0
  have a1 := Lib.cell_of_heap Z2.out.bA 1
  have a2 := Lib.cell_of_heap Z2.out.bA 2
  have b0 := Lib.cell_of_heap Z2.out.bO 0
  have b1 := Lib.cell_of_heap Z2.out.bO 1
  have b2 := Lib.cell_of_heap Z2.out.bO 2
  have g0 := Lib.frozen_of_heap Z2.out.bO 0
  have g1 := Lib.frozen_of_heap Z2.out.bO 1
  obtain ⟨ra, rb, rc, hrr⟩ := Z2.out.bR
  have s0 := Lib.cell_of_heap hrr 0
  have s1 := Lib.cell_of_heap hrr 1
  have s2 := Lib.cell_of_heap hrr 2
  have f0 := Lib.frozen_of_heap hrr 0
  have f1 := Lib.frozen_of_heap hrr 1
  have f2 := Lib.frozen_of_heap hrr 2
  simp at a0 a1 a2 b0 b1 b2 s0 s1 s2
  clear hrr
  obtain ⟨ok, eok⟩ : ∃ b, ledB x = b := ⟨_, rfl⟩
  rw [eok]
  have HNO : Hid (gateOkB x = false ∨ x.owner < 0 ∨ inZ 0 ((x.queues.length : Int) - 1) q = false ∨ 0 ≤ x.queues.getD q.toNat (-1) → delayE x q = (x, -1, false)) := hide fun h => by unfold delayE; rw [if_pos h]
  have CH := fun z h => hide (hasQueue_any (.slice o1 x.waits.length c1) (.slice o2 x.queues.length c2) x q z h HLN.out)
  cases ok with
  | false =>
    have HE := hide (HNO.out ((ledB_no eok).elim .inl fun h => .inr (.inl h)))
    clear eok HNO CH
    go_wp2
    obtain ⟨W, eW, hB, hO, hF⟩ := Z2.out.fin
    rw [eW]
    refine box_retVV (g := w.heap.size + 1) (t := 24) (cs := #[.int .i64 x.owner, .slice p1 x.waits.length k1, .slice p2 x.queues.length k2]) rfl rfl ?_ _ Try.underlying24 rfl (by kernel_rfl) rfl ?_
    · exact hB
    · rw [HE.out]
      exact ⟨_, _, rfl, hO, hF⟩
  | true =>
    go_wp2_with fail
    refine (unhide (CH _ (HAW.out.stays Z2.out.bel))).mono ?_
    rintro e z3 ⟨rfl, hb3⟩
    have Z3 := hide (Z2.out.stays hb3)
    clear hb3 CH
    clear a0 a1 a2 b0 b1 b2 g0 g1 s0 s1 s2 f0 f1 f2 ra rb rc
    have a0 := Lib.cell_of_heap Z3.out.bA 0
    have a1 := Lib.cell_of_heap Z3.out.bA 1
    have a2 := Lib.cell_of_heap Z3.out.bA 2
    have b0 := Lib.cell_of_heap Z3.out.bO 0
    have b1 := Lib.cell_of_heap Z3.out.bO 1
    have b2 := Lib.cell_of_heap Z3.out.bO 2
    have g0 := Lib.frozen_of_heap Z3.out.bO 0
    have g1 := Lib.frozen_of_heap Z3.out.bO 1
    obtain ⟨ra, rb, rc, hrr⟩ := Z3.out.bR
    have s0 := Lib.cell_of_heap hrr 0
    have s1 := Lib.cell_of_heap hrr 1
    have s2 := Lib.cell_of_heap hrr 2
    have f0 := Lib.frozen_of_heap hrr 0
    have f1 := Lib.frozen_of_heap hrr 1
    have f2 := Lib.frozen_of_heap hrr 2
    simp at a0 a1 a2 b0 b1 b2 s0 s1 s2
    clear hrr
    obtain ⟨zi, ezi⟩ : ∃ b, inZ 0 ((x.queues.length : Int) - 1) q = b := ⟨_, rfl⟩
    rw [ezi]
    cases zi with
    | false =>
      have HE := hide (HNO.out (.inr (.inr (.inl ezi))))
      clear eok HNO ezi
      go_wp2
      obtain ⟨W, eW, hB, hO, hF⟩ := Z3.out.fin
      rw [eW]
      refine box_retVV (g := w.heap.size + 1) (t := 24) (cs := #[.int .i64 x.owner, .slice p1 x.waits.length k1, .slice p2 x.queues.length k2]) rfl rfl ?_ _ Try.underlying24 rfl (by kernel_rfl) rfl ?_
      · exact hB
      · rw [HE.out]
        exact ⟨_, _, rfl, hO, hF⟩
    | true =>
      have hq := inZ_yes.1 ezi
      obtain ⟨i, rfl⟩ : ∃ i : Nat, q = (i : Int) := ⟨q.toNat, by omega⟩
      have hix : i < x.queues.length := by omega
      have hi0 := hq.1
      have hi1 : (i : Int) < (x.queues.length : Int) := by omega
      obtain ⟨ao', c', e1, hc1⟩ := (HAW.out.stays Z3.out.bel).a2
      injection e1 with e2 e3 e4
      subst e2
      obtain ⟨a, rfl, ha, hx⟩ := hc1 i hix
      have HGD : Hid (x.queues.getD (i : Int).toNat (-1) = x.queues[i]) := hide (by rw [Int.toNat_natCast, List.getD_eq_getElem?_getD, List.getElem?_eq_getElem hix]; rfl)
      have hub : -1 ≤ x.queues[i] := ok_queue (ledB_yes eok).1 hix
      obtain ⟨u, eu⟩ : ∃ u, x.queues[i] = u := ⟨_, rfl⟩
      rw [eu] at hx HGD hub
      clear hc1 e3 e4 eu hq
      by_cases hu : u = -1
      · have HE : Hid (delayE x (i : Int) = (nextG { x with queues := x.queues.set i x.owner }, (nextG { x with queues := x.queues.set i x.owner }).owner, true)) := hide (by
          unfold delayE
          rw [if_neg (by rintro (h | h | h | h); (rw [(ledB_yes eok).1] at h; cases h); (have := (ledB_yes eok).2; omega); (rw [ezi] at h; cases h); (rw [HGD.out] at h; omega)), Int.toNat_natCast]
          rfl)
        obtain ⟨q2, rfl⟩ : ∃ q, p2 = some ⟨q, 0, none⟩ := by
          rcases Z3.out.own.o2.2 with ⟨e, h0⟩ | ⟨g, cap, cur, e, _⟩
          · omega
          · injection e with e1 _ _
            exact ⟨g, e1⟩
        obtain ⟨⟨uo, huo⟩, hfz⟩ := own_there Z3.out.own.o2 i hix 0 (by decide)
        rw [Nat.mul_one, Nat.add_zero] at huo hfz
        have Z4 := hide (Z3.out.queue (i := i) x.owner)
        have HL3 : Hid (GtLen { x with queues := x.queues.set i x.owner }) := hide ⟨HLN.out.l1, by show (x.queues.set i x.owner).length ≤ _; rw [List.length_set]; exact HLN.out.l2⟩
        have CN := hide (letIn_any _ _ _ _ _ _ _ _ _ Z4.out HL3.out)
        clear eok HNO ezi
        rw [hu] at hx
        go_wp2_with fail
        refine CN.out.mono ?_
        rintro e z9 ⟨rn, rfl, hz9⟩
        have Z9 := hide hz9
        clear hz9
        obtain ⟨pn, kn, rfl⟩ := form_own Z9.out.own.o1
        obtain ⟨gg, egg⟩ : ∃ g, nextG { x with queues := x.queues.set i x.owner } = g := ⟨_, rfl⟩
        rw [egg] at Z9 HE ⊢
        clear CN
        clear a0 a1 a2 b0 b1 b2 g0 g1 s0 s1 s2 f0 f1 f2 ra rb rc
        have a0 := Lib.cell_of_heap Z9.out.bA 0
        have a1 := Lib.cell_of_heap Z9.out.bA 1
        have a2 := Lib.cell_of_heap Z9.out.bA 2
        have b0 := Lib.cell_of_heap Z9.out.bO 0
        have b1 := Lib.cell_of_heap Z9.out.bO 1
        have b2 := Lib.cell_of_heap Z9.out.bO 2
        have g0 := Lib.frozen_of_heap Z9.out.bO 0
        have g1 := Lib.frozen_of_heap Z9.out.bO 1
        obtain ⟨ra, rb, rc, hrr⟩ := Z9.out.bR
        have s0 := Lib.cell_of_heap hrr 0
        have s1 := Lib.cell_of_heap hrr 1
        have s2 := Lib.cell_of_heap hrr 2
        have f0 := Lib.frozen_of_heap hrr 0
        have f1 := Lib.frozen_of_heap hrr 1
        have f2 := Lib.frozen_of_heap hrr 2
        simp at a0 a1 a2 b0 b1 b2 s0 s1 s2
        clear hrr
        go_wp2
        obtain ⟨W, eW, hB, hO, hF⟩ := Z9.out.fin
        rw [eW]
        refine box_retVV (g := w.heap.size + 1) (t := 24) (cs := #[.int .i64 gg.owner, .slice pn gg.waits.length kn, .slice (some ⟨q2, 0, none⟩) x.queues.length k2]) rfl rfl ?_ _ Try.underlying24 rfl (by kernel_rfl) rfl ?_
        · exact hB
        · rw [HE.out]
          exact ⟨_, _, rfl, hO, hF⟩
      · have HE := hide (HNO.out (.inr (.inr (.inr (by rw [HGD.out]; omega)))))
        clear eok HNO ezi
        go_wp2
        obtain ⟨W, eW, hB, hO, hF⟩ := Z3.out.fin
        rw [eW]
        refine box_retVV (g := w.heap.size + 1) (t := 24) (cs := #[.int .i64 x.owner, .slice p1 x.waits.length k1, .slice p2 x.queues.length k2]) rfl rfl ?_ _ Try.underlying24 rfl (by kernel_rfl) rfl ?_
        · exact hB
        · rw [HE.out]
          exact ⟨_, _, rfl, hO, hF⟩

end Go.Proofs.Ytnedpcgdepiakaa
