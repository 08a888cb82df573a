/-
  Walks: an Env copied, a value put in an Env, by the program.
-/
import Derived.Test.YtbghdbclckanjaaEvOf
import Derived.Test.YtbghdbclckanjaaEnvX
import Derived.Deep.RegionHeld3
namespace Go.Proofs.Ytbghdbclckanjaa
open Go.RowKit

set_option maxRecDepth 100000 in
set_option maxHeartbeats 8000000 in
theorem copied_any (v0 v1 : Value) (x : Ev) (w : World) (h : EvAt w v0 v1 x) (hl : EvLen x) :
    Calls Try.prog 28 #[.agg #[v0, v1]] w fun e w' => ∃ r0 r1, e = .returned (.agg #[r0, r1]) ∧ EvOwn w.heap.size w' r0 r1 x ∧ Below w.heap.size w w' := by
  have HA := hide h
  have L0 := hl.l0
  have L1 := hl.l1
  have C1 := fun z h => hide (cloneS_own v0 x.names z h L0)
  have C2 := fun z h => hide (cloneI_own v1 x.vals z h L1)
  obtain ⟨o0, c0, rfl, _⟩ := h.a0
  obtain ⟨o1, c1, rfl, _⟩ := h.a1
  clear h hl
  obtain ⟨W0, hW⟩ : ∃ W0, (w.alloc (.cells #[.slice o0 x.names.length c0, .slice o1 x.vals.length c1] 27)).alloc (.cells #[.slice none 0 0, .slice none 0 0] 27) = W0 := ⟨_, rfl⟩
  have C0 : Hid (CpEv w W0 #[.slice o0 x.names.length c0, .slice o1 x.vals.length c1] W0) := by
    rw [← hW]
    exact hide ⟨(Box.made w #[.slice o0 x.names.length c0, .slice o1 x.vals.length c1] 27).stays ((Below.refl _ _).alloc (Nat.le_refl _) _), ⟨_, _, Box.madeAt (by simp) _ _⟩, by go_grown, by simp⟩
  have HZ : Hid (W0.heap.size = w.heap.size + 2) := by rw [← hW]; show _ = _; simp
  have HW := hide hW
  clear hW
  have KC : Hid (∀ z : World, CpEv w W0 #[.slice o0 x.names.length c0, .slice o1 x.vals.length c1] z → (z.cell? ⟨w.heap.size, 0, none⟩ = some (.slice o0 x.names.length c0) ∧ z.cell? ⟨w.heap.size, 1, none⟩ = some (.slice o1 x.vals.length c1) ∧ Hid (CpEv w W0 #[.slice o0 x.names.length c0, .slice o1 x.vals.length c1] z))) := fun z hz => ⟨Lib.cell_of_heap hz.bA 0, Lib.cell_of_heap hz.bA 1, hz⟩
  have KV : Hid (∀ z : World, (z.cell? ⟨w.heap.size, 0, none⟩ = some (.slice o0 x.names.length c0) ∧ z.cell? ⟨w.heap.size, 1, none⟩ = some (.slice o1 x.vals.length c1) ∧ Hid (CpEv w W0 #[.slice o0 x.names.length c0, .slice o1 x.vals.length c1] z)) → CpEv w W0 #[.slice o0 x.names.length c0, .slice o1 x.vals.length c1] z) := fun z hz => hz.2.2.out
  have KP : Hid (∀ z z' : World, (z.cell? ⟨w.heap.size, 0, none⟩ = some (.slice o0 x.names.length c0) ∧ z.cell? ⟨w.heap.size, 1, none⟩ = some (.slice o1 x.vals.length c1) ∧ Hid (CpEv w W0 #[.slice o0 x.names.length c0, .slice o1 x.vals.length c1] z)) → Below z.heap.size z z' → (z'.cell? ⟨w.heap.size, 0, none⟩ = some (.slice o0 x.names.length c0) ∧ z'.cell? ⟨w.heap.size, 1, none⟩ = some (.slice o1 x.vals.length c1) ∧ Hid (CpEv w W0 #[.slice o0 x.names.length c0, .slice o1 x.vals.length c1] z'))) := fun z z' hz hb => KC.out _ ((KV.out _ hz).go (hb.mono (KV.out _ hz).le))
  have K0 := hide (KC.out _ (C0.out.go (Below.refl _ _).drew))
  have KR0 : Hid (∀ z : World, (z.cell? ⟨w.heap.size, 0, none⟩ = some (.slice o0 x.names.length c0) ∧ z.cell? ⟨w.heap.size, 1, none⟩ = some (.slice o1 x.vals.length c1) ∧ Hid (CpEv w W0 #[.slice o0 x.names.length c0, .slice o1 x.vals.length c1] z)) → EvAt z (.slice o0 x.names.length c0) (.slice o1 x.vals.length c1) x) := fun z hz => HA.out.stays (KV.out _ hz).bel
  go_enter Try.func28, Try.ntmps28
  go_wp2_with fail
  rw [HW.out]
  go_region_held3 (fun z => z.cell? ⟨w.heap.size, 0, none⟩ = some (.slice o0 x.names.length c0) ∧ z.cell? ⟨w.heap.size, 1, none⟩ = some (.slice o1 x.vals.length c1) ∧ Hid (CpEv w W0 #[.slice o0 x.names.length c0, .slice o1 x.vals.length c1] z)) (first | exact K0.out | exact KP.out _ _ (by assumption) hb6 | exact KP.out _ _ (by assumption) hb7 | exact KC.out _ (CW.out.store _ _).1)
    (first
      | (go_at_call 56; refine (unhide (C1 _ (KR0.out _ (by assumption)).a0)).mono ?_; rintro e w6 ⟨u6, rfl, hq6, hb6⟩; obtain ⟨po6, pc6, rfl⟩ := form_own hq6; have CW := hide (KV.out _ (KP.out _ _ (by assumption) hb6)); obtain ⟨rr0, rr1, hrr⟩ := CW.out.bR; have y0 := Lib.cell_of_heap hrr 0; simp at y0; have f0 := Lib.frozen_of_heap hrr 0; have y1 := Lib.cell_of_heap hrr 1; simp at y1; have f1 := Lib.frozen_of_heap hrr 1; clear hrr)
      | (go_at_call 57; refine (unhide (C2 _ (KR0.out _ (by assumption)).a1)).mono ?_; rintro e w7 ⟨u7, rfl, hq7, hb7⟩; obtain ⟨po7, pc7, rfl⟩ := form_own hq7; have CW := hide (KV.out _ (KP.out _ _ (by assumption) hb7)); obtain ⟨rr0, rr1, hrr⟩ := CW.out.bR; have y0 := Lib.cell_of_heap hrr 0; simp at y0; have f0 := Lib.frozen_of_heap hrr 0; have y1 := Lib.cell_of_heap hrr 1; simp at y1; have f1 := Lib.frozen_of_heap hrr 1; clear hrr))
  have HS := CW.out.store (.slice po6 x.names.length pc6) (.slice po7 x.vals.length pc7)
  have E6 := ownsInts_stays hq6 hb7
  have hs6 : W0.drew.heap.size = w.heap.size + 2 := HZ.out
  have hs7 := hb6.size
  have AP : ∀ i, ((.slice po6 x.names.length pc6) : Value).ownBlock = some i → ((.slice po7 x.vals.length pc7) : Value).ownBlock ≠ some i := fun i h6 h7 => by
    have h8 := (hq6.lt i h6).2
    have h9 := (hq7.lt i h7).1
    omega
  have R6 := owns_lo (a := w.heap.size) (owns_eq E6 (z' := (w7.setCell ⟨w.heap.size + 1, 0, none⟩ (.slice po6 x.names.length pc6)).setCell ⟨w.heap.size + 1, 1, none⟩ (.slice po7 x.vals.length pc7)) fun g hg => by have hg2 := (E6.lt g hg).1; exact (Below.heap_setCell _ ⟨w.heap.size + 1, 1, none⟩ _ g (by show g ≠ w.heap.size + 1; omega)).trans (Below.heap_setCell _ ⟨w.heap.size + 1, 0, none⟩ _ g (by show g ≠ w.heap.size + 1; omega))) (by omega)
  have R7 := owns_lo (a := w.heap.size) (owns_eq hq7 (z' := (w7.setCell ⟨w.heap.size + 1, 0, none⟩ (.slice po6 x.names.length pc6)).setCell ⟨w.heap.size + 1, 1, none⟩ (.slice po7 x.vals.length pc7)) fun g hg => by have hg2 := (hq7.lt g hg).1; exact (Below.heap_setCell _ ⟨w.heap.size + 1, 1, none⟩ _ g (by show g ≠ w.heap.size + 1; omega)).trans (Below.heap_setCell _ ⟨w.heap.size + 1, 0, none⟩ _ g (by show g ≠ w.heap.size + 1; omega))) (by omega)
  have RES : Hid (EvOwn w.heap.size ((w7.setCell ⟨w.heap.size + 1, 0, none⟩ (.slice po6 x.names.length pc6)).setCell ⟨w.heap.size + 1, 1, none⟩ (.slice po7 x.vals.length pc7)) (.slice po6 x.names.length pc6) (.slice po7 x.vals.length pc7) x ∧ Below w.heap.size w ((w7.setCell ⟨w.heap.size + 1, 0, none⟩ (.slice po6 x.names.length pc6)).setCell ⟨w.heap.size + 1, 1, none⟩ (.slice po7 x.vals.length pc7))) := ⟨⟨R6, R7, AP⟩, HS.1.bel⟩
  have HBX := hide HS.2
  clear HS E6 hs6 hs7 AP R6 R7
  go_wp2
  refine box_ret (g := w.heap.size + 1) (t := 27) (cs := #[.slice po6 x.names.length pc6, .slice po7 x.vals.length pc7]) rfl rfl ?_ _ Try.underlying27 rfl (by kernel_rfl) rfl ?_
  · exact HBX.out
  · exact ⟨_, _, rfl, RES.out.1, RES.out.2⟩
theorem PuZ.stays {w : World} {v0 v1 : Value} {G : Nat} {r0 r1 : Value} {x : Ev} {z z' : World} (h : PuZ w v0 v1 G r0 r1 x z) (hb : Below z.heap.size z z') : PuZ w v0 v1 G r0 r1 x z' := by
  obtain ⟨a, b, hr⟩ := h.bR
  exact ⟨h.bA.stays hb, ⟨a, b, hr.stays hb⟩, h.bO.stays hb, h.own.stays hb, h.bel.trans (hb.mono h.bel.size)⟩
theorem PuZ.fin' {w : World} {v0 v1 : Value} {G : Nat} {r0 r1 : Value} {x : Ev} {z : World} (h : PuZ w v0 v1 G r0 r1 x z) :
    ∃ W, (z.setCell ⟨w.heap.size + 1, 0, none⟩ r0).setCell ⟨w.heap.size + 1, 1, none⟩ r1 = W ∧ Box W (w.heap.size + 1) #[r0, r1] 27 ∧ EvOwn w.heap.size W r0 r1 x ∧ Below w.heap.size w W := ⟨_, rfl, h.fin.1, h.fin.2.1, h.fin.2.2⟩

set_option maxRecDepth 100000 in
set_option maxHeartbeats 4000000 in
theorem implPutIn_any (v0 v1 : Value) (x : Ev) (s : ByteArray) (nv : Int) (w : World) (h : EvAt w v0 v1 x) (hl : EvLen x) :
    Calls Try.prog 8 #[.agg #[v0, v1], .string s, .int .i64 nv] w fun e w' => ∃ r0 r1, e = .returned (.agg #[r0, r1]) ∧ EvOwn w.heap.size w' r0 r1 (putE x s nv) ∧ Below w.heap.size w w' := by
  have L0 := hl.l0
  have L1 := hl.l1
  have HAW := hide h
  have CC := fun z h => hide (copied_any v0 v1 x z h hl)
  have CP := fun z h => hide (placeOf_any v0 v1 x s z h hl)
  have CV := fun z => hide (implValOk nv z)
  have HPE : Hid (putE x s nv = if vok nv = true ∧ 0 ≤ firstAt (eqS s) x.names ∧ firstAt (eqS s) x.names < (x.vals.length : Int) then { x with vals := x.vals.set (firstAt (eqS s) x.names).toNat nv } else x) := by
    show _ = _
    rw [putE, atE_eq]
    by_cases hq : 0 ≤ firstAt (eqS s) x.names ∧ firstAt (eqS s) x.names < (x.vals.length : Int)
    · rw [if_pos hq]
      by_cases hv : vok nv = true
      · rw [if_pos ⟨hv, hq.1⟩, if_pos ⟨hv, hq⟩]
      · rw [if_neg (fun h => hv h.1), if_neg (fun h => hv h.1)]
    · rw [if_neg hq, if_neg (by omega), if_neg (fun h => hq h.2)]
  obtain ⟨W1, hW⟩ : ∃ W1, (w.alloc (.cells #[v0, v1] 27)).alloc (.cells #[.slice none 0 0, .slice none 0 0] 27) = W1 := ⟨_, rfl⟩
  have B1 : Hid (Below w.heap.size w W1) := by rw [← hW]; show Below w.heap.size w _; go_grown
  have BA1 : Hid (Box W1 w.heap.size #[v0, v1] 27) := by rw [← hW]; exact hide ((Box.made w _ _).stays ((Below.refl _ _).alloc (Nat.le_refl _) _))
  have BR1 : Hid (Box W1 (w.heap.size + 1) #[.slice none 0 0, .slice none 0 0] 27) := by rw [← hW]; exact hide (Box.madeAt (by simp) _ _)
  have HZ1 : Hid (W1.heap.size = w.heap.size + 2) := by rw [← hW]; show _ = _; simp
  have HW := hide hW
  obtain ⟨o0, c0, rfl, _⟩ := h.a0
  obtain ⟨o1, c1, rfl, _⟩ := h.a1
  clear h hl hW
  obtain ⟨y, ey⟩ : ∃ y, putE x s nv = y := ⟨_, rfl⟩
  rw [ey] at HPE ⊢
  clear ey
  obtain ⟨k, ek⟩ : ∃ k, firstAt (eqS s) x.names = k := ⟨_, rfl⟩
  simp only [ek] at CP
  rw [ek] at HPE
  clear ek
  obtain ⟨bv, eb⟩ : ∃ b, vok nv = b := ⟨_, rfl⟩
  simp only [eb] at CV
  rw [eb] at HPE
  clear eb
  obtain ⟨bf, ef⟩ : ∃ b, (decide (0 ≤ k) && decide (k < (x.vals.length : Int))) = b := ⟨_, rfl⟩
  simp only [ef] at CP
  have HBF := hide ef
  clear ef
  have q0 := Lib.cell_of_heap BA1.out 0
  have q1 := Lib.cell_of_heap BA1.out 1
  simp at q0 q1
  rw [← HW.out] at q0 q1
  go_enter Try.func8, Try.ntmps8
  go_wp2_with fail
  rw [HW.out]
  refine (unhide (CC _ (HAW.out.stays B1.out))).mono ?_
  rintro e zc ⟨r0, r1, rfl, ho, hb⟩
  obtain ⟨p0, k0, rfl⟩ := form_own ho.o0
  obtain ⟨p1, k1, rfl⟩ := form_own ho.o1
  have hba : Below zc.heap.size zc (zc.alloc (.cells #[.slice p0 x.names.length k0, .slice p1 x.vals.length k1] 27)) := (Below.refl _ _).alloc (Nat.le_refl _) _
  have Z1 : Hid (PuZ w (.slice o0 x.names.length c0) (.slice o1 x.vals.length c1) zc.heap.size (.slice p0 x.names.length k0) (.slice p1 x.vals.length k1) x (zc.alloc (.cells #[.slice p0 x.names.length k0, .slice p1 x.vals.length k1] 27))) :=
    ⟨(BA1.out.stays hb).stays hba, ⟨_, _, (BR1.out.stays hb).stays hba⟩, Box.made _ _ _, (ho.lo (by have := HZ1.out; omega)).stays hba, (B1.out.trans (hb.mono B1.out.size)).trans (hba.mono (Nat.le_trans B1.out.size hb.size))⟩
  have OG : Hid (∀ i, (Value.slice p1 x.vals.length k1).ownBlock = some i → i < zc.heap.size) := fun i hi => (ho.o1.lt i hi).2
  clear hb ho hba q0 q1
  obtain ⟨Z, hZ⟩ : ∃ Z, zc.alloc (.cells #[.slice p0 x.names.length k0, .slice p1 x.vals.length k1] 27) = Z := ⟨_, rfl⟩
  have HZ := hide hZ
  rw [hZ] at Z1
  clear hZ
  have t0 := Lib.cell_of_heap Z1.out.bA 0
  have t1 := Lib.cell_of_heap Z1.out.bA 1
  simp at t0 t1
  rw [← HZ.out] at t0 t1
  by_cases hyes : bf = true ∧ bv = true
  case neg =>
    have eyx : y = x := by
      rw [HPE.out, if_neg]
      rintro ⟨h1, h2, h3⟩
      exact hyes ⟨by rw [← HBF.out, decide_eq_true h2, decide_eq_true h3]; rfl, h1⟩
    subst eyx
    clear HPE
    have HNO := hide hyes
    clear hyes
    cases bf with
    | false =>
      clear HNO
      go_wp2_with (go_at_call 29; rw [HZ.out]; refine (unhide (CP _ (HAW.out.stays Z1.out.bel))).mono ?_; rintro e z2 ⟨rfl, hb⟩; have Z2 := hide (Z1.out.stays hb); clear hb t0 t1; have s2 := Lib.cell_of_heap Z2.out.bO 0; have s3 := Lib.cell_of_heap Z2.out.bO 1; obtain ⟨sa, sb, hss⟩ := Z2.out.bR; have s4 := Lib.cell_of_heap hss 0; have s5 := Lib.cell_of_heap hss 1; have g4 := Lib.frozen_of_heap hss 0; have g5 := Lib.frozen_of_heap hss 1; simp at s2 s3 s4 s5; clear hss)
      refine box_ret (g := w.heap.size + 1) (t := 27) (cs := #[.slice p0 y.names.length k0, .slice p1 y.vals.length k1]) rfl rfl ?_ _ Try.underlying27 rfl (by kernel_rfl) rfl ?_
      · exact Z2.out.fin.1
      · exact ⟨_, _, rfl, Z2.out.fin.2.1, Z2.out.fin.2.2⟩
    | true =>
      have eb2 : bv = false := by cases bv with
        | false => rfl
        | true => exact absurd ⟨rfl, rfl⟩ HNO.out
      subst eb2
      clear HNO
      go_wp2_with (first | (go_at_call 30; refine (unhide (CV _)).mono ?_; rintro e z ⟨rfl, rfl⟩) | (go_at_call 29; rw [HZ.out]; refine (unhide (CP _ (HAW.out.stays Z1.out.bel))).mono ?_; rintro e z2 ⟨rfl, hb⟩; have Z2 := hide (Z1.out.stays hb); clear hb t0 t1; have s2 := Lib.cell_of_heap Z2.out.bO 0; have s3 := Lib.cell_of_heap Z2.out.bO 1; obtain ⟨sa, sb, hss⟩ := Z2.out.bR; have s4 := Lib.cell_of_heap hss 0; have s5 := Lib.cell_of_heap hss 1; have g4 := Lib.frozen_of_heap hss 0; have g5 := Lib.frozen_of_heap hss 1; simp at s2 s3 s4 s5; clear hss))
      refine box_ret (g := w.heap.size + 1) (t := 27) (cs := #[.slice p0 y.names.length k0, .slice p1 y.vals.length k1]) rfl rfl ?_ _ Try.underlying27 rfl (by kernel_rfl) rfl ?_
      · exact Z2.out.fin.1
      · exact ⟨_, _, rfl, Z2.out.fin.2.1, Z2.out.fin.2.2⟩
  obtain ⟨rfl, rfl⟩ := hyes
  have hq : 0 ≤ k ∧ k < (x.vals.length : Int) := by
    have h := HBF.out
    rw [Bool.and_eq_true, decide_eq_true_eq, decide_eq_true_eq] at h
    exact h
  obtain ⟨i, rfl⟩ : ∃ i : Nat, k = (i : Int) := ⟨k.toNat, by omega⟩
  have him : i < x.vals.length := by omega
  have HPE2 : Hid (y = { x with vals := x.vals.set i nv }) := by
    show _ = _
    rw [HPE.out, if_pos ⟨rfl, hq⟩, Int.toNat_natCast]
  clear HPE HBF
  obtain ⟨g1, rfl⟩ : ∃ g, p1 = some ⟨g, 0, none⟩ := by
    rcases Z1.out.own.o1.2 with ⟨e, h0⟩ | ⟨g, cap, cur, e, _⟩
    · omega
    · injection e with e1 _ _
      exact ⟨g, e1⟩
  have hgu := OG.out g1 rfl
  have hgl := (Z1.out.own.o1.lt g1 rfl).1
  have hi1 := hq.1
  have hi2 := hq.2
  have HST : Hid (∀ z : World, PuZ w (.slice o0 x.names.length c0) (.slice o1 x.vals.length c1) zc.heap.size (.slice p0 x.names.length k0) (.slice (some ⟨g1, 0, none⟩) x.vals.length k1) x z → PuZ w (.slice o0 x.names.length c0) (.slice o1 x.vals.length c1) zc.heap.size (.slice p0 x.names.length k0) (.slice (some ⟨g1, 0, none⟩) x.vals.length k1) y (z.setCell ⟨g1, i, none⟩ (.int .i64 nv))) := by
    intro z hz
    rw [HPE2.out]
    refine ⟨hz.bA.other _ _ (by show w.heap.size ≠ g1; omega), ?_, hz.bO.other _ _ (by show zc.heap.size ≠ g1; omega), ⟨?_, ?_, hz.own.ap⟩, hz.bel.setCell (p := ⟨g1, i, none⟩) (by show w.heap.size ≤ g1; omega) _⟩
    · obtain ⟨ra, rb, hrr⟩ := hz.bR
      exact ⟨ra, rb, hrr.other _ _ (by show w.heap.size + 1 ≠ g1; omega)⟩
    · exact owns_eq hz.own.o0 fun g hg => Below.heap_setCell _ ⟨g1, i, none⟩ _ g (fun e => hz.own.ap g hg (by show some g1 = some g; rw [e]))
    · have h9 := (hz.own.o1.stored i (.int .i64 nv)).1
      show World.ownsRow _ _ _ _ _ (x.vals.set i nv).length ((x.vals.set i nv).map I64)
      rw [List.length_set, List.map_set]
      exact h9
  go_wp2_with (first | (go_at_call 30; refine (unhide (CV _)).mono ?_; rintro e z ⟨rfl, rfl⟩) | (go_at_call 29; rw [HZ.out]; refine (unhide (CP _ (HAW.out.stays Z1.out.bel))).mono ?_; rintro e z2 ⟨rfl, hb⟩; have Z2 := hide (Z1.out.stays hb); clear hb t0 t1; have u3 := Lib.cell_of_heap Z2.out.bO 1; simp at u3; obtain ⟨⟨uo, hu⟩, hf⟩ := own_there Z2.out.own.o1 i him 0 (by decide); rw [Nat.mul_one, Nat.add_zero] at hu hf; have Z3 := hide (HST.out _ Z2.out); have s2 := Lib.cell_of_heap Z3.out.bO 0; have s3 := Lib.cell_of_heap Z3.out.bO 1; obtain ⟨sa, sb, hss⟩ := Z3.out.bR; have s4 := Lib.cell_of_heap hss 0; have s5 := Lib.cell_of_heap hss 1; have g4 := Lib.frozen_of_heap hss 0; have g5 := Lib.frozen_of_heap hss 1; simp at s2 s3 s4 s5; clear hss))
  refine box_ret (g := w.heap.size + 1) (t := 27) (cs := #[.slice p0 x.names.length k0, .slice (some ⟨g1, 0, none⟩) x.vals.length k1]) rfl rfl ?_ _ Try.underlying27 rfl (by kernel_rfl) rfl ?_
  · exact Z3.out.fin.1
  · exact ⟨_, _, rfl, Z3.out.fin.2.1, Z3.out.fin.2.2⟩
end Go.Proofs.Ytbghdbclckanjaa
