/-
  Walks: a core's step, by the specification.
-/
import Derived.Test.YtmchgmpdhfefjaaCorY
import Derived.Test.YtmchgmpdhfefjaaCopP
import Derived.Test.YtmchgmpdhfefjaaInsP
import Derived.Test.YtmchgmpdhfefjaaGatK
import Derived.Test.YtmchgmpdhfefjaaCloW
namespace Go.Proofs.Ytmchgmpdhfefjaa
open Go.RowKit

theorem coreOk_in {x : Co} (h : coreOkB x = true) : x.regs.length = 8 ∧ 0 ≤ x.pc := by
  simp only [coreOkB, Bool.and_eq_true, beq_iff_eq, decide_eq_true_eq] at h
  exact ⟨h.2.1.1, h.2.1.2⟩

set_option maxRecDepth 100000 in
set_option maxHeartbeats 16000000 in
theorem l15Step_any (B G : Nat) (r tv mv : Value) (x : Co) (text mem : List Int) (z : World) (h : CsZ B G r mv x mem z) (ht : IntsAt z tv text) (hl : CoLen x) (htl : text.length ≤ 1048576) (hm : mem.length ≤ 1048576) :
    Calls Try.prog 33 #[.pointer (some ⟨G, 0, none⟩), tv, mv] z fun e z' => e = .returned (.int .i64 (stepE x text mem).2.2) ∧ CsZ B G r mv (stepE x text mem).1 (stepE x text mem).2.1 z' ∧ Below B z z' := by
  have hBG := h.hB
  have hBz : B ≤ z.heap.size := Nat.le_trans hBG (Nat.le_of_lt h.bO.lt)
  have Z0 := hide h
  have HT := hide ht
  have CK := hide (specCoreOk_any r x z ⟨IntsIn.at (CellsIn.own h.ro)⟩ hl)
  obtain ⟨ro, rc, er⟩ := form_own h.ro
  obtain ⟨mo, mc, emv⟩ := form_own h.mo
  obtain ⟨tq, tc, etv, _⟩ := ht
  have CI := fun z => hide ((specInI x.pc 0 ((text.length : Int) - 1) z).mono fun _ _ h => And.intro h.1 h.2.symm)
  have HU : Hid (stepE x text mem = if coreOkB x = true ∧ inZ 0 ((text.length : Int) - 1) x.pc = true ∧ decB (text.getD x.pc.toNat 0) = true then stepIns x (decE (text.getD x.pc.toNat 0)) mem else (x, mem, 4)) := hide rfl
  obtain ⟨tn, etn⟩ : ∃ n, text.length = n := ⟨_, rfl⟩
  have ETN := hide etn
  rw [etn] at htl etv CI HU
  have hwt : wrap64 ((tn : Int) - 1) = (tn : Int) - 1 := by unfold wrap64; omega
  have p0 := Lib.cell_of_heap h.bO 0
  have p1 := Lib.cell_of_heap h.bO 1
  have p2 := Lib.cell_of_heap h.bO 2
  simp at p0 p1 p2
  rw [etv] at HT
  rw [er] at p0 CK Z0
  rw [emv] at Z0
  rw [etv, emv, er]
  clear h etn er emv etv
  go_enter Try.func33, Try.ntmps33
  go_wp2_with fail
  refine CK.out.mono ?_
  rintro e z1 ⟨rfl, hb1⟩
  have Z1 := hide (Z0.out.stays hb1)
  have HT1 := hide (HT.out.stays hb1)
  have B1 := hide (hb1.mono hBz)
  clear p0 p1 p2 hb1 CK
  have p0 := Lib.cell_of_heap Z1.out.bO 0
  have p1 := Lib.cell_of_heap Z1.out.bO 1
  have p2 := Lib.cell_of_heap Z1.out.bO 2
  have pf := Lib.frozen_of_heap Z1.out.bO 1
  simp at p0 p1 p2
  cases hok : coreOkB x with
  | false =>
    rw [hok, if_neg (by simp)] at HU
    go_wp2
    go_ret
    rw [HU.out]
    exact ⟨rfl, Z1.out, B1.out⟩
  | true =>
    obtain ⟨h8, hpc0⟩ := coreOk_in hok
    obtain ⟨zi, ezi⟩ : ∃ b, inZ 0 ((tn : Int) - 1) x.pc = b := ⟨_, rfl⟩
    simp only [ezi] at CI
    go_wp2_with fail
    refine (unhide (CI _)).mono ?_
    rintro e zz ⟨rfl, ez⟩
    rw [ez]
    clear ez zz CI
    cases zi with
    | false =>
      rw [ezi, if_neg (by simp)] at HU
      go_wp2
      go_ret
      rw [HU.out]
      exact ⟨rfl, Z1.out, B1.out⟩
    | true =>
      have hpz := inZ_yes.1 ezi
      obtain ⟨pi, epi⟩ : ∃ i : Nat, x.pc = (i : Int) := ⟨x.pc.toNat, by omega⟩
      have hpi : pi < tn := by omega
      have hpb : 0 ≤ x.pc ∧ x.pc ≤ 1048576 := ⟨by omega, by omega⟩
      obtain ⟨ta, te, tx, hc⟩ := HT1.out
      injection tx with t1 t2 t3
      subst t1
      obtain ⟨ad, rfl, hab, hcell⟩ := hc pi (by rw [ETN.out]; exact hpi)
      have HWD : Hid (text.getD x.pc.toNat 0 = text[pi]'(by rw [ETN.out]; exact hpi)) := hide (by rw [epi, Int.toNat_natCast, List.getD_eq_getElem?_getD, List.getElem?_eq_getElem (by rw [ETN.out]; exact hpi)]; rfl)
      obtain ⟨wd, ewd⟩ : ∃ v, text[pi]'(by rw [ETN.out]; exact hpi) = v := ⟨_, rfl⟩
      rw [ewd] at hcell HWD
      rw [HWD.out, hok, ezi] at HU
      have hp0 : (0 : Int) ≤ (pi : Int) := by omega
      have hp1 : (pi : Int) < (tn : Int) := by omega
      have CD := hide (specDecode_any wd z1)
      have HW1 : Hid (wrap64 (x.pc + 1) = x.pc + 1) := hide (by unfold wrap64; omega)
      clear hc t2 t3 ewd HWD ezi hpz te
      rw [epi] at p1
      go_wp2_with fail
      refine CD.out.mono ?_
      rintro e z2 ⟨rfl, hb2⟩
      have Z2 := hide (Z1.out.stays hb2)
      have B2 := hide (B1.out.trans (hb2.mono (Nat.le_trans hBz B1.out.size)))
      clear hb2 p0 p1 p2 pf CD Z1 B1 hcell epi
      cases hd : decB wd with
      | false =>
        rw [hd, if_neg (by simp)] at HU
        have ZA := hide fun o => Z2.out.stays ((Below.refl z2.heap.size z2).alloc (Nat.le_refl _) o)
        have BA := hide fun o => B2.out.alloc (Nat.le_trans hBz B2.out.size) o
        go_wp2
        go_ret
        rw [HU.out]
        exact ⟨rfl, ZA.out _, BA.out _⟩
      | true =>
        rw [hd, if_pos (by simp)] at HU
        have hins : insB (decE wd).op (decE wd).a (decE wd).b (decE wd).c = true := by
          have e : decE wd = ⟨decOp wd, decA wd, decBb wd, decC wd⟩ := by unfold decE; rw [if_pos hd]
          unfold decB at hd
          rw [Bool.and_eq_true] at hd
          rw [e]
          exact hd.2
        obtain ⟨⟨op, a, b, c⟩, ed⟩ : ∃ d, decE wd = d := ⟨_, rfl⟩
        rw [ed] at HU hins ⊢
        dsimp only at hins ⊢
        obtain ⟨ho, ha, hb, hc⟩ := insB_in hins
        clear hd ed hins
        obtain ⟨W2, hW2⟩ : ∃ W2, z2.alloc (.cells #[.int .i64 op, .int .i64 a, .int .i64 b, .int .i64 c] 34) = W2 := ⟨_, rfl⟩
        have hb3 : Below z2.heap.size z2 W2 := by rw [← hW2]; exact (Below.refl _ _).alloc (Nat.le_refl _) _
        have Z3 := hide (Z2.out.stays hb3)
        have B3 := hide (B2.out.trans (hb3.mono (Nat.le_trans hBz B2.out.size)))
        have BI : Hid (Box W2 z2.heap.size #[.int .i64 op, .int .i64 a, .int .i64 b, .int .i64 c] 34) := by rw [← hW2]; exact hide (Box.made z2 _ _)
        have HW2 := hide hW2
        clear hW2 hb3
        go_upto_region 6 with fail
        rw [HW2.out]
        clear HW2
        have i0 := Lib.cell_of_heap BI.out 0
        have i1 := Lib.cell_of_heap BI.out 1
        have i2 := Lib.cell_of_heap BI.out 2
        have i3 := Lib.cell_of_heap BI.out 3
        have p0 := Lib.cell_of_heap Z3.out.bO 0
        have p1 := Lib.cell_of_heap Z3.out.bO 1
        have p2 := Lib.cell_of_heap Z3.out.bO 2
        have pf := Lib.frozen_of_heap Z3.out.bO 1
        simp at i0 i1 i2 i3 p0 p1 p2
        have hpw := HW1.out
        have hcase : op = 1 ∨ op = 2 ∨ op = 3 ∨ op = 4 ∨ op = 5 ∨ op = 6 ∨ op = 7 ∨ op = 8 ∨ op = 9 ∨ op = 10 := by omega
        rcases hcase with rfl | rfl | rfl | rfl | rfl | rfl | rfl | rfl | rfl | rfl
        · have HSI : Hid (stepIns x ⟨1, a, b, c⟩ mem = ((stepCalc x ⟨1, a, b, c⟩).1, mem, (stepCalc x ⟨1, a, b, c⟩).2)) := hide (by unfold stepIns; simp)
          have CC := hide (l15Calc_any B G _ _ x mem W2 1 a b c Z3.out h8 ha hb (by omega) hpb)
          rw [HSI.out] at HU
          clear HSI
          go_wp2_with fail
          refine CC.out.mono ?_
          rintro e z9 ⟨rfl, hz9, hb9⟩
          have Z9 := hide hz9
          have B9 := hide (B3.out.trans hb9)
          clear hz9 hb9
          go_wp2
          go_ret
          rw [HU.out]
          exact ⟨rfl, Z9.out, B9.out⟩
        · have HSI : Hid (stepIns x ⟨2, a, b, c⟩ mem = stepMem x ⟨2, a, b, c⟩ mem) := hide (by unfold stepIns; simp)
          have CC := hide (l15Mem_any B G _ _ x mem W2 2 a b c Z3.out h8 hm ha (by omega) hpb)
          rw [HSI.out] at HU
          clear HSI
          go_wp2_with fail
          refine CC.out.mono ?_
          rintro e z9 ⟨rfl, hz9, hb9⟩
          have Z9 := hide hz9
          have B9 := hide (B3.out.trans hb9)
          clear hz9 hb9
          go_wp2
          go_ret
          rw [HU.out]
          exact ⟨rfl, Z9.out, B9.out⟩
        · have HSI : Hid (stepIns x ⟨3, a, b, c⟩ mem = stepMem x ⟨3, a, b, c⟩ mem) := hide (by unfold stepIns; simp)
          have CC := hide (l15Mem_any B G _ _ x mem W2 3 a b c Z3.out h8 hm ha (by omega) hpb)
          rw [HSI.out] at HU
          clear HSI
          go_wp2_with fail
          refine CC.out.mono ?_
          rintro e z9 ⟨rfl, hz9, hb9⟩
          have Z9 := hide hz9
          have B9 := hide (B3.out.trans hb9)
          clear hz9 hb9
          go_wp2
          go_ret
          rw [HU.out]
          exact ⟨rfl, Z9.out, B9.out⟩
        · have HSI : Hid (stepIns x ⟨4, a, b, c⟩ mem = ((stepCalc x ⟨4, a, b, c⟩).1, mem, (stepCalc x ⟨4, a, b, c⟩).2)) := hide (by unfold stepIns; simp)
          have CC := hide (l15Calc_any B G _ _ x mem W2 4 a b c Z3.out h8 ha hb (by omega) hpb)
          rw [HSI.out] at HU
          clear HSI
          go_wp2_with fail
          refine CC.out.mono ?_
          rintro e z9 ⟨rfl, hz9, hb9⟩
          have Z9 := hide hz9
          have B9 := hide (B3.out.trans hb9)
          clear hz9 hb9
          go_wp2
          go_ret
          rw [HU.out]
          exact ⟨rfl, Z9.out, B9.out⟩
        · have HSI : Hid (stepIns x ⟨5, a, b, c⟩ mem = ((stepCalc x ⟨5, a, b, c⟩).1, mem, (stepCalc x ⟨5, a, b, c⟩).2)) := hide (by unfold stepIns; simp)
          have CC := hide (l15Calc_any B G _ _ x mem W2 5 a b c Z3.out h8 ha hb (by omega) hpb)
          rw [HSI.out] at HU
          clear HSI
          go_wp2_with fail
          refine CC.out.mono ?_
          rintro e z9 ⟨rfl, hz9, hb9⟩
          have Z9 := hide hz9
          have B9 := hide (B3.out.trans hb9)
          clear hz9 hb9
          go_wp2
          go_ret
          rw [HU.out]
          exact ⟨rfl, Z9.out, B9.out⟩
        · have HSI : Hid (stepIns x ⟨6, a, b, c⟩ mem = ((stepCalc x ⟨6, a, b, c⟩).1, mem, (stepCalc x ⟨6, a, b, c⟩).2)) := hide (by unfold stepIns; simp)
          have CC := hide (l15Calc_any B G _ _ x mem W2 6 a b c Z3.out h8 ha hb (by omega) hpb)
          rw [HSI.out] at HU
          clear HSI
          go_wp2_with fail
          refine CC.out.mono ?_
          rintro e z9 ⟨rfl, hz9, hb9⟩
          have Z9 := hide hz9
          have B9 := hide (B3.out.trans hb9)
          clear hz9 hb9
          go_wp2
          go_ret
          rw [HU.out]
          exact ⟨rfl, Z9.out, B9.out⟩
        · have HSI : Hid (stepIns x ⟨7, a, b, c⟩ mem = ({ x with pc := if regAt x a = 0 then c else x.pc + 1 }, mem, 0)) := hide (by unfold stepIns; simp)
          rw [HSI.out] at HU
          clear HSI
          obtain ⟨q, kk, eq, hBq⟩ := own_form Z3.out.ro (by omega)
          injection eq with eq1 eq2 eq3
          subst eq1
          obtain ⟨ai, rfl⟩ : ∃ i : Nat, a = (i : Int) := ⟨a.toNat, by omega⟩
          have HRA := hide (own_cell Z3.out.ro (i := ai) (by omega))
          have ra := HRA.out.1
          have GA : Hid (regAt x (ai : Int) = x.regs.getD ai 0) := hide (by unfold regAt; rw [Int.toNat_natCast])
          obtain ⟨va, eva⟩ : ∃ v, x.regs.getD ai 0 = v := ⟨_, rfl⟩
          rw [eva] at ra GA
          rw [GA.out] at HU
          have hia0 : (0 : Int) ≤ (ai : Int) := by omega
          have hia8 : (ai : Int) < (x.regs.length : Int) := by omega
          clear HRA eva GA eq2 eq3
          go_wp2_with fail
          go_quiet (fail)
          obtain ⟨V, hV⟩ : ∃ Y, W2.drewN nq = Y := ⟨_, rfl⟩
          have hbV : Below W2.heap.size W2 V := by rw [← hV]; exact below_drewN (Below.refl _ _) _
          have Z4 := hide (Z3.out.stays hbV)
          have B4 := hide (B3.out.trans (hbV.mono (Nat.le_trans hBz B3.out.size)))
          have BI4 := hide (BI.out.stays hbV)
          rw [hV]
          clear hV hbV i0 i1 i2 i3 p0 p1 p2 pf ra
          have i3 := Lib.cell_of_heap BI4.out 3
          have p1 := Lib.cell_of_heap Z4.out.bO 1
          have pf := Lib.frozen_of_heap Z4.out.bO 1
          simp at i3 p1
          by_cases hva : va = 0
          · rw [if_pos hva] at HU
            have Z9 := hide (Z4.out.setPc c)
            have B9 := hide (B4.out.setCell (p := ⟨G, 1, none⟩) hBG (.int .i64 c))
            go_wp2
            go_ret
            rw [HU.out]
            exact ⟨rfl, Z9.out, B9.out⟩
          · rw [if_neg hva] at HU
            have Z9 := hide (Z4.out.setPc (x.pc + 1))
            have B9 := hide (B4.out.setCell (p := ⟨G, 1, none⟩) hBG (.int .i64 (x.pc + 1)))
            go_wp2
            go_ret
            rw [HU.out]
            exact ⟨rfl, Z9.out, B9.out⟩
        · have HSI : Hid (stepIns x ⟨8, a, b, c⟩ mem = ({ x with pc := c }, mem, 0)) := hide (by unfold stepIns; simp)
          rw [HSI.out] at HU
          clear HSI
          have Z9 := hide (Z3.out.setPc (c))
          have B9 := hide (B3.out.setCell (p := ⟨G, 1, none⟩) hBG (.int .i64 (c)))
          go_wp2
          go_ret
          rw [HU.out]
          exact ⟨rfl, Z9.out, B9.out⟩
        · have HSI : Hid (stepIns x ⟨9, a, b, c⟩ mem = stepMem x ⟨9, a, b, c⟩ mem) := hide (by unfold stepIns; simp)
          have CC := hide (l15Mem_any B G _ _ x mem W2 9 a b c Z3.out h8 hm ha (by omega) hpb)
          rw [HSI.out] at HU
          clear HSI
          go_wp2_with fail
          refine CC.out.mono ?_
          rintro e z9 ⟨rfl, hz9, hb9⟩
          have Z9 := hide hz9
          have B9 := hide (B3.out.trans hb9)
          clear hz9 hb9
          go_wp2
          go_ret
          rw [HU.out]
          exact ⟨rfl, Z9.out, B9.out⟩
        · have HSI : Hid (stepIns x ⟨10, a, b, c⟩ mem = ({ x with pc := x.pc + 1 }, mem, 10)) := hide (by unfold stepIns; simp)
          rw [HSI.out] at HU
          clear HSI
          have Z9 := hide (Z3.out.setPc (x.pc + 1))
          have B9 := hide (B3.out.setCell (p := ⟨G, 1, none⟩) hBG (.int .i64 (x.pc + 1)))
          go_wp2
          go_ret
          rw [HU.out]
          exact ⟨rfl, Z9.out, B9.out⟩

set_option maxRecDepth 100000 in
set_option maxHeartbeats 8000000 in
theorem specStepCore_any (v tv mv : Value) (x : Co) (text mem : List Int) (w : World) (h : CoAt w v x) (hl : CoLen x) (ht : IntsAt w tv text) (htl : text.length ≤ 1048576) (hmm : IntsAt w mv mem) (hml : mem.length ≤ 1048576) :
    Calls Try.prog 8 #[.agg #[v, .int .i64 x.pc, .int .i64 x.process], tv, mv] w fun e w' => ∃ r m, e = .returned (.tuple #[.agg #[r, .int .i64 (stepE x text mem).1.pc, .int .i64 (stepE x text mem).1.process], m, .int .i64 (stepE x text mem).2.2]) ∧ CoOwn w.heap.size w' r (stepE x text mem).1 ∧ RiOwn w.heap.size w' m ⟨(stepE x text mem).2.1⟩ ∧ (∀ i, r.ownBlock = some i → m.ownBlock ≠ some i) ∧ Below w.heap.size w w' := by
  have HA := hide h
  have HT := hide ht
  have HM := hide hmm
  have CC := fun z h => hide (copyCo_any v x z h hl)
  obtain ⟨W1, hW⟩ : ∃ W1, (w.alloc (.cells #[v, .int .i64 x.pc, .int .i64 x.process] 26)).alloc (.cells #[.slice none 0 0, .int .i64 0, .int .i64 0] 26) = W1 := ⟨_, rfl⟩
  have B1 : Hid (Below w.heap.size w W1) := by rw [← hW]; show Below w.heap.size w _; go_grown
  have BR1 : Hid (Box W1 (w.heap.size + 1) #[.slice none 0 0, .int .i64 0, .int .i64 0] 26) := by rw [← hW]; exact hide (Box.madeAt (by simp) _ _)
  have BA1 : Hid (Box W1 w.heap.size #[v, .int .i64 x.pc, .int .i64 x.process] 26) := by rw [← hW]; exact hide ((Box.made w _ _).stays ((Below.refl _ _).alloc (Nat.le_refl _) _))
  have HZ1 : Hid (W1.heap.size = w.heap.size + 2) := by rw [← hW]; show _ = _; simp
  have HW := hide hW
  obtain ⟨ao, ac, ev, _⟩ := h.a0
  obtain ⟨tq, tc, etv, _⟩ := ht
  obtain ⟨mq, mc, emv, hmc⟩ := hmm
  subst ev etv emv
  clear h hW
  have q0 := Lib.cell_of_heap BA1.out 0
  have q1 := Lib.cell_of_heap BA1.out 1
  have q2 := Lib.cell_of_heap BA1.out 2
  simp at q0 q1 q2
  rw [← HW.out] at q0 q1 q2
  go_enter Try.func8, Try.ntmps8
  go_wp2_with fail
  rw [HW.out]
  refine (unhide (CC _ (HA.out.stays B1.out))).mono ?_
  rintro e zc ⟨r, rfl, ho, hb⟩
  clear q0 q1 q2 CC
  obtain ⟨ro, rc, er⟩ := form_own ho.o0
  subst er
  have B2 := hide (B1.out.trans (hb.mono B1.out.size))
  have BR2 := hide (BR1.out.stays hb)
  have HZ2 := hide hb.size
  have HO := hide ho
  clear ho hb BA1 BR1 B1
  obtain ⟨W2, hW2⟩ : ∃ W2, zc.alloc (.cells #[.slice ro x.regs.length rc, .int .i64 x.pc, .int .i64 x.process] 26) = W2 := ⟨_, rfl⟩
  have hb2 : Below zc.heap.size zc W2 := by rw [← hW2]; exact (Below.refl _ _).alloc (Nat.le_refl _) _
  have HS2 : Hid (W2.heap.size = zc.heap.size + 1) := by rw [← hW2]; show _ = _; simp
  have B3 := hide (B2.out.trans (hb2.mono B2.out.size))
  have BR3 := hide (BR2.out.stays hb2)
  have BG3 : Hid (Box W2 zc.heap.size #[.slice ro x.regs.length rc, .int .i64 x.pc, .int .i64 x.process] 26) := by rw [← hW2]; exact hide (Box.made zc _ _)
  have HO3 := hide (HO.out.stays hb2)
  have HW2 := hide hW2
  clear hW2 hb2 B2 BR2 HO HA
  go_upto_region 2 with fail
  rw [HW2.out]
  clear HW2
  obtain ⟨G, eG⟩ : ∃ G, zc.heap.size = G := ⟨_, rfl⟩
  rw [eG] at BG3 HS2 HZ2 ⊢
  clear eG
  have hb4 : Below W2.heap.size W2 (W2.alloc (.cells #[] 3)) := (Below.refl _ _).alloc (Nat.le_refl _) _
  have B4 := hide (B3.out.trans (hb4.mono B3.out.size))
  have OE : Hid (OwnI W2.heap.size (.slice (some ⟨W2.heap.size, 0, none⟩) 0 0) [] (W2.alloc (.cells #[] 3))) := hide (ownsRow_empty W2 W2.heap.size 3 (Nat.le_refl _))
  have HM4 := hide (HM.out.stays B4.out)
  have HB4 := hide hb4
  clear hb4
  obtain ⟨ml, eml⟩ : ∃ n, mem.length = n := ⟨_, rfl⟩
  have EML := hide eml
  rw [eml] at HM4 hml ⊢
  clear eml
  go_wp2_with (at_builtin; refine wpList_app_ints rfl (.tmp 14) (.tmp 15) 24 rfl W2.heap.size Try.underlying24 infoI3 _ [] rfl OE.out _ mem rfl HM4.out (by rw [EML.out]; simp; omega) (by simp) ?_)
  intro m w4 hown hb5
  have HOW := hide hown
  have HG : Hid (w.heap.size + 2 ≤ G ∧ G < W2.heap.size) := hide (by have := HZ1.out; have := HZ2.out; have := HS2.out; omega)
  have hr3 := HO3.out.o0
  have hr4 : w4.ownsRow (w.heap.size + 2) 3 1 (.slice ro x.regs.length rc) x.regs.length (x.regs.map I64) := by
    refine owns_lo (owns_eq hr3 fun g hg => ?_) (by have := HZ1.out; omega)
    exact (hb5.block g (hr3.lt g hg).2).trans (HB4.out.block g (hr3.lt g hg).2)
  have hm4 : w4.ownsRow (w.heap.size + 2) 3 1 m mem.length (mem.map I64) := owns_lo hown (by have := HG.out; omega)
  have hap : ∀ i, (.slice ro x.regs.length rc : Value).ownBlock = some i → m.ownBlock ≠ some i := fun i hi hi2 => by
    have h1 := (hr3.lt i hi).2
    have h2 := (World.ownsRow.lt hown i hi2).1
    omega
  have hb6 : Below W2.heap.size W2 w4 := HB4.out.trans hb5
  have Z4 : Hid (CsZ (w.heap.size + 2) G (.slice ro x.regs.length rc) m x mem w4) := hide ⟨BG3.out.stays hb6, hr4, hm4, hap, HG.out.1⟩
  have B5 := hide (B3.out.trans (hb6.mono B3.out.size))
  have BR5 := hide (BR3.out.stays hb6)
  obtain ⟨mo, mk, em⟩ := form_own hm4
  have CS := hide (l15Step_any (w.heap.size + 2) G _ _ _ x text mem w4 Z4.out (HT.out.stays B5.out) hl htl (by rw [EML.out]; exact hml))
  subst em
  rw [EML.out] at CS Z4 ⊢
  clear hr3 hr4 hm4 hap hb5 hb6 hown HOW HB4 HM4 OE B4 B3 BR3 BG3 HO3 HM HT
  obtain ⟨⟨y, my, code⟩, est⟩ : ∃ s, stepE x text mem = s := ⟨_, rfl⟩
  rw [est] at CS
  dsimp only at CS
  have EST := hide est
  clear est
  go_wp2_with fail
  refine CS.out.mono ?_
  rintro e z5 ⟨rfl, hz5, hb7⟩
  have Z5 := hide hz5
  have BR6 : Hid (Box z5 (w.heap.size + 1) #[.slice none 0 0, .int .i64 0, .int .i64 0] 26) := hide ((hb7.block _ (by omega)).trans BR5.out)
  have B6 := hide (B5.out.trans (hb7.mono (by omega)))
  have hyr : y.regs.length = x.regs.length := by
    have h1 := hz5.ro.1
    obtain ⟨o1, c1, e1⟩ := form_own hz5.ro
    injection e1 with _ e2 _
    exact e2.symm
  have hmr : my.length = ml := by
    obtain ⟨o1, c1, e1⟩ := form_own hz5.mo
    injection e1 with _ e2 _
    exact e2.symm
  clear hz5 hb7 CS Z4 B5 BR5
  have g0 := Lib.cell_of_heap Z5.out.bO 0
  have g1 := Lib.cell_of_heap Z5.out.bO 1
  have g2 := Lib.cell_of_heap Z5.out.bO 2
  have s0 := Lib.cell_of_heap BR6.out 0
  have s1 := Lib.cell_of_heap BR6.out 1
  have s2 := Lib.cell_of_heap BR6.out 2
  have f0 := Lib.frozen_of_heap BR6.out 0
  have f1 := Lib.frozen_of_heap BR6.out 1
  have f2 := Lib.frozen_of_heap BR6.out 2
  simp at g0 g1 g2 s0 s1 s2
  have HYR := hide hyr
  have HMR := hide hmr
  clear hyr hmr
  go_wp2
  refine box_retVV (g := w.heap.size + 1) (t := 26) (cs := #[.slice ro x.regs.length rc, .int .i64 y.pc, .int .i64 y.process]) rfl rfl ?_ _ Try.underlying26 rfl (by kernel_rfl) rfl ?_
  · simpa using ((BR6.out.set 0 (.slice ro x.regs.length rc)).set 1 (.int .i64 y.pc)).set 2 (.int .i64 y.process)
  · have hk : ∀ k, w.heap.size + 2 ≤ k → ((((z5.setCell ⟨w.heap.size + 1, 0, none⟩ (.slice ro x.regs.length rc)).setCell ⟨w.heap.size + 1, 1, none⟩ (.int .i64 y.pc)).setCell ⟨w.heap.size + 1, 2, none⟩ (.int .i64 y.process))).heap[k]? = z5.heap[k]? := fun k hk =>
      (Below.heap_setCell _ ⟨w.heap.size + 1, 2, none⟩ _ k (by show k ≠ w.heap.size + 1; omega)).trans ((Below.heap_setCell _ ⟨w.heap.size + 1, 1, none⟩ _ k (by show k ≠ w.heap.size + 1; omega)).trans (Below.heap_setCell _ ⟨w.heap.size + 1, 0, none⟩ _ k (by show k ≠ w.heap.size + 1; omega)))
    rw [EST.out]
    refine ⟨_, _, rfl, ⟨?_⟩, ⟨?_⟩, Z5.out.ap, ?_⟩
    · exact owns_lo (owns_eq Z5.out.ro fun k h => hk k (Z5.out.ro.lt k h).1) (by omega)
    · exact owns_lo (owns_eq Z5.out.mo fun k h => hk k (Z5.out.mo.lt k h).1) (by omega)
    · exact ((B6.out.setCell (p := ⟨w.heap.size + 1, 0, none⟩) (by show w.heap.size ≤ w.heap.size + 1; omega) _).setCell (p := ⟨w.heap.size + 1, 1, none⟩) (by show w.heap.size ≤ w.heap.size + 1; omega) _).setCell (p := ⟨w.heap.size + 1, 2, none⟩) (by show w.heap.size ≤ w.heap.size + 1; omega) _
end Go.Proofs.Ytmchgmpdhfefjaa
