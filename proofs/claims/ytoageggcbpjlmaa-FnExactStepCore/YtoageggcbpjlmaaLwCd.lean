/-
  The law of StepCore, over what both sides answer.
-/
import Derived.Test.YtoageggcbpjlmaaCorQ
import Derived.Test.YtoageggcbpjlmaaFlC
import Derived.Test.YtoageggcbpjlmaaFlR
import Derived.Deep.RegionHeld3
import Derived.Deep.Cut
namespace Go.Proofs.Ytoageggcbpjlmaa
open Go.RowKit

set_option maxRecDepth 100000 in
set_option maxHeartbeats 8000000 in
theorem lawStepCore (v0_0 v1_0 v2_0 : Value) (x0 : Co) (x1 : Ri) (x2 : Ri) (w : World) (h0 : CoAt w v0_0 x0) (m0 : CoMax x0) (h1 : RiAt w v1_0 x1) (m1 : RiMax x1) (h2 : RiAt w v2_0 x2) (m2 : RiMax x2)
    (SP : szCo x0 ≤ 1048576 → x1.row.length ≤ 1048576 → x2.row.length ≤ 1048576 → ∀ (v0_0 v1_0 v2_0 : Value) (z : World) (b0 : Nat) (b1 : Nat) (b2 : Nat), CoC b0 z [v0_0, .int .i64 x0.pc, .int .i64 x0.process] x0 → RiC b1 z [v1_0] x1 → RiC b2 z [v2_0] x2 → Calls Try.prog 16 #[.agg #[v0_0, .int .i64 x0.pc, .int .i64 x0.process], v1_0, v2_0] z fun e w' => ∃ r0_0 r1_0, e = .returned (.tuple #[.agg #[r0_0, .int .i64 ((stepE x0 x1.row x2.row).1).pc, .int .i64 ((stepE x0 x1.row x2.row).1).process], r1_0, .int .i64 ((stepE x0 x1.row x2.row).2.2)]) ∧ CoOwn z.heap.size w' r0_0 ((stepE x0 x1.row x2.row).1) ∧ RiOwn z.heap.size w' r1_0 (Ri.mk (stepE x0 x1.row x2.row).2.1) ∧ (∀ i, r0_0.ownBlock = some i → r1_0.ownBlock ≠ some i) ∧ Below z.heap.size z w')
    (IP : szCo x0 ≤ 1048576 → x1.row.length ≤ 1048576 → x2.row.length ≤ 1048576 → ∀ (v0_0 v1_0 v2_0 : Value) (z : World) (b0 : Nat) (b1 : Nat) (b2 : Nat), CoC b0 z [v0_0, .int .i64 x0.pc, .int .i64 x0.process] x0 → RiC b1 z [v1_0] x1 → RiC b2 z [v2_0] x2 → Calls Try.prog 18 #[.agg #[v0_0, .int .i64 x0.pc, .int .i64 x0.process], v1_0, v2_0] z fun e w' => ∃ r0_0 r1_0, e = .returned (.tuple #[.agg #[r0_0, .int .i64 ((stepE x0 x1.row x2.row).1).pc, .int .i64 ((stepE x0 x1.row x2.row).1).process], r1_0, .int .i64 ((stepE x0 x1.row x2.row).2.2)]) ∧ CoOwn z.heap.size w' r0_0 ((stepE x0 x1.row x2.row).1) ∧ RiOwn z.heap.size w' r1_0 (Ri.mk (stepE x0 x1.row x2.row).2.1) ∧ (∀ i, r0_0.ownBlock = some i → r1_0.ownBlock ≠ some i) ∧ Below z.heap.size z w')
    (LP0 : szCo x0 ≤ 1048576 → x1.row.length ≤ 1048576 → x2.row.length ≤ 1048576 → CoLen ((stepE x0 x1.row x2.row).1))
    (LP1 : szCo x0 ≤ 1048576 → x1.row.length ≤ 1048576 → x2.row.length ≤ 1048576 → RiLen (Ri.mk (stepE x0 x1.row x2.row).2.1)) :
    Calls Try.prog 5 #[.agg #[v0_0, .int .i64 x0.pc, .int .i64 x0.process], v1_0, v2_0] w fun e w' => e = .returned (.bool true) ∧ Below w.heap.size w w' := by
  have HPS := hide SP
  have HPI := hide IP
  have HLP0 := hide LP0
  have HLP1 := hide LP1
  clear SP IP LP0 LP1
  have HW0 := hide h0
  have HM0 := hide m0
  have HW1 := hide h1
  have HM1 := hide m1
  have HW2 := hide h2
  have HM2 := hide m2
  have HB : Hid (Below w.heap.size w (w.alloc (.cells #[v0_0, .int .i64 x0.pc, .int .i64 x0.process] 29))) := by show Below w.heap.size w _; go_grown
  have BA0 := hide (Box.madeAt (g := w.heap.size) (w := w) (by simp) #[v0_0, .int .i64 x0.pc, .int .i64 x0.process] 29)
  obtain ⟨⟨a0_0, b0_0, rfl, _⟩⟩ := h0
  obtain ⟨⟨a1_0, b1_0, rfl, _⟩⟩ := h1
  obtain ⟨⟨a2_0, b2_0, rfl, _⟩⟩ := h2
  clear m0
  clear m1
  clear m2
  by_cases hz1 : x1.row.length ≤ 1048576
  case neg =>
    have hy1 : ((x1.row.length : Nat) : Int) > 1048576 := by omega
    go_enter Try.func5, Try.ntmps5
    go_wp2
    go_ret
    exact ⟨rfl, HB.out⟩
  have hy1 : ¬ ((x1.row.length : Nat) : Int) > 1048576 := by omega
  by_cases hz2 : x2.row.length ≤ 1048576
  case neg =>
    have hy2 : ((x2.row.length : Nat) : Int) > 1048576 := by omega
    go_enter Try.func5, Try.ntmps5
    go_wp2
    go_ret
    exact ⟨rfl, HB.out⟩
  have hy2 : ¬ ((x2.row.length : Nat) : Int) > 1048576 := by omega
  have SZ1 : Hid ((w.alloc (.cells #[.slice a0_0 x0.regs.length b0_0, .int .i64 x0.pc, .int .i64 x0.process] 29)).heap.size = w.heap.size + 1) := by show _ = _; simp
  go_enter Try.func5, Try.ntmps5
  have c_BA0_0 := Lib.cell_of_heap BA0.out 0
  simp at c_BA0_0
  have c_BA0_1 := Lib.cell_of_heap BA0.out 1
  simp at c_BA0_1
  have c_BA0_2 := Lib.cell_of_heap BA0.out 2
  simp at c_BA0_2
  go_wp2_with fail
  clear c_BA0_0 c_BA0_1 c_BA0_2
  obtain ⟨y0, hy0⟩ : ∃ Z, w.alloc (.cells #[.slice a0_0 x0.regs.length b0_0, .int .i64 x0.pc, .int .i64 x0.process] 29) = Z := ⟨_, rfl⟩
  rw [hy0] at HB BA0 SZ1 ⊢
  clear hy0
  refine (szCore_any x0 _ _ _ (by omega) (by omega) (HW0.out.stays HB.out).a0 HM0.out).mono ?_
  rintro e z1 ⟨r0, rfl, hr0, hb0⟩
  have SZ2 : Hid (y0.heap.size ≤ z1.heap.size) := hb0.size
  have HB_1 := hide (HB.out.trans (hb0.mono HB.out.size))
  clear HB
  have BA0_1 := hide (BA0.out.stays hb0)
  clear BA0
  clear hb0
  have c_BA0_0 := Lib.cell_of_heap BA0_1.out 0
  simp at c_BA0_0
  have c_BA0_1 := Lib.cell_of_heap BA0_1.out 1
  simp at c_BA0_1
  have c_BA0_2 := Lib.cell_of_heap BA0_1.out 2
  simp at c_BA0_2
  by_cases hn0 : r0 < 0
  · clear hr0
    go_wp2
    go_ret
    exact ⟨rfl, HB_1.out⟩
  obtain ⟨hp0, hq0⟩ := hr0.resolve_left hn0
  have HQ0 := hide hq0
  have hq0b : r0 ≤ 1048576 := by omega
  clear hq0 hr0
  have HSZ : Hid (szCo x0 ≤ 1048576) := by
    show _ ≤ _
    have := HQ0.out
    omega
  have HPS1 := hide (HPS.out HSZ.out hz1 hz2)
  have HPI1 := hide (HPI.out HSZ.out hz1 hz2)
  have HL0 := hide (HLP0.out HSZ.out hz1 hz2)
  have HL1 := hide (HLP1.out HSZ.out hz1 hz2)
  have HN0 : Hid (CoLen x0) := szCo_len (by have := HSZ.out; omega)
  have HN1 : Hid (RiLen x1) := hide ⟨hz1⟩
  have HN2 : Hid (RiLen x2) := hide ⟨hz2⟩
  go_wp2_with fail
  clear c_BA0_0 c_BA0_1 c_BA0_2
  refine (toCore_any x0 _ _ (HW0.out.stays HB_1.out).a0 HN0.out.l0).mono ?_
  rintro e z2 ⟨o1_0, k1_0, c1_0, rfl, hc1, hb1⟩
  have SZ3 : Hid (z1.heap.size ≤ z2.heap.size) := hb1.size
  have HB_2 := hide (HB_1.out.trans (hb1.mono HB_1.out.size))
  clear HB_1
  have BA0_2 := hide (BA0_1.out.stays hb1)
  clear BA0_1
  have XC1_3 := hide (hc1)
  clear hc1 hb1
  go_wp2_with fail
  refine (toIntSR_any x1 _ _ (HW1.out.stays HB_2.out).a0 HN1.out.l0).mono ?_
  rintro e z3 ⟨o2_0, k2_0, c2_0, rfl, hc2, hb2⟩
  have SZ4 : Hid (z2.heap.size ≤ z3.heap.size) := hb2.size
  have HB_4 := hide (HB_2.out.trans (hb2.mono HB_2.out.size))
  clear HB_2
  have BA0_4 := hide (BA0_2.out.stays hb2)
  clear BA0_2
  have XC1_4 := hide (XC1_3.out.stays hb2)
  clear XC1_3
  have XC2_5 := hide (hc2)
  clear hc2 hb2
  go_wp2_with fail
  refine (toIntSR_any x2 _ _ (HW2.out.stays HB_4.out).a0 HN2.out.l0).mono ?_
  rintro e z4 ⟨o3_0, k3_0, c3_0, rfl, hc3, hb3⟩
  have SZ5 : Hid (z3.heap.size ≤ z4.heap.size) := hb3.size
  have HB_6 := hide (HB_4.out.trans (hb3.mono HB_4.out.size))
  clear HB_4
  have BA0_6 := hide (BA0_4.out.stays hb3)
  clear BA0_4
  have XC1_6 := hide (XC1_4.out.stays hb3)
  clear XC1_4
  have XC2_6 := hide (XC2_5.out.stays hb3)
  clear XC2_5
  have XC3_7 := hide (hc3)
  clear hc3 hb3
  go_wp2_with fail
  refine (HPS1.out _ _ _ _ _ _ _ XC1_6.out XC2_6.out XC3_7.out).mono ?_
  rintro e z5 ⟨w0_0, w1_0, rfl, how0, how1, hapw, hbw⟩
  have APW := hide hapw
  clear hapw
  have SZ6 : Hid (z4.heap.size ≤ z5.heap.size) := hbw.size
  have HB_8 := hide (HB_6.out.trans (hbw.mono HB_6.out.size))
  clear HB_6
  have BA0_8 := hide (BA0_6.out.stays hbw)
  clear BA0_6
  have XC1_8 := hide (XC1_6.out.stays hbw)
  clear XC1_6
  have XC2_8 := hide (XC2_6.out.stays hbw)
  clear XC2_6
  have XC3_8 := hide (XC3_7.out.stays hbw)
  clear XC3_7
  obtain ⟨pw0_0, qw0_0, rfl⟩ := form_own how0.o0
  have WO0_9 := hide (how0)
  clear how0
  obtain ⟨pw1_0, qw1_0, rfl⟩ := form_own how1.o0
  have WO1_10 := hide (how1)
  clear how1
  clear hbw
  have WL0 := hide (WO0_9.out).lt
  have WL1 := hide (WO1_10.out).lt
  clear XC1_8
  clear XC2_8
  clear XC3_8
  have hba11 : Below z5.heap.size z5 (z5.alloc (.cells #[.slice pw0_0 ((stepE x0 x1.row x2.row).1).regs.length qw0_0, .int .i64 ((stepE x0 x1.row x2.row).1).pc, .int .i64 ((stepE x0 x1.row x2.row).1).process] 24)) := (Below.refl _ _).alloc (Nat.le_refl _) _
  have SZ7 : Hid ((z5.alloc (.cells #[.slice pw0_0 ((stepE x0 x1.row x2.row).1).regs.length qw0_0, .int .i64 ((stepE x0 x1.row x2.row).1).pc, .int .i64 ((stepE x0 x1.row x2.row).1).process] 24)).heap.size = z5.heap.size + 1) := by show _ = _; simp
  have HB_12 := hide (HB_8.out.trans (hba11.mono HB_8.out.size))
  clear HB_8
  have BA0_12 := hide (BA0_8.out.stays hba11)
  clear BA0_8
  have WO0_12 := hide (WO0_9.out.stays hba11)
  clear WO0_9
  have WO1_12 := hide (WO1_10.out.stays hba11)
  clear WO1_10
  have BW0_13 := hide (Box.made z5 #[.slice pw0_0 ((stepE x0 x1.row x2.row).1).regs.length qw0_0, .int .i64 ((stepE x0 x1.row x2.row).1).pc, .int .i64 ((stepE x0 x1.row x2.row).1).process] 24)
  clear hba11
  have c_BA0_0 := Lib.cell_of_heap BA0_12.out 0
  simp at c_BA0_0
  have c_BA0_1 := Lib.cell_of_heap BA0_12.out 1
  simp at c_BA0_1
  have c_BA0_2 := Lib.cell_of_heap BA0_12.out 2
  simp at c_BA0_2
  have c_BW0_0 := Lib.cell_of_heap BW0_13.out 0
  simp at c_BW0_0
  have c_BW0_1 := Lib.cell_of_heap BW0_13.out 1
  simp at c_BW0_1
  have c_BW0_2 := Lib.cell_of_heap BW0_13.out 2
  simp at c_BW0_2
  go_wp2_with fail
  clear c_BA0_0 c_BA0_1 c_BA0_2 c_BW0_0 c_BW0_1 c_BW0_2
  obtain ⟨y1, hy1⟩ : ∃ Z, z5.alloc (.cells #[.slice pw0_0 ((stepE x0 x1.row x2.row).1).regs.length qw0_0, .int .i64 ((stepE x0 x1.row x2.row).1).pc, .int .i64 ((stepE x0 x1.row x2.row).1).process] 24) = Z := ⟨_, rfl⟩
  rw [hy1] at HB_12 BA0_12 WO0_12 WO1_12 BW0_13 SZ7 ⊢
  clear hy1
  refine (toCore_any x0 _ _ (HW0.out.stays HB_12.out).a0 HN0.out.l0).mono ?_
  rintro e z6 ⟨o4_0, k4_0, c4_0, rfl, hc4, hb4⟩
  have SZ8 : Hid (y1.heap.size ≤ z6.heap.size) := hb4.size
  have HB_14 := hide (HB_12.out.trans (hb4.mono HB_12.out.size))
  clear HB_12
  have BA0_14 := hide (BA0_12.out.stays hb4)
  clear BA0_12
  have WO0_14 := hide (WO0_12.out.stays hb4)
  clear WO0_12
  have WO1_14 := hide (WO1_12.out.stays hb4)
  clear WO1_12
  have BW0_14 := hide (BW0_13.out.stays hb4)
  clear BW0_13
  have XC4_15 := hide (hc4)
  clear hc4 hb4
  have XS0_16 := hide (XC4_15.out.sh (T := z6.heap.size) (Nat.le_refl _))
  have hba17 : Below z6.heap.size z6 (z6.alloc (.cells #[.slice o4_0 k4_0 c4_0, .int .i64 x0.pc, .int .i64 x0.process] 24)) := (Below.refl _ _).alloc (Nat.le_refl _) _
  have SZ9 : Hid ((z6.alloc (.cells #[.slice o4_0 k4_0 c4_0, .int .i64 x0.pc, .int .i64 x0.process] 24)).heap.size = z6.heap.size + 1) := by show _ = _; simp
  have HB_18 := hide (HB_14.out.trans (hba17.mono HB_14.out.size))
  clear HB_14
  have BA0_18 := hide (BA0_14.out.stays hba17)
  clear BA0_14
  have WO0_18 := hide (WO0_14.out.stays hba17)
  clear WO0_14
  have WO1_18 := hide (WO1_14.out.stays hba17)
  clear WO1_14
  have BW0_18 := hide (BW0_14.out.stays hba17)
  clear BW0_14
  have XC4_18 := hide (XC4_15.out.stays hba17)
  clear XC4_15
  have XS0_18 := hide (XS0_16.out.stays hba17)
  clear XS0_16
  have BX0_19 := hide (Box.made z6 #[.slice o4_0 k4_0 c4_0, .int .i64 x0.pc, .int .i64 x0.process] 24)
  clear hba17
  have c_BA0_0 := Lib.cell_of_heap BA0_18.out 0
  simp at c_BA0_0
  have c_BA0_1 := Lib.cell_of_heap BA0_18.out 1
  simp at c_BA0_1
  have c_BA0_2 := Lib.cell_of_heap BA0_18.out 2
  simp at c_BA0_2
  have c_BW0_0 := Lib.cell_of_heap BW0_18.out 0
  simp at c_BW0_0
  have c_BW0_1 := Lib.cell_of_heap BW0_18.out 1
  simp at c_BW0_1
  have c_BW0_2 := Lib.cell_of_heap BW0_18.out 2
  simp at c_BW0_2
  have c_BX0_0 := Lib.cell_of_heap BX0_19.out 0
  simp at c_BX0_0
  have c_BX0_1 := Lib.cell_of_heap BX0_19.out 1
  simp at c_BX0_1
  have c_BX0_2 := Lib.cell_of_heap BX0_19.out 2
  simp at c_BX0_2
  go_wp2_with fail
  clear c_BA0_0 c_BA0_1 c_BA0_2 c_BW0_0 c_BW0_1 c_BW0_2 c_BX0_0 c_BX0_1 c_BX0_2
  obtain ⟨y2, hy2⟩ : ∃ Z, z6.alloc (.cells #[.slice o4_0 k4_0 c4_0, .int .i64 x0.pc, .int .i64 x0.process] 24) = Z := ⟨_, rfl⟩
  rw [hy2] at HB_18 BA0_18 WO0_18 WO1_18 BW0_18 XC4_18 XS0_18 BX0_19 SZ9 ⊢
  clear hy2
  refine (toIntSR_any x1 _ _ (HW1.out.stays HB_18.out).a0 HN1.out.l0).mono ?_
  rintro e z7 ⟨o5_0, k5_0, c5_0, rfl, hc5, hb5⟩
  have SZ10 : Hid (y2.heap.size ≤ z7.heap.size) := hb5.size
  have HB_20 := hide (HB_18.out.trans (hb5.mono HB_18.out.size))
  clear HB_18
  have BA0_20 := hide (BA0_18.out.stays hb5)
  clear BA0_18
  have WO0_20 := hide (WO0_18.out.stays hb5)
  clear WO0_18
  have WO1_20 := hide (WO1_18.out.stays hb5)
  clear WO1_18
  have BW0_20 := hide (BW0_18.out.stays hb5)
  clear BW0_18
  have XC4_20 := hide (XC4_18.out.stays hb5)
  clear XC4_18
  have XS0_20 := hide (XS0_18.out.stays hb5)
  clear XS0_18
  have BX0_20 := hide (BX0_19.out.stays hb5)
  clear BX0_19
  have XC5_21 := hide (hc5)
  clear hc5 hb5
  have XS1_22 := hide (XC5_21.out.sh (T := z7.heap.size) (Nat.le_refl _))
  have c_BA0_0 := Lib.cell_of_heap BA0_20.out 0
  simp at c_BA0_0
  have c_BA0_1 := Lib.cell_of_heap BA0_20.out 1
  simp at c_BA0_1
  have c_BA0_2 := Lib.cell_of_heap BA0_20.out 2
  simp at c_BA0_2
  have c_BW0_0 := Lib.cell_of_heap BW0_20.out 0
  simp at c_BW0_0
  have c_BW0_1 := Lib.cell_of_heap BW0_20.out 1
  simp at c_BW0_1
  have c_BW0_2 := Lib.cell_of_heap BW0_20.out 2
  simp at c_BW0_2
  have c_BX0_0 := Lib.cell_of_heap BX0_20.out 0
  simp at c_BX0_0
  have c_BX0_1 := Lib.cell_of_heap BX0_20.out 1
  simp at c_BX0_1
  have c_BX0_2 := Lib.cell_of_heap BX0_20.out 2
  simp at c_BX0_2
  go_wp2_with fail
  clear c_BA0_0 c_BA0_1 c_BA0_2 c_BW0_0 c_BW0_1 c_BW0_2 c_BX0_0 c_BX0_1 c_BX0_2
  refine (toIntSR_any x2 _ _ (HW2.out.stays HB_20.out).a0 HN2.out.l0).mono ?_
  rintro e z8 ⟨o6_0, k6_0, c6_0, rfl, hc6, hb6⟩
  have SZ11 : Hid (z7.heap.size ≤ z8.heap.size) := hb6.size
  have HB_23 := hide (HB_20.out.trans (hb6.mono HB_20.out.size))
  clear HB_20
  have BA0_23 := hide (BA0_20.out.stays hb6)
  clear BA0_20
  have WO0_23 := hide (WO0_20.out.stays hb6)
  clear WO0_20
  have WO1_23 := hide (WO1_20.out.stays hb6)
  clear WO1_20
  have BW0_23 := hide (BW0_20.out.stays hb6)
  clear BW0_20
  have XC4_23 := hide (XC4_20.out.stays hb6)
  clear XC4_20
  have XS0_23 := hide (XS0_20.out.stays hb6)
  clear XS0_20
  have BX0_23 := hide (BX0_20.out.stays hb6)
  clear BX0_20
  have XC5_23 := hide (XC5_21.out.stays hb6)
  clear XC5_21
  have XS1_23 := hide (XS1_22.out.stays hb6)
  clear XS1_22
  have XC6_24 := hide (hc6)
  clear hc6 hb6
  have XS2_25 := hide (XC6_24.out.sh (T := z8.heap.size) (Nat.le_refl _))
  have c_BA0_0 := Lib.cell_of_heap BA0_23.out 0
  simp at c_BA0_0
  have c_BA0_1 := Lib.cell_of_heap BA0_23.out 1
  simp at c_BA0_1
  have c_BA0_2 := Lib.cell_of_heap BA0_23.out 2
  simp at c_BA0_2
  have c_BW0_0 := Lib.cell_of_heap BW0_23.out 0
  simp at c_BW0_0
  have c_BW0_1 := Lib.cell_of_heap BW0_23.out 1
  simp at c_BW0_1
  have c_BW0_2 := Lib.cell_of_heap BW0_23.out 2
  simp at c_BW0_2
  have c_BX0_0 := Lib.cell_of_heap BX0_23.out 0
  simp at c_BX0_0
  have c_BX0_1 := Lib.cell_of_heap BX0_23.out 1
  simp at c_BX0_1
  have c_BX0_2 := Lib.cell_of_heap BX0_23.out 2
  simp at c_BX0_2
  go_wp2_with fail
  clear c_BA0_0 c_BA0_1 c_BA0_2 c_BW0_0 c_BW0_1 c_BW0_2 c_BX0_0 c_BX0_1 c_BX0_2
  refine (HPI1.out _ _ _ _ _ _ _ XC4_23.out XC5_23.out XC6_24.out).mono ?_
  rintro e z9 ⟨g0_0, g1_0, rfl, hog0, hog1, hapg, hbg⟩
  have APG := hide hapg
  clear hapg
  have SZ12 : Hid (z8.heap.size ≤ z9.heap.size) := hbg.size
  have HB_26 := hide (HB_23.out.trans (hbg.mono HB_23.out.size))
  clear HB_23
  have BA0_26 := hide (BA0_23.out.stays hbg)
  clear BA0_23
  have WO0_26 := hide (WO0_23.out.stays hbg)
  clear WO0_23
  have WO1_26 := hide (WO1_23.out.stays hbg)
  clear WO1_23
  have BW0_26 := hide (BW0_23.out.stays hbg)
  clear BW0_23
  have XC4_26 := hide (XC4_23.out.stays hbg)
  clear XC4_23
  have XS0_26 := hide (XS0_23.out.stays hbg)
  clear XS0_23
  have BX0_26 := hide (BX0_23.out.stays hbg)
  clear BX0_23
  have XC5_26 := hide (XC5_23.out.stays hbg)
  clear XC5_23
  have XS1_26 := hide (XS1_23.out.stays hbg)
  clear XS1_23
  have XC6_26 := hide (XC6_24.out.stays hbg)
  clear XC6_24
  have XS2_26 := hide (XS2_25.out.stays hbg)
  clear XS2_25
  obtain ⟨pg0_0, qg0_0, rfl⟩ := form_own hog0.o0
  have GO0_27 := hide (hog0)
  clear hog0
  obtain ⟨pg1_0, qg1_0, rfl⟩ := form_own hog1.o0
  have GO1_28 := hide (hog1)
  clear hog1
  clear hbg
  have GL0 := hide (GO0_27.out).lt
  have GL1 := hide (GO1_28.out).lt
  have hba29 : Below z9.heap.size z9 (z9.alloc (.cells #[.slice pg0_0 ((stepE x0 x1.row x2.row).1).regs.length qg0_0, .int .i64 ((stepE x0 x1.row x2.row).1).pc, .int .i64 ((stepE x0 x1.row x2.row).1).process] 24)) := (Below.refl _ _).alloc (Nat.le_refl _) _
  have SZ13 : Hid ((z9.alloc (.cells #[.slice pg0_0 ((stepE x0 x1.row x2.row).1).regs.length qg0_0, .int .i64 ((stepE x0 x1.row x2.row).1).pc, .int .i64 ((stepE x0 x1.row x2.row).1).process] 24)).heap.size = z9.heap.size + 1) := by show _ = _; simp
  have HB_30 := hide (HB_26.out.trans (hba29.mono HB_26.out.size))
  clear HB_26
  have BA0_30 := hide (BA0_26.out.stays hba29)
  clear BA0_26
  have WO0_30 := hide (WO0_26.out.stays hba29)
  clear WO0_26
  have WO1_30 := hide (WO1_26.out.stays hba29)
  clear WO1_26
  have BW0_30 := hide (BW0_26.out.stays hba29)
  clear BW0_26
  have XC4_30 := hide (XC4_26.out.stays hba29)
  clear XC4_26
  have XS0_30 := hide (XS0_26.out.stays hba29)
  clear XS0_26
  have BX0_30 := hide (BX0_26.out.stays hba29)
  clear BX0_26
  have XC5_30 := hide (XC5_26.out.stays hba29)
  clear XC5_26
  have XS1_30 := hide (XS1_26.out.stays hba29)
  clear XS1_26
  have XC6_30 := hide (XC6_26.out.stays hba29)
  clear XC6_26
  have XS2_30 := hide (XS2_26.out.stays hba29)
  clear XS2_26
  have GO0_30 := hide (GO0_27.out.stays hba29)
  clear GO0_27
  have GO1_30 := hide (GO1_28.out.stays hba29)
  clear GO1_28
  have BG0_31 := hide (Box.made z9 #[.slice pg0_0 ((stepE x0 x1.row x2.row).1).regs.length qg0_0, .int .i64 ((stepE x0 x1.row x2.row).1).pc, .int .i64 ((stepE x0 x1.row x2.row).1).process] 24)
  clear hba29
  have c_BA0_0 := Lib.cell_of_heap BA0_30.out 0
  simp at c_BA0_0
  have c_BA0_1 := Lib.cell_of_heap BA0_30.out 1
  simp at c_BA0_1
  have c_BA0_2 := Lib.cell_of_heap BA0_30.out 2
  simp at c_BA0_2
  have c_BW0_0 := Lib.cell_of_heap BW0_30.out 0
  simp at c_BW0_0
  have c_BW0_1 := Lib.cell_of_heap BW0_30.out 1
  simp at c_BW0_1
  have c_BW0_2 := Lib.cell_of_heap BW0_30.out 2
  simp at c_BW0_2
  have c_BX0_0 := Lib.cell_of_heap BX0_30.out 0
  simp at c_BX0_0
  have c_BX0_1 := Lib.cell_of_heap BX0_30.out 1
  simp at c_BX0_1
  have c_BX0_2 := Lib.cell_of_heap BX0_30.out 2
  simp at c_BX0_2
  have c_BG0_0 := Lib.cell_of_heap BG0_31.out 0
  simp at c_BG0_0
  have c_BG0_1 := Lib.cell_of_heap BG0_31.out 1
  simp at c_BG0_1
  have c_BG0_2 := Lib.cell_of_heap BG0_31.out 2
  simp at c_BG0_2
  go_wp2_with fail
  clear c_BA0_0 c_BA0_1 c_BA0_2 c_BW0_0 c_BW0_1 c_BW0_2 c_BX0_0 c_BX0_1 c_BX0_2 c_BG0_0 c_BG0_1 c_BG0_2
  obtain ⟨y3, hy3⟩ : ∃ Z, z9.alloc (.cells #[.slice pg0_0 ((stepE x0 x1.row x2.row).1).regs.length qg0_0, .int .i64 ((stepE x0 x1.row x2.row).1).pc, .int .i64 ((stepE x0 x1.row x2.row).1).process] 24) = Z := ⟨_, rfl⟩
  rw [hy3] at HB_30 BA0_30 WO0_30 WO1_30 BW0_30 XC4_30 XS0_30 BX0_30 XC5_30 XS1_30 XC6_30 XS2_30 GO0_30 GO1_30 BG0_31 SZ13 ⊢
  clear hy3
  refine (eqCore_same ((stepE x0 x1.row x2.row).1) _ _ _ (GO0_30.out).at.a0 (WO0_30.out).at.a0 HL0.out.l0).mono ?_
  rintro e z10 ⟨rfl, hbe32⟩
  have SZ14 : Hid (y3.heap.size ≤ z10.heap.size) := hbe32.size
  have HB_33 := hide (HB_30.out.trans (hbe32.mono HB_30.out.size))
  clear HB_30
  have BA0_33 := hide (BA0_30.out.stays hbe32)
  clear BA0_30
  have WO0_33 := hide (WO0_30.out.stays hbe32)
  clear WO0_30
  have WO1_33 := hide (WO1_30.out.stays hbe32)
  clear WO1_30
  have BW0_33 := hide (BW0_30.out.stays hbe32)
  clear BW0_30
  have XC4_33 := hide (XC4_30.out.stays hbe32)
  clear XC4_30
  have XS0_33 := hide (XS0_30.out.stays hbe32)
  clear XS0_30
  have BX0_33 := hide (BX0_30.out.stays hbe32)
  clear BX0_30
  have XC5_33 := hide (XC5_30.out.stays hbe32)
  clear XC5_30
  have XS1_33 := hide (XS1_30.out.stays hbe32)
  clear XS1_30
  have XC6_33 := hide (XC6_30.out.stays hbe32)
  clear XC6_30
  have XS2_33 := hide (XS2_30.out.stays hbe32)
  clear XS2_30
  have GO0_33 := hide (GO0_30.out.stays hbe32)
  clear GO0_30
  have GO1_33 := hide (GO1_30.out.stays hbe32)
  clear GO1_30
  have BG0_33 := hide (BG0_31.out.stays hbe32)
  clear BG0_31
  clear hbe32
  have c_BA0_0 := Lib.cell_of_heap BA0_33.out 0
  simp at c_BA0_0
  have c_BA0_1 := Lib.cell_of_heap BA0_33.out 1
  simp at c_BA0_1
  have c_BA0_2 := Lib.cell_of_heap BA0_33.out 2
  simp at c_BA0_2
  have c_BW0_0 := Lib.cell_of_heap BW0_33.out 0
  simp at c_BW0_0
  have c_BW0_1 := Lib.cell_of_heap BW0_33.out 1
  simp at c_BW0_1
  have c_BW0_2 := Lib.cell_of_heap BW0_33.out 2
  simp at c_BW0_2
  have c_BX0_0 := Lib.cell_of_heap BX0_33.out 0
  simp at c_BX0_0
  have c_BX0_1 := Lib.cell_of_heap BX0_33.out 1
  simp at c_BX0_1
  have c_BX0_2 := Lib.cell_of_heap BX0_33.out 2
  simp at c_BX0_2
  have c_BG0_0 := Lib.cell_of_heap BG0_33.out 0
  simp at c_BG0_0
  have c_BG0_1 := Lib.cell_of_heap BG0_33.out 1
  simp at c_BG0_1
  have c_BG0_2 := Lib.cell_of_heap BG0_33.out 2
  simp at c_BG0_2
  go_wp2_with fail
  clear c_BA0_0 c_BA0_1 c_BA0_2 c_BW0_0 c_BW0_1 c_BW0_2 c_BX0_0 c_BX0_1 c_BX0_2 c_BG0_0 c_BG0_1 c_BG0_2
  refine (eqIntSR_same (Ri.mk (stepE x0 x1.row x2.row).2.1) _ _ _ (GO1_33.out).at.a0 (WO1_33.out).at.a0 HL1.out.l0).mono ?_
  rintro e z11 ⟨rfl, hbe34⟩
  have SZ15 : Hid (z10.heap.size ≤ z11.heap.size) := hbe34.size
  have HB_35 := hide (HB_33.out.trans (hbe34.mono HB_33.out.size))
  clear HB_33
  have BA0_35 := hide (BA0_33.out.stays hbe34)
  clear BA0_33
  have WO0_35 := hide (WO0_33.out.stays hbe34)
  clear WO0_33
  have WO1_35 := hide (WO1_33.out.stays hbe34)
  clear WO1_33
  have BW0_35 := hide (BW0_33.out.stays hbe34)
  clear BW0_33
  have XC4_35 := hide (XC4_33.out.stays hbe34)
  clear XC4_33
  have XS0_35 := hide (XS0_33.out.stays hbe34)
  clear XS0_33
  have BX0_35 := hide (BX0_33.out.stays hbe34)
  clear BX0_33
  have XC5_35 := hide (XC5_33.out.stays hbe34)
  clear XC5_33
  have XS1_35 := hide (XS1_33.out.stays hbe34)
  clear XS1_33
  have XC6_35 := hide (XC6_33.out.stays hbe34)
  clear XC6_33
  have XS2_35 := hide (XS2_33.out.stays hbe34)
  clear XS2_33
  have GO0_35 := hide (GO0_33.out.stays hbe34)
  clear GO0_33
  have GO1_35 := hide (GO1_33.out.stays hbe34)
  clear GO1_33
  have BG0_35 := hide (BG0_33.out.stays hbe34)
  clear BG0_33
  clear hbe34
  have c_BA0_0 := Lib.cell_of_heap BA0_35.out 0
  simp at c_BA0_0
  have c_BA0_1 := Lib.cell_of_heap BA0_35.out 1
  simp at c_BA0_1
  have c_BA0_2 := Lib.cell_of_heap BA0_35.out 2
  simp at c_BA0_2
  have c_BW0_0 := Lib.cell_of_heap BW0_35.out 0
  simp at c_BW0_0
  have c_BW0_1 := Lib.cell_of_heap BW0_35.out 1
  simp at c_BW0_1
  have c_BW0_2 := Lib.cell_of_heap BW0_35.out 2
  simp at c_BW0_2
  have c_BX0_0 := Lib.cell_of_heap BX0_35.out 0
  simp at c_BX0_0
  have c_BX0_1 := Lib.cell_of_heap BX0_35.out 1
  simp at c_BX0_1
  have c_BX0_2 := Lib.cell_of_heap BX0_35.out 2
  simp at c_BX0_2
  have c_BG0_0 := Lib.cell_of_heap BG0_35.out 0
  simp at c_BG0_0
  have c_BG0_1 := Lib.cell_of_heap BG0_35.out 1
  simp at c_BG0_1
  have c_BG0_2 := Lib.cell_of_heap BG0_35.out 2
  simp at c_BG0_2
  go_wp2_with fail
  clear c_BA0_0 c_BA0_1 c_BA0_2 c_BW0_0 c_BW0_1 c_BW0_2 c_BX0_0 c_BX0_1 c_BX0_2 c_BG0_0 c_BG0_1 c_BG0_2
  have KT : Hid (∀ z z' : World, (Below w.heap.size w z ∧ Box z (w.heap.size) #[.slice a0_0 x0.regs.length b0_0, .int .i64 x0.pc, .int .i64 x0.process] 29 ∧ CoOwn z4.heap.size z (.slice pw0_0 ((stepE x0 x1.row x2.row).1).regs.length qw0_0) ((stepE x0 x1.row x2.row).1) ∧ RiOwn z4.heap.size z (.slice pw1_0 (Ri.mk (stepE x0 x1.row x2.row).2.1).row.length qw1_0) (Ri.mk (stepE x0 x1.row x2.row).2.1) ∧ Box z z5.heap.size #[.slice pw0_0 ((stepE x0 x1.row x2.row).1).regs.length qw0_0, .int .i64 ((stepE x0 x1.row x2.row).1).pc, .int .i64 ((stepE x0 x1.row x2.row).1).process] 24 ∧ CoC y1.heap.size z [.slice o4_0 k4_0 c4_0, .int .i64 x0.pc, .int .i64 x0.process] x0 ∧ CoSh y1.heap.size z6.heap.size z (.slice o4_0 k4_0 c4_0) x0 ∧ Box z z6.heap.size #[.slice o4_0 k4_0 c4_0, .int .i64 x0.pc, .int .i64 x0.process] 24 ∧ RiC y2.heap.size z [.slice o5_0 k5_0 c5_0] x1 ∧ RiSh y2.heap.size z7.heap.size z (.slice o5_0 k5_0 c5_0) x1 ∧ RiC z7.heap.size z [.slice o6_0 k6_0 c6_0] x2 ∧ RiSh z7.heap.size z8.heap.size z (.slice o6_0 k6_0 c6_0) x2 ∧ CoOwn z8.heap.size z (.slice pg0_0 ((stepE x0 x1.row x2.row).1).regs.length qg0_0) ((stepE x0 x1.row x2.row).1) ∧ RiOwn z8.heap.size z (.slice pg1_0 (Ri.mk (stepE x0 x1.row x2.row).2.1).row.length qg1_0) (Ri.mk (stepE x0 x1.row x2.row).2.1) ∧ Box z z9.heap.size #[.slice pg0_0 ((stepE x0 x1.row x2.row).1).regs.length qg0_0, .int .i64 ((stepE x0 x1.row x2.row).1).pc, .int .i64 ((stepE x0 x1.row x2.row).1).process] 24) → Below z.heap.size z z' → (Below w.heap.size w z' ∧ Box z' (w.heap.size) #[.slice a0_0 x0.regs.length b0_0, .int .i64 x0.pc, .int .i64 x0.process] 29 ∧ CoOwn z4.heap.size z' (.slice pw0_0 ((stepE x0 x1.row x2.row).1).regs.length qw0_0) ((stepE x0 x1.row x2.row).1) ∧ RiOwn z4.heap.size z' (.slice pw1_0 (Ri.mk (stepE x0 x1.row x2.row).2.1).row.length qw1_0) (Ri.mk (stepE x0 x1.row x2.row).2.1) ∧ Box z' z5.heap.size #[.slice pw0_0 ((stepE x0 x1.row x2.row).1).regs.length qw0_0, .int .i64 ((stepE x0 x1.row x2.row).1).pc, .int .i64 ((stepE x0 x1.row x2.row).1).process] 24 ∧ CoC y1.heap.size z' [.slice o4_0 k4_0 c4_0, .int .i64 x0.pc, .int .i64 x0.process] x0 ∧ CoSh y1.heap.size z6.heap.size z' (.slice o4_0 k4_0 c4_0) x0 ∧ Box z' z6.heap.size #[.slice o4_0 k4_0 c4_0, .int .i64 x0.pc, .int .i64 x0.process] 24 ∧ RiC y2.heap.size z' [.slice o5_0 k5_0 c5_0] x1 ∧ RiSh y2.heap.size z7.heap.size z' (.slice o5_0 k5_0 c5_0) x1 ∧ RiC z7.heap.size z' [.slice o6_0 k6_0 c6_0] x2 ∧ RiSh z7.heap.size z8.heap.size z' (.slice o6_0 k6_0 c6_0) x2 ∧ CoOwn z8.heap.size z' (.slice pg0_0 ((stepE x0 x1.row x2.row).1).regs.length qg0_0) ((stepE x0 x1.row x2.row).1) ∧ RiOwn z8.heap.size z' (.slice pg1_0 (Ri.mk (stepE x0 x1.row x2.row).2.1).row.length qg1_0) (Ri.mk (stepE x0 x1.row x2.row).2.1) ∧ Box z' z9.heap.size #[.slice pg0_0 ((stepE x0 x1.row x2.row).1).regs.length qg0_0, .int .i64 ((stepE x0 x1.row x2.row).1).pc, .int .i64 ((stepE x0 x1.row x2.row).1).process] 24)) := fun z z' hz hb => ⟨(hz.1).trans (hb.mono (hz.1).size), (hz.2.1).stays hb, (hz.2.2.1).stays hb, (hz.2.2.2.1).stays hb, (hz.2.2.2.2.1).stays hb, (hz.2.2.2.2.2.1).stays hb, (hz.2.2.2.2.2.2.1).stays hb, (hz.2.2.2.2.2.2.2.1).stays hb, (hz.2.2.2.2.2.2.2.2.1).stays hb, (hz.2.2.2.2.2.2.2.2.2.1).stays hb, (hz.2.2.2.2.2.2.2.2.2.2.1).stays hb, (hz.2.2.2.2.2.2.2.2.2.2.2.1).stays hb, (hz.2.2.2.2.2.2.2.2.2.2.2.2.1).stays hb, (hz.2.2.2.2.2.2.2.2.2.2.2.2.2.1).stays hb, (hz.2.2.2.2.2.2.2.2.2.2.2.2.2.2).stays hb⟩
  have KC : Hid (∀ z : World, (Below w.heap.size w z ∧ Box z (w.heap.size) #[.slice a0_0 x0.regs.length b0_0, .int .i64 x0.pc, .int .i64 x0.process] 29 ∧ CoOwn z4.heap.size z (.slice pw0_0 ((stepE x0 x1.row x2.row).1).regs.length qw0_0) ((stepE x0 x1.row x2.row).1) ∧ RiOwn z4.heap.size z (.slice pw1_0 (Ri.mk (stepE x0 x1.row x2.row).2.1).row.length qw1_0) (Ri.mk (stepE x0 x1.row x2.row).2.1) ∧ Box z z5.heap.size #[.slice pw0_0 ((stepE x0 x1.row x2.row).1).regs.length qw0_0, .int .i64 ((stepE x0 x1.row x2.row).1).pc, .int .i64 ((stepE x0 x1.row x2.row).1).process] 24 ∧ CoC y1.heap.size z [.slice o4_0 k4_0 c4_0, .int .i64 x0.pc, .int .i64 x0.process] x0 ∧ CoSh y1.heap.size z6.heap.size z (.slice o4_0 k4_0 c4_0) x0 ∧ Box z z6.heap.size #[.slice o4_0 k4_0 c4_0, .int .i64 x0.pc, .int .i64 x0.process] 24 ∧ RiC y2.heap.size z [.slice o5_0 k5_0 c5_0] x1 ∧ RiSh y2.heap.size z7.heap.size z (.slice o5_0 k5_0 c5_0) x1 ∧ RiC z7.heap.size z [.slice o6_0 k6_0 c6_0] x2 ∧ RiSh z7.heap.size z8.heap.size z (.slice o6_0 k6_0 c6_0) x2 ∧ CoOwn z8.heap.size z (.slice pg0_0 ((stepE x0 x1.row x2.row).1).regs.length qg0_0) ((stepE x0 x1.row x2.row).1) ∧ RiOwn z8.heap.size z (.slice pg1_0 (Ri.mk (stepE x0 x1.row x2.row).2.1).row.length qg1_0) (Ri.mk (stepE x0 x1.row x2.row).2.1) ∧ Box z z9.heap.size #[.slice pg0_0 ((stepE x0 x1.row x2.row).1).regs.length qg0_0, .int .i64 ((stepE x0 x1.row x2.row).1).pc, .int .i64 ((stepE x0 x1.row x2.row).1).process] 24) → (z.cell? ⟨(w.heap.size), 0, none⟩ = some (.slice a0_0 x0.regs.length b0_0) ∧ z.cell? ⟨(w.heap.size), 1, none⟩ = some (.int .i64 x0.pc) ∧ z.cell? ⟨(w.heap.size), 2, none⟩ = some (.int .i64 x0.process) ∧ z.cell? ⟨z6.heap.size, 0, none⟩ = some (.slice o4_0 k4_0 c4_0) ∧ z.cell? ⟨z6.heap.size, 1, none⟩ = some (.int .i64 x0.pc) ∧ z.cell? ⟨z6.heap.size, 2, none⟩ = some (.int .i64 x0.process) ∧ Hid ((Below w.heap.size w z ∧ Box z (w.heap.size) #[.slice a0_0 x0.regs.length b0_0, .int .i64 x0.pc, .int .i64 x0.process] 29 ∧ CoOwn z4.heap.size z (.slice pw0_0 ((stepE x0 x1.row x2.row).1).regs.length qw0_0) ((stepE x0 x1.row x2.row).1) ∧ RiOwn z4.heap.size z (.slice pw1_0 (Ri.mk (stepE x0 x1.row x2.row).2.1).row.length qw1_0) (Ri.mk (stepE x0 x1.row x2.row).2.1) ∧ Box z z5.heap.size #[.slice pw0_0 ((stepE x0 x1.row x2.row).1).regs.length qw0_0, .int .i64 ((stepE x0 x1.row x2.row).1).pc, .int .i64 ((stepE x0 x1.row x2.row).1).process] 24 ∧ CoC y1.heap.size z [.slice o4_0 k4_0 c4_0, .int .i64 x0.pc, .int .i64 x0.process] x0 ∧ CoSh y1.heap.size z6.heap.size z (.slice o4_0 k4_0 c4_0) x0 ∧ Box z z6.heap.size #[.slice o4_0 k4_0 c4_0, .int .i64 x0.pc, .int .i64 x0.process] 24 ∧ RiC y2.heap.size z [.slice o5_0 k5_0 c5_0] x1 ∧ RiSh y2.heap.size z7.heap.size z (.slice o5_0 k5_0 c5_0) x1 ∧ RiC z7.heap.size z [.slice o6_0 k6_0 c6_0] x2 ∧ RiSh z7.heap.size z8.heap.size z (.slice o6_0 k6_0 c6_0) x2 ∧ CoOwn z8.heap.size z (.slice pg0_0 ((stepE x0 x1.row x2.row).1).regs.length qg0_0) ((stepE x0 x1.row x2.row).1) ∧ RiOwn z8.heap.size z (.slice pg1_0 (Ri.mk (stepE x0 x1.row x2.row).2.1).row.length qg1_0) (Ri.mk (stepE x0 x1.row x2.row).2.1) ∧ Box z z9.heap.size #[.slice pg0_0 ((stepE x0 x1.row x2.row).1).regs.length qg0_0, .int .i64 ((stepE x0 x1.row x2.row).1).pc, .int .i64 ((stepE x0 x1.row x2.row).1).process] 24)))) := fun z hz => ⟨Lib.cell_of_heap (hz.2.1) 0, Lib.cell_of_heap (hz.2.1) 1, Lib.cell_of_heap (hz.2.1) 2, Lib.cell_of_heap (hz.2.2.2.2.2.2.2.1) 0, Lib.cell_of_heap (hz.2.2.2.2.2.2.2.1) 1, Lib.cell_of_heap (hz.2.2.2.2.2.2.2.1) 2, hz⟩
  have KV : Hid (∀ z : World, (z.cell? ⟨(w.heap.size), 0, none⟩ = some (.slice a0_0 x0.regs.length b0_0) ∧ z.cell? ⟨(w.heap.size), 1, none⟩ = some (.int .i64 x0.pc) ∧ z.cell? ⟨(w.heap.size), 2, none⟩ = some (.int .i64 x0.process) ∧ z.cell? ⟨z6.heap.size, 0, none⟩ = some (.slice o4_0 k4_0 c4_0) ∧ z.cell? ⟨z6.heap.size, 1, none⟩ = some (.int .i64 x0.pc) ∧ z.cell? ⟨z6.heap.size, 2, none⟩ = some (.int .i64 x0.process) ∧ Hid ((Below w.heap.size w z ∧ Box z (w.heap.size) #[.slice a0_0 x0.regs.length b0_0, .int .i64 x0.pc, .int .i64 x0.process] 29 ∧ CoOwn z4.heap.size z (.slice pw0_0 ((stepE x0 x1.row x2.row).1).regs.length qw0_0) ((stepE x0 x1.row x2.row).1) ∧ RiOwn z4.heap.size z (.slice pw1_0 (Ri.mk (stepE x0 x1.row x2.row).2.1).row.length qw1_0) (Ri.mk (stepE x0 x1.row x2.row).2.1) ∧ Box z z5.heap.size #[.slice pw0_0 ((stepE x0 x1.row x2.row).1).regs.length qw0_0, .int .i64 ((stepE x0 x1.row x2.row).1).pc, .int .i64 ((stepE x0 x1.row x2.row).1).process] 24 ∧ CoC y1.heap.size z [.slice o4_0 k4_0 c4_0, .int .i64 x0.pc, .int .i64 x0.process] x0 ∧ CoSh y1.heap.size z6.heap.size z (.slice o4_0 k4_0 c4_0) x0 ∧ Box z z6.heap.size #[.slice o4_0 k4_0 c4_0, .int .i64 x0.pc, .int .i64 x0.process] 24 ∧ RiC y2.heap.size z [.slice o5_0 k5_0 c5_0] x1 ∧ RiSh y2.heap.size z7.heap.size z (.slice o5_0 k5_0 c5_0) x1 ∧ RiC z7.heap.size z [.slice o6_0 k6_0 c6_0] x2 ∧ RiSh z7.heap.size z8.heap.size z (.slice o6_0 k6_0 c6_0) x2 ∧ CoOwn z8.heap.size z (.slice pg0_0 ((stepE x0 x1.row x2.row).1).regs.length qg0_0) ((stepE x0 x1.row x2.row).1) ∧ RiOwn z8.heap.size z (.slice pg1_0 (Ri.mk (stepE x0 x1.row x2.row).2.1).row.length qg1_0) (Ri.mk (stepE x0 x1.row x2.row).2.1) ∧ Box z z9.heap.size #[.slice pg0_0 ((stepE x0 x1.row x2.row).1).regs.length qg0_0, .int .i64 ((stepE x0 x1.row x2.row).1).pc, .int .i64 ((stepE x0 x1.row x2.row).1).process] 24))) → (Below w.heap.size w z ∧ Box z (w.heap.size) #[.slice a0_0 x0.regs.length b0_0, .int .i64 x0.pc, .int .i64 x0.process] 29 ∧ CoOwn z4.heap.size z (.slice pw0_0 ((stepE x0 x1.row x2.row).1).regs.length qw0_0) ((stepE x0 x1.row x2.row).1) ∧ RiOwn z4.heap.size z (.slice pw1_0 (Ri.mk (stepE x0 x1.row x2.row).2.1).row.length qw1_0) (Ri.mk (stepE x0 x1.row x2.row).2.1) ∧ Box z z5.heap.size #[.slice pw0_0 ((stepE x0 x1.row x2.row).1).regs.length qw0_0, .int .i64 ((stepE x0 x1.row x2.row).1).pc, .int .i64 ((stepE x0 x1.row x2.row).1).process] 24 ∧ CoC y1.heap.size z [.slice o4_0 k4_0 c4_0, .int .i64 x0.pc, .int .i64 x0.process] x0 ∧ CoSh y1.heap.size z6.heap.size z (.slice o4_0 k4_0 c4_0) x0 ∧ Box z z6.heap.size #[.slice o4_0 k4_0 c4_0, .int .i64 x0.pc, .int .i64 x0.process] 24 ∧ RiC y2.heap.size z [.slice o5_0 k5_0 c5_0] x1 ∧ RiSh y2.heap.size z7.heap.size z (.slice o5_0 k5_0 c5_0) x1 ∧ RiC z7.heap.size z [.slice o6_0 k6_0 c6_0] x2 ∧ RiSh z7.heap.size z8.heap.size z (.slice o6_0 k6_0 c6_0) x2 ∧ CoOwn z8.heap.size z (.slice pg0_0 ((stepE x0 x1.row x2.row).1).regs.length qg0_0) ((stepE x0 x1.row x2.row).1) ∧ RiOwn z8.heap.size z (.slice pg1_0 (Ri.mk (stepE x0 x1.row x2.row).2.1).row.length qg1_0) (Ri.mk (stepE x0 x1.row x2.row).2.1) ∧ Box z z9.heap.size #[.slice pg0_0 ((stepE x0 x1.row x2.row).1).regs.length qg0_0, .int .i64 ((stepE x0 x1.row x2.row).1).pc, .int .i64 ((stepE x0 x1.row x2.row).1).process] 24)) := fun z hz => hz.2.2.2.2.2.2.out
  have KP : Hid (∀ z z' : World, (z.cell? ⟨(w.heap.size), 0, none⟩ = some (.slice a0_0 x0.regs.length b0_0) ∧ z.cell? ⟨(w.heap.size), 1, none⟩ = some (.int .i64 x0.pc) ∧ z.cell? ⟨(w.heap.size), 2, none⟩ = some (.int .i64 x0.process) ∧ z.cell? ⟨z6.heap.size, 0, none⟩ = some (.slice o4_0 k4_0 c4_0) ∧ z.cell? ⟨z6.heap.size, 1, none⟩ = some (.int .i64 x0.pc) ∧ z.cell? ⟨z6.heap.size, 2, none⟩ = some (.int .i64 x0.process) ∧ Hid ((Below w.heap.size w z ∧ Box z (w.heap.size) #[.slice a0_0 x0.regs.length b0_0, .int .i64 x0.pc, .int .i64 x0.process] 29 ∧ CoOwn z4.heap.size z (.slice pw0_0 ((stepE x0 x1.row x2.row).1).regs.length qw0_0) ((stepE x0 x1.row x2.row).1) ∧ RiOwn z4.heap.size z (.slice pw1_0 (Ri.mk (stepE x0 x1.row x2.row).2.1).row.length qw1_0) (Ri.mk (stepE x0 x1.row x2.row).2.1) ∧ Box z z5.heap.size #[.slice pw0_0 ((stepE x0 x1.row x2.row).1).regs.length qw0_0, .int .i64 ((stepE x0 x1.row x2.row).1).pc, .int .i64 ((stepE x0 x1.row x2.row).1).process] 24 ∧ CoC y1.heap.size z [.slice o4_0 k4_0 c4_0, .int .i64 x0.pc, .int .i64 x0.process] x0 ∧ CoSh y1.heap.size z6.heap.size z (.slice o4_0 k4_0 c4_0) x0 ∧ Box z z6.heap.size #[.slice o4_0 k4_0 c4_0, .int .i64 x0.pc, .int .i64 x0.process] 24 ∧ RiC y2.heap.size z [.slice o5_0 k5_0 c5_0] x1 ∧ RiSh y2.heap.size z7.heap.size z (.slice o5_0 k5_0 c5_0) x1 ∧ RiC z7.heap.size z [.slice o6_0 k6_0 c6_0] x2 ∧ RiSh z7.heap.size z8.heap.size z (.slice o6_0 k6_0 c6_0) x2 ∧ CoOwn z8.heap.size z (.slice pg0_0 ((stepE x0 x1.row x2.row).1).regs.length qg0_0) ((stepE x0 x1.row x2.row).1) ∧ RiOwn z8.heap.size z (.slice pg1_0 (Ri.mk (stepE x0 x1.row x2.row).2.1).row.length qg1_0) (Ri.mk (stepE x0 x1.row x2.row).2.1) ∧ Box z z9.heap.size #[.slice pg0_0 ((stepE x0 x1.row x2.row).1).regs.length qg0_0, .int .i64 ((stepE x0 x1.row x2.row).1).pc, .int .i64 ((stepE x0 x1.row x2.row).1).process] 24))) → Below z.heap.size z z' → (z'.cell? ⟨(w.heap.size), 0, none⟩ = some (.slice a0_0 x0.regs.length b0_0) ∧ z'.cell? ⟨(w.heap.size), 1, none⟩ = some (.int .i64 x0.pc) ∧ z'.cell? ⟨(w.heap.size), 2, none⟩ = some (.int .i64 x0.process) ∧ z'.cell? ⟨z6.heap.size, 0, none⟩ = some (.slice o4_0 k4_0 c4_0) ∧ z'.cell? ⟨z6.heap.size, 1, none⟩ = some (.int .i64 x0.pc) ∧ z'.cell? ⟨z6.heap.size, 2, none⟩ = some (.int .i64 x0.process) ∧ Hid ((Below w.heap.size w z' ∧ Box z' (w.heap.size) #[.slice a0_0 x0.regs.length b0_0, .int .i64 x0.pc, .int .i64 x0.process] 29 ∧ CoOwn z4.heap.size z' (.slice pw0_0 ((stepE x0 x1.row x2.row).1).regs.length qw0_0) ((stepE x0 x1.row x2.row).1) ∧ RiOwn z4.heap.size z' (.slice pw1_0 (Ri.mk (stepE x0 x1.row x2.row).2.1).row.length qw1_0) (Ri.mk (stepE x0 x1.row x2.row).2.1) ∧ Box z' z5.heap.size #[.slice pw0_0 ((stepE x0 x1.row x2.row).1).regs.length qw0_0, .int .i64 ((stepE x0 x1.row x2.row).1).pc, .int .i64 ((stepE x0 x1.row x2.row).1).process] 24 ∧ CoC y1.heap.size z' [.slice o4_0 k4_0 c4_0, .int .i64 x0.pc, .int .i64 x0.process] x0 ∧ CoSh y1.heap.size z6.heap.size z' (.slice o4_0 k4_0 c4_0) x0 ∧ Box z' z6.heap.size #[.slice o4_0 k4_0 c4_0, .int .i64 x0.pc, .int .i64 x0.process] 24 ∧ RiC y2.heap.size z' [.slice o5_0 k5_0 c5_0] x1 ∧ RiSh y2.heap.size z7.heap.size z' (.slice o5_0 k5_0 c5_0) x1 ∧ RiC z7.heap.size z' [.slice o6_0 k6_0 c6_0] x2 ∧ RiSh z7.heap.size z8.heap.size z' (.slice o6_0 k6_0 c6_0) x2 ∧ CoOwn z8.heap.size z' (.slice pg0_0 ((stepE x0 x1.row x2.row).1).regs.length qg0_0) ((stepE x0 x1.row x2.row).1) ∧ RiOwn z8.heap.size z' (.slice pg1_0 (Ri.mk (stepE x0 x1.row x2.row).2.1).row.length qg1_0) (Ri.mk (stepE x0 x1.row x2.row).2.1) ∧ Box z' z9.heap.size #[.slice pg0_0 ((stepE x0 x1.row x2.row).1).regs.length qg0_0, .int .i64 ((stepE x0 x1.row x2.row).1).pc, .int .i64 ((stepE x0 x1.row x2.row).1).process] 24)))) := fun z z' hz hb => KC.out _ (KT.out _ _ (KV.out _ hz) hb)
  have K0 := hide (KC.out _ (KT.out _ _ ⟨HB_35.out, BA0_35.out, WO0_35.out, WO1_35.out, BW0_35.out, XC4_35.out, XS0_35.out, BX0_35.out, XC5_35.out, XS1_35.out, XC6_35.out, XS2_35.out, GO0_35.out, GO1_35.out, BG0_35.out⟩ (Below.refl _ _).drew))
  clear HB_35 BA0_35 WO0_35 WO1_35 BW0_35 XC4_35 XS0_35 BX0_35 XC5_35 XS1_35 XC6_35 XS2_35 GO0_35 GO1_35 BG0_35
  go_region_held3 (fun z => z.cell? ⟨(w.heap.size), 0, none⟩ = some (.slice a0_0 x0.regs.length b0_0) ∧ z.cell? ⟨(w.heap.size), 1, none⟩ = some (.int .i64 x0.pc) ∧ z.cell? ⟨(w.heap.size), 2, none⟩ = some (.int .i64 x0.process) ∧ z.cell? ⟨z6.heap.size, 0, none⟩ = some (.slice o4_0 k4_0 c4_0) ∧ z.cell? ⟨z6.heap.size, 1, none⟩ = some (.int .i64 x0.pc) ∧ z.cell? ⟨z6.heap.size, 2, none⟩ = some (.int .i64 x0.process) ∧ Hid ((Below w.heap.size w z ∧ Box z (w.heap.size) #[.slice a0_0 x0.regs.length b0_0, .int .i64 x0.pc, .int .i64 x0.process] 29 ∧ CoOwn z4.heap.size z (.slice pw0_0 ((stepE x0 x1.row x2.row).1).regs.length qw0_0) ((stepE x0 x1.row x2.row).1) ∧ RiOwn z4.heap.size z (.slice pw1_0 (Ri.mk (stepE x0 x1.row x2.row).2.1).row.length qw1_0) (Ri.mk (stepE x0 x1.row x2.row).2.1) ∧ Box z z5.heap.size #[.slice pw0_0 ((stepE x0 x1.row x2.row).1).regs.length qw0_0, .int .i64 ((stepE x0 x1.row x2.row).1).pc, .int .i64 ((stepE x0 x1.row x2.row).1).process] 24 ∧ CoC y1.heap.size z [.slice o4_0 k4_0 c4_0, .int .i64 x0.pc, .int .i64 x0.process] x0 ∧ CoSh y1.heap.size z6.heap.size z (.slice o4_0 k4_0 c4_0) x0 ∧ Box z z6.heap.size #[.slice o4_0 k4_0 c4_0, .int .i64 x0.pc, .int .i64 x0.process] 24 ∧ RiC y2.heap.size z [.slice o5_0 k5_0 c5_0] x1 ∧ RiSh y2.heap.size z7.heap.size z (.slice o5_0 k5_0 c5_0) x1 ∧ RiC z7.heap.size z [.slice o6_0 k6_0 c6_0] x2 ∧ RiSh z7.heap.size z8.heap.size z (.slice o6_0 k6_0 c6_0) x2 ∧ CoOwn z8.heap.size z (.slice pg0_0 ((stepE x0 x1.row x2.row).1).regs.length qg0_0) ((stepE x0 x1.row x2.row).1) ∧ RiOwn z8.heap.size z (.slice pg1_0 (Ri.mk (stepE x0 x1.row x2.row).2.1).row.length qg1_0) (Ri.mk (stepE x0 x1.row x2.row).2.1) ∧ Box z z9.heap.size #[.slice pg0_0 ((stepE x0 x1.row x2.row).1).regs.length qg0_0, .int .i64 ((stepE x0 x1.row x2.row).1).pc, .int .i64 ((stepE x0 x1.row x2.row).1).process] 24))) (first | exact K0.out | exact KP.out _ _ (by assumption) hb7)
    (first
      | (go_at_call 14; refine (toCore_any x0 _ _ (HW0.out.stays ((KV.out _ (by assumption)).1)).a0 HN0.out.l0).mono ?_; rintro e w7 ⟨oo0, kk0, cc0, rfl, hc7, hb7⟩; have P7 := hide hc7.at; clear hc7)
      | (go_at_call 9; refine (eqCore_same x0 _ _ _ (((KV.out _ (by assumption)).2.2.2.2.2.1)).at.a0 P7.out.a0 HN0.out.l0).mono ?_; rintro e z12 ⟨rfl, hb7⟩))
  obtain ⟨f0, f1, f2, f3, f4, f5, f6, f7, f8, f9, f10, f11, f12, f13, f14⟩ := KV.out z12 (by assumption)
  clear KT KC KV KP K0
  have HB_36 := hide f0
  have BA0_36 := hide f1
  have WO0_36 := hide f2
  have WO1_36 := hide f3
  have BW0_36 := hide f4
  have XC4_36 := hide f5
  have XS0_36 := hide f6
  have BX0_36 := hide f7
  have XC5_36 := hide f8
  have XS1_36 := hide f9
  have XC6_36 := hide f10
  have XS2_36 := hide f11
  have GO0_36 := hide f12
  have GO1_36 := hide f13
  have BG0_36 := hide f14
  clear f0 f1 f2 f3 f4 f5 f6 f7 f8 f9 f10 f11 f12 f13 f14
  have c_BA0_0 := Lib.cell_of_heap BA0_36.out 0
  simp at c_BA0_0
  have c_BA0_1 := Lib.cell_of_heap BA0_36.out 1
  simp at c_BA0_1
  have c_BA0_2 := Lib.cell_of_heap BA0_36.out 2
  simp at c_BA0_2
  have c_BW0_0 := Lib.cell_of_heap BW0_36.out 0
  simp at c_BW0_0
  have c_BW0_1 := Lib.cell_of_heap BW0_36.out 1
  simp at c_BW0_1
  have c_BW0_2 := Lib.cell_of_heap BW0_36.out 2
  simp at c_BW0_2
  have c_BX0_0 := Lib.cell_of_heap BX0_36.out 0
  simp at c_BX0_0
  have c_BX0_1 := Lib.cell_of_heap BX0_36.out 1
  simp at c_BX0_1
  have c_BX0_2 := Lib.cell_of_heap BX0_36.out 2
  simp at c_BX0_2
  have c_BG0_0 := Lib.cell_of_heap BG0_36.out 0
  simp at c_BG0_0
  have c_BG0_1 := Lib.cell_of_heap BG0_36.out 1
  simp at c_BG0_1
  have c_BG0_2 := Lib.cell_of_heap BG0_36.out 2
  simp at c_BG0_2
  go_wp2_with fail
  clear c_BA0_0 c_BA0_1 c_BA0_2 c_BW0_0 c_BW0_1 c_BW0_2 c_BX0_0 c_BX0_1 c_BX0_2 c_BG0_0 c_BG0_1 c_BG0_2
  refine (toIntSR_any x1 _ _ (HW1.out.stays HB_36.out).a0 HN1.out.l0).mono ?_
  rintro e z13 ⟨o7_0, k7_0, c7_0, rfl, hc7, hb7⟩
  have SZ16 : Hid (z12.heap.size ≤ z13.heap.size) := hb7.size
  have HB_37 := hide (HB_36.out.trans (hb7.mono HB_36.out.size))
  clear HB_36
  have BA0_37 := hide (BA0_36.out.stays hb7)
  clear BA0_36
  have WO0_37 := hide (WO0_36.out.stays hb7)
  clear WO0_36
  have WO1_37 := hide (WO1_36.out.stays hb7)
  clear WO1_36
  have BW0_37 := hide (BW0_36.out.stays hb7)
  clear BW0_36
  have XC4_37 := hide (XC4_36.out.stays hb7)
  clear XC4_36
  have XS0_37 := hide (XS0_36.out.stays hb7)
  clear XS0_36
  have BX0_37 := hide (BX0_36.out.stays hb7)
  clear BX0_36
  have XC5_37 := hide (XC5_36.out.stays hb7)
  clear XC5_36
  have XS1_37 := hide (XS1_36.out.stays hb7)
  clear XS1_36
  have XC6_37 := hide (XC6_36.out.stays hb7)
  clear XC6_36
  have XS2_37 := hide (XS2_36.out.stays hb7)
  clear XS2_36
  have GO0_37 := hide (GO0_36.out.stays hb7)
  clear GO0_36
  have GO1_37 := hide (GO1_36.out.stays hb7)
  clear GO1_36
  have BG0_37 := hide (BG0_36.out.stays hb7)
  clear BG0_36
  have XC7_38 := hide (hc7)
  clear hc7 hb7
  go_wp2_with fail
  refine (eqIntSR_same x1 _ _ _ (XC5_37.out).at.a0 (XC7_38.out).at.a0 HN1.out.l0).mono ?_
  rintro e z14 ⟨rfl, hbp39⟩
  have SZ17 : Hid (z13.heap.size ≤ z14.heap.size) := hbp39.size
  have HB_40 := hide (HB_37.out.trans (hbp39.mono HB_37.out.size))
  clear HB_37
  have BA0_40 := hide (BA0_37.out.stays hbp39)
  clear BA0_37
  have WO0_40 := hide (WO0_37.out.stays hbp39)
  clear WO0_37
  have WO1_40 := hide (WO1_37.out.stays hbp39)
  clear WO1_37
  have BW0_40 := hide (BW0_37.out.stays hbp39)
  clear BW0_37
  have XC4_40 := hide (XC4_37.out.stays hbp39)
  clear XC4_37
  have XS0_40 := hide (XS0_37.out.stays hbp39)
  clear XS0_37
  have BX0_40 := hide (BX0_37.out.stays hbp39)
  clear BX0_37
  have XC5_40 := hide (XC5_37.out.stays hbp39)
  clear XC5_37
  have XS1_40 := hide (XS1_37.out.stays hbp39)
  clear XS1_37
  have XC6_40 := hide (XC6_37.out.stays hbp39)
  clear XC6_37
  have XS2_40 := hide (XS2_37.out.stays hbp39)
  clear XS2_37
  have GO0_40 := hide (GO0_37.out.stays hbp39)
  clear GO0_37
  have GO1_40 := hide (GO1_37.out.stays hbp39)
  clear GO1_37
  have BG0_40 := hide (BG0_37.out.stays hbp39)
  clear BG0_37
  have XC7_40 := hide (XC7_38.out.stays hbp39)
  clear XC7_38
  clear hbp39
  clear XC7_40
  have c_BA0_0 := Lib.cell_of_heap BA0_40.out 0
  simp at c_BA0_0
  have c_BA0_1 := Lib.cell_of_heap BA0_40.out 1
  simp at c_BA0_1
  have c_BA0_2 := Lib.cell_of_heap BA0_40.out 2
  simp at c_BA0_2
  have c_BW0_0 := Lib.cell_of_heap BW0_40.out 0
  simp at c_BW0_0
  have c_BW0_1 := Lib.cell_of_heap BW0_40.out 1
  simp at c_BW0_1
  have c_BW0_2 := Lib.cell_of_heap BW0_40.out 2
  simp at c_BW0_2
  have c_BX0_0 := Lib.cell_of_heap BX0_40.out 0
  simp at c_BX0_0
  have c_BX0_1 := Lib.cell_of_heap BX0_40.out 1
  simp at c_BX0_1
  have c_BX0_2 := Lib.cell_of_heap BX0_40.out 2
  simp at c_BX0_2
  have c_BG0_0 := Lib.cell_of_heap BG0_40.out 0
  simp at c_BG0_0
  have c_BG0_1 := Lib.cell_of_heap BG0_40.out 1
  simp at c_BG0_1
  have c_BG0_2 := Lib.cell_of_heap BG0_40.out 2
  simp at c_BG0_2
  go_wp2_with fail
  clear c_BA0_0 c_BA0_1 c_BA0_2 c_BW0_0 c_BW0_1 c_BW0_2 c_BX0_0 c_BX0_1 c_BX0_2 c_BG0_0 c_BG0_1 c_BG0_2
  refine (toIntSR_any x2 _ _ (HW2.out.stays HB_40.out).a0 HN2.out.l0).mono ?_
  rintro e z15 ⟨o8_0, k8_0, c8_0, rfl, hc8, hb8⟩
  have SZ18 : Hid (z14.heap.size ≤ z15.heap.size) := hb8.size
  have HB_41 := hide (HB_40.out.trans (hb8.mono HB_40.out.size))
  clear HB_40
  have BA0_41 := hide (BA0_40.out.stays hb8)
  clear BA0_40
  have WO0_41 := hide (WO0_40.out.stays hb8)
  clear WO0_40
  have WO1_41 := hide (WO1_40.out.stays hb8)
  clear WO1_40
  have BW0_41 := hide (BW0_40.out.stays hb8)
  clear BW0_40
  have XC4_41 := hide (XC4_40.out.stays hb8)
  clear XC4_40
  have XS0_41 := hide (XS0_40.out.stays hb8)
  clear XS0_40
  have BX0_41 := hide (BX0_40.out.stays hb8)
  clear BX0_40
  have XC5_41 := hide (XC5_40.out.stays hb8)
  clear XC5_40
  have XS1_41 := hide (XS1_40.out.stays hb8)
  clear XS1_40
  have XC6_41 := hide (XC6_40.out.stays hb8)
  clear XC6_40
  have XS2_41 := hide (XS2_40.out.stays hb8)
  clear XS2_40
  have GO0_41 := hide (GO0_40.out.stays hb8)
  clear GO0_40
  have GO1_41 := hide (GO1_40.out.stays hb8)
  clear GO1_40
  have BG0_41 := hide (BG0_40.out.stays hb8)
  clear BG0_40
  have XC8_42 := hide (hc8)
  clear hc8 hb8
  go_wp2_with fail
  refine (eqIntSR_same x2 _ _ _ (XC6_41.out).at.a0 (XC8_42.out).at.a0 HN2.out.l0).mono ?_
  rintro e z16 ⟨rfl, hbp43⟩
  have SZ19 : Hid (z15.heap.size ≤ z16.heap.size) := hbp43.size
  have HB_44 := hide (HB_41.out.trans (hbp43.mono HB_41.out.size))
  clear HB_41
  have BA0_44 := hide (BA0_41.out.stays hbp43)
  clear BA0_41
  have WO0_44 := hide (WO0_41.out.stays hbp43)
  clear WO0_41
  have WO1_44 := hide (WO1_41.out.stays hbp43)
  clear WO1_41
  have BW0_44 := hide (BW0_41.out.stays hbp43)
  clear BW0_41
  have XC4_44 := hide (XC4_41.out.stays hbp43)
  clear XC4_41
  have XS0_44 := hide (XS0_41.out.stays hbp43)
  clear XS0_41
  have BX0_44 := hide (BX0_41.out.stays hbp43)
  clear BX0_41
  have XC5_44 := hide (XC5_41.out.stays hbp43)
  clear XC5_41
  have XS1_44 := hide (XS1_41.out.stays hbp43)
  clear XS1_41
  have XC6_44 := hide (XC6_41.out.stays hbp43)
  clear XC6_41
  have XS2_44 := hide (XS2_41.out.stays hbp43)
  clear XS2_41
  have GO0_44 := hide (GO0_41.out.stays hbp43)
  clear GO0_41
  have GO1_44 := hide (GO1_41.out.stays hbp43)
  clear GO1_41
  have BG0_44 := hide (BG0_41.out.stays hbp43)
  clear BG0_41
  have XC8_44 := hide (XC8_42.out.stays hbp43)
  clear XC8_42
  clear hbp43
  clear XC8_44
  have c_BA0_0 := Lib.cell_of_heap BA0_44.out 0
  simp at c_BA0_0
  have c_BA0_1 := Lib.cell_of_heap BA0_44.out 1
  simp at c_BA0_1
  have c_BA0_2 := Lib.cell_of_heap BA0_44.out 2
  simp at c_BA0_2
  have c_BW0_0 := Lib.cell_of_heap BW0_44.out 0
  simp at c_BW0_0
  have c_BW0_1 := Lib.cell_of_heap BW0_44.out 1
  simp at c_BW0_1
  have c_BW0_2 := Lib.cell_of_heap BW0_44.out 2
  simp at c_BW0_2
  have c_BX0_0 := Lib.cell_of_heap BX0_44.out 0
  simp at c_BX0_0
  have c_BX0_1 := Lib.cell_of_heap BX0_44.out 1
  simp at c_BX0_1
  have c_BX0_2 := Lib.cell_of_heap BX0_44.out 2
  simp at c_BX0_2
  have c_BG0_0 := Lib.cell_of_heap BG0_44.out 0
  simp at c_BG0_0
  have c_BG0_1 := Lib.cell_of_heap BG0_44.out 1
  simp at c_BG0_1
  have c_BG0_2 := Lib.cell_of_heap BG0_44.out 2
  simp at c_BG0_2
  go_wp2_with fail
  clear c_BA0_0 c_BA0_1 c_BA0_2 c_BW0_0 c_BW0_1 c_BW0_2 c_BX0_0 c_BX0_1 c_BX0_2 c_BG0_0 c_BG0_1 c_BG0_2
  refine (turnCore_any (B := y1.heap.size) (T := z6.heap.size) _ _ _ _ _ XS0_44.out.s0 HN0.out.l0 (by have := SZ1.out; have := SZ2.out; have := SZ3.out; have := SZ4.out; have := SZ5.out; have := SZ6.out; have := SZ7.out; have := SZ8.out; have := SZ9.out; have := SZ10.out; have := SZ11.out; have := SZ12.out; have := SZ13.out; have := SZ14.out; have := SZ15.out; have := SZ16.out; have := SZ17.out; have := SZ18.out; have := SZ19.out; have := BX0_44.out.lt; omega) (by have := SZ1.out; have := SZ2.out; have := SZ3.out; have := SZ4.out; have := SZ5.out; have := SZ6.out; have := SZ7.out; have := SZ8.out; have := SZ9.out; have := SZ10.out; have := SZ11.out; have := SZ12.out; have := SZ13.out; have := SZ14.out; have := SZ15.out; have := SZ16.out; have := SZ17.out; have := SZ18.out; have := SZ19.out; have := BX0_44.out.lt; omega) (by omega) (by omega)).mono ?_
  rintro e z17 ⟨kx0, rfl, hka0, hkb0, ht0⟩
  have HB_45 : Hid (Below w.heap.size w z17) := HB_44.out.trans (ht0.bel.mono (by have := SZ1.out; have := SZ2.out; have := SZ3.out; have := SZ4.out; have := SZ5.out; have := SZ6.out; have := SZ7.out; have := SZ8.out; have := SZ9.out; have := SZ10.out; have := SZ11.out; have := SZ12.out; have := SZ13.out; have := SZ14.out; have := SZ15.out; have := SZ16.out; have := SZ17.out; have := SZ18.out; have := SZ19.out; omega))
  clear HB_44
  have BA0_45 : Hid (Box z17 (w.heap.size) #[.slice a0_0 x0.regs.length b0_0, .int .i64 x0.pc, .int .i64 x0.process] 29) := (ht0.bel.block _ (by have := SZ1.out; have := SZ2.out; have := SZ3.out; have := SZ4.out; have := SZ5.out; have := SZ6.out; have := SZ7.out; have := SZ8.out; have := SZ9.out; have := SZ10.out; have := SZ11.out; have := SZ12.out; have := SZ13.out; have := SZ14.out; have := SZ15.out; have := SZ16.out; have := SZ17.out; have := SZ18.out; have := SZ19.out; omega)).trans BA0_44.out
  clear BA0_44
  have WO0_45 : Hid (CoOwn z4.heap.size z17 (.slice pw0_0 ((stepE x0 x1.row x2.row).1).regs.length qw0_0) ((stepE x0 x1.row x2.row).1)) := WO0_44.out.low ht0.bel (fun i hi => by have := WL0.out i hi; have := SZ1.out; have := SZ2.out; have := SZ3.out; have := SZ4.out; have := SZ5.out; have := SZ6.out; have := SZ7.out; have := SZ8.out; have := SZ9.out; have := SZ10.out; have := SZ11.out; have := SZ12.out; have := SZ13.out; have := SZ14.out; have := SZ15.out; have := SZ16.out; have := SZ17.out; have := SZ18.out; have := SZ19.out; omega)
  clear WO0_44
  have WO1_45 : Hid (RiOwn z4.heap.size z17 (.slice pw1_0 (Ri.mk (stepE x0 x1.row x2.row).2.1).row.length qw1_0) (Ri.mk (stepE x0 x1.row x2.row).2.1)) := WO1_44.out.low ht0.bel (fun i hi => by have := WL1.out i hi; have := SZ1.out; have := SZ2.out; have := SZ3.out; have := SZ4.out; have := SZ5.out; have := SZ6.out; have := SZ7.out; have := SZ8.out; have := SZ9.out; have := SZ10.out; have := SZ11.out; have := SZ12.out; have := SZ13.out; have := SZ14.out; have := SZ15.out; have := SZ16.out; have := SZ17.out; have := SZ18.out; have := SZ19.out; omega)
  clear WO1_44
  have BW0_45 : Hid (Box z17 z5.heap.size #[.slice pw0_0 ((stepE x0 x1.row x2.row).1).regs.length qw0_0, .int .i64 ((stepE x0 x1.row x2.row).1).pc, .int .i64 ((stepE x0 x1.row x2.row).1).process] 24) := (ht0.bel.block _ (by have := SZ1.out; have := SZ2.out; have := SZ3.out; have := SZ4.out; have := SZ5.out; have := SZ6.out; have := SZ7.out; have := SZ8.out; have := SZ9.out; have := SZ10.out; have := SZ11.out; have := SZ12.out; have := SZ13.out; have := SZ14.out; have := SZ15.out; have := SZ16.out; have := SZ17.out; have := SZ18.out; have := SZ19.out; omega)).trans BW0_44.out
  clear BW0_44
  clear XC4_44
  clear XS0_44
  have BX0_45 : Hid (Box z17 z6.heap.size #[.slice o4_0 k4_0 c4_0, .int .i64 x0.pc, .int .i64 x0.process] 24) := (ht0.out _ (by have := SZ1.out; have := SZ2.out; have := SZ3.out; have := SZ4.out; have := SZ5.out; have := SZ6.out; have := SZ7.out; have := SZ8.out; have := SZ9.out; have := SZ10.out; have := SZ11.out; have := SZ12.out; have := SZ13.out; have := SZ14.out; have := SZ15.out; have := SZ16.out; have := SZ17.out; have := SZ18.out; have := SZ19.out; omega) BX0_44.out.lt).trans BX0_44.out
  clear BX0_44
  clear XC5_44
  have XS1_45 : Hid (RiSh y2.heap.size z7.heap.size z17 (.slice o5_0 k5_0 c5_0) x1) := XS1_44.out.turn ht0
  clear XS1_44
  clear XC6_44
  have XS2_45 : Hid (RiSh z7.heap.size z8.heap.size z17 (.slice o6_0 k6_0 c6_0) x2) := XS2_44.out.turn ht0
  clear XS2_44
  have GO0_45 : Hid (CoOwn z8.heap.size z17 (.slice pg0_0 ((stepE x0 x1.row x2.row).1).regs.length qg0_0) ((stepE x0 x1.row x2.row).1)) := GO0_44.out.turn ht0 (by have := SZ1.out; have := SZ2.out; have := SZ3.out; have := SZ4.out; have := SZ5.out; have := SZ6.out; have := SZ7.out; have := SZ8.out; have := SZ9.out; have := SZ10.out; have := SZ11.out; have := SZ12.out; have := SZ13.out; have := SZ14.out; have := SZ15.out; have := SZ16.out; have := SZ17.out; have := SZ18.out; have := SZ19.out; omega)
  clear GO0_44
  have GO1_45 : Hid (RiOwn z8.heap.size z17 (.slice pg1_0 (Ri.mk (stepE x0 x1.row x2.row).2.1).row.length qg1_0) (Ri.mk (stepE x0 x1.row x2.row).2.1)) := GO1_44.out.turn ht0 (by have := SZ1.out; have := SZ2.out; have := SZ3.out; have := SZ4.out; have := SZ5.out; have := SZ6.out; have := SZ7.out; have := SZ8.out; have := SZ9.out; have := SZ10.out; have := SZ11.out; have := SZ12.out; have := SZ13.out; have := SZ14.out; have := SZ15.out; have := SZ16.out; have := SZ17.out; have := SZ18.out; have := SZ19.out; omega)
  clear GO1_44
  have BG0_45 : Hid (Box z17 z9.heap.size #[.slice pg0_0 ((stepE x0 x1.row x2.row).1).regs.length qg0_0, .int .i64 ((stepE x0 x1.row x2.row).1).pc, .int .i64 ((stepE x0 x1.row x2.row).1).process] 24) := (ht0.out _ (by have := SZ1.out; have := SZ2.out; have := SZ3.out; have := SZ4.out; have := SZ5.out; have := SZ6.out; have := SZ7.out; have := SZ8.out; have := SZ9.out; have := SZ10.out; have := SZ11.out; have := SZ12.out; have := SZ13.out; have := SZ14.out; have := SZ15.out; have := SZ16.out; have := SZ17.out; have := SZ18.out; have := SZ19.out; omega) BG0_44.out.lt).trans BG0_44.out
  clear BG0_44
  clear ht0
  have hkn0 : ¬ kx0 < 0 := by omega
  have c_BA0_0 := Lib.cell_of_heap BA0_45.out 0
  simp at c_BA0_0
  have c_BA0_1 := Lib.cell_of_heap BA0_45.out 1
  simp at c_BA0_1
  have c_BA0_2 := Lib.cell_of_heap BA0_45.out 2
  simp at c_BA0_2
  have c_BW0_0 := Lib.cell_of_heap BW0_45.out 0
  simp at c_BW0_0
  have c_BW0_1 := Lib.cell_of_heap BW0_45.out 1
  simp at c_BW0_1
  have c_BW0_2 := Lib.cell_of_heap BW0_45.out 2
  simp at c_BW0_2
  have c_BX0_0 := Lib.cell_of_heap BX0_45.out 0
  simp at c_BX0_0
  have c_BX0_1 := Lib.cell_of_heap BX0_45.out 1
  simp at c_BX0_1
  have c_BX0_2 := Lib.cell_of_heap BX0_45.out 2
  simp at c_BX0_2
  have c_BG0_0 := Lib.cell_of_heap BG0_45.out 0
  simp at c_BG0_0
  have c_BG0_1 := Lib.cell_of_heap BG0_45.out 1
  simp at c_BG0_1
  have c_BG0_2 := Lib.cell_of_heap BG0_45.out 2
  simp at c_BG0_2
  go_wp2_with fail
  clear c_BA0_0 c_BA0_1 c_BA0_2 c_BW0_0 c_BW0_1 c_BW0_2 c_BX0_0 c_BX0_1 c_BX0_2 c_BG0_0 c_BG0_1 c_BG0_2
  refine (turnIntSR_any (B := y2.heap.size) (T := z7.heap.size) _ _ _ XS1_45.out.s0 HN1.out.l0 (by have := SZ1.out; have := SZ2.out; have := SZ3.out; have := SZ4.out; have := SZ5.out; have := SZ6.out; have := SZ7.out; have := SZ8.out; have := SZ9.out; have := SZ10.out; have := SZ11.out; have := SZ12.out; have := SZ13.out; have := SZ14.out; have := SZ15.out; have := SZ16.out; have := SZ17.out; have := SZ18.out; have := SZ19.out; have := BG0_45.out.lt; omega) (by have := SZ1.out; have := SZ2.out; have := SZ3.out; have := SZ4.out; have := SZ5.out; have := SZ6.out; have := SZ7.out; have := SZ8.out; have := SZ9.out; have := SZ10.out; have := SZ11.out; have := SZ12.out; have := SZ13.out; have := SZ14.out; have := SZ15.out; have := SZ16.out; have := SZ17.out; have := SZ18.out; have := SZ19.out; have := BG0_45.out.lt; omega) (by omega) (by omega)).mono ?_
  rintro e z18 ⟨kx1, rfl, hka1, hkb1, ht1⟩
  have HB_46 : Hid (Below w.heap.size w z18) := HB_45.out.trans (ht1.bel.mono (by have := SZ1.out; have := SZ2.out; have := SZ3.out; have := SZ4.out; have := SZ5.out; have := SZ6.out; have := SZ7.out; have := SZ8.out; have := SZ9.out; have := SZ10.out; have := SZ11.out; have := SZ12.out; have := SZ13.out; have := SZ14.out; have := SZ15.out; have := SZ16.out; have := SZ17.out; have := SZ18.out; have := SZ19.out; omega))
  clear HB_45
  have BA0_46 : Hid (Box z18 (w.heap.size) #[.slice a0_0 x0.regs.length b0_0, .int .i64 x0.pc, .int .i64 x0.process] 29) := (ht1.bel.block _ (by have := SZ1.out; have := SZ2.out; have := SZ3.out; have := SZ4.out; have := SZ5.out; have := SZ6.out; have := SZ7.out; have := SZ8.out; have := SZ9.out; have := SZ10.out; have := SZ11.out; have := SZ12.out; have := SZ13.out; have := SZ14.out; have := SZ15.out; have := SZ16.out; have := SZ17.out; have := SZ18.out; have := SZ19.out; omega)).trans BA0_45.out
  clear BA0_45
  have WO0_46 : Hid (CoOwn z4.heap.size z18 (.slice pw0_0 ((stepE x0 x1.row x2.row).1).regs.length qw0_0) ((stepE x0 x1.row x2.row).1)) := WO0_45.out.low ht1.bel (fun i hi => by have := WL0.out i hi; have := SZ1.out; have := SZ2.out; have := SZ3.out; have := SZ4.out; have := SZ5.out; have := SZ6.out; have := SZ7.out; have := SZ8.out; have := SZ9.out; have := SZ10.out; have := SZ11.out; have := SZ12.out; have := SZ13.out; have := SZ14.out; have := SZ15.out; have := SZ16.out; have := SZ17.out; have := SZ18.out; have := SZ19.out; omega)
  clear WO0_45
  have WO1_46 : Hid (RiOwn z4.heap.size z18 (.slice pw1_0 (Ri.mk (stepE x0 x1.row x2.row).2.1).row.length qw1_0) (Ri.mk (stepE x0 x1.row x2.row).2.1)) := WO1_45.out.low ht1.bel (fun i hi => by have := WL1.out i hi; have := SZ1.out; have := SZ2.out; have := SZ3.out; have := SZ4.out; have := SZ5.out; have := SZ6.out; have := SZ7.out; have := SZ8.out; have := SZ9.out; have := SZ10.out; have := SZ11.out; have := SZ12.out; have := SZ13.out; have := SZ14.out; have := SZ15.out; have := SZ16.out; have := SZ17.out; have := SZ18.out; have := SZ19.out; omega)
  clear WO1_45
  have BW0_46 : Hid (Box z18 z5.heap.size #[.slice pw0_0 ((stepE x0 x1.row x2.row).1).regs.length qw0_0, .int .i64 ((stepE x0 x1.row x2.row).1).pc, .int .i64 ((stepE x0 x1.row x2.row).1).process] 24) := (ht1.bel.block _ (by have := SZ1.out; have := SZ2.out; have := SZ3.out; have := SZ4.out; have := SZ5.out; have := SZ6.out; have := SZ7.out; have := SZ8.out; have := SZ9.out; have := SZ10.out; have := SZ11.out; have := SZ12.out; have := SZ13.out; have := SZ14.out; have := SZ15.out; have := SZ16.out; have := SZ17.out; have := SZ18.out; have := SZ19.out; omega)).trans BW0_45.out
  clear BW0_45
  have BX0_46 : Hid (Box z18 z6.heap.size #[.slice o4_0 k4_0 c4_0, .int .i64 x0.pc, .int .i64 x0.process] 24) := (ht1.bel.block _ (by have := SZ1.out; have := SZ2.out; have := SZ3.out; have := SZ4.out; have := SZ5.out; have := SZ6.out; have := SZ7.out; have := SZ8.out; have := SZ9.out; have := SZ10.out; have := SZ11.out; have := SZ12.out; have := SZ13.out; have := SZ14.out; have := SZ15.out; have := SZ16.out; have := SZ17.out; have := SZ18.out; have := SZ19.out; omega)).trans BX0_45.out
  clear BX0_45
  clear XS1_45
  have XS2_46 : Hid (RiSh z7.heap.size z8.heap.size z18 (.slice o6_0 k6_0 c6_0) x2) := XS2_45.out.turn ht1
  clear XS2_45
  have GO0_46 : Hid (CoOwn z8.heap.size z18 (.slice pg0_0 ((stepE x0 x1.row x2.row).1).regs.length qg0_0) ((stepE x0 x1.row x2.row).1)) := GO0_45.out.turn ht1 (by have := SZ1.out; have := SZ2.out; have := SZ3.out; have := SZ4.out; have := SZ5.out; have := SZ6.out; have := SZ7.out; have := SZ8.out; have := SZ9.out; have := SZ10.out; have := SZ11.out; have := SZ12.out; have := SZ13.out; have := SZ14.out; have := SZ15.out; have := SZ16.out; have := SZ17.out; have := SZ18.out; have := SZ19.out; omega)
  clear GO0_45
  have GO1_46 : Hid (RiOwn z8.heap.size z18 (.slice pg1_0 (Ri.mk (stepE x0 x1.row x2.row).2.1).row.length qg1_0) (Ri.mk (stepE x0 x1.row x2.row).2.1)) := GO1_45.out.turn ht1 (by have := SZ1.out; have := SZ2.out; have := SZ3.out; have := SZ4.out; have := SZ5.out; have := SZ6.out; have := SZ7.out; have := SZ8.out; have := SZ9.out; have := SZ10.out; have := SZ11.out; have := SZ12.out; have := SZ13.out; have := SZ14.out; have := SZ15.out; have := SZ16.out; have := SZ17.out; have := SZ18.out; have := SZ19.out; omega)
  clear GO1_45
  have BG0_46 : Hid (Box z18 z9.heap.size #[.slice pg0_0 ((stepE x0 x1.row x2.row).1).regs.length qg0_0, .int .i64 ((stepE x0 x1.row x2.row).1).pc, .int .i64 ((stepE x0 x1.row x2.row).1).process] 24) := (ht1.out _ (by have := SZ1.out; have := SZ2.out; have := SZ3.out; have := SZ4.out; have := SZ5.out; have := SZ6.out; have := SZ7.out; have := SZ8.out; have := SZ9.out; have := SZ10.out; have := SZ11.out; have := SZ12.out; have := SZ13.out; have := SZ14.out; have := SZ15.out; have := SZ16.out; have := SZ17.out; have := SZ18.out; have := SZ19.out; omega) BG0_45.out.lt).trans BG0_45.out
  clear BG0_45
  clear ht1
  have hkn1 : ¬ kx1 < 0 := by omega
  have c_BA0_0 := Lib.cell_of_heap BA0_46.out 0
  simp at c_BA0_0
  have c_BA0_1 := Lib.cell_of_heap BA0_46.out 1
  simp at c_BA0_1
  have c_BA0_2 := Lib.cell_of_heap BA0_46.out 2
  simp at c_BA0_2
  have c_BW0_0 := Lib.cell_of_heap BW0_46.out 0
  simp at c_BW0_0
  have c_BW0_1 := Lib.cell_of_heap BW0_46.out 1
  simp at c_BW0_1
  have c_BW0_2 := Lib.cell_of_heap BW0_46.out 2
  simp at c_BW0_2
  have c_BX0_0 := Lib.cell_of_heap BX0_46.out 0
  simp at c_BX0_0
  have c_BX0_1 := Lib.cell_of_heap BX0_46.out 1
  simp at c_BX0_1
  have c_BX0_2 := Lib.cell_of_heap BX0_46.out 2
  simp at c_BX0_2
  have c_BG0_0 := Lib.cell_of_heap BG0_46.out 0
  simp at c_BG0_0
  have c_BG0_1 := Lib.cell_of_heap BG0_46.out 1
  simp at c_BG0_1
  have c_BG0_2 := Lib.cell_of_heap BG0_46.out 2
  simp at c_BG0_2
  go_wp2_with fail
  clear c_BA0_0 c_BA0_1 c_BA0_2 c_BW0_0 c_BW0_1 c_BW0_2 c_BX0_0 c_BX0_1 c_BX0_2 c_BG0_0 c_BG0_1 c_BG0_2
  refine (turnIntSR_any (B := z7.heap.size) (T := z8.heap.size) _ _ _ XS2_46.out.s0 HN2.out.l0 (by have := SZ1.out; have := SZ2.out; have := SZ3.out; have := SZ4.out; have := SZ5.out; have := SZ6.out; have := SZ7.out; have := SZ8.out; have := SZ9.out; have := SZ10.out; have := SZ11.out; have := SZ12.out; have := SZ13.out; have := SZ14.out; have := SZ15.out; have := SZ16.out; have := SZ17.out; have := SZ18.out; have := SZ19.out; have := BG0_46.out.lt; omega) (by have := SZ1.out; have := SZ2.out; have := SZ3.out; have := SZ4.out; have := SZ5.out; have := SZ6.out; have := SZ7.out; have := SZ8.out; have := SZ9.out; have := SZ10.out; have := SZ11.out; have := SZ12.out; have := SZ13.out; have := SZ14.out; have := SZ15.out; have := SZ16.out; have := SZ17.out; have := SZ18.out; have := SZ19.out; have := BG0_46.out.lt; omega) (by omega) (by omega)).mono ?_
  rintro e z19 ⟨kx2, rfl, hka2, hkb2, ht2⟩
  have HB_47 : Hid (Below w.heap.size w z19) := HB_46.out.trans (ht2.bel.mono (by have := SZ1.out; have := SZ2.out; have := SZ3.out; have := SZ4.out; have := SZ5.out; have := SZ6.out; have := SZ7.out; have := SZ8.out; have := SZ9.out; have := SZ10.out; have := SZ11.out; have := SZ12.out; have := SZ13.out; have := SZ14.out; have := SZ15.out; have := SZ16.out; have := SZ17.out; have := SZ18.out; have := SZ19.out; omega))
  clear HB_46
  have BA0_47 : Hid (Box z19 (w.heap.size) #[.slice a0_0 x0.regs.length b0_0, .int .i64 x0.pc, .int .i64 x0.process] 29) := (ht2.bel.block _ (by have := SZ1.out; have := SZ2.out; have := SZ3.out; have := SZ4.out; have := SZ5.out; have := SZ6.out; have := SZ7.out; have := SZ8.out; have := SZ9.out; have := SZ10.out; have := SZ11.out; have := SZ12.out; have := SZ13.out; have := SZ14.out; have := SZ15.out; have := SZ16.out; have := SZ17.out; have := SZ18.out; have := SZ19.out; omega)).trans BA0_46.out
  clear BA0_46
  have WO0_47 : Hid (CoOwn z4.heap.size z19 (.slice pw0_0 ((stepE x0 x1.row x2.row).1).regs.length qw0_0) ((stepE x0 x1.row x2.row).1)) := WO0_46.out.low ht2.bel (fun i hi => by have := WL0.out i hi; have := SZ1.out; have := SZ2.out; have := SZ3.out; have := SZ4.out; have := SZ5.out; have := SZ6.out; have := SZ7.out; have := SZ8.out; have := SZ9.out; have := SZ10.out; have := SZ11.out; have := SZ12.out; have := SZ13.out; have := SZ14.out; have := SZ15.out; have := SZ16.out; have := SZ17.out; have := SZ18.out; have := SZ19.out; omega)
  clear WO0_46
  have WO1_47 : Hid (RiOwn z4.heap.size z19 (.slice pw1_0 (Ri.mk (stepE x0 x1.row x2.row).2.1).row.length qw1_0) (Ri.mk (stepE x0 x1.row x2.row).2.1)) := WO1_46.out.low ht2.bel (fun i hi => by have := WL1.out i hi; have := SZ1.out; have := SZ2.out; have := SZ3.out; have := SZ4.out; have := SZ5.out; have := SZ6.out; have := SZ7.out; have := SZ8.out; have := SZ9.out; have := SZ10.out; have := SZ11.out; have := SZ12.out; have := SZ13.out; have := SZ14.out; have := SZ15.out; have := SZ16.out; have := SZ17.out; have := SZ18.out; have := SZ19.out; omega)
  clear WO1_46
  have BW0_47 : Hid (Box z19 z5.heap.size #[.slice pw0_0 ((stepE x0 x1.row x2.row).1).regs.length qw0_0, .int .i64 ((stepE x0 x1.row x2.row).1).pc, .int .i64 ((stepE x0 x1.row x2.row).1).process] 24) := (ht2.bel.block _ (by have := SZ1.out; have := SZ2.out; have := SZ3.out; have := SZ4.out; have := SZ5.out; have := SZ6.out; have := SZ7.out; have := SZ8.out; have := SZ9.out; have := SZ10.out; have := SZ11.out; have := SZ12.out; have := SZ13.out; have := SZ14.out; have := SZ15.out; have := SZ16.out; have := SZ17.out; have := SZ18.out; have := SZ19.out; omega)).trans BW0_46.out
  clear BW0_46
  have BX0_47 : Hid (Box z19 z6.heap.size #[.slice o4_0 k4_0 c4_0, .int .i64 x0.pc, .int .i64 x0.process] 24) := (ht2.bel.block _ (by have := SZ1.out; have := SZ2.out; have := SZ3.out; have := SZ4.out; have := SZ5.out; have := SZ6.out; have := SZ7.out; have := SZ8.out; have := SZ9.out; have := SZ10.out; have := SZ11.out; have := SZ12.out; have := SZ13.out; have := SZ14.out; have := SZ15.out; have := SZ16.out; have := SZ17.out; have := SZ18.out; have := SZ19.out; omega)).trans BX0_46.out
  clear BX0_46
  clear XS2_46
  have GO0_47 : Hid (CoOwn z8.heap.size z19 (.slice pg0_0 ((stepE x0 x1.row x2.row).1).regs.length qg0_0) ((stepE x0 x1.row x2.row).1)) := GO0_46.out.turn ht2 (by have := SZ1.out; have := SZ2.out; have := SZ3.out; have := SZ4.out; have := SZ5.out; have := SZ6.out; have := SZ7.out; have := SZ8.out; have := SZ9.out; have := SZ10.out; have := SZ11.out; have := SZ12.out; have := SZ13.out; have := SZ14.out; have := SZ15.out; have := SZ16.out; have := SZ17.out; have := SZ18.out; have := SZ19.out; omega)
  clear GO0_46
  have GO1_47 : Hid (RiOwn z8.heap.size z19 (.slice pg1_0 (Ri.mk (stepE x0 x1.row x2.row).2.1).row.length qg1_0) (Ri.mk (stepE x0 x1.row x2.row).2.1)) := GO1_46.out.turn ht2 (by have := SZ1.out; have := SZ2.out; have := SZ3.out; have := SZ4.out; have := SZ5.out; have := SZ6.out; have := SZ7.out; have := SZ8.out; have := SZ9.out; have := SZ10.out; have := SZ11.out; have := SZ12.out; have := SZ13.out; have := SZ14.out; have := SZ15.out; have := SZ16.out; have := SZ17.out; have := SZ18.out; have := SZ19.out; omega)
  clear GO1_46
  have BG0_47 : Hid (Box z19 z9.heap.size #[.slice pg0_0 ((stepE x0 x1.row x2.row).1).regs.length qg0_0, .int .i64 ((stepE x0 x1.row x2.row).1).pc, .int .i64 ((stepE x0 x1.row x2.row).1).process] 24) := (ht2.out _ (by have := SZ1.out; have := SZ2.out; have := SZ3.out; have := SZ4.out; have := SZ5.out; have := SZ6.out; have := SZ7.out; have := SZ8.out; have := SZ9.out; have := SZ10.out; have := SZ11.out; have := SZ12.out; have := SZ13.out; have := SZ14.out; have := SZ15.out; have := SZ16.out; have := SZ17.out; have := SZ18.out; have := SZ19.out; omega) BG0_46.out.lt).trans BG0_46.out
  clear BG0_46
  clear ht2
  have hkn2 : ¬ kx2 < 0 := by omega
  have c_BA0_0 := Lib.cell_of_heap BA0_47.out 0
  simp at c_BA0_0
  have c_BA0_1 := Lib.cell_of_heap BA0_47.out 1
  simp at c_BA0_1
  have c_BA0_2 := Lib.cell_of_heap BA0_47.out 2
  simp at c_BA0_2
  have c_BW0_0 := Lib.cell_of_heap BW0_47.out 0
  simp at c_BW0_0
  have c_BW0_1 := Lib.cell_of_heap BW0_47.out 1
  simp at c_BW0_1
  have c_BW0_2 := Lib.cell_of_heap BW0_47.out 2
  simp at c_BW0_2
  have c_BX0_0 := Lib.cell_of_heap BX0_47.out 0
  simp at c_BX0_0
  have c_BX0_1 := Lib.cell_of_heap BX0_47.out 1
  simp at c_BX0_1
  have c_BX0_2 := Lib.cell_of_heap BX0_47.out 2
  simp at c_BX0_2
  have c_BG0_0 := Lib.cell_of_heap BG0_47.out 0
  simp at c_BG0_0
  have c_BG0_1 := Lib.cell_of_heap BG0_47.out 1
  simp at c_BG0_1
  have c_BG0_2 := Lib.cell_of_heap BG0_47.out 2
  simp at c_BG0_2
  go_wp2_with fail
  clear c_BA0_0 c_BA0_1 c_BA0_2 c_BW0_0 c_BW0_1 c_BW0_2 c_BX0_0 c_BX0_1 c_BX0_2 c_BG0_0 c_BG0_1 c_BG0_2
  refine (eqCore_same ((stepE x0 x1.row x2.row).1) _ _ _ (GO0_47.out).at.a0 (WO0_47.out).at.a0 HL0.out.l0).mono ?_
  rintro e z20 ⟨rfl, hbe48⟩
  have SZ20 : Hid (z19.heap.size ≤ z20.heap.size) := hbe48.size
  have HB_49 := hide (HB_47.out.trans (hbe48.mono HB_47.out.size))
  clear HB_47
  have BA0_49 := hide (BA0_47.out.stays hbe48)
  clear BA0_47
  have WO0_49 := hide (WO0_47.out.stays hbe48)
  clear WO0_47
  have WO1_49 := hide (WO1_47.out.stays hbe48)
  clear WO1_47
  have BW0_49 := hide (BW0_47.out.stays hbe48)
  clear BW0_47
  have BX0_49 := hide (BX0_47.out.stays hbe48)
  clear BX0_47
  have GO0_49 := hide (GO0_47.out.stays hbe48)
  clear GO0_47
  have GO1_49 := hide (GO1_47.out.stays hbe48)
  clear GO1_47
  have BG0_49 := hide (BG0_47.out.stays hbe48)
  clear BG0_47
  clear hbe48
  have c_BA0_0 := Lib.cell_of_heap BA0_49.out 0
  simp at c_BA0_0
  have c_BA0_1 := Lib.cell_of_heap BA0_49.out 1
  simp at c_BA0_1
  have c_BA0_2 := Lib.cell_of_heap BA0_49.out 2
  simp at c_BA0_2
  have c_BW0_0 := Lib.cell_of_heap BW0_49.out 0
  simp at c_BW0_0
  have c_BW0_1 := Lib.cell_of_heap BW0_49.out 1
  simp at c_BW0_1
  have c_BW0_2 := Lib.cell_of_heap BW0_49.out 2
  simp at c_BW0_2
  have c_BX0_0 := Lib.cell_of_heap BX0_49.out 0
  simp at c_BX0_0
  have c_BX0_1 := Lib.cell_of_heap BX0_49.out 1
  simp at c_BX0_1
  have c_BX0_2 := Lib.cell_of_heap BX0_49.out 2
  simp at c_BX0_2
  have c_BG0_0 := Lib.cell_of_heap BG0_49.out 0
  simp at c_BG0_0
  have c_BG0_1 := Lib.cell_of_heap BG0_49.out 1
  simp at c_BG0_1
  have c_BG0_2 := Lib.cell_of_heap BG0_49.out 2
  simp at c_BG0_2
  go_wp2_with fail
  clear c_BA0_0 c_BA0_1 c_BA0_2 c_BW0_0 c_BW0_1 c_BW0_2 c_BX0_0 c_BX0_1 c_BX0_2 c_BG0_0 c_BG0_1 c_BG0_2
  refine (eqIntSR_same (Ri.mk (stepE x0 x1.row x2.row).2.1) _ _ _ (GO1_49.out).at.a0 (WO1_49.out).at.a0 HL1.out.l0).mono ?_
  rintro e z21 ⟨rfl, hbe50⟩
  have SZ21 : Hid (z20.heap.size ≤ z21.heap.size) := hbe50.size
  have HB_51 := hide (HB_49.out.trans (hbe50.mono HB_49.out.size))
  clear HB_49
  have BA0_51 := hide (BA0_49.out.stays hbe50)
  clear BA0_49
  have WO0_51 := hide (WO0_49.out.stays hbe50)
  clear WO0_49
  have WO1_51 := hide (WO1_49.out.stays hbe50)
  clear WO1_49
  have BW0_51 := hide (BW0_49.out.stays hbe50)
  clear BW0_49
  have BX0_51 := hide (BX0_49.out.stays hbe50)
  clear BX0_49
  have GO0_51 := hide (GO0_49.out.stays hbe50)
  clear GO0_49
  have GO1_51 := hide (GO1_49.out.stays hbe50)
  clear GO1_49
  have BG0_51 := hide (BG0_49.out.stays hbe50)
  clear BG0_49
  clear hbe50
  have c_BA0_0 := Lib.cell_of_heap BA0_51.out 0
  simp at c_BA0_0
  have c_BA0_1 := Lib.cell_of_heap BA0_51.out 1
  simp at c_BA0_1
  have c_BA0_2 := Lib.cell_of_heap BA0_51.out 2
  simp at c_BA0_2
  have c_BW0_0 := Lib.cell_of_heap BW0_51.out 0
  simp at c_BW0_0
  have c_BW0_1 := Lib.cell_of_heap BW0_51.out 1
  simp at c_BW0_1
  have c_BW0_2 := Lib.cell_of_heap BW0_51.out 2
  simp at c_BW0_2
  have c_BX0_0 := Lib.cell_of_heap BX0_51.out 0
  simp at c_BX0_0
  have c_BX0_1 := Lib.cell_of_heap BX0_51.out 1
  simp at c_BX0_1
  have c_BX0_2 := Lib.cell_of_heap BX0_51.out 2
  simp at c_BX0_2
  have c_BG0_0 := Lib.cell_of_heap BG0_51.out 0
  simp at c_BG0_0
  have c_BG0_1 := Lib.cell_of_heap BG0_51.out 1
  simp at c_BG0_1
  have c_BG0_2 := Lib.cell_of_heap BG0_51.out 2
  simp at c_BG0_2
  go_wp2_with fail
  clear c_BA0_0 c_BA0_1 c_BA0_2 c_BW0_0 c_BW0_1 c_BW0_2 c_BX0_0 c_BX0_1 c_BX0_2 c_BG0_0 c_BG0_1 c_BG0_2
  refine (markCore_any _ _ _ ((stepE x0 x1.row x2.row).1) _ GO0_51.out _ rfl (by have := SZ1.out; have := SZ2.out; have := SZ3.out; have := SZ4.out; have := SZ5.out; have := SZ6.out; have := SZ7.out; have := SZ8.out; have := SZ9.out; have := SZ10.out; have := SZ11.out; have := SZ12.out; have := SZ13.out; have := SZ14.out; have := SZ15.out; have := SZ16.out; have := SZ17.out; have := SZ18.out; have := SZ19.out; have := SZ20.out; have := SZ21.out; have := BG0_51.out.lt; omega) HL0.out.l0).mono ?_
  rintro e z22 ⟨rfl, hhd, hbm, hot⟩
  have HB_52 : Hid (Below w.heap.size w z22) := HB_51.out.trans (hbm.mono (by have := SZ1.out; have := SZ2.out; have := SZ3.out; have := SZ4.out; have := SZ5.out; have := SZ6.out; have := SZ7.out; have := SZ8.out; have := SZ9.out; have := SZ10.out; have := SZ11.out; have := SZ12.out; have := SZ13.out; have := SZ14.out; have := SZ15.out; have := SZ16.out; have := SZ17.out; have := SZ18.out; have := SZ19.out; have := SZ20.out; have := SZ21.out; omega))
  clear HB_51
  have BA0_52 : Hid (Box z22 (w.heap.size) #[.slice a0_0 x0.regs.length b0_0, .int .i64 x0.pc, .int .i64 x0.process] 29) := (hbm.block _ (by have := SZ1.out; have := SZ2.out; have := SZ3.out; have := SZ4.out; have := SZ5.out; have := SZ6.out; have := SZ7.out; have := SZ8.out; have := SZ9.out; have := SZ10.out; have := SZ11.out; have := SZ12.out; have := SZ13.out; have := SZ14.out; have := SZ15.out; have := SZ16.out; have := SZ17.out; have := SZ18.out; have := SZ19.out; have := SZ20.out; have := SZ21.out; omega)).trans BA0_51.out
  clear BA0_51
  have WO0_52 : Hid (CoOwn z4.heap.size z22 (.slice pw0_0 ((stepE x0 x1.row x2.row).1).regs.length qw0_0) ((stepE x0 x1.row x2.row).1)) := WO0_51.out.low hbm (fun i hi => by have := WL0.out i hi; have := SZ1.out; have := SZ2.out; have := SZ3.out; have := SZ4.out; have := SZ5.out; have := SZ6.out; have := SZ7.out; have := SZ8.out; have := SZ9.out; have := SZ10.out; have := SZ11.out; have := SZ12.out; have := SZ13.out; have := SZ14.out; have := SZ15.out; have := SZ16.out; have := SZ17.out; have := SZ18.out; have := SZ19.out; have := SZ20.out; have := SZ21.out; omega)
  clear WO0_51
  have WO1_52 : Hid (RiOwn z4.heap.size z22 (.slice pw1_0 (Ri.mk (stepE x0 x1.row x2.row).2.1).row.length qw1_0) (Ri.mk (stepE x0 x1.row x2.row).2.1)) := WO1_51.out.low hbm (fun i hi => by have := WL1.out i hi; have := SZ1.out; have := SZ2.out; have := SZ3.out; have := SZ4.out; have := SZ5.out; have := SZ6.out; have := SZ7.out; have := SZ8.out; have := SZ9.out; have := SZ10.out; have := SZ11.out; have := SZ12.out; have := SZ13.out; have := SZ14.out; have := SZ15.out; have := SZ16.out; have := SZ17.out; have := SZ18.out; have := SZ19.out; have := SZ20.out; have := SZ21.out; omega)
  clear WO1_51
  have BW0_52 : Hid (Box z22 z5.heap.size #[.slice pw0_0 ((stepE x0 x1.row x2.row).1).regs.length qw0_0, .int .i64 ((stepE x0 x1.row x2.row).1).pc, .int .i64 ((stepE x0 x1.row x2.row).1).process] 24) := (hbm.block _ (by have := SZ1.out; have := SZ2.out; have := SZ3.out; have := SZ4.out; have := SZ5.out; have := SZ6.out; have := SZ7.out; have := SZ8.out; have := SZ9.out; have := SZ10.out; have := SZ11.out; have := SZ12.out; have := SZ13.out; have := SZ14.out; have := SZ15.out; have := SZ16.out; have := SZ17.out; have := SZ18.out; have := SZ19.out; have := SZ20.out; have := SZ21.out; omega)).trans BW0_51.out
  clear BW0_51
  clear BX0_51
  clear GO0_51
  have GO1_52 : Hid (RiOwn z8.heap.size z22 (.slice pg1_0 (Ri.mk (stepE x0 x1.row x2.row).2.1).row.length qg1_0) (Ri.mk (stepE x0 x1.row x2.row).2.1)) := ⟨owns_eq GO1_51.out.o0 fun i hi => hot i (GO1_51.out.o0.lt i hi).2 (fun e => APG.out i e hi)⟩
  clear GO1_51
  have BG0_52 : Hid (Box z22 z9.heap.size #[.slice pg0_0 ((stepE x0 x1.row x2.row).1).regs.length qg0_0, .int .i64 ((stepE x0 x1.row x2.row).1).pc, .int .i64 ((stepE x0 x1.row x2.row).1).process] 24) := (hot _ BG0_51.out.lt (fun e => by have := GL0.out _ e; omega)).trans BG0_51.out
  clear BG0_51
  have GH_53 := hide (hhd)
  clear hbm hot hhd
  obtain ⟨k0, ek0⟩ : ∃ k : Nat, 1 + ((stepE x0 x1.row x2.row).1).regs.length = k := ⟨_, rfl⟩
  have EK0 := hide ek0
  rw [ek0]
  have hk0 : k0 ≤ 1048577 := by have := HL0.out.l0; omega
  clear ek0
  have c_BA0_0 := Lib.cell_of_heap BA0_52.out 0
  simp at c_BA0_0
  have c_BA0_1 := Lib.cell_of_heap BA0_52.out 1
  simp at c_BA0_1
  have c_BA0_2 := Lib.cell_of_heap BA0_52.out 2
  simp at c_BA0_2
  have c_BW0_0 := Lib.cell_of_heap BW0_52.out 0
  simp at c_BW0_0
  have c_BW0_1 := Lib.cell_of_heap BW0_52.out 1
  simp at c_BW0_1
  have c_BW0_2 := Lib.cell_of_heap BW0_52.out 2
  simp at c_BW0_2
  have c_BG0_0 := Lib.cell_of_heap BG0_52.out 0
  simp at c_BG0_0
  have c_BG0_1 := Lib.cell_of_heap BG0_52.out 1
  simp at c_BG0_1
  have c_BG0_2 := Lib.cell_of_heap BG0_52.out 2
  simp at c_BG0_2
  go_wp2_with fail
  clear c_BA0_0 c_BA0_1 c_BA0_2 c_BW0_0 c_BW0_1 c_BW0_2 c_BG0_0 c_BG0_1 c_BG0_2
  refine (markIntK_any k0 (by omega) _ (Ri.mk (stepE x0 x1.row x2.row).2.1) _ GO1_52.out _ rfl HL1.out.l0).mono ?_
  rintro e z23 ⟨rfl, hhd, hbm, hot⟩
  have HB_54 : Hid (Below w.heap.size w z23) := HB_52.out.trans (hbm.mono (by have := SZ1.out; have := SZ2.out; have := SZ3.out; have := SZ4.out; have := SZ5.out; have := SZ6.out; have := SZ7.out; have := SZ8.out; have := SZ9.out; have := SZ10.out; have := SZ11.out; have := SZ12.out; have := SZ13.out; have := SZ14.out; have := SZ15.out; have := SZ16.out; have := SZ17.out; have := SZ18.out; have := SZ19.out; have := SZ20.out; have := SZ21.out; omega))
  clear HB_52
  have BA0_54 : Hid (Box z23 (w.heap.size) #[.slice a0_0 x0.regs.length b0_0, .int .i64 x0.pc, .int .i64 x0.process] 29) := (hbm.block _ (by have := SZ1.out; have := SZ2.out; have := SZ3.out; have := SZ4.out; have := SZ5.out; have := SZ6.out; have := SZ7.out; have := SZ8.out; have := SZ9.out; have := SZ10.out; have := SZ11.out; have := SZ12.out; have := SZ13.out; have := SZ14.out; have := SZ15.out; have := SZ16.out; have := SZ17.out; have := SZ18.out; have := SZ19.out; have := SZ20.out; have := SZ21.out; omega)).trans BA0_52.out
  clear BA0_52
  have WO0_54 : Hid (CoOwn z4.heap.size z23 (.slice pw0_0 ((stepE x0 x1.row x2.row).1).regs.length qw0_0) ((stepE x0 x1.row x2.row).1)) := WO0_52.out.low hbm (fun i hi => by have := WL0.out i hi; have := SZ1.out; have := SZ2.out; have := SZ3.out; have := SZ4.out; have := SZ5.out; have := SZ6.out; have := SZ7.out; have := SZ8.out; have := SZ9.out; have := SZ10.out; have := SZ11.out; have := SZ12.out; have := SZ13.out; have := SZ14.out; have := SZ15.out; have := SZ16.out; have := SZ17.out; have := SZ18.out; have := SZ19.out; have := SZ20.out; have := SZ21.out; omega)
  clear WO0_52
  have WO1_54 : Hid (RiOwn z4.heap.size z23 (.slice pw1_0 (Ri.mk (stepE x0 x1.row x2.row).2.1).row.length qw1_0) (Ri.mk (stepE x0 x1.row x2.row).2.1)) := WO1_52.out.low hbm (fun i hi => by have := WL1.out i hi; have := SZ1.out; have := SZ2.out; have := SZ3.out; have := SZ4.out; have := SZ5.out; have := SZ6.out; have := SZ7.out; have := SZ8.out; have := SZ9.out; have := SZ10.out; have := SZ11.out; have := SZ12.out; have := SZ13.out; have := SZ14.out; have := SZ15.out; have := SZ16.out; have := SZ17.out; have := SZ18.out; have := SZ19.out; have := SZ20.out; have := SZ21.out; omega)
  clear WO1_52
  have BW0_54 : Hid (Box z23 z5.heap.size #[.slice pw0_0 ((stepE x0 x1.row x2.row).1).regs.length qw0_0, .int .i64 ((stepE x0 x1.row x2.row).1).pc, .int .i64 ((stepE x0 x1.row x2.row).1).process] 24) := (hbm.block _ (by have := SZ1.out; have := SZ2.out; have := SZ3.out; have := SZ4.out; have := SZ5.out; have := SZ6.out; have := SZ7.out; have := SZ8.out; have := SZ9.out; have := SZ10.out; have := SZ11.out; have := SZ12.out; have := SZ13.out; have := SZ14.out; have := SZ15.out; have := SZ16.out; have := SZ17.out; have := SZ18.out; have := SZ19.out; have := SZ20.out; have := SZ21.out; omega)).trans BW0_52.out
  clear BW0_52
  clear GO1_52
  have BG0_54 : Hid (Box z23 z9.heap.size #[.slice pg0_0 ((stepE x0 x1.row x2.row).1).regs.length qg0_0, .int .i64 ((stepE x0 x1.row x2.row).1).pc, .int .i64 ((stepE x0 x1.row x2.row).1).process] 24) := (hot _ (fun e => by have := GL1.out _ e; omega)).trans BG0_52.out
  clear BG0_52
  have GH_54 : Hid (CoHeld z8.heap.size z23 (.slice pg0_0 ((stepE x0 x1.row x2.row).1).regs.length qg0_0) ((stepE x0 x1.row x2.row).1).regs.length) := ⟨owns_eq GH_53.out.o0 fun i hi => hot i (fun e => APG.out i hi e)⟩
  clear GH_53
  have GK_55 := hide (hhd)
  clear hbm hot hhd
  obtain ⟨tot, etot⟩ : ∃ tot : Int, ((k0 + (Ri.mk (stepE x0 x1.row x2.row).2.1).row.length : Nat) : Int) = tot := ⟨_, rfl⟩
  have htot : ¬ tot < 0 := by omega
  have ETOT := hide etot
  rw [etot]
  clear etot
  have c_BA0_0 := Lib.cell_of_heap BA0_54.out 0
  simp at c_BA0_0
  have c_BA0_1 := Lib.cell_of_heap BA0_54.out 1
  simp at c_BA0_1
  have c_BA0_2 := Lib.cell_of_heap BA0_54.out 2
  simp at c_BA0_2
  have c_BW0_0 := Lib.cell_of_heap BW0_54.out 0
  simp at c_BW0_0
  have c_BW0_1 := Lib.cell_of_heap BW0_54.out 1
  simp at c_BW0_1
  have c_BW0_2 := Lib.cell_of_heap BW0_54.out 2
  simp at c_BW0_2
  have c_BG0_0 := Lib.cell_of_heap BG0_54.out 0
  simp at c_BG0_0
  have c_BG0_1 := Lib.cell_of_heap BG0_54.out 1
  simp at c_BG0_1
  have c_BG0_2 := Lib.cell_of_heap BG0_54.out 2
  simp at c_BG0_2
  go_wp2_with fail
  clear c_BA0_0 c_BA0_1 c_BA0_2 c_BW0_0 c_BW0_1 c_BW0_2 c_BG0_0 c_BG0_1 c_BG0_2
  refine (heldCore_any _ _ _ _ _ GH_54.out HL0.out.l0).mono ?_
  rintro e z24 ⟨rfl, hbh56⟩
  have HB_57 := hide (HB_54.out.trans (hbh56.mono HB_54.out.size))
  clear HB_54
  have BA0_57 := hide (BA0_54.out.stays hbh56)
  clear BA0_54
  have WO0_57 := hide (WO0_54.out.stays hbh56)
  clear WO0_54
  have WO1_57 := hide (WO1_54.out.stays hbh56)
  clear WO1_54
  have BW0_57 := hide (BW0_54.out.stays hbh56)
  clear BW0_54
  have BG0_57 := hide (BG0_54.out.stays hbh56)
  clear BG0_54
  have GH_57 := hide (GH_54.out.stays hbh56)
  clear GH_54
  have GK_57 := hide (GK_55.out.stays hbh56)
  clear GK_55
  clear hbh56
  rw [EK0.out]
  have c_BA0_0 := Lib.cell_of_heap BA0_57.out 0
  simp at c_BA0_0
  have c_BA0_1 := Lib.cell_of_heap BA0_57.out 1
  simp at c_BA0_1
  have c_BA0_2 := Lib.cell_of_heap BA0_57.out 2
  simp at c_BA0_2
  have c_BW0_0 := Lib.cell_of_heap BW0_57.out 0
  simp at c_BW0_0
  have c_BW0_1 := Lib.cell_of_heap BW0_57.out 1
  simp at c_BW0_1
  have c_BW0_2 := Lib.cell_of_heap BW0_57.out 2
  simp at c_BW0_2
  have c_BG0_0 := Lib.cell_of_heap BG0_57.out 0
  simp at c_BG0_0
  have c_BG0_1 := Lib.cell_of_heap BG0_57.out 1
  simp at c_BG0_1
  have c_BG0_2 := Lib.cell_of_heap BG0_57.out 2
  simp at c_BG0_2
  go_wp2_with fail
  clear c_BA0_0 c_BA0_1 c_BA0_2 c_BW0_0 c_BW0_1 c_BW0_2 c_BG0_0 c_BG0_1 c_BG0_2
  refine (heldIntK_any k0 (by omega) _ _ _ GK_57.out HL1.out.l0).mono ?_
  rintro e z25 ⟨rfl, hbh58⟩
  have HB_59 := hide (HB_57.out.trans (hbh58.mono HB_57.out.size))
  clear HB_57
  have BA0_59 := hide (BA0_57.out.stays hbh58)
  clear BA0_57
  have WO0_59 := hide (WO0_57.out.stays hbh58)
  clear WO0_57
  have WO1_59 := hide (WO1_57.out.stays hbh58)
  clear WO1_57
  have BW0_59 := hide (BW0_57.out.stays hbh58)
  clear BW0_57
  have BG0_59 := hide (BG0_57.out.stays hbh58)
  clear BG0_57
  have GH_59 := hide (GH_57.out.stays hbh58)
  clear GH_57
  have GK_59 := hide (GK_57.out.stays hbh58)
  clear GK_57
  clear hbh58
  rw [ETOT.out]
  have c_BA0_0 := Lib.cell_of_heap BA0_59.out 0
  simp at c_BA0_0
  have c_BA0_1 := Lib.cell_of_heap BA0_59.out 1
  simp at c_BA0_1
  have c_BA0_2 := Lib.cell_of_heap BA0_59.out 2
  simp at c_BA0_2
  have c_BW0_0 := Lib.cell_of_heap BW0_59.out 0
  simp at c_BW0_0
  have c_BW0_1 := Lib.cell_of_heap BW0_59.out 1
  simp at c_BW0_1
  have c_BW0_2 := Lib.cell_of_heap BW0_59.out 2
  simp at c_BW0_2
  have c_BG0_0 := Lib.cell_of_heap BG0_59.out 0
  simp at c_BG0_0
  have c_BG0_1 := Lib.cell_of_heap BG0_59.out 1
  simp at c_BG0_1
  have c_BG0_2 := Lib.cell_of_heap BG0_59.out 2
  simp at c_BG0_2
  go_wp2_with fail
  clear c_BA0_0 c_BA0_1 c_BA0_2 c_BW0_0 c_BW0_1 c_BW0_2 c_BG0_0 c_BG0_1 c_BG0_2
  refine (toCore_any x0 _ _ (HW0.out.stays HB_59.out).a0 HN0.out.l0).mono ?_
  rintro e z26 ⟨o9_0, k9_0, c9_0, rfl, hc9, hb9⟩
  have SZ22 : Hid (z25.heap.size ≤ z26.heap.size) := hb9.size
  have HB_60 := hide (HB_59.out.trans (hb9.mono HB_59.out.size))
  clear HB_59
  have BA0_60 := hide (BA0_59.out.stays hb9)
  clear BA0_59
  have WO0_60 := hide (WO0_59.out.stays hb9)
  clear WO0_59
  have WO1_60 := hide (WO1_59.out.stays hb9)
  clear WO1_59
  have BW0_60 := hide (BW0_59.out.stays hb9)
  clear BW0_59
  have BG0_60 := hide (BG0_59.out.stays hb9)
  clear BG0_59
  have GH_60 := hide (GH_59.out.stays hb9)
  clear GH_59
  have GK_60 := hide (GK_59.out.stays hb9)
  clear GK_59
  have XC9_61 := hide (hc9)
  clear hc9 hb9
  go_wp2_with fail
  refine (toIntSR_any x1 _ _ (HW1.out.stays HB_60.out).a0 HN1.out.l0).mono ?_
  rintro e z27 ⟨o10_0, k10_0, c10_0, rfl, hc10, hb10⟩
  have SZ23 : Hid (z26.heap.size ≤ z27.heap.size) := hb10.size
  have HB_62 := hide (HB_60.out.trans (hb10.mono HB_60.out.size))
  clear HB_60
  have BA0_62 := hide (BA0_60.out.stays hb10)
  clear BA0_60
  have WO0_62 := hide (WO0_60.out.stays hb10)
  clear WO0_60
  have WO1_62 := hide (WO1_60.out.stays hb10)
  clear WO1_60
  have BW0_62 := hide (BW0_60.out.stays hb10)
  clear BW0_60
  have BG0_62 := hide (BG0_60.out.stays hb10)
  clear BG0_60
  have GH_62 := hide (GH_60.out.stays hb10)
  clear GH_60
  have GK_62 := hide (GK_60.out.stays hb10)
  clear GK_60
  have XC9_62 := hide (XC9_61.out.stays hb10)
  clear XC9_61
  have XC10_63 := hide (hc10)
  clear hc10 hb10
  go_wp2_with fail
  refine (toIntSR_any x2 _ _ (HW2.out.stays HB_62.out).a0 HN2.out.l0).mono ?_
  rintro e z28 ⟨o11_0, k11_0, c11_0, rfl, hc11, hb11⟩
  have SZ24 : Hid (z27.heap.size ≤ z28.heap.size) := hb11.size
  have HB_64 := hide (HB_62.out.trans (hb11.mono HB_62.out.size))
  clear HB_62
  have BA0_64 := hide (BA0_62.out.stays hb11)
  clear BA0_62
  have WO0_64 := hide (WO0_62.out.stays hb11)
  clear WO0_62
  have WO1_64 := hide (WO1_62.out.stays hb11)
  clear WO1_62
  have BW0_64 := hide (BW0_62.out.stays hb11)
  clear BW0_62
  have BG0_64 := hide (BG0_62.out.stays hb11)
  clear BG0_62
  have GH_64 := hide (GH_62.out.stays hb11)
  clear GH_62
  have GK_64 := hide (GK_62.out.stays hb11)
  clear GK_62
  have XC9_64 := hide (XC9_62.out.stays hb11)
  clear XC9_62
  have XC10_64 := hide (XC10_63.out.stays hb11)
  clear XC10_63
  have XC11_65 := hide (hc11)
  clear hc11 hb11
  go_wp2_with fail
  refine (HPI1.out _ _ _ _ _ _ _ XC9_64.out XC10_64.out XC11_65.out).mono ?_
  rintro e z29 ⟨h0_0, h1_0, rfl, hoh0, hoh1, haph, hbh⟩
  have APH := hide haph
  clear haph
  have SZ25 : Hid (z28.heap.size ≤ z29.heap.size) := hbh.size
  have HB_66 := hide (HB_64.out.trans (hbh.mono HB_64.out.size))
  clear HB_64
  have BA0_66 := hide (BA0_64.out.stays hbh)
  clear BA0_64
  have WO0_66 := hide (WO0_64.out.stays hbh)
  clear WO0_64
  have WO1_66 := hide (WO1_64.out.stays hbh)
  clear WO1_64
  have BW0_66 := hide (BW0_64.out.stays hbh)
  clear BW0_64
  have BG0_66 := hide (BG0_64.out.stays hbh)
  clear BG0_64
  have GH_66 := hide (GH_64.out.stays hbh)
  clear GH_64
  have GK_66 := hide (GK_64.out.stays hbh)
  clear GK_64
  have XC9_66 := hide (XC9_64.out.stays hbh)
  clear XC9_64
  have XC10_66 := hide (XC10_64.out.stays hbh)
  clear XC10_64
  have XC11_66 := hide (XC11_65.out.stays hbh)
  clear XC11_65
  obtain ⟨ph0_0, qh0_0, rfl⟩ := form_own hoh0.o0
  have HO0_67 := hide (hoh0)
  clear hoh0
  obtain ⟨ph1_0, qh1_0, rfl⟩ := form_own hoh1.o0
  have HO1_68 := hide (hoh1)
  clear hoh1
  clear hbh
  clear XC9_66
  clear XC10_66
  clear XC11_66
  have hba69 : Below z29.heap.size z29 (z29.alloc (.cells #[.slice ph0_0 ((stepE x0 x1.row x2.row).1).regs.length qh0_0, .int .i64 ((stepE x0 x1.row x2.row).1).pc, .int .i64 ((stepE x0 x1.row x2.row).1).process] 24)) := (Below.refl _ _).alloc (Nat.le_refl _) _
  have SZ26 : Hid ((z29.alloc (.cells #[.slice ph0_0 ((stepE x0 x1.row x2.row).1).regs.length qh0_0, .int .i64 ((stepE x0 x1.row x2.row).1).pc, .int .i64 ((stepE x0 x1.row x2.row).1).process] 24)).heap.size = z29.heap.size + 1) := by show _ = _; simp
  have HB_70 := hide (HB_66.out.trans (hba69.mono HB_66.out.size))
  clear HB_66
  have BA0_70 := hide (BA0_66.out.stays hba69)
  clear BA0_66
  have WO0_70 := hide (WO0_66.out.stays hba69)
  clear WO0_66
  have WO1_70 := hide (WO1_66.out.stays hba69)
  clear WO1_66
  have BW0_70 := hide (BW0_66.out.stays hba69)
  clear BW0_66
  have BG0_70 := hide (BG0_66.out.stays hba69)
  clear BG0_66
  have GH_70 := hide (GH_66.out.stays hba69)
  clear GH_66
  have GK_70 := hide (GK_66.out.stays hba69)
  clear GK_66
  have HO0_70 := hide (HO0_67.out.stays hba69)
  clear HO0_67
  have HO1_70 := hide (HO1_68.out.stays hba69)
  clear HO1_68
  have BH0_71 := hide (Box.made z29 #[.slice ph0_0 ((stepE x0 x1.row x2.row).1).regs.length qh0_0, .int .i64 ((stepE x0 x1.row x2.row).1).pc, .int .i64 ((stepE x0 x1.row x2.row).1).process] 24)
  clear hba69
  have c_BA0_0 := Lib.cell_of_heap BA0_70.out 0
  simp at c_BA0_0
  have c_BA0_1 := Lib.cell_of_heap BA0_70.out 1
  simp at c_BA0_1
  have c_BA0_2 := Lib.cell_of_heap BA0_70.out 2
  simp at c_BA0_2
  have c_BW0_0 := Lib.cell_of_heap BW0_70.out 0
  simp at c_BW0_0
  have c_BW0_1 := Lib.cell_of_heap BW0_70.out 1
  simp at c_BW0_1
  have c_BW0_2 := Lib.cell_of_heap BW0_70.out 2
  simp at c_BW0_2
  have c_BG0_0 := Lib.cell_of_heap BG0_70.out 0
  simp at c_BG0_0
  have c_BG0_1 := Lib.cell_of_heap BG0_70.out 1
  simp at c_BG0_1
  have c_BG0_2 := Lib.cell_of_heap BG0_70.out 2
  simp at c_BG0_2
  have c_BH0_0 := Lib.cell_of_heap BH0_71.out 0
  simp at c_BH0_0
  have c_BH0_1 := Lib.cell_of_heap BH0_71.out 1
  simp at c_BH0_1
  have c_BH0_2 := Lib.cell_of_heap BH0_71.out 2
  simp at c_BH0_2
  go_wp2_with fail
  clear c_BA0_0 c_BA0_1 c_BA0_2 c_BW0_0 c_BW0_1 c_BW0_2 c_BG0_0 c_BG0_1 c_BG0_2 c_BH0_0 c_BH0_1 c_BH0_2
  obtain ⟨y4, hy4⟩ : ∃ Z, z29.alloc (.cells #[.slice ph0_0 ((stepE x0 x1.row x2.row).1).regs.length qh0_0, .int .i64 ((stepE x0 x1.row x2.row).1).pc, .int .i64 ((stepE x0 x1.row x2.row).1).process] 24) = Z := ⟨_, rfl⟩
  rw [hy4] at HB_70 BA0_70 WO0_70 WO1_70 BW0_70 BG0_70 GH_70 GK_70 HO0_70 HO1_70 BH0_71 SZ26 ⊢
  clear hy4
  refine (eqCore_same ((stepE x0 x1.row x2.row).1) _ _ _ (HO0_70.out).at.a0 (WO0_70.out).at.a0 HL0.out.l0).mono ?_
  rintro e z30 ⟨rfl, hbe72⟩
  have SZ27 : Hid (y4.heap.size ≤ z30.heap.size) := hbe72.size
  have HB_73 := hide (HB_70.out.trans (hbe72.mono HB_70.out.size))
  clear HB_70
  have BA0_73 := hide (BA0_70.out.stays hbe72)
  clear BA0_70
  have WO0_73 := hide (WO0_70.out.stays hbe72)
  clear WO0_70
  have WO1_73 := hide (WO1_70.out.stays hbe72)
  clear WO1_70
  have BW0_73 := hide (BW0_70.out.stays hbe72)
  clear BW0_70
  have BG0_73 := hide (BG0_70.out.stays hbe72)
  clear BG0_70
  have GH_73 := hide (GH_70.out.stays hbe72)
  clear GH_70
  have GK_73 := hide (GK_70.out.stays hbe72)
  clear GK_70
  have HO0_73 := hide (HO0_70.out.stays hbe72)
  clear HO0_70
  have HO1_73 := hide (HO1_70.out.stays hbe72)
  clear HO1_70
  have BH0_73 := hide (BH0_71.out.stays hbe72)
  clear BH0_71
  clear hbe72
  have c_BA0_0 := Lib.cell_of_heap BA0_73.out 0
  simp at c_BA0_0
  have c_BA0_1 := Lib.cell_of_heap BA0_73.out 1
  simp at c_BA0_1
  have c_BA0_2 := Lib.cell_of_heap BA0_73.out 2
  simp at c_BA0_2
  have c_BW0_0 := Lib.cell_of_heap BW0_73.out 0
  simp at c_BW0_0
  have c_BW0_1 := Lib.cell_of_heap BW0_73.out 1
  simp at c_BW0_1
  have c_BW0_2 := Lib.cell_of_heap BW0_73.out 2
  simp at c_BW0_2
  have c_BG0_0 := Lib.cell_of_heap BG0_73.out 0
  simp at c_BG0_0
  have c_BG0_1 := Lib.cell_of_heap BG0_73.out 1
  simp at c_BG0_1
  have c_BG0_2 := Lib.cell_of_heap BG0_73.out 2
  simp at c_BG0_2
  have c_BH0_0 := Lib.cell_of_heap BH0_73.out 0
  simp at c_BH0_0
  have c_BH0_1 := Lib.cell_of_heap BH0_73.out 1
  simp at c_BH0_1
  have c_BH0_2 := Lib.cell_of_heap BH0_73.out 2
  simp at c_BH0_2
  go_wp2_with fail
  clear c_BA0_0 c_BA0_1 c_BA0_2 c_BW0_0 c_BW0_1 c_BW0_2 c_BG0_0 c_BG0_1 c_BG0_2 c_BH0_0 c_BH0_1 c_BH0_2
  refine (eqIntSR_same (Ri.mk (stepE x0 x1.row x2.row).2.1) _ _ _ (HO1_73.out).at.a0 (WO1_73.out).at.a0 HL1.out.l0).mono ?_
  rintro e z31 ⟨rfl, hbe74⟩
  have SZ28 : Hid (z30.heap.size ≤ z31.heap.size) := hbe74.size
  have HB_75 := hide (HB_73.out.trans (hbe74.mono HB_73.out.size))
  clear HB_73
  have BA0_75 := hide (BA0_73.out.stays hbe74)
  clear BA0_73
  have WO0_75 := hide (WO0_73.out.stays hbe74)
  clear WO0_73
  have WO1_75 := hide (WO1_73.out.stays hbe74)
  clear WO1_73
  have BW0_75 := hide (BW0_73.out.stays hbe74)
  clear BW0_73
  have BG0_75 := hide (BG0_73.out.stays hbe74)
  clear BG0_73
  have GH_75 := hide (GH_73.out.stays hbe74)
  clear GH_73
  have GK_75 := hide (GK_73.out.stays hbe74)
  clear GK_73
  have HO0_75 := hide (HO0_73.out.stays hbe74)
  clear HO0_73
  have HO1_75 := hide (HO1_73.out.stays hbe74)
  clear HO1_73
  have BH0_75 := hide (BH0_73.out.stays hbe74)
  clear BH0_73
  clear hbe74
  have c_BA0_0 := Lib.cell_of_heap BA0_75.out 0
  simp at c_BA0_0
  have c_BA0_1 := Lib.cell_of_heap BA0_75.out 1
  simp at c_BA0_1
  have c_BA0_2 := Lib.cell_of_heap BA0_75.out 2
  simp at c_BA0_2
  have c_BW0_0 := Lib.cell_of_heap BW0_75.out 0
  simp at c_BW0_0
  have c_BW0_1 := Lib.cell_of_heap BW0_75.out 1
  simp at c_BW0_1
  have c_BW0_2 := Lib.cell_of_heap BW0_75.out 2
  simp at c_BW0_2
  have c_BG0_0 := Lib.cell_of_heap BG0_75.out 0
  simp at c_BG0_0
  have c_BG0_1 := Lib.cell_of_heap BG0_75.out 1
  simp at c_BG0_1
  have c_BG0_2 := Lib.cell_of_heap BG0_75.out 2
  simp at c_BG0_2
  have c_BH0_0 := Lib.cell_of_heap BH0_75.out 0
  simp at c_BH0_0
  have c_BH0_1 := Lib.cell_of_heap BH0_75.out 1
  simp at c_BH0_1
  have c_BH0_2 := Lib.cell_of_heap BH0_75.out 2
  simp at c_BH0_2
  clear c_BA0_0 c_BA0_1 c_BA0_2 c_BW0_0 c_BW0_1 c_BW0_2 c_BG0_0 c_BG0_1 c_BG0_2 c_BH0_0 c_BH0_1 c_BH0_2
  have c_BA0_0 := Lib.cell_of_heap BA0_75.out 0
  simp at c_BA0_0
  have c_BA0_1 := Lib.cell_of_heap BA0_75.out 1
  simp at c_BA0_1
  have c_BA0_2 := Lib.cell_of_heap BA0_75.out 2
  simp at c_BA0_2
  have c_BW0_0 := Lib.cell_of_heap BW0_75.out 0
  simp at c_BW0_0
  have c_BW0_1 := Lib.cell_of_heap BW0_75.out 1
  simp at c_BW0_1
  have c_BW0_2 := Lib.cell_of_heap BW0_75.out 2
  simp at c_BW0_2
  have c_BG0_0 := Lib.cell_of_heap BG0_75.out 0
  simp at c_BG0_0
  have c_BG0_1 := Lib.cell_of_heap BG0_75.out 1
  simp at c_BG0_1
  have c_BG0_2 := Lib.cell_of_heap BG0_75.out 2
  simp at c_BG0_2
  have c_BH0_0 := Lib.cell_of_heap BH0_75.out 0
  simp at c_BH0_0
  have c_BH0_1 := Lib.cell_of_heap BH0_75.out 1
  simp at c_BH0_1
  have c_BH0_2 := Lib.cell_of_heap BH0_75.out 2
  simp at c_BH0_2
  go_wp2_with fail
  clear c_BA0_0 c_BA0_1 c_BA0_2 c_BW0_0 c_BW0_1 c_BW0_2 c_BG0_0 c_BG0_1 c_BG0_2 c_BH0_0 c_BH0_1 c_BH0_2
  refine (heldCore_any _ _ _ _ _ GH_75.out HL0.out.l0).mono ?_
  rintro e z32 ⟨rfl, hbh76⟩
  have HB_77 := hide (HB_75.out.trans (hbh76.mono HB_75.out.size))
  clear HB_75
  have BA0_77 := hide (BA0_75.out.stays hbh76)
  clear BA0_75
  have WO0_77 := hide (WO0_75.out.stays hbh76)
  clear WO0_75
  have WO1_77 := hide (WO1_75.out.stays hbh76)
  clear WO1_75
  have BW0_77 := hide (BW0_75.out.stays hbh76)
  clear BW0_75
  have BG0_77 := hide (BG0_75.out.stays hbh76)
  clear BG0_75
  have GH_77 := hide (GH_75.out.stays hbh76)
  clear GH_75
  have GK_77 := hide (GK_75.out.stays hbh76)
  clear GK_75
  have HO0_77 := hide (HO0_75.out.stays hbh76)
  clear HO0_75
  have HO1_77 := hide (HO1_75.out.stays hbh76)
  clear HO1_75
  have BH0_77 := hide (BH0_75.out.stays hbh76)
  clear BH0_75
  clear hbh76
  rw [EK0.out]
  have c_BA0_0 := Lib.cell_of_heap BA0_77.out 0
  simp at c_BA0_0
  have c_BA0_1 := Lib.cell_of_heap BA0_77.out 1
  simp at c_BA0_1
  have c_BA0_2 := Lib.cell_of_heap BA0_77.out 2
  simp at c_BA0_2
  have c_BW0_0 := Lib.cell_of_heap BW0_77.out 0
  simp at c_BW0_0
  have c_BW0_1 := Lib.cell_of_heap BW0_77.out 1
  simp at c_BW0_1
  have c_BW0_2 := Lib.cell_of_heap BW0_77.out 2
  simp at c_BW0_2
  have c_BG0_0 := Lib.cell_of_heap BG0_77.out 0
  simp at c_BG0_0
  have c_BG0_1 := Lib.cell_of_heap BG0_77.out 1
  simp at c_BG0_1
  have c_BG0_2 := Lib.cell_of_heap BG0_77.out 2
  simp at c_BG0_2
  have c_BH0_0 := Lib.cell_of_heap BH0_77.out 0
  simp at c_BH0_0
  have c_BH0_1 := Lib.cell_of_heap BH0_77.out 1
  simp at c_BH0_1
  have c_BH0_2 := Lib.cell_of_heap BH0_77.out 2
  simp at c_BH0_2
  go_wp2_with fail
  clear c_BA0_0 c_BA0_1 c_BA0_2 c_BW0_0 c_BW0_1 c_BW0_2 c_BG0_0 c_BG0_1 c_BG0_2 c_BH0_0 c_BH0_1 c_BH0_2
  refine (heldIntK_any k0 (by omega) _ _ _ GK_77.out HL1.out.l0).mono ?_
  rintro e z33 ⟨rfl, hbh78⟩
  have HB_79 := hide (HB_77.out.trans (hbh78.mono HB_77.out.size))
  clear HB_77
  have BA0_79 := hide (BA0_77.out.stays hbh78)
  clear BA0_77
  have WO0_79 := hide (WO0_77.out.stays hbh78)
  clear WO0_77
  have WO1_79 := hide (WO1_77.out.stays hbh78)
  clear WO1_77
  have BW0_79 := hide (BW0_77.out.stays hbh78)
  clear BW0_77
  have BG0_79 := hide (BG0_77.out.stays hbh78)
  clear BG0_77
  have GH_79 := hide (GH_77.out.stays hbh78)
  clear GH_77
  have GK_79 := hide (GK_77.out.stays hbh78)
  clear GK_77
  have HO0_79 := hide (HO0_77.out.stays hbh78)
  clear HO0_77
  have HO1_79 := hide (HO1_77.out.stays hbh78)
  clear HO1_77
  have BH0_79 := hide (BH0_77.out.stays hbh78)
  clear BH0_77
  clear hbh78
  rw [ETOT.out]
  go_wp2
  go_ret
  exact ⟨rfl, HB_79.out⟩
end Go.Proofs.Ytoageggcbpjlmaa
