/-
  The law of DelayIn, over what both sides answer.
-/
import Derived.Test.YtnedpcgdepiakaaGatP
import Derived.Deep.RegionHeld3
import Derived.Deep.Cut
namespace Go.Proofs.Ytnedpcgdepiakaa
open Go.RowKit

set_option maxRecDepth 100000 in
set_option maxHeartbeats 8000000 in
theorem lawDelayIn (v0_1 v0_2 : Value) (x0 : Gt) (n1 : Int) (w : World) (h0 : GtAt w v0_1 v0_2 x0) (m0 : GtMax x0)
    (SP : szGt x0 ≤ 1048576 → ∀ (v0_1 v0_2 : Value) (z : World) (b0 : Nat), GtC b0 z [.int .i64 x0.owner, v0_1, v0_2] x0 → Calls Try.prog 22 #[.agg #[.int .i64 x0.owner, v0_1, v0_2], .int .i64 n1] z fun e w' => ∃ r0_1 r0_2, e = .returned (.tuple #[.agg #[.int .i64 ((delayE x0 n1).1).owner, r0_1, r0_2], .int .i64 ((delayE x0 n1).2.1), .bool ((delayE x0 n1).2.2)]) ∧ GtOwn z.heap.size w' r0_1 r0_2 ((delayE x0 n1).1) ∧ Below z.heap.size z w')
    (IP : szGt x0 ≤ 1048576 → ∀ (v0_1 v0_2 : Value) (z : World) (b0 : Nat), GtC b0 z [.int .i64 x0.owner, v0_1, v0_2] x0 → Calls Try.prog 23 #[.agg #[.int .i64 x0.owner, v0_1, v0_2], .int .i64 n1] z fun e w' => ∃ r0_1 r0_2, e = .returned (.tuple #[.agg #[.int .i64 ((delayE x0 n1).1).owner, r0_1, r0_2], .int .i64 ((delayE x0 n1).2.1), .bool ((delayE x0 n1).2.2)]) ∧ GtOwn z.heap.size w' r0_1 r0_2 ((delayE x0 n1).1) ∧ Below z.heap.size z w')
    (LP0 : szGt x0 ≤ 1048576 → GtLen ((delayE x0 n1).1)) :
    Calls Try.prog 7 #[.agg #[.int .i64 x0.owner, v0_1, v0_2], .int .i64 n1] w fun e w' => e = .returned (.bool true) ∧ Below w.heap.size w w' := by
  have HPS := hide SP
  have HPI := hide IP
  have HLP0 := hide LP0
  clear SP IP LP0
  have HW0 := hide h0
  have HM0 := hide m0
  have HB : Hid (Below w.heap.size w (w.alloc (.cells #[.int .i64 x0.owner, v0_1, v0_2] 29))) := by show Below w.heap.size w _; go_grown
  have BA0 := hide (Box.madeAt (g := w.heap.size) (w := w) (by simp) #[.int .i64 x0.owner, v0_1, v0_2] 29)
  obtain ⟨⟨a0_1, b0_1, rfl, _⟩, ⟨a0_2, b0_2, rfl, _⟩⟩ := h0
  clear m0
  have SZ1 : Hid ((w.alloc (.cells #[.int .i64 x0.owner, .slice a0_1 x0.waits.length b0_1, .slice a0_2 x0.queues.length b0_2] 29)).heap.size = w.heap.size + 1) := by show _ = _; simp
  go_enter Try.func7, Try.ntmps7
  have c_BA0_0 := Lib.cell_of_heap BA0.out 0
  simp at c_BA0_0
  have c_BA0_1 := Lib.cell_of_heap BA0.out 1
  simp at c_BA0_1
  have c_BA0_2 := Lib.cell_of_heap BA0.out 2
  simp at c_BA0_2
  go_wp2_with fail
  clear c_BA0_0 c_BA0_1 c_BA0_2
  obtain ⟨y0, hy0⟩ : ∃ Z, w.alloc (.cells #[.int .i64 x0.owner, .slice a0_1 x0.waits.length b0_1, .slice a0_2 x0.queues.length b0_2] 29) = Z := ⟨_, rfl⟩
  rw [hy0] at HB BA0 SZ1 ⊢
  clear hy0
  refine (szGate_any x0 _ _ _ _ (by omega) (by omega) (HW0.out.stays HB.out).a1 (HW0.out.stays HB.out).a2 HM0.out).mono ?_
  rintro e z1 ⟨r0, rfl, hr0, hb0⟩
  have SZ2 : Hid (y0.heap.size ≤ z1.heap.size) := hb0.size
  have HB_1 := hide (HB.out.trans (hb0.mono HB.out.size))
  clear HB
  have BA0_1 := hide (BA0.out.stays hb0)
  clear BA0
  clear hb0
  have c_BA0_0 := Lib.cell_of_heap BA0_1.out 0
  simp at c_BA0_0
  have c_BA0_1 := Lib.cell_of_heap BA0_1.out 1
  simp at c_BA0_1
  have c_BA0_2 := Lib.cell_of_heap BA0_1.out 2
  simp at c_BA0_2
  by_cases hn0 : r0 < 0
  · clear hr0
    go_wp2
    go_ret
    exact ⟨rfl, HB_1.out⟩
  obtain ⟨hp0, hq0⟩ := hr0.resolve_left hn0
  have HQ0 := hide hq0
  have hq0b : r0 ≤ 1048576 := by omega
  clear hq0 hr0
  have HSZ : Hid (szGt x0 ≤ 1048576) := by
    show _ ≤ _
    have := HQ0.out
    omega
  have HPS1 := hide (HPS.out HSZ.out)
  have HPI1 := hide (HPI.out HSZ.out)
  have HL0 := hide (HLP0.out HSZ.out)
  have HN0 : Hid (GtLen x0) := szGt_len (by have := HSZ.out; omega)
  go_wp2_with fail
  clear c_BA0_0 c_BA0_1 c_BA0_2
  refine (toGate_any x0 _ _ _ (HW0.out.stays HB_1.out).a1 (HW0.out.stays HB_1.out).a2 HN0.out.l1 HN0.out.l2).mono ?_
  rintro e z2 ⟨o1_1, k1_1, c1_1, o1_2, k1_2, c1_2, rfl, hc1, hb1⟩
  have SZ3 : Hid (z1.heap.size ≤ z2.heap.size) := hb1.size
  have HB_2 := hide (HB_1.out.trans (hb1.mono HB_1.out.size))
  clear HB_1
  have BA0_2 := hide (BA0_1.out.stays hb1)
  clear BA0_1
  have XC1_3 := hide (hc1)
  clear hc1 hb1
  go_wp2_with fail
  refine (HPS1.out _ _ _ _ XC1_3.out).mono ?_
  rintro e z3 ⟨w0_1, w0_2, rfl, how0, hbw⟩
  have SZ4 : Hid (z2.heap.size ≤ z3.heap.size) := hbw.size
  have HB_4 := hide (HB_2.out.trans (hbw.mono HB_2.out.size))
  clear HB_2
  have BA0_4 := hide (BA0_2.out.stays hbw)
  clear BA0_2
  have XC1_4 := hide (XC1_3.out.stays hbw)
  clear XC1_3
  obtain ⟨pw0_1, qw0_1, rfl⟩ := form_own how0.o1
  obtain ⟨pw0_2, qw0_2, rfl⟩ := form_own how0.o2
  have WO0_5 := hide (how0)
  clear how0
  clear hbw
  have WL0 := hide (WO0_5.out).lt
  clear XC1_4
  have hba6 : Below z3.heap.size z3 (z3.alloc (.cells #[.int .i64 ((delayE x0 n1).1).owner, .slice pw0_1 ((delayE x0 n1).1).waits.length qw0_1, .slice pw0_2 ((delayE x0 n1).1).queues.length qw0_2] 24)) := (Below.refl _ _).alloc (Nat.le_refl _) _
  have SZ5 : Hid ((z3.alloc (.cells #[.int .i64 ((delayE x0 n1).1).owner, .slice pw0_1 ((delayE x0 n1).1).waits.length qw0_1, .slice pw0_2 ((delayE x0 n1).1).queues.length qw0_2] 24)).heap.size = z3.heap.size + 1) := by show _ = _; simp
  have HB_7 := hide (HB_4.out.trans (hba6.mono HB_4.out.size))
  clear HB_4
  have BA0_7 := hide (BA0_4.out.stays hba6)
  clear BA0_4
  have WO0_7 := hide (WO0_5.out.stays hba6)
  clear WO0_5
  have BW0_8 := hide (Box.made z3 #[.int .i64 ((delayE x0 n1).1).owner, .slice pw0_1 ((delayE x0 n1).1).waits.length qw0_1, .slice pw0_2 ((delayE x0 n1).1).queues.length qw0_2] 24)
  clear hba6
  have c_BA0_0 := Lib.cell_of_heap BA0_7.out 0
  simp at c_BA0_0
  have c_BA0_1 := Lib.cell_of_heap BA0_7.out 1
  simp at c_BA0_1
  have c_BA0_2 := Lib.cell_of_heap BA0_7.out 2
  simp at c_BA0_2
  have c_BW0_0 := Lib.cell_of_heap BW0_8.out 0
  simp at c_BW0_0
  have c_BW0_1 := Lib.cell_of_heap BW0_8.out 1
  simp at c_BW0_1
  have c_BW0_2 := Lib.cell_of_heap BW0_8.out 2
  simp at c_BW0_2
  go_wp2_with fail
  clear c_BA0_0 c_BA0_1 c_BA0_2 c_BW0_0 c_BW0_1 c_BW0_2
  obtain ⟨y1, hy1⟩ : ∃ Z, z3.alloc (.cells #[.int .i64 ((delayE x0 n1).1).owner, .slice pw0_1 ((delayE x0 n1).1).waits.length qw0_1, .slice pw0_2 ((delayE x0 n1).1).queues.length qw0_2] 24) = Z := ⟨_, rfl⟩
  rw [hy1] at HB_7 BA0_7 WO0_7 BW0_8 SZ5 ⊢
  clear hy1
  refine (toGate_any x0 _ _ _ (HW0.out.stays HB_7.out).a1 (HW0.out.stays HB_7.out).a2 HN0.out.l1 HN0.out.l2).mono ?_
  rintro e z4 ⟨o2_1, k2_1, c2_1, o2_2, k2_2, c2_2, rfl, hc2, hb2⟩
  have SZ6 : Hid (y1.heap.size ≤ z4.heap.size) := hb2.size
  have HB_9 := hide (HB_7.out.trans (hb2.mono HB_7.out.size))
  clear HB_7
  have BA0_9 := hide (BA0_7.out.stays hb2)
  clear BA0_7
  have WO0_9 := hide (WO0_7.out.stays hb2)
  clear WO0_7
  have BW0_9 := hide (BW0_8.out.stays hb2)
  clear BW0_8
  have XC2_10 := hide (hc2)
  clear hc2 hb2
  have XS0_11 := hide (XC2_10.out.sh (T := z4.heap.size) (Nat.le_refl _))
  have hba12 : Below z4.heap.size z4 (z4.alloc (.cells #[.int .i64 x0.owner, .slice o2_1 k2_1 c2_1, .slice o2_2 k2_2 c2_2] 24)) := (Below.refl _ _).alloc (Nat.le_refl _) _
  have SZ7 : Hid ((z4.alloc (.cells #[.int .i64 x0.owner, .slice o2_1 k2_1 c2_1, .slice o2_2 k2_2 c2_2] 24)).heap.size = z4.heap.size + 1) := by show _ = _; simp
  have HB_13 := hide (HB_9.out.trans (hba12.mono HB_9.out.size))
  clear HB_9
  have BA0_13 := hide (BA0_9.out.stays hba12)
  clear BA0_9
  have WO0_13 := hide (WO0_9.out.stays hba12)
  clear WO0_9
  have BW0_13 := hide (BW0_9.out.stays hba12)
  clear BW0_9
  have XC2_13 := hide (XC2_10.out.stays hba12)
  clear XC2_10
  have XS0_13 := hide (XS0_11.out.stays hba12)
  clear XS0_11
  have BX0_14 := hide (Box.made z4 #[.int .i64 x0.owner, .slice o2_1 k2_1 c2_1, .slice o2_2 k2_2 c2_2] 24)
  clear hba12
  have c_BA0_0 := Lib.cell_of_heap BA0_13.out 0
  simp at c_BA0_0
  have c_BA0_1 := Lib.cell_of_heap BA0_13.out 1
  simp at c_BA0_1
  have c_BA0_2 := Lib.cell_of_heap BA0_13.out 2
  simp at c_BA0_2
  have c_BW0_0 := Lib.cell_of_heap BW0_13.out 0
  simp at c_BW0_0
  have c_BW0_1 := Lib.cell_of_heap BW0_13.out 1
  simp at c_BW0_1
  have c_BW0_2 := Lib.cell_of_heap BW0_13.out 2
  simp at c_BW0_2
  have c_BX0_0 := Lib.cell_of_heap BX0_14.out 0
  simp at c_BX0_0
  have c_BX0_1 := Lib.cell_of_heap BX0_14.out 1
  simp at c_BX0_1
  have c_BX0_2 := Lib.cell_of_heap BX0_14.out 2
  simp at c_BX0_2
  go_wp2_with fail
  clear c_BA0_0 c_BA0_1 c_BA0_2 c_BW0_0 c_BW0_1 c_BW0_2 c_BX0_0 c_BX0_1 c_BX0_2
  obtain ⟨y2, hy2⟩ : ∃ Z, z4.alloc (.cells #[.int .i64 x0.owner, .slice o2_1 k2_1 c2_1, .slice o2_2 k2_2 c2_2] 24) = Z := ⟨_, rfl⟩
  rw [hy2] at HB_13 BA0_13 WO0_13 BW0_13 XC2_13 XS0_13 BX0_14 SZ7 ⊢
  clear hy2
  refine (HPI1.out _ _ _ _ XC2_13.out).mono ?_
  rintro e z5 ⟨g0_1, g0_2, rfl, hog0, hbg⟩
  have SZ8 : Hid (y2.heap.size ≤ z5.heap.size) := hbg.size
  have HB_15 := hide (HB_13.out.trans (hbg.mono HB_13.out.size))
  clear HB_13
  have BA0_15 := hide (BA0_13.out.stays hbg)
  clear BA0_13
  have WO0_15 := hide (WO0_13.out.stays hbg)
  clear WO0_13
  have BW0_15 := hide (BW0_13.out.stays hbg)
  clear BW0_13
  have XC2_15 := hide (XC2_13.out.stays hbg)
  clear XC2_13
  have XS0_15 := hide (XS0_13.out.stays hbg)
  clear XS0_13
  have BX0_15 := hide (BX0_14.out.stays hbg)
  clear BX0_14
  obtain ⟨pg0_1, qg0_1, rfl⟩ := form_own hog0.o1
  obtain ⟨pg0_2, qg0_2, rfl⟩ := form_own hog0.o2
  have GO0_16 := hide (hog0)
  clear hog0
  clear hbg
  have GL0 := hide (GO0_16.out).lt
  have hba17 : Below z5.heap.size z5 (z5.alloc (.cells #[.int .i64 ((delayE x0 n1).1).owner, .slice pg0_1 ((delayE x0 n1).1).waits.length qg0_1, .slice pg0_2 ((delayE x0 n1).1).queues.length qg0_2] 24)) := (Below.refl _ _).alloc (Nat.le_refl _) _
  have SZ9 : Hid ((z5.alloc (.cells #[.int .i64 ((delayE x0 n1).1).owner, .slice pg0_1 ((delayE x0 n1).1).waits.length qg0_1, .slice pg0_2 ((delayE x0 n1).1).queues.length qg0_2] 24)).heap.size = z5.heap.size + 1) := by show _ = _; simp
  have HB_18 := hide (HB_15.out.trans (hba17.mono HB_15.out.size))
  clear HB_15
  have BA0_18 := hide (BA0_15.out.stays hba17)
  clear BA0_15
  have WO0_18 := hide (WO0_15.out.stays hba17)
  clear WO0_15
  have BW0_18 := hide (BW0_15.out.stays hba17)
  clear BW0_15
  have XC2_18 := hide (XC2_15.out.stays hba17)
  clear XC2_15
  have XS0_18 := hide (XS0_15.out.stays hba17)
  clear XS0_15
  have BX0_18 := hide (BX0_15.out.stays hba17)
  clear BX0_15
  have GO0_18 := hide (GO0_16.out.stays hba17)
  clear GO0_16
  have BG0_19 := hide (Box.made z5 #[.int .i64 ((delayE x0 n1).1).owner, .slice pg0_1 ((delayE x0 n1).1).waits.length qg0_1, .slice pg0_2 ((delayE x0 n1).1).queues.length qg0_2] 24)
  clear hba17
  have c_BA0_0 := Lib.cell_of_heap BA0_18.out 0
  simp at c_BA0_0
  have c_BA0_1 := Lib.cell_of_heap BA0_18.out 1
  simp at c_BA0_1
  have c_BA0_2 := Lib.cell_of_heap BA0_18.out 2
  simp at c_BA0_2
  have c_BW0_0 := Lib.cell_of_heap BW0_18.out 0
  simp at c_BW0_0
  have c_BW0_1 := Lib.cell_of_heap BW0_18.out 1
  simp at c_BW0_1
  have c_BW0_2 := Lib.cell_of_heap BW0_18.out 2
  simp at c_BW0_2
  have c_BX0_0 := Lib.cell_of_heap BX0_18.out 0
  simp at c_BX0_0
  have c_BX0_1 := Lib.cell_of_heap BX0_18.out 1
  simp at c_BX0_1
  have c_BX0_2 := Lib.cell_of_heap BX0_18.out 2
  simp at c_BX0_2
  have c_BG0_0 := Lib.cell_of_heap BG0_19.out 0
  simp at c_BG0_0
  have c_BG0_1 := Lib.cell_of_heap BG0_19.out 1
  simp at c_BG0_1
  have c_BG0_2 := Lib.cell_of_heap BG0_19.out 2
  simp at c_BG0_2
  go_wp2_with fail
  clear c_BA0_0 c_BA0_1 c_BA0_2 c_BW0_0 c_BW0_1 c_BW0_2 c_BX0_0 c_BX0_1 c_BX0_2 c_BG0_0 c_BG0_1 c_BG0_2
  obtain ⟨y3, hy3⟩ : ∃ Z, z5.alloc (.cells #[.int .i64 ((delayE x0 n1).1).owner, .slice pg0_1 ((delayE x0 n1).1).waits.length qg0_1, .slice pg0_2 ((delayE x0 n1).1).queues.length qg0_2] 24) = Z := ⟨_, rfl⟩
  rw [hy3] at HB_18 BA0_18 WO0_18 BW0_18 XC2_18 XS0_18 BX0_18 GO0_18 BG0_19 SZ9 ⊢
  clear hy3
  refine (eqGate_same ((delayE x0 n1).1) _ _ _ _ _ (GO0_18.out).at.a1 (WO0_18.out).at.a1 (GO0_18.out).at.a2 (WO0_18.out).at.a2 HL0.out.l1 HL0.out.l2).mono ?_
  rintro e z6 ⟨rfl, hbe20⟩
  have SZ10 : Hid (y3.heap.size ≤ z6.heap.size) := hbe20.size
  have HB_21 := hide (HB_18.out.trans (hbe20.mono HB_18.out.size))
  clear HB_18
  have BA0_21 := hide (BA0_18.out.stays hbe20)
  clear BA0_18
  have WO0_21 := hide (WO0_18.out.stays hbe20)
  clear WO0_18
  have BW0_21 := hide (BW0_18.out.stays hbe20)
  clear BW0_18
  have XC2_21 := hide (XC2_18.out.stays hbe20)
  clear XC2_18
  have XS0_21 := hide (XS0_18.out.stays hbe20)
  clear XS0_18
  have BX0_21 := hide (BX0_18.out.stays hbe20)
  clear BX0_18
  have GO0_21 := hide (GO0_18.out.stays hbe20)
  clear GO0_18
  have BG0_21 := hide (BG0_19.out.stays hbe20)
  clear BG0_19
  clear hbe20
  have c_BA0_0 := Lib.cell_of_heap BA0_21.out 0
  simp at c_BA0_0
  have c_BA0_1 := Lib.cell_of_heap BA0_21.out 1
  simp at c_BA0_1
  have c_BA0_2 := Lib.cell_of_heap BA0_21.out 2
  simp at c_BA0_2
  have c_BW0_0 := Lib.cell_of_heap BW0_21.out 0
  simp at c_BW0_0
  have c_BW0_1 := Lib.cell_of_heap BW0_21.out 1
  simp at c_BW0_1
  have c_BW0_2 := Lib.cell_of_heap BW0_21.out 2
  simp at c_BW0_2
  have c_BX0_0 := Lib.cell_of_heap BX0_21.out 0
  simp at c_BX0_0
  have c_BX0_1 := Lib.cell_of_heap BX0_21.out 1
  simp at c_BX0_1
  have c_BX0_2 := Lib.cell_of_heap BX0_21.out 2
  simp at c_BX0_2
  have c_BG0_0 := Lib.cell_of_heap BG0_21.out 0
  simp at c_BG0_0
  have c_BG0_1 := Lib.cell_of_heap BG0_21.out 1
  simp at c_BG0_1
  have c_BG0_2 := Lib.cell_of_heap BG0_21.out 2
  simp at c_BG0_2
  go_wp2_with fail
  clear c_BA0_0 c_BA0_1 c_BA0_2 c_BW0_0 c_BW0_1 c_BW0_2 c_BX0_0 c_BX0_1 c_BX0_2 c_BG0_0 c_BG0_1 c_BG0_2
  have KT : Hid (∀ z z' : World, (Below w.heap.size w z ∧ Box z (w.heap.size) #[.int .i64 x0.owner, .slice a0_1 x0.waits.length b0_1, .slice a0_2 x0.queues.length b0_2] 29 ∧ GtOwn z2.heap.size z (.slice pw0_1 ((delayE x0 n1).1).waits.length qw0_1) (.slice pw0_2 ((delayE x0 n1).1).queues.length qw0_2) ((delayE x0 n1).1) ∧ Box z z3.heap.size #[.int .i64 ((delayE x0 n1).1).owner, .slice pw0_1 ((delayE x0 n1).1).waits.length qw0_1, .slice pw0_2 ((delayE x0 n1).1).queues.length qw0_2] 24 ∧ GtC y1.heap.size z [.int .i64 x0.owner, .slice o2_1 k2_1 c2_1, .slice o2_2 k2_2 c2_2] x0 ∧ GtSh y1.heap.size z4.heap.size z (.slice o2_1 k2_1 c2_1) (.slice o2_2 k2_2 c2_2) x0 ∧ Box z z4.heap.size #[.int .i64 x0.owner, .slice o2_1 k2_1 c2_1, .slice o2_2 k2_2 c2_2] 24 ∧ GtOwn y2.heap.size z (.slice pg0_1 ((delayE x0 n1).1).waits.length qg0_1) (.slice pg0_2 ((delayE x0 n1).1).queues.length qg0_2) ((delayE x0 n1).1) ∧ Box z z5.heap.size #[.int .i64 ((delayE x0 n1).1).owner, .slice pg0_1 ((delayE x0 n1).1).waits.length qg0_1, .slice pg0_2 ((delayE x0 n1).1).queues.length qg0_2] 24) → Below z.heap.size z z' → (Below w.heap.size w z' ∧ Box z' (w.heap.size) #[.int .i64 x0.owner, .slice a0_1 x0.waits.length b0_1, .slice a0_2 x0.queues.length b0_2] 29 ∧ GtOwn z2.heap.size z' (.slice pw0_1 ((delayE x0 n1).1).waits.length qw0_1) (.slice pw0_2 ((delayE x0 n1).1).queues.length qw0_2) ((delayE x0 n1).1) ∧ Box z' z3.heap.size #[.int .i64 ((delayE x0 n1).1).owner, .slice pw0_1 ((delayE x0 n1).1).waits.length qw0_1, .slice pw0_2 ((delayE x0 n1).1).queues.length qw0_2] 24 ∧ GtC y1.heap.size z' [.int .i64 x0.owner, .slice o2_1 k2_1 c2_1, .slice o2_2 k2_2 c2_2] x0 ∧ GtSh y1.heap.size z4.heap.size z' (.slice o2_1 k2_1 c2_1) (.slice o2_2 k2_2 c2_2) x0 ∧ Box z' z4.heap.size #[.int .i64 x0.owner, .slice o2_1 k2_1 c2_1, .slice o2_2 k2_2 c2_2] 24 ∧ GtOwn y2.heap.size z' (.slice pg0_1 ((delayE x0 n1).1).waits.length qg0_1) (.slice pg0_2 ((delayE x0 n1).1).queues.length qg0_2) ((delayE x0 n1).1) ∧ Box z' z5.heap.size #[.int .i64 ((delayE x0 n1).1).owner, .slice pg0_1 ((delayE x0 n1).1).waits.length qg0_1, .slice pg0_2 ((delayE x0 n1).1).queues.length qg0_2] 24)) := fun z z' hz hb => ⟨(hz.1).trans (hb.mono (hz.1).size), (hz.2.1).stays hb, (hz.2.2.1).stays hb, (hz.2.2.2.1).stays hb, (hz.2.2.2.2.1).stays hb, (hz.2.2.2.2.2.1).stays hb, (hz.2.2.2.2.2.2.1).stays hb, (hz.2.2.2.2.2.2.2.1).stays hb, (hz.2.2.2.2.2.2.2.2).stays hb⟩
  have KC : Hid (∀ z : World, (Below w.heap.size w z ∧ Box z (w.heap.size) #[.int .i64 x0.owner, .slice a0_1 x0.waits.length b0_1, .slice a0_2 x0.queues.length b0_2] 29 ∧ GtOwn z2.heap.size z (.slice pw0_1 ((delayE x0 n1).1).waits.length qw0_1) (.slice pw0_2 ((delayE x0 n1).1).queues.length qw0_2) ((delayE x0 n1).1) ∧ Box z z3.heap.size #[.int .i64 ((delayE x0 n1).1).owner, .slice pw0_1 ((delayE x0 n1).1).waits.length qw0_1, .slice pw0_2 ((delayE x0 n1).1).queues.length qw0_2] 24 ∧ GtC y1.heap.size z [.int .i64 x0.owner, .slice o2_1 k2_1 c2_1, .slice o2_2 k2_2 c2_2] x0 ∧ GtSh y1.heap.size z4.heap.size z (.slice o2_1 k2_1 c2_1) (.slice o2_2 k2_2 c2_2) x0 ∧ Box z z4.heap.size #[.int .i64 x0.owner, .slice o2_1 k2_1 c2_1, .slice o2_2 k2_2 c2_2] 24 ∧ GtOwn y2.heap.size z (.slice pg0_1 ((delayE x0 n1).1).waits.length qg0_1) (.slice pg0_2 ((delayE x0 n1).1).queues.length qg0_2) ((delayE x0 n1).1) ∧ Box z z5.heap.size #[.int .i64 ((delayE x0 n1).1).owner, .slice pg0_1 ((delayE x0 n1).1).waits.length qg0_1, .slice pg0_2 ((delayE x0 n1).1).queues.length qg0_2] 24) → (z.cell? ⟨(w.heap.size), 0, none⟩ = some (.int .i64 x0.owner) ∧ z.cell? ⟨(w.heap.size), 1, none⟩ = some (.slice a0_1 x0.waits.length b0_1) ∧ z.cell? ⟨(w.heap.size), 2, none⟩ = some (.slice a0_2 x0.queues.length b0_2) ∧ z.cell? ⟨z4.heap.size, 0, none⟩ = some (.int .i64 x0.owner) ∧ z.cell? ⟨z4.heap.size, 1, none⟩ = some (.slice o2_1 k2_1 c2_1) ∧ z.cell? ⟨z4.heap.size, 2, none⟩ = some (.slice o2_2 k2_2 c2_2) ∧ Hid ((Below w.heap.size w z ∧ Box z (w.heap.size) #[.int .i64 x0.owner, .slice a0_1 x0.waits.length b0_1, .slice a0_2 x0.queues.length b0_2] 29 ∧ GtOwn z2.heap.size z (.slice pw0_1 ((delayE x0 n1).1).waits.length qw0_1) (.slice pw0_2 ((delayE x0 n1).1).queues.length qw0_2) ((delayE x0 n1).1) ∧ Box z z3.heap.size #[.int .i64 ((delayE x0 n1).1).owner, .slice pw0_1 ((delayE x0 n1).1).waits.length qw0_1, .slice pw0_2 ((delayE x0 n1).1).queues.length qw0_2] 24 ∧ GtC y1.heap.size z [.int .i64 x0.owner, .slice o2_1 k2_1 c2_1, .slice o2_2 k2_2 c2_2] x0 ∧ GtSh y1.heap.size z4.heap.size z (.slice o2_1 k2_1 c2_1) (.slice o2_2 k2_2 c2_2) x0 ∧ Box z z4.heap.size #[.int .i64 x0.owner, .slice o2_1 k2_1 c2_1, .slice o2_2 k2_2 c2_2] 24 ∧ GtOwn y2.heap.size z (.slice pg0_1 ((delayE x0 n1).1).waits.length qg0_1) (.slice pg0_2 ((delayE x0 n1).1).queues.length qg0_2) ((delayE x0 n1).1) ∧ Box z z5.heap.size #[.int .i64 ((delayE x0 n1).1).owner, .slice pg0_1 ((delayE x0 n1).1).waits.length qg0_1, .slice pg0_2 ((delayE x0 n1).1).queues.length qg0_2] 24)))) := fun z hz => ⟨Lib.cell_of_heap (hz.2.1) 0, Lib.cell_of_heap (hz.2.1) 1, Lib.cell_of_heap (hz.2.1) 2, Lib.cell_of_heap (hz.2.2.2.2.2.2.1) 0, Lib.cell_of_heap (hz.2.2.2.2.2.2.1) 1, Lib.cell_of_heap (hz.2.2.2.2.2.2.1) 2, hz⟩
  have KV : Hid (∀ z : World, (z.cell? ⟨(w.heap.size), 0, none⟩ = some (.int .i64 x0.owner) ∧ z.cell? ⟨(w.heap.size), 1, none⟩ = some (.slice a0_1 x0.waits.length b0_1) ∧ z.cell? ⟨(w.heap.size), 2, none⟩ = some (.slice a0_2 x0.queues.length b0_2) ∧ z.cell? ⟨z4.heap.size, 0, none⟩ = some (.int .i64 x0.owner) ∧ z.cell? ⟨z4.heap.size, 1, none⟩ = some (.slice o2_1 k2_1 c2_1) ∧ z.cell? ⟨z4.heap.size, 2, none⟩ = some (.slice o2_2 k2_2 c2_2) ∧ Hid ((Below w.heap.size w z ∧ Box z (w.heap.size) #[.int .i64 x0.owner, .slice a0_1 x0.waits.length b0_1, .slice a0_2 x0.queues.length b0_2] 29 ∧ GtOwn z2.heap.size z (.slice pw0_1 ((delayE x0 n1).1).waits.length qw0_1) (.slice pw0_2 ((delayE x0 n1).1).queues.length qw0_2) ((delayE x0 n1).1) ∧ Box z z3.heap.size #[.int .i64 ((delayE x0 n1).1).owner, .slice pw0_1 ((delayE x0 n1).1).waits.length qw0_1, .slice pw0_2 ((delayE x0 n1).1).queues.length qw0_2] 24 ∧ GtC y1.heap.size z [.int .i64 x0.owner, .slice o2_1 k2_1 c2_1, .slice o2_2 k2_2 c2_2] x0 ∧ GtSh y1.heap.size z4.heap.size z (.slice o2_1 k2_1 c2_1) (.slice o2_2 k2_2 c2_2) x0 ∧ Box z z4.heap.size #[.int .i64 x0.owner, .slice o2_1 k2_1 c2_1, .slice o2_2 k2_2 c2_2] 24 ∧ GtOwn y2.heap.size z (.slice pg0_1 ((delayE x0 n1).1).waits.length qg0_1) (.slice pg0_2 ((delayE x0 n1).1).queues.length qg0_2) ((delayE x0 n1).1) ∧ Box z z5.heap.size #[.int .i64 ((delayE x0 n1).1).owner, .slice pg0_1 ((delayE x0 n1).1).waits.length qg0_1, .slice pg0_2 ((delayE x0 n1).1).queues.length qg0_2] 24))) → (Below w.heap.size w z ∧ Box z (w.heap.size) #[.int .i64 x0.owner, .slice a0_1 x0.waits.length b0_1, .slice a0_2 x0.queues.length b0_2] 29 ∧ GtOwn z2.heap.size z (.slice pw0_1 ((delayE x0 n1).1).waits.length qw0_1) (.slice pw0_2 ((delayE x0 n1).1).queues.length qw0_2) ((delayE x0 n1).1) ∧ Box z z3.heap.size #[.int .i64 ((delayE x0 n1).1).owner, .slice pw0_1 ((delayE x0 n1).1).waits.length qw0_1, .slice pw0_2 ((delayE x0 n1).1).queues.length qw0_2] 24 ∧ GtC y1.heap.size z [.int .i64 x0.owner, .slice o2_1 k2_1 c2_1, .slice o2_2 k2_2 c2_2] x0 ∧ GtSh y1.heap.size z4.heap.size z (.slice o2_1 k2_1 c2_1) (.slice o2_2 k2_2 c2_2) x0 ∧ Box z z4.heap.size #[.int .i64 x0.owner, .slice o2_1 k2_1 c2_1, .slice o2_2 k2_2 c2_2] 24 ∧ GtOwn y2.heap.size z (.slice pg0_1 ((delayE x0 n1).1).waits.length qg0_1) (.slice pg0_2 ((delayE x0 n1).1).queues.length qg0_2) ((delayE x0 n1).1) ∧ Box z z5.heap.size #[.int .i64 ((delayE x0 n1).1).owner, .slice pg0_1 ((delayE x0 n1).1).waits.length qg0_1, .slice pg0_2 ((delayE x0 n1).1).queues.length qg0_2] 24)) := fun z hz => hz.2.2.2.2.2.2.out
  have KP : Hid (∀ z z' : World, (z.cell? ⟨(w.heap.size), 0, none⟩ = some (.int .i64 x0.owner) ∧ z.cell? ⟨(w.heap.size), 1, none⟩ = some (.slice a0_1 x0.waits.length b0_1) ∧ z.cell? ⟨(w.heap.size), 2, none⟩ = some (.slice a0_2 x0.queues.length b0_2) ∧ z.cell? ⟨z4.heap.size, 0, none⟩ = some (.int .i64 x0.owner) ∧ z.cell? ⟨z4.heap.size, 1, none⟩ = some (.slice o2_1 k2_1 c2_1) ∧ z.cell? ⟨z4.heap.size, 2, none⟩ = some (.slice o2_2 k2_2 c2_2) ∧ Hid ((Below w.heap.size w z ∧ Box z (w.heap.size) #[.int .i64 x0.owner, .slice a0_1 x0.waits.length b0_1, .slice a0_2 x0.queues.length b0_2] 29 ∧ GtOwn z2.heap.size z (.slice pw0_1 ((delayE x0 n1).1).waits.length qw0_1) (.slice pw0_2 ((delayE x0 n1).1).queues.length qw0_2) ((delayE x0 n1).1) ∧ Box z z3.heap.size #[.int .i64 ((delayE x0 n1).1).owner, .slice pw0_1 ((delayE x0 n1).1).waits.length qw0_1, .slice pw0_2 ((delayE x0 n1).1).queues.length qw0_2] 24 ∧ GtC y1.heap.size z [.int .i64 x0.owner, .slice o2_1 k2_1 c2_1, .slice o2_2 k2_2 c2_2] x0 ∧ GtSh y1.heap.size z4.heap.size z (.slice o2_1 k2_1 c2_1) (.slice o2_2 k2_2 c2_2) x0 ∧ Box z z4.heap.size #[.int .i64 x0.owner, .slice o2_1 k2_1 c2_1, .slice o2_2 k2_2 c2_2] 24 ∧ GtOwn y2.heap.size z (.slice pg0_1 ((delayE x0 n1).1).waits.length qg0_1) (.slice pg0_2 ((delayE x0 n1).1).queues.length qg0_2) ((delayE x0 n1).1) ∧ Box z z5.heap.size #[.int .i64 ((delayE x0 n1).1).owner, .slice pg0_1 ((delayE x0 n1).1).waits.length qg0_1, .slice pg0_2 ((delayE x0 n1).1).queues.length qg0_2] 24))) → Below z.heap.size z z' → (z'.cell? ⟨(w.heap.size), 0, none⟩ = some (.int .i64 x0.owner) ∧ z'.cell? ⟨(w.heap.size), 1, none⟩ = some (.slice a0_1 x0.waits.length b0_1) ∧ z'.cell? ⟨(w.heap.size), 2, none⟩ = some (.slice a0_2 x0.queues.length b0_2) ∧ z'.cell? ⟨z4.heap.size, 0, none⟩ = some (.int .i64 x0.owner) ∧ z'.cell? ⟨z4.heap.size, 1, none⟩ = some (.slice o2_1 k2_1 c2_1) ∧ z'.cell? ⟨z4.heap.size, 2, none⟩ = some (.slice o2_2 k2_2 c2_2) ∧ Hid ((Below w.heap.size w z' ∧ Box z' (w.heap.size) #[.int .i64 x0.owner, .slice a0_1 x0.waits.length b0_1, .slice a0_2 x0.queues.length b0_2] 29 ∧ GtOwn z2.heap.size z' (.slice pw0_1 ((delayE x0 n1).1).waits.length qw0_1) (.slice pw0_2 ((delayE x0 n1).1).queues.length qw0_2) ((delayE x0 n1).1) ∧ Box z' z3.heap.size #[.int .i64 ((delayE x0 n1).1).owner, .slice pw0_1 ((delayE x0 n1).1).waits.length qw0_1, .slice pw0_2 ((delayE x0 n1).1).queues.length qw0_2] 24 ∧ GtC y1.heap.size z' [.int .i64 x0.owner, .slice o2_1 k2_1 c2_1, .slice o2_2 k2_2 c2_2] x0 ∧ GtSh y1.heap.size z4.heap.size z' (.slice o2_1 k2_1 c2_1) (.slice o2_2 k2_2 c2_2) x0 ∧ Box z' z4.heap.size #[.int .i64 x0.owner, .slice o2_1 k2_1 c2_1, .slice o2_2 k2_2 c2_2] 24 ∧ GtOwn y2.heap.size z' (.slice pg0_1 ((delayE x0 n1).1).waits.length qg0_1) (.slice pg0_2 ((delayE x0 n1).1).queues.length qg0_2) ((delayE x0 n1).1) ∧ Box z' z5.heap.size #[.int .i64 ((delayE x0 n1).1).owner, .slice pg0_1 ((delayE x0 n1).1).waits.length qg0_1, .slice pg0_2 ((delayE x0 n1).1).queues.length qg0_2] 24)))) := fun z z' hz hb => KC.out _ (KT.out _ _ (KV.out _ hz) hb)
  have K0 := hide (KC.out _ (KT.out _ _ ⟨HB_21.out, BA0_21.out, WO0_21.out, BW0_21.out, XC2_21.out, XS0_21.out, BX0_21.out, GO0_21.out, BG0_21.out⟩ (Below.refl _ _).drew))
  clear HB_21 BA0_21 WO0_21 BW0_21 XC2_21 XS0_21 BX0_21 GO0_21 BG0_21
  go_region_held3 (fun z => z.cell? ⟨(w.heap.size), 0, none⟩ = some (.int .i64 x0.owner) ∧ z.cell? ⟨(w.heap.size), 1, none⟩ = some (.slice a0_1 x0.waits.length b0_1) ∧ z.cell? ⟨(w.heap.size), 2, none⟩ = some (.slice a0_2 x0.queues.length b0_2) ∧ z.cell? ⟨z4.heap.size, 0, none⟩ = some (.int .i64 x0.owner) ∧ z.cell? ⟨z4.heap.size, 1, none⟩ = some (.slice o2_1 k2_1 c2_1) ∧ z.cell? ⟨z4.heap.size, 2, none⟩ = some (.slice o2_2 k2_2 c2_2) ∧ Hid ((Below w.heap.size w z ∧ Box z (w.heap.size) #[.int .i64 x0.owner, .slice a0_1 x0.waits.length b0_1, .slice a0_2 x0.queues.length b0_2] 29 ∧ GtOwn z2.heap.size z (.slice pw0_1 ((delayE x0 n1).1).waits.length qw0_1) (.slice pw0_2 ((delayE x0 n1).1).queues.length qw0_2) ((delayE x0 n1).1) ∧ Box z z3.heap.size #[.int .i64 ((delayE x0 n1).1).owner, .slice pw0_1 ((delayE x0 n1).1).waits.length qw0_1, .slice pw0_2 ((delayE x0 n1).1).queues.length qw0_2] 24 ∧ GtC y1.heap.size z [.int .i64 x0.owner, .slice o2_1 k2_1 c2_1, .slice o2_2 k2_2 c2_2] x0 ∧ GtSh y1.heap.size z4.heap.size z (.slice o2_1 k2_1 c2_1) (.slice o2_2 k2_2 c2_2) x0 ∧ Box z z4.heap.size #[.int .i64 x0.owner, .slice o2_1 k2_1 c2_1, .slice o2_2 k2_2 c2_2] 24 ∧ GtOwn y2.heap.size z (.slice pg0_1 ((delayE x0 n1).1).waits.length qg0_1) (.slice pg0_2 ((delayE x0 n1).1).queues.length qg0_2) ((delayE x0 n1).1) ∧ Box z z5.heap.size #[.int .i64 ((delayE x0 n1).1).owner, .slice pg0_1 ((delayE x0 n1).1).waits.length qg0_1, .slice pg0_2 ((delayE x0 n1).1).queues.length qg0_2] 24))) (first | exact K0.out | exact KP.out _ _ (by assumption) hb7)
    (first
      | (go_at_call 16; refine (toGate_any x0 _ _ _ (HW0.out.stays ((KV.out _ (by assumption)).1)).a1 (HW0.out.stays ((KV.out _ (by assumption)).1)).a2 HN0.out.l1 HN0.out.l2).mono ?_; rintro e w7 ⟨oo1, kk1, cc1, oo2, kk2, cc2, rfl, hc7, hb7⟩; have P7 := hide hc7.at; clear hc7)
      | (go_at_call 11; refine (eqGate_same x0 _ _ _ _ _ (((KV.out _ (by assumption)).2.2.2.2.1)).at.a1 P7.out.a1 (((KV.out _ (by assumption)).2.2.2.2.1)).at.a2 P7.out.a2 HN0.out.l1 HN0.out.l2).mono ?_; rintro e z7 ⟨rfl, hb7⟩))
  obtain ⟨f0, f1, f2, f3, f4, f5, f6, f7, f8⟩ := KV.out z7 (by assumption)
  clear KT KC KV KP K0
  have HB_22 := hide f0
  have BA0_22 := hide f1
  have WO0_22 := hide f2
  have BW0_22 := hide f3
  have XC2_22 := hide f4
  have XS0_22 := hide f5
  have BX0_22 := hide f6
  have GO0_22 := hide f7
  have BG0_22 := hide f8
  clear f0 f1 f2 f3 f4 f5 f6 f7 f8
  have c_BA0_0 := Lib.cell_of_heap BA0_22.out 0
  simp at c_BA0_0
  have c_BA0_1 := Lib.cell_of_heap BA0_22.out 1
  simp at c_BA0_1
  have c_BA0_2 := Lib.cell_of_heap BA0_22.out 2
  simp at c_BA0_2
  have c_BW0_0 := Lib.cell_of_heap BW0_22.out 0
  simp at c_BW0_0
  have c_BW0_1 := Lib.cell_of_heap BW0_22.out 1
  simp at c_BW0_1
  have c_BW0_2 := Lib.cell_of_heap BW0_22.out 2
  simp at c_BW0_2
  have c_BX0_0 := Lib.cell_of_heap BX0_22.out 0
  simp at c_BX0_0
  have c_BX0_1 := Lib.cell_of_heap BX0_22.out 1
  simp at c_BX0_1
  have c_BX0_2 := Lib.cell_of_heap BX0_22.out 2
  simp at c_BX0_2
  have c_BG0_0 := Lib.cell_of_heap BG0_22.out 0
  simp at c_BG0_0
  have c_BG0_1 := Lib.cell_of_heap BG0_22.out 1
  simp at c_BG0_1
  have c_BG0_2 := Lib.cell_of_heap BG0_22.out 2
  simp at c_BG0_2
  go_wp2_with fail
  clear c_BA0_0 c_BA0_1 c_BA0_2 c_BW0_0 c_BW0_1 c_BW0_2 c_BX0_0 c_BX0_1 c_BX0_2 c_BG0_0 c_BG0_1 c_BG0_2
  refine (turnGate_any (B := y1.heap.size) (T := z4.heap.size) _ _ _ _ _ XS0_22.out.s1 XS0_22.out.s2 HN0.out.l1 HN0.out.l2 (by have := SZ1.out; have := SZ2.out; have := SZ3.out; have := SZ4.out; have := SZ5.out; have := SZ6.out; have := SZ7.out; have := SZ8.out; have := SZ9.out; have := SZ10.out; have := BX0_22.out.lt; omega) (by have := SZ1.out; have := SZ2.out; have := SZ3.out; have := SZ4.out; have := SZ5.out; have := SZ6.out; have := SZ7.out; have := SZ8.out; have := SZ9.out; have := SZ10.out; have := BX0_22.out.lt; omega) (by omega) (by omega)).mono ?_
  rintro e z8 ⟨kx0, rfl, hka0, hkb0, ht0⟩
  have HB_23 : Hid (Below w.heap.size w z8) := HB_22.out.trans (ht0.bel.mono (by have := SZ1.out; have := SZ2.out; have := SZ3.out; have := SZ4.out; have := SZ5.out; have := SZ6.out; have := SZ7.out; have := SZ8.out; have := SZ9.out; have := SZ10.out; omega))
  clear HB_22
  have BA0_23 : Hid (Box z8 (w.heap.size) #[.int .i64 x0.owner, .slice a0_1 x0.waits.length b0_1, .slice a0_2 x0.queues.length b0_2] 29) := (ht0.bel.block _ (by have := SZ1.out; have := SZ2.out; have := SZ3.out; have := SZ4.out; have := SZ5.out; have := SZ6.out; have := SZ7.out; have := SZ8.out; have := SZ9.out; have := SZ10.out; omega)).trans BA0_22.out
  clear BA0_22
  have WO0_23 : Hid (GtOwn z2.heap.size z8 (.slice pw0_1 ((delayE x0 n1).1).waits.length qw0_1) (.slice pw0_2 ((delayE x0 n1).1).queues.length qw0_2) ((delayE x0 n1).1)) := WO0_22.out.low ht0.bel ⟨fun i hi => by have := WL0.out.1 i hi; have := SZ1.out; have := SZ2.out; have := SZ3.out; have := SZ4.out; have := SZ5.out; have := SZ6.out; have := SZ7.out; have := SZ8.out; have := SZ9.out; have := SZ10.out; omega, fun i hi => by have := WL0.out.2 i hi; have := SZ1.out; have := SZ2.out; have := SZ3.out; have := SZ4.out; have := SZ5.out; have := SZ6.out; have := SZ7.out; have := SZ8.out; have := SZ9.out; have := SZ10.out; omega⟩
  clear WO0_22
  have BW0_23 : Hid (Box z8 z3.heap.size #[.int .i64 ((delayE x0 n1).1).owner, .slice pw0_1 ((delayE x0 n1).1).waits.length qw0_1, .slice pw0_2 ((delayE x0 n1).1).queues.length qw0_2] 24) := (ht0.bel.block _ (by have := SZ1.out; have := SZ2.out; have := SZ3.out; have := SZ4.out; have := SZ5.out; have := SZ6.out; have := SZ7.out; have := SZ8.out; have := SZ9.out; have := SZ10.out; omega)).trans BW0_22.out
  clear BW0_22
  clear XC2_22
  clear XS0_22
  have BX0_23 : Hid (Box z8 z4.heap.size #[.int .i64 x0.owner, .slice o2_1 k2_1 c2_1, .slice o2_2 k2_2 c2_2] 24) := (ht0.out _ (by have := SZ1.out; have := SZ2.out; have := SZ3.out; have := SZ4.out; have := SZ5.out; have := SZ6.out; have := SZ7.out; have := SZ8.out; have := SZ9.out; have := SZ10.out; omega) BX0_22.out.lt).trans BX0_22.out
  clear BX0_22
  have GO0_23 : Hid (GtOwn y2.heap.size z8 (.slice pg0_1 ((delayE x0 n1).1).waits.length qg0_1) (.slice pg0_2 ((delayE x0 n1).1).queues.length qg0_2) ((delayE x0 n1).1)) := GO0_22.out.turn ht0 (by have := SZ1.out; have := SZ2.out; have := SZ3.out; have := SZ4.out; have := SZ5.out; have := SZ6.out; have := SZ7.out; have := SZ8.out; have := SZ9.out; have := SZ10.out; omega)
  clear GO0_22
  have BG0_23 : Hid (Box z8 z5.heap.size #[.int .i64 ((delayE x0 n1).1).owner, .slice pg0_1 ((delayE x0 n1).1).waits.length qg0_1, .slice pg0_2 ((delayE x0 n1).1).queues.length qg0_2] 24) := (ht0.out _ (by have := SZ1.out; have := SZ2.out; have := SZ3.out; have := SZ4.out; have := SZ5.out; have := SZ6.out; have := SZ7.out; have := SZ8.out; have := SZ9.out; have := SZ10.out; omega) BG0_22.out.lt).trans BG0_22.out
  clear BG0_22
  clear ht0
  have hkn0 : ¬ kx0 < 0 := by omega
  have c_BA0_0 := Lib.cell_of_heap BA0_23.out 0
  simp at c_BA0_0
  have c_BA0_1 := Lib.cell_of_heap BA0_23.out 1
  simp at c_BA0_1
  have c_BA0_2 := Lib.cell_of_heap BA0_23.out 2
  simp at c_BA0_2
  have c_BW0_0 := Lib.cell_of_heap BW0_23.out 0
  simp at c_BW0_0
  have c_BW0_1 := Lib.cell_of_heap BW0_23.out 1
  simp at c_BW0_1
  have c_BW0_2 := Lib.cell_of_heap BW0_23.out 2
  simp at c_BW0_2
  have c_BX0_0 := Lib.cell_of_heap BX0_23.out 0
  simp at c_BX0_0
  have c_BX0_1 := Lib.cell_of_heap BX0_23.out 1
  simp at c_BX0_1
  have c_BX0_2 := Lib.cell_of_heap BX0_23.out 2
  simp at c_BX0_2
  have c_BG0_0 := Lib.cell_of_heap BG0_23.out 0
  simp at c_BG0_0
  have c_BG0_1 := Lib.cell_of_heap BG0_23.out 1
  simp at c_BG0_1
  have c_BG0_2 := Lib.cell_of_heap BG0_23.out 2
  simp at c_BG0_2
  go_wp2_with fail
  clear c_BA0_0 c_BA0_1 c_BA0_2 c_BW0_0 c_BW0_1 c_BW0_2 c_BX0_0 c_BX0_1 c_BX0_2 c_BG0_0 c_BG0_1 c_BG0_2
  refine (eqGate_same ((delayE x0 n1).1) _ _ _ _ _ (GO0_23.out).at.a1 (WO0_23.out).at.a1 (GO0_23.out).at.a2 (WO0_23.out).at.a2 HL0.out.l1 HL0.out.l2).mono ?_
  rintro e z9 ⟨rfl, hbe24⟩
  have SZ11 : Hid (z8.heap.size ≤ z9.heap.size) := hbe24.size
  have HB_25 := hide (HB_23.out.trans (hbe24.mono HB_23.out.size))
  clear HB_23
  have BA0_25 := hide (BA0_23.out.stays hbe24)
  clear BA0_23
  have WO0_25 := hide (WO0_23.out.stays hbe24)
  clear WO0_23
  have BW0_25 := hide (BW0_23.out.stays hbe24)
  clear BW0_23
  have BX0_25 := hide (BX0_23.out.stays hbe24)
  clear BX0_23
  have GO0_25 := hide (GO0_23.out.stays hbe24)
  clear GO0_23
  have BG0_25 := hide (BG0_23.out.stays hbe24)
  clear BG0_23
  clear hbe24
  have c_BA0_0 := Lib.cell_of_heap BA0_25.out 0
  simp at c_BA0_0
  have c_BA0_1 := Lib.cell_of_heap BA0_25.out 1
  simp at c_BA0_1
  have c_BA0_2 := Lib.cell_of_heap BA0_25.out 2
  simp at c_BA0_2
  have c_BW0_0 := Lib.cell_of_heap BW0_25.out 0
  simp at c_BW0_0
  have c_BW0_1 := Lib.cell_of_heap BW0_25.out 1
  simp at c_BW0_1
  have c_BW0_2 := Lib.cell_of_heap BW0_25.out 2
  simp at c_BW0_2
  have c_BX0_0 := Lib.cell_of_heap BX0_25.out 0
  simp at c_BX0_0
  have c_BX0_1 := Lib.cell_of_heap BX0_25.out 1
  simp at c_BX0_1
  have c_BX0_2 := Lib.cell_of_heap BX0_25.out 2
  simp at c_BX0_2
  have c_BG0_0 := Lib.cell_of_heap BG0_25.out 0
  simp at c_BG0_0
  have c_BG0_1 := Lib.cell_of_heap BG0_25.out 1
  simp at c_BG0_1
  have c_BG0_2 := Lib.cell_of_heap BG0_25.out 2
  simp at c_BG0_2
  go_wp2_with fail
  clear c_BA0_0 c_BA0_1 c_BA0_2 c_BW0_0 c_BW0_1 c_BW0_2 c_BX0_0 c_BX0_1 c_BX0_2 c_BG0_0 c_BG0_1 c_BG0_2
  refine (markGate_any _ _ _ ((delayE x0 n1).1) _ GO0_25.out _ rfl _ rfl (by have := SZ1.out; have := SZ2.out; have := SZ3.out; have := SZ4.out; have := SZ5.out; have := SZ6.out; have := SZ7.out; have := SZ8.out; have := SZ9.out; have := SZ10.out; have := SZ11.out; have := BG0_25.out.lt; omega) HL0.out.l1 HL0.out.l2).mono ?_
  rintro e z10 ⟨rfl, hhd, hbm, hot⟩
  have HB_26 : Hid (Below w.heap.size w z10) := HB_25.out.trans (hbm.mono (by have := SZ1.out; have := SZ2.out; have := SZ3.out; have := SZ4.out; have := SZ5.out; have := SZ6.out; have := SZ7.out; have := SZ8.out; have := SZ9.out; have := SZ10.out; have := SZ11.out; omega))
  clear HB_25
  have BA0_26 : Hid (Box z10 (w.heap.size) #[.int .i64 x0.owner, .slice a0_1 x0.waits.length b0_1, .slice a0_2 x0.queues.length b0_2] 29) := (hbm.block _ (by have := SZ1.out; have := SZ2.out; have := SZ3.out; have := SZ4.out; have := SZ5.out; have := SZ6.out; have := SZ7.out; have := SZ8.out; have := SZ9.out; have := SZ10.out; have := SZ11.out; omega)).trans BA0_25.out
  clear BA0_25
  have WO0_26 : Hid (GtOwn z2.heap.size z10 (.slice pw0_1 ((delayE x0 n1).1).waits.length qw0_1) (.slice pw0_2 ((delayE x0 n1).1).queues.length qw0_2) ((delayE x0 n1).1)) := WO0_25.out.low hbm ⟨fun i hi => by have := WL0.out.1 i hi; have := SZ1.out; have := SZ2.out; have := SZ3.out; have := SZ4.out; have := SZ5.out; have := SZ6.out; have := SZ7.out; have := SZ8.out; have := SZ9.out; have := SZ10.out; have := SZ11.out; omega, fun i hi => by have := WL0.out.2 i hi; have := SZ1.out; have := SZ2.out; have := SZ3.out; have := SZ4.out; have := SZ5.out; have := SZ6.out; have := SZ7.out; have := SZ8.out; have := SZ9.out; have := SZ10.out; have := SZ11.out; omega⟩
  clear WO0_25
  have BW0_26 : Hid (Box z10 z3.heap.size #[.int .i64 ((delayE x0 n1).1).owner, .slice pw0_1 ((delayE x0 n1).1).waits.length qw0_1, .slice pw0_2 ((delayE x0 n1).1).queues.length qw0_2] 24) := (hbm.block _ (by have := SZ1.out; have := SZ2.out; have := SZ3.out; have := SZ4.out; have := SZ5.out; have := SZ6.out; have := SZ7.out; have := SZ8.out; have := SZ9.out; have := SZ10.out; have := SZ11.out; omega)).trans BW0_25.out
  clear BW0_25
  clear BX0_25
  clear GO0_25
  have BG0_26 : Hid (Box z10 z5.heap.size #[.int .i64 ((delayE x0 n1).1).owner, .slice pg0_1 ((delayE x0 n1).1).waits.length qg0_1, .slice pg0_2 ((delayE x0 n1).1).queues.length qg0_2] 24) := (hot _ BG0_25.out.lt (fun e => by have := GL0.out.1 _ e; omega) (fun e => by have := GL0.out.2 _ e; omega)).trans BG0_25.out
  clear BG0_25
  have GH_27 := hide (hhd)
  clear hbm hot hhd
  obtain ⟨tot, etot⟩ : ∃ tot : Int, ((1 + ((delayE x0 n1).1).waits.length + ((delayE x0 n1).1).queues.length : Nat) : Int) = tot := ⟨_, rfl⟩
  have htot : ¬ tot < 0 := by omega
  have ETOT := hide etot
  rw [etot]
  clear etot
  have c_BA0_0 := Lib.cell_of_heap BA0_26.out 0
  simp at c_BA0_0
  have c_BA0_1 := Lib.cell_of_heap BA0_26.out 1
  simp at c_BA0_1
  have c_BA0_2 := Lib.cell_of_heap BA0_26.out 2
  simp at c_BA0_2
  have c_BW0_0 := Lib.cell_of_heap BW0_26.out 0
  simp at c_BW0_0
  have c_BW0_1 := Lib.cell_of_heap BW0_26.out 1
  simp at c_BW0_1
  have c_BW0_2 := Lib.cell_of_heap BW0_26.out 2
  simp at c_BW0_2
  have c_BG0_0 := Lib.cell_of_heap BG0_26.out 0
  simp at c_BG0_0
  have c_BG0_1 := Lib.cell_of_heap BG0_26.out 1
  simp at c_BG0_1
  have c_BG0_2 := Lib.cell_of_heap BG0_26.out 2
  simp at c_BG0_2
  go_wp2_with fail
  clear c_BA0_0 c_BA0_1 c_BA0_2 c_BW0_0 c_BW0_1 c_BW0_2 c_BG0_0 c_BG0_1 c_BG0_2
  refine (heldGate_any _ _ _ _ _ _ GH_27.out HL0.out.l1 HL0.out.l2).mono ?_
  rintro e z11 ⟨rfl, hbh28⟩
  have HB_29 := hide (HB_26.out.trans (hbh28.mono HB_26.out.size))
  clear HB_26
  have BA0_29 := hide (BA0_26.out.stays hbh28)
  clear BA0_26
  have WO0_29 := hide (WO0_26.out.stays hbh28)
  clear WO0_26
  have BW0_29 := hide (BW0_26.out.stays hbh28)
  clear BW0_26
  have BG0_29 := hide (BG0_26.out.stays hbh28)
  clear BG0_26
  have GH_29 := hide (GH_27.out.stays hbh28)
  clear GH_27
  clear hbh28
  rw [ETOT.out]
  have c_BA0_0 := Lib.cell_of_heap BA0_29.out 0
  simp at c_BA0_0
  have c_BA0_1 := Lib.cell_of_heap BA0_29.out 1
  simp at c_BA0_1
  have c_BA0_2 := Lib.cell_of_heap BA0_29.out 2
  simp at c_BA0_2
  have c_BW0_0 := Lib.cell_of_heap BW0_29.out 0
  simp at c_BW0_0
  have c_BW0_1 := Lib.cell_of_heap BW0_29.out 1
  simp at c_BW0_1
  have c_BW0_2 := Lib.cell_of_heap BW0_29.out 2
  simp at c_BW0_2
  have c_BG0_0 := Lib.cell_of_heap BG0_29.out 0
  simp at c_BG0_0
  have c_BG0_1 := Lib.cell_of_heap BG0_29.out 1
  simp at c_BG0_1
  have c_BG0_2 := Lib.cell_of_heap BG0_29.out 2
  simp at c_BG0_2
  go_wp2_with fail
  clear c_BA0_0 c_BA0_1 c_BA0_2 c_BW0_0 c_BW0_1 c_BW0_2 c_BG0_0 c_BG0_1 c_BG0_2
  refine (toGate_any x0 _ _ _ (HW0.out.stays HB_29.out).a1 (HW0.out.stays HB_29.out).a2 HN0.out.l1 HN0.out.l2).mono ?_
  rintro e z12 ⟨o3_1, k3_1, c3_1, o3_2, k3_2, c3_2, rfl, hc3, hb3⟩
  have SZ12 : Hid (z11.heap.size ≤ z12.heap.size) := hb3.size
  have HB_30 := hide (HB_29.out.trans (hb3.mono HB_29.out.size))
  clear HB_29
  have BA0_30 := hide (BA0_29.out.stays hb3)
  clear BA0_29
  have WO0_30 := hide (WO0_29.out.stays hb3)
  clear WO0_29
  have BW0_30 := hide (BW0_29.out.stays hb3)
  clear BW0_29
  have BG0_30 := hide (BG0_29.out.stays hb3)
  clear BG0_29
  have GH_30 := hide (GH_29.out.stays hb3)
  clear GH_29
  have XC3_31 := hide (hc3)
  clear hc3 hb3
  go_wp2_with fail
  refine (HPI1.out _ _ _ _ XC3_31.out).mono ?_
  rintro e z13 ⟨h0_1, h0_2, rfl, hoh0, hbh⟩
  have SZ13 : Hid (z12.heap.size ≤ z13.heap.size) := hbh.size
  have HB_32 := hide (HB_30.out.trans (hbh.mono HB_30.out.size))
  clear HB_30
  have BA0_32 := hide (BA0_30.out.stays hbh)
  clear BA0_30
  have WO0_32 := hide (WO0_30.out.stays hbh)
  clear WO0_30
  have BW0_32 := hide (BW0_30.out.stays hbh)
  clear BW0_30
  have BG0_32 := hide (BG0_30.out.stays hbh)
  clear BG0_30
  have GH_32 := hide (GH_30.out.stays hbh)
  clear GH_30
  have XC3_32 := hide (XC3_31.out.stays hbh)
  clear XC3_31
  obtain ⟨ph0_1, qh0_1, rfl⟩ := form_own hoh0.o1
  obtain ⟨ph0_2, qh0_2, rfl⟩ := form_own hoh0.o2
  have HO0_33 := hide (hoh0)
  clear hoh0
  clear hbh
  clear XC3_32
  have hba34 : Below z13.heap.size z13 (z13.alloc (.cells #[.int .i64 ((delayE x0 n1).1).owner, .slice ph0_1 ((delayE x0 n1).1).waits.length qh0_1, .slice ph0_2 ((delayE x0 n1).1).queues.length qh0_2] 24)) := (Below.refl _ _).alloc (Nat.le_refl _) _
  have SZ14 : Hid ((z13.alloc (.cells #[.int .i64 ((delayE x0 n1).1).owner, .slice ph0_1 ((delayE x0 n1).1).waits.length qh0_1, .slice ph0_2 ((delayE x0 n1).1).queues.length qh0_2] 24)).heap.size = z13.heap.size + 1) := by show _ = _; simp
  have HB_35 := hide (HB_32.out.trans (hba34.mono HB_32.out.size))
  clear HB_32
  have BA0_35 := hide (BA0_32.out.stays hba34)
  clear BA0_32
  have WO0_35 := hide (WO0_32.out.stays hba34)
  clear WO0_32
  have BW0_35 := hide (BW0_32.out.stays hba34)
  clear BW0_32
  have BG0_35 := hide (BG0_32.out.stays hba34)
  clear BG0_32
  have GH_35 := hide (GH_32.out.stays hba34)
  clear GH_32
  have HO0_35 := hide (HO0_33.out.stays hba34)
  clear HO0_33
  have BH0_36 := hide (Box.made z13 #[.int .i64 ((delayE x0 n1).1).owner, .slice ph0_1 ((delayE x0 n1).1).waits.length qh0_1, .slice ph0_2 ((delayE x0 n1).1).queues.length qh0_2] 24)
  clear hba34
  have c_BA0_0 := Lib.cell_of_heap BA0_35.out 0
  simp at c_BA0_0
  have c_BA0_1 := Lib.cell_of_heap BA0_35.out 1
  simp at c_BA0_1
  have c_BA0_2 := Lib.cell_of_heap BA0_35.out 2
  simp at c_BA0_2
  have c_BW0_0 := Lib.cell_of_heap BW0_35.out 0
  simp at c_BW0_0
  have c_BW0_1 := Lib.cell_of_heap BW0_35.out 1
  simp at c_BW0_1
  have c_BW0_2 := Lib.cell_of_heap BW0_35.out 2
  simp at c_BW0_2
  have c_BG0_0 := Lib.cell_of_heap BG0_35.out 0
  simp at c_BG0_0
  have c_BG0_1 := Lib.cell_of_heap BG0_35.out 1
  simp at c_BG0_1
  have c_BG0_2 := Lib.cell_of_heap BG0_35.out 2
  simp at c_BG0_2
  have c_BH0_0 := Lib.cell_of_heap BH0_36.out 0
  simp at c_BH0_0
  have c_BH0_1 := Lib.cell_of_heap BH0_36.out 1
  simp at c_BH0_1
  have c_BH0_2 := Lib.cell_of_heap BH0_36.out 2
  simp at c_BH0_2
  go_wp2_with fail
  clear c_BA0_0 c_BA0_1 c_BA0_2 c_BW0_0 c_BW0_1 c_BW0_2 c_BG0_0 c_BG0_1 c_BG0_2 c_BH0_0 c_BH0_1 c_BH0_2
  obtain ⟨y4, hy4⟩ : ∃ Z, z13.alloc (.cells #[.int .i64 ((delayE x0 n1).1).owner, .slice ph0_1 ((delayE x0 n1).1).waits.length qh0_1, .slice ph0_2 ((delayE x0 n1).1).queues.length qh0_2] 24) = Z := ⟨_, rfl⟩
  rw [hy4] at HB_35 BA0_35 WO0_35 BW0_35 BG0_35 GH_35 HO0_35 BH0_36 SZ14 ⊢
  clear hy4
  refine (eqGate_same ((delayE x0 n1).1) _ _ _ _ _ (HO0_35.out).at.a1 (WO0_35.out).at.a1 (HO0_35.out).at.a2 (WO0_35.out).at.a2 HL0.out.l1 HL0.out.l2).mono ?_
  rintro e z14 ⟨rfl, hbe37⟩
  have SZ15 : Hid (y4.heap.size ≤ z14.heap.size) := hbe37.size
  have HB_38 := hide (HB_35.out.trans (hbe37.mono HB_35.out.size))
  clear HB_35
  have BA0_38 := hide (BA0_35.out.stays hbe37)
  clear BA0_35
  have WO0_38 := hide (WO0_35.out.stays hbe37)
  clear WO0_35
  have BW0_38 := hide (BW0_35.out.stays hbe37)
  clear BW0_35
  have BG0_38 := hide (BG0_35.out.stays hbe37)
  clear BG0_35
  have GH_38 := hide (GH_35.out.stays hbe37)
  clear GH_35
  have HO0_38 := hide (HO0_35.out.stays hbe37)
  clear HO0_35
  have BH0_38 := hide (BH0_36.out.stays hbe37)
  clear BH0_36
  clear hbe37
  have c_BA0_0 := Lib.cell_of_heap BA0_38.out 0
  simp at c_BA0_0
  have c_BA0_1 := Lib.cell_of_heap BA0_38.out 1
  simp at c_BA0_1
  have c_BA0_2 := Lib.cell_of_heap BA0_38.out 2
  simp at c_BA0_2
  have c_BW0_0 := Lib.cell_of_heap BW0_38.out 0
  simp at c_BW0_0
  have c_BW0_1 := Lib.cell_of_heap BW0_38.out 1
  simp at c_BW0_1
  have c_BW0_2 := Lib.cell_of_heap BW0_38.out 2
  simp at c_BW0_2
  have c_BG0_0 := Lib.cell_of_heap BG0_38.out 0
  simp at c_BG0_0
  have c_BG0_1 := Lib.cell_of_heap BG0_38.out 1
  simp at c_BG0_1
  have c_BG0_2 := Lib.cell_of_heap BG0_38.out 2
  simp at c_BG0_2
  have c_BH0_0 := Lib.cell_of_heap BH0_38.out 0
  simp at c_BH0_0
  have c_BH0_1 := Lib.cell_of_heap BH0_38.out 1
  simp at c_BH0_1
  have c_BH0_2 := Lib.cell_of_heap BH0_38.out 2
  simp at c_BH0_2
  clear c_BA0_0 c_BA0_1 c_BA0_2 c_BW0_0 c_BW0_1 c_BW0_2 c_BG0_0 c_BG0_1 c_BG0_2 c_BH0_0 c_BH0_1 c_BH0_2
  have c_BA0_0 := Lib.cell_of_heap BA0_38.out 0
  simp at c_BA0_0
  have c_BA0_1 := Lib.cell_of_heap BA0_38.out 1
  simp at c_BA0_1
  have c_BA0_2 := Lib.cell_of_heap BA0_38.out 2
  simp at c_BA0_2
  have c_BW0_0 := Lib.cell_of_heap BW0_38.out 0
  simp at c_BW0_0
  have c_BW0_1 := Lib.cell_of_heap BW0_38.out 1
  simp at c_BW0_1
  have c_BW0_2 := Lib.cell_of_heap BW0_38.out 2
  simp at c_BW0_2
  have c_BG0_0 := Lib.cell_of_heap BG0_38.out 0
  simp at c_BG0_0
  have c_BG0_1 := Lib.cell_of_heap BG0_38.out 1
  simp at c_BG0_1
  have c_BG0_2 := Lib.cell_of_heap BG0_38.out 2
  simp at c_BG0_2
  have c_BH0_0 := Lib.cell_of_heap BH0_38.out 0
  simp at c_BH0_0
  have c_BH0_1 := Lib.cell_of_heap BH0_38.out 1
  simp at c_BH0_1
  have c_BH0_2 := Lib.cell_of_heap BH0_38.out 2
  simp at c_BH0_2
  go_wp2_with fail
  clear c_BA0_0 c_BA0_1 c_BA0_2 c_BW0_0 c_BW0_1 c_BW0_2 c_BG0_0 c_BG0_1 c_BG0_2 c_BH0_0 c_BH0_1 c_BH0_2
  refine (heldGate_any _ _ _ _ _ _ GH_38.out HL0.out.l1 HL0.out.l2).mono ?_
  rintro e z15 ⟨rfl, hbh39⟩
  have HB_40 := hide (HB_38.out.trans (hbh39.mono HB_38.out.size))
  clear HB_38
  have BA0_40 := hide (BA0_38.out.stays hbh39)
  clear BA0_38
  have WO0_40 := hide (WO0_38.out.stays hbh39)
  clear WO0_38
  have BW0_40 := hide (BW0_38.out.stays hbh39)
  clear BW0_38
  have BG0_40 := hide (BG0_38.out.stays hbh39)
  clear BG0_38
  have GH_40 := hide (GH_38.out.stays hbh39)
  clear GH_38
  have HO0_40 := hide (HO0_38.out.stays hbh39)
  clear HO0_38
  have BH0_40 := hide (BH0_38.out.stays hbh39)
  clear BH0_38
  clear hbh39
  rw [ETOT.out]
  go_wp2
  go_ret
  exact ⟨rfl, HB_40.out⟩
end Go.Proofs.Ytnedpcgdepiakaa
