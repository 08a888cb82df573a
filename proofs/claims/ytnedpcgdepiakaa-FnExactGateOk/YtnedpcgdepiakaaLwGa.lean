/-
  The laws of GateNew and GateOk, over what both sides answer.
-/
import Derived.Test.YtnedpcgdepiakaaGatP
import Derived.Deep.RegionHeld3
import Derived.Deep.Cut
namespace Go.Proofs.Ytnedpcgdepiakaa
open Go.RowKit

set_option maxRecDepth 100000 in
set_option maxHeartbeats 8000000 in
theorem lawGateNew (n0 : Int) (w : World)
    (SP : ∀ (z : World), Calls Try.prog 9 #[.int .i64 n0] z fun e w' => ∃ r0_1 r0_2, e = .returned (.agg #[.int .i64 (gateNewE n0).owner, r0_1, r0_2]) ∧ GtOwn z.heap.size w' r0_1 r0_2 (gateNewE n0) ∧ Below z.heap.size z w')
    (IP : ∀ (z : World), Calls Try.prog 10 #[.int .i64 n0] z fun e w' => ∃ r0_1 r0_2, e = .returned (.agg #[.int .i64 (gateNewE n0).owner, r0_1, r0_2]) ∧ GtOwn z.heap.size w' r0_1 r0_2 (gateNewE n0) ∧ Below z.heap.size z w')
    (LP0 : GtLen (gateNewE n0)) :
    Calls Try.prog 3 #[.int .i64 n0] w fun e w' => e = .returned (.bool true) ∧ Below w.heap.size w w' := by
  have HPS := hide SP
  have HPI := hide IP
  have HLP0 := hide LP0
  clear SP IP LP0
  have HB : Hid (Below w.heap.size w w) := Below.refl _ _
  go_enter Try.func3, Try.ntmps3
  have HPS1 := hide (HPS.out)
  have HPI1 := hide (HPI.out)
  have HL0 := hide (HLP0.out)
  go_wp2_with fail
  refine (HPS1.out _ ).mono ?_
  rintro e z1 ⟨w0_1, w0_2, rfl, how0, hbw⟩
  have SZ1 : Hid (w.heap.size ≤ z1.heap.size) := hbw.size
  have HB_1 := hide (HB.out.trans (hbw.mono HB.out.size))
  clear HB
  obtain ⟨pw0_1, qw0_1, rfl⟩ := form_own how0.o1
  obtain ⟨pw0_2, qw0_2, rfl⟩ := form_own how0.o2
  have WO0_2 := hide (how0)
  clear how0
  clear hbw
  have WL0 := hide (WO0_2.out).lt
  have hba3 : Below z1.heap.size z1 (z1.alloc (.cells #[.int .i64 (gateNewE n0).owner, .slice pw0_1 (gateNewE n0).waits.length qw0_1, .slice pw0_2 (gateNewE n0).queues.length qw0_2] 24)) := (Below.refl _ _).alloc (Nat.le_refl _) _
  have SZ2 : Hid ((z1.alloc (.cells #[.int .i64 (gateNewE n0).owner, .slice pw0_1 (gateNewE n0).waits.length qw0_1, .slice pw0_2 (gateNewE n0).queues.length qw0_2] 24)).heap.size = z1.heap.size + 1) := by show _ = _; simp
  have HB_4 := hide (HB_1.out.trans (hba3.mono HB_1.out.size))
  clear HB_1
  have WO0_4 := hide (WO0_2.out.stays hba3)
  clear WO0_2
  have BW0_5 := hide (Box.made z1 #[.int .i64 (gateNewE n0).owner, .slice pw0_1 (gateNewE n0).waits.length qw0_1, .slice pw0_2 (gateNewE n0).queues.length qw0_2] 24)
  clear hba3
  have c_BW0_0 := Lib.cell_of_heap BW0_5.out 0
  simp at c_BW0_0
  have c_BW0_1 := Lib.cell_of_heap BW0_5.out 1
  simp at c_BW0_1
  have c_BW0_2 := Lib.cell_of_heap BW0_5.out 2
  simp at c_BW0_2
  go_wp2_with fail
  clear c_BW0_0 c_BW0_1 c_BW0_2
  obtain ⟨y1, hy1⟩ : ∃ Z, z1.alloc (.cells #[.int .i64 (gateNewE n0).owner, .slice pw0_1 (gateNewE n0).waits.length qw0_1, .slice pw0_2 (gateNewE n0).queues.length qw0_2] 24) = Z := ⟨_, rfl⟩
  rw [hy1] at HB_4 WO0_4 BW0_5 SZ2 ⊢
  clear hy1
  refine (HPI1.out _ ).mono ?_
  rintro e z2 ⟨g0_1, g0_2, rfl, hog0, hbg⟩
  have SZ3 : Hid (y1.heap.size ≤ z2.heap.size) := hbg.size
  have HB_6 := hide (HB_4.out.trans (hbg.mono HB_4.out.size))
  clear HB_4
  have WO0_6 := hide (WO0_4.out.stays hbg)
  clear WO0_4
  have BW0_6 := hide (BW0_5.out.stays hbg)
  clear BW0_5
  obtain ⟨pg0_1, qg0_1, rfl⟩ := form_own hog0.o1
  obtain ⟨pg0_2, qg0_2, rfl⟩ := form_own hog0.o2
  have GO0_7 := hide (hog0)
  clear hog0
  clear hbg
  have GL0 := hide (GO0_7.out).lt
  have hba8 : Below z2.heap.size z2 (z2.alloc (.cells #[.int .i64 (gateNewE n0).owner, .slice pg0_1 (gateNewE n0).waits.length qg0_1, .slice pg0_2 (gateNewE n0).queues.length qg0_2] 24)) := (Below.refl _ _).alloc (Nat.le_refl _) _
  have SZ4 : Hid ((z2.alloc (.cells #[.int .i64 (gateNewE n0).owner, .slice pg0_1 (gateNewE n0).waits.length qg0_1, .slice pg0_2 (gateNewE n0).queues.length qg0_2] 24)).heap.size = z2.heap.size + 1) := by show _ = _; simp
  have HB_9 := hide (HB_6.out.trans (hba8.mono HB_6.out.size))
  clear HB_6
  have WO0_9 := hide (WO0_6.out.stays hba8)
  clear WO0_6
  have BW0_9 := hide (BW0_6.out.stays hba8)
  clear BW0_6
  have GO0_9 := hide (GO0_7.out.stays hba8)
  clear GO0_7
  have BG0_10 := hide (Box.made z2 #[.int .i64 (gateNewE n0).owner, .slice pg0_1 (gateNewE n0).waits.length qg0_1, .slice pg0_2 (gateNewE n0).queues.length qg0_2] 24)
  clear hba8
  have c_BW0_0 := Lib.cell_of_heap BW0_9.out 0
  simp at c_BW0_0
  have c_BW0_1 := Lib.cell_of_heap BW0_9.out 1
  simp at c_BW0_1
  have c_BW0_2 := Lib.cell_of_heap BW0_9.out 2
  simp at c_BW0_2
  have c_BG0_0 := Lib.cell_of_heap BG0_10.out 0
  simp at c_BG0_0
  have c_BG0_1 := Lib.cell_of_heap BG0_10.out 1
  simp at c_BG0_1
  have c_BG0_2 := Lib.cell_of_heap BG0_10.out 2
  simp at c_BG0_2
  go_wp2_with fail
  clear c_BW0_0 c_BW0_1 c_BW0_2 c_BG0_0 c_BG0_1 c_BG0_2
  obtain ⟨y2, hy2⟩ : ∃ Z, z2.alloc (.cells #[.int .i64 (gateNewE n0).owner, .slice pg0_1 (gateNewE n0).waits.length qg0_1, .slice pg0_2 (gateNewE n0).queues.length qg0_2] 24) = Z := ⟨_, rfl⟩
  rw [hy2] at HB_9 WO0_9 BW0_9 GO0_9 BG0_10 SZ4 ⊢
  clear hy2
  refine (eqGate_same (gateNewE n0) _ _ _ _ _ (GO0_9.out).at.a1 (WO0_9.out).at.a1 (GO0_9.out).at.a2 (WO0_9.out).at.a2 HL0.out.l1 HL0.out.l2).mono ?_
  rintro e z3 ⟨rfl, hbe11⟩
  have SZ5 : Hid (y2.heap.size ≤ z3.heap.size) := hbe11.size
  have HB_12 := hide (HB_9.out.trans (hbe11.mono HB_9.out.size))
  clear HB_9
  have WO0_12 := hide (WO0_9.out.stays hbe11)
  clear WO0_9
  have BW0_12 := hide (BW0_9.out.stays hbe11)
  clear BW0_9
  have GO0_12 := hide (GO0_9.out.stays hbe11)
  clear GO0_9
  have BG0_12 := hide (BG0_10.out.stays hbe11)
  clear BG0_10
  clear hbe11
  have c_BW0_0 := Lib.cell_of_heap BW0_12.out 0
  simp at c_BW0_0
  have c_BW0_1 := Lib.cell_of_heap BW0_12.out 1
  simp at c_BW0_1
  have c_BW0_2 := Lib.cell_of_heap BW0_12.out 2
  simp at c_BW0_2
  have c_BG0_0 := Lib.cell_of_heap BG0_12.out 0
  simp at c_BG0_0
  have c_BG0_1 := Lib.cell_of_heap BG0_12.out 1
  simp at c_BG0_1
  have c_BG0_2 := Lib.cell_of_heap BG0_12.out 2
  simp at c_BG0_2
  go_wp2_with fail
  clear c_BW0_0 c_BW0_1 c_BW0_2 c_BG0_0 c_BG0_1 c_BG0_2
  refine (markGate_any _ _ _ (gateNewE n0) _ GO0_12.out _ rfl _ rfl (by have := SZ1.out; have := SZ2.out; have := SZ3.out; have := SZ4.out; have := SZ5.out; have := BG0_12.out.lt; omega) HL0.out.l1 HL0.out.l2).mono ?_
  rintro e z4 ⟨rfl, hhd, hbm, hot⟩
  have HB_13 : Hid (Below w.heap.size w z4) := HB_12.out.trans (hbm.mono (by have := SZ1.out; have := SZ2.out; have := SZ3.out; have := SZ4.out; have := SZ5.out; omega))
  clear HB_12
  have WO0_13 : Hid (GtOwn w.heap.size z4 (.slice pw0_1 (gateNewE n0).waits.length qw0_1) (.slice pw0_2 (gateNewE n0).queues.length qw0_2) (gateNewE n0)) := WO0_12.out.low hbm ⟨fun i hi => by have := WL0.out.1 i hi; have := SZ1.out; have := SZ2.out; have := SZ3.out; have := SZ4.out; have := SZ5.out; omega, fun i hi => by have := WL0.out.2 i hi; have := SZ1.out; have := SZ2.out; have := SZ3.out; have := SZ4.out; have := SZ5.out; omega⟩
  clear WO0_12
  have BW0_13 : Hid (Box z4 z1.heap.size #[.int .i64 (gateNewE n0).owner, .slice pw0_1 (gateNewE n0).waits.length qw0_1, .slice pw0_2 (gateNewE n0).queues.length qw0_2] 24) := (hbm.block _ (by have := SZ1.out; have := SZ2.out; have := SZ3.out; have := SZ4.out; have := SZ5.out; omega)).trans BW0_12.out
  clear BW0_12
  clear GO0_12
  have BG0_13 : Hid (Box z4 z2.heap.size #[.int .i64 (gateNewE n0).owner, .slice pg0_1 (gateNewE n0).waits.length qg0_1, .slice pg0_2 (gateNewE n0).queues.length qg0_2] 24) := (hot _ BG0_12.out.lt (fun e => by have := GL0.out.1 _ e; omega) (fun e => by have := GL0.out.2 _ e; omega)).trans BG0_12.out
  clear BG0_12
  have GH_14 := hide (hhd)
  clear hbm hot hhd
  obtain ⟨tot, etot⟩ : ∃ tot : Int, ((1 + (gateNewE n0).waits.length + (gateNewE n0).queues.length : Nat) : Int) = tot := ⟨_, rfl⟩
  have htot : ¬ tot < 0 := by omega
  have ETOT := hide etot
  rw [etot]
  clear etot
  have c_BW0_0 := Lib.cell_of_heap BW0_13.out 0
  simp at c_BW0_0
  have c_BW0_1 := Lib.cell_of_heap BW0_13.out 1
  simp at c_BW0_1
  have c_BW0_2 := Lib.cell_of_heap BW0_13.out 2
  simp at c_BW0_2
  have c_BG0_0 := Lib.cell_of_heap BG0_13.out 0
  simp at c_BG0_0
  have c_BG0_1 := Lib.cell_of_heap BG0_13.out 1
  simp at c_BG0_1
  have c_BG0_2 := Lib.cell_of_heap BG0_13.out 2
  simp at c_BG0_2
  go_wp2_with fail
  clear c_BW0_0 c_BW0_1 c_BW0_2 c_BG0_0 c_BG0_1 c_BG0_2
  refine (heldGate_any _ _ _ _ _ _ GH_14.out HL0.out.l1 HL0.out.l2).mono ?_
  rintro e z5 ⟨rfl, hbh15⟩
  have HB_16 := hide (HB_13.out.trans (hbh15.mono HB_13.out.size))
  clear HB_13
  have WO0_16 := hide (WO0_13.out.stays hbh15)
  clear WO0_13
  have BW0_16 := hide (BW0_13.out.stays hbh15)
  clear BW0_13
  have BG0_16 := hide (BG0_13.out.stays hbh15)
  clear BG0_13
  have GH_16 := hide (GH_14.out.stays hbh15)
  clear GH_14
  clear hbh15
  rw [ETOT.out]
  have c_BW0_0 := Lib.cell_of_heap BW0_16.out 0
  simp at c_BW0_0
  have c_BW0_1 := Lib.cell_of_heap BW0_16.out 1
  simp at c_BW0_1
  have c_BW0_2 := Lib.cell_of_heap BW0_16.out 2
  simp at c_BW0_2
  have c_BG0_0 := Lib.cell_of_heap BG0_16.out 0
  simp at c_BG0_0
  have c_BG0_1 := Lib.cell_of_heap BG0_16.out 1
  simp at c_BG0_1
  have c_BG0_2 := Lib.cell_of_heap BG0_16.out 2
  simp at c_BG0_2
  go_wp2_with fail
  clear c_BW0_0 c_BW0_1 c_BW0_2 c_BG0_0 c_BG0_1 c_BG0_2
  refine (HPI1.out _ ).mono ?_
  rintro e z6 ⟨h0_1, h0_2, rfl, hoh0, hbh⟩
  have SZ6 : Hid (z5.heap.size ≤ z6.heap.size) := hbh.size
  have HB_17 := hide (HB_16.out.trans (hbh.mono HB_16.out.size))
  clear HB_16
  have WO0_17 := hide (WO0_16.out.stays hbh)
  clear WO0_16
  have BW0_17 := hide (BW0_16.out.stays hbh)
  clear BW0_16
  have BG0_17 := hide (BG0_16.out.stays hbh)
  clear BG0_16
  have GH_17 := hide (GH_16.out.stays hbh)
  clear GH_16
  obtain ⟨ph0_1, qh0_1, rfl⟩ := form_own hoh0.o1
  obtain ⟨ph0_2, qh0_2, rfl⟩ := form_own hoh0.o2
  have HO0_18 := hide (hoh0)
  clear hoh0
  clear hbh
  have hba19 : Below z6.heap.size z6 (z6.alloc (.cells #[.int .i64 (gateNewE n0).owner, .slice ph0_1 (gateNewE n0).waits.length qh0_1, .slice ph0_2 (gateNewE n0).queues.length qh0_2] 24)) := (Below.refl _ _).alloc (Nat.le_refl _) _
  have SZ7 : Hid ((z6.alloc (.cells #[.int .i64 (gateNewE n0).owner, .slice ph0_1 (gateNewE n0).waits.length qh0_1, .slice ph0_2 (gateNewE n0).queues.length qh0_2] 24)).heap.size = z6.heap.size + 1) := by show _ = _; simp
  have HB_20 := hide (HB_17.out.trans (hba19.mono HB_17.out.size))
  clear HB_17
  have WO0_20 := hide (WO0_17.out.stays hba19)
  clear WO0_17
  have BW0_20 := hide (BW0_17.out.stays hba19)
  clear BW0_17
  have BG0_20 := hide (BG0_17.out.stays hba19)
  clear BG0_17
  have GH_20 := hide (GH_17.out.stays hba19)
  clear GH_17
  have HO0_20 := hide (HO0_18.out.stays hba19)
  clear HO0_18
  have BH0_21 := hide (Box.made z6 #[.int .i64 (gateNewE n0).owner, .slice ph0_1 (gateNewE n0).waits.length qh0_1, .slice ph0_2 (gateNewE n0).queues.length qh0_2] 24)
  clear hba19
  have c_BW0_0 := Lib.cell_of_heap BW0_20.out 0
  simp at c_BW0_0
  have c_BW0_1 := Lib.cell_of_heap BW0_20.out 1
  simp at c_BW0_1
  have c_BW0_2 := Lib.cell_of_heap BW0_20.out 2
  simp at c_BW0_2
  have c_BG0_0 := Lib.cell_of_heap BG0_20.out 0
  simp at c_BG0_0
  have c_BG0_1 := Lib.cell_of_heap BG0_20.out 1
  simp at c_BG0_1
  have c_BG0_2 := Lib.cell_of_heap BG0_20.out 2
  simp at c_BG0_2
  have c_BH0_0 := Lib.cell_of_heap BH0_21.out 0
  simp at c_BH0_0
  have c_BH0_1 := Lib.cell_of_heap BH0_21.out 1
  simp at c_BH0_1
  have c_BH0_2 := Lib.cell_of_heap BH0_21.out 2
  simp at c_BH0_2
  go_wp2_with fail
  clear c_BW0_0 c_BW0_1 c_BW0_2 c_BG0_0 c_BG0_1 c_BG0_2 c_BH0_0 c_BH0_1 c_BH0_2
  obtain ⟨y3, hy3⟩ : ∃ Z, z6.alloc (.cells #[.int .i64 (gateNewE n0).owner, .slice ph0_1 (gateNewE n0).waits.length qh0_1, .slice ph0_2 (gateNewE n0).queues.length qh0_2] 24) = Z := ⟨_, rfl⟩
  rw [hy3] at HB_20 WO0_20 BW0_20 BG0_20 GH_20 HO0_20 BH0_21 SZ7 ⊢
  clear hy3
  refine (eqGate_same (gateNewE n0) _ _ _ _ _ (HO0_20.out).at.a1 (WO0_20.out).at.a1 (HO0_20.out).at.a2 (WO0_20.out).at.a2 HL0.out.l1 HL0.out.l2).mono ?_
  rintro e z7 ⟨rfl, hbe22⟩
  have SZ8 : Hid (y3.heap.size ≤ z7.heap.size) := hbe22.size
  have HB_23 := hide (HB_20.out.trans (hbe22.mono HB_20.out.size))
  clear HB_20
  have WO0_23 := hide (WO0_20.out.stays hbe22)
  clear WO0_20
  have BW0_23 := hide (BW0_20.out.stays hbe22)
  clear BW0_20
  have BG0_23 := hide (BG0_20.out.stays hbe22)
  clear BG0_20
  have GH_23 := hide (GH_20.out.stays hbe22)
  clear GH_20
  have HO0_23 := hide (HO0_20.out.stays hbe22)
  clear HO0_20
  have BH0_23 := hide (BH0_21.out.stays hbe22)
  clear BH0_21
  clear hbe22
  have c_BW0_0 := Lib.cell_of_heap BW0_23.out 0
  simp at c_BW0_0
  have c_BW0_1 := Lib.cell_of_heap BW0_23.out 1
  simp at c_BW0_1
  have c_BW0_2 := Lib.cell_of_heap BW0_23.out 2
  simp at c_BW0_2
  have c_BG0_0 := Lib.cell_of_heap BG0_23.out 0
  simp at c_BG0_0
  have c_BG0_1 := Lib.cell_of_heap BG0_23.out 1
  simp at c_BG0_1
  have c_BG0_2 := Lib.cell_of_heap BG0_23.out 2
  simp at c_BG0_2
  have c_BH0_0 := Lib.cell_of_heap BH0_23.out 0
  simp at c_BH0_0
  have c_BH0_1 := Lib.cell_of_heap BH0_23.out 1
  simp at c_BH0_1
  have c_BH0_2 := Lib.cell_of_heap BH0_23.out 2
  simp at c_BH0_2
  clear c_BW0_0 c_BW0_1 c_BW0_2 c_BG0_0 c_BG0_1 c_BG0_2 c_BH0_0 c_BH0_1 c_BH0_2
  have c_BW0_0 := Lib.cell_of_heap BW0_23.out 0
  simp at c_BW0_0
  have c_BW0_1 := Lib.cell_of_heap BW0_23.out 1
  simp at c_BW0_1
  have c_BW0_2 := Lib.cell_of_heap BW0_23.out 2
  simp at c_BW0_2
  have c_BG0_0 := Lib.cell_of_heap BG0_23.out 0
  simp at c_BG0_0
  have c_BG0_1 := Lib.cell_of_heap BG0_23.out 1
  simp at c_BG0_1
  have c_BG0_2 := Lib.cell_of_heap BG0_23.out 2
  simp at c_BG0_2
  have c_BH0_0 := Lib.cell_of_heap BH0_23.out 0
  simp at c_BH0_0
  have c_BH0_1 := Lib.cell_of_heap BH0_23.out 1
  simp at c_BH0_1
  have c_BH0_2 := Lib.cell_of_heap BH0_23.out 2
  simp at c_BH0_2
  go_wp2_with fail
  clear c_BW0_0 c_BW0_1 c_BW0_2 c_BG0_0 c_BG0_1 c_BG0_2 c_BH0_0 c_BH0_1 c_BH0_2
  refine (heldGate_any _ _ _ _ _ _ GH_23.out HL0.out.l1 HL0.out.l2).mono ?_
  rintro e z8 ⟨rfl, hbh24⟩
  have HB_25 := hide (HB_23.out.trans (hbh24.mono HB_23.out.size))
  clear HB_23
  have WO0_25 := hide (WO0_23.out.stays hbh24)
  clear WO0_23
  have BW0_25 := hide (BW0_23.out.stays hbh24)
  clear BW0_23
  have BG0_25 := hide (BG0_23.out.stays hbh24)
  clear BG0_23
  have GH_25 := hide (GH_23.out.stays hbh24)
  clear GH_23
  have HO0_25 := hide (HO0_23.out.stays hbh24)
  clear HO0_23
  have BH0_25 := hide (BH0_23.out.stays hbh24)
  clear BH0_23
  clear hbh24
  rw [ETOT.out]
  go_wp2
  go_ret
  exact ⟨rfl, HB_25.out⟩
set_option maxRecDepth 100000 in
set_option maxHeartbeats 8000000 in
theorem lawGateOk (v0_1 v0_2 : Value) (x0 : Gt) (w : World) (h0 : GtAt w v0_1 v0_2 x0) (m0 : GtMax x0)
    (SP : szGt x0 ≤ 1048576 → ∀ (v0_1 v0_2 : Value) (z : World) (b0 : Nat), GtC b0 z [.int .i64 x0.owner, v0_1, v0_2] x0 → Calls Try.prog 15 #[.agg #[.int .i64 x0.owner, v0_1, v0_2]] z fun e w' => e = .returned (.bool (gateOkB x0)) ∧ Below z.heap.size z w')
    (IP : szGt x0 ≤ 1048576 → ∀ (v0_1 v0_2 : Value) (z : World) (b0 : Nat), GtC b0 z [.int .i64 x0.owner, v0_1, v0_2] x0 → Calls Try.prog 17 #[.agg #[.int .i64 x0.owner, v0_1, v0_2]] z fun e w' => e = .returned (.bool (gateOkB x0)) ∧ Below z.heap.size z w') :
    Calls Try.prog 4 #[.agg #[.int .i64 x0.owner, v0_1, v0_2]] w fun e w' => e = .returned (.bool true) ∧ Below w.heap.size w w' := by
  have HPS := hide SP
  have HPI := hide IP
  clear SP IP
  have HW0 := hide h0
  have HM0 := hide m0
  have HB : Hid (Below w.heap.size w (w.alloc (.cells #[.int .i64 x0.owner, v0_1, v0_2] 29))) := by show Below w.heap.size w _; go_grown
  have BA0 := hide (Box.madeAt (g := w.heap.size) (w := w) (by simp) #[.int .i64 x0.owner, v0_1, v0_2] 29)
  obtain ⟨⟨a0_1, b0_1, rfl, _⟩, ⟨a0_2, b0_2, rfl, _⟩⟩ := h0
  clear m0
  have SZ1 : Hid ((w.alloc (.cells #[.int .i64 x0.owner, .slice a0_1 x0.waits.length b0_1, .slice a0_2 x0.queues.length b0_2] 29)).heap.size = w.heap.size + 1) := by show _ = _; simp
  go_enter Try.func4, Try.ntmps4
  have c_BA0_0 := Lib.cell_of_heap BA0.out 0
  simp at c_BA0_0
  have c_BA0_1 := Lib.cell_of_heap BA0.out 1
  simp at c_BA0_1
  have c_BA0_2 := Lib.cell_of_heap BA0.out 2
  simp at c_BA0_2
  go_wp2_with fail
  clear c_BA0_0 c_BA0_1 c_BA0_2
  obtain ⟨y0, hy0⟩ : ∃ Z, w.alloc (.cells #[.int .i64 x0.owner, .slice a0_1 x0.waits.length b0_1, .slice a0_2 x0.queues.length b0_2] 29) = Z := ⟨_, rfl⟩
  rw [hy0] at HB BA0 SZ1 ⊢
  clear hy0
  refine (szGate_any x0 _ _ _ _ (by omega) (by omega) (HW0.out.stays HB.out).a1 (HW0.out.stays HB.out).a2 HM0.out).mono ?_
  rintro e z1 ⟨r0, rfl, hr0, hb0⟩
  have SZ2 : Hid (y0.heap.size ≤ z1.heap.size) := hb0.size
  have HB_1 := hide (HB.out.trans (hb0.mono HB.out.size))
  clear HB
  have BA0_1 := hide (BA0.out.stays hb0)
  clear BA0
  clear hb0
  have c_BA0_0 := Lib.cell_of_heap BA0_1.out 0
  simp at c_BA0_0
  have c_BA0_1 := Lib.cell_of_heap BA0_1.out 1
  simp at c_BA0_1
  have c_BA0_2 := Lib.cell_of_heap BA0_1.out 2
  simp at c_BA0_2
  by_cases hn0 : r0 < 0
  · clear hr0
    go_wp2
    go_ret
    exact ⟨rfl, HB_1.out⟩
  obtain ⟨hp0, hq0⟩ := hr0.resolve_left hn0
  have HQ0 := hide hq0
  have hq0b : r0 ≤ 1048576 := by omega
  clear hq0 hr0
  have HSZ : Hid (szGt x0 ≤ 1048576) := by
    show _ ≤ _
    have := HQ0.out
    omega
  have HPS1 := hide (HPS.out HSZ.out)
  have HPI1 := hide (HPI.out HSZ.out)
  have HN0 : Hid (GtLen x0) := szGt_len (by have := HSZ.out; omega)
  go_wp2_with fail
  clear c_BA0_0 c_BA0_1 c_BA0_2
  refine (toGate_any x0 _ _ _ (HW0.out.stays HB_1.out).a1 (HW0.out.stays HB_1.out).a2 HN0.out.l1 HN0.out.l2).mono ?_
  rintro e z2 ⟨o1_1, k1_1, c1_1, o1_2, k1_2, c1_2, rfl, hc1, hb1⟩
  have SZ3 : Hid (z1.heap.size ≤ z2.heap.size) := hb1.size
  have HB_2 := hide (HB_1.out.trans (hb1.mono HB_1.out.size))
  clear HB_1
  have BA0_2 := hide (BA0_1.out.stays hb1)
  clear BA0_1
  have XC1_3 := hide (hc1)
  clear hc1 hb1
  go_wp2_with fail
  refine (HPS1.out _ _ _ _ XC1_3.out).mono ?_
  rintro e z3 ⟨rfl, hbw⟩
  have SZ4 : Hid (z2.heap.size ≤ z3.heap.size) := hbw.size
  have HB_4 := hide (HB_2.out.trans (hbw.mono HB_2.out.size))
  clear HB_2
  have BA0_4 := hide (BA0_2.out.stays hbw)
  clear BA0_2
  have XC1_4 := hide (XC1_3.out.stays hbw)
  clear XC1_3
  clear hbw
  clear XC1_4
  have c_BA0_0 := Lib.cell_of_heap BA0_4.out 0
  simp at c_BA0_0
  have c_BA0_1 := Lib.cell_of_heap BA0_4.out 1
  simp at c_BA0_1
  have c_BA0_2 := Lib.cell_of_heap BA0_4.out 2
  simp at c_BA0_2
  go_wp2_with fail
  clear c_BA0_0 c_BA0_1 c_BA0_2
  refine (toGate_any x0 _ _ _ (HW0.out.stays HB_4.out).a1 (HW0.out.stays HB_4.out).a2 HN0.out.l1 HN0.out.l2).mono ?_
  rintro e z4 ⟨o2_1, k2_1, c2_1, o2_2, k2_2, c2_2, rfl, hc2, hb2⟩
  have SZ5 : Hid (z3.heap.size ≤ z4.heap.size) := hb2.size
  have HB_5 := hide (HB_4.out.trans (hb2.mono HB_4.out.size))
  clear HB_4
  have BA0_5 := hide (BA0_4.out.stays hb2)
  clear BA0_4
  have XC2_6 := hide (hc2)
  clear hc2 hb2
  have XS0_7 := hide (XC2_6.out.sh (T := z4.heap.size) (Nat.le_refl _))
  have hba8 : Below z4.heap.size z4 (z4.alloc (.cells #[.int .i64 x0.owner, .slice o2_1 k2_1 c2_1, .slice o2_2 k2_2 c2_2] 24)) := (Below.refl _ _).alloc (Nat.le_refl _) _
  have SZ6 : Hid ((z4.alloc (.cells #[.int .i64 x0.owner, .slice o2_1 k2_1 c2_1, .slice o2_2 k2_2 c2_2] 24)).heap.size = z4.heap.size + 1) := by show _ = _; simp
  have HB_9 := hide (HB_5.out.trans (hba8.mono HB_5.out.size))
  clear HB_5
  have BA0_9 := hide (BA0_5.out.stays hba8)
  clear BA0_5
  have XC2_9 := hide (XC2_6.out.stays hba8)
  clear XC2_6
  have XS0_9 := hide (XS0_7.out.stays hba8)
  clear XS0_7
  have BX0_10 := hide (Box.made z4 #[.int .i64 x0.owner, .slice o2_1 k2_1 c2_1, .slice o2_2 k2_2 c2_2] 24)
  clear hba8
  have c_BA0_0 := Lib.cell_of_heap BA0_9.out 0
  simp at c_BA0_0
  have c_BA0_1 := Lib.cell_of_heap BA0_9.out 1
  simp at c_BA0_1
  have c_BA0_2 := Lib.cell_of_heap BA0_9.out 2
  simp at c_BA0_2
  have c_BX0_0 := Lib.cell_of_heap BX0_10.out 0
  simp at c_BX0_0
  have c_BX0_1 := Lib.cell_of_heap BX0_10.out 1
  simp at c_BX0_1
  have c_BX0_2 := Lib.cell_of_heap BX0_10.out 2
  simp at c_BX0_2
  go_wp2_with fail
  clear c_BA0_0 c_BA0_1 c_BA0_2 c_BX0_0 c_BX0_1 c_BX0_2
  obtain ⟨y1, hy1⟩ : ∃ Z, z4.alloc (.cells #[.int .i64 x0.owner, .slice o2_1 k2_1 c2_1, .slice o2_2 k2_2 c2_2] 24) = Z := ⟨_, rfl⟩
  rw [hy1] at HB_9 BA0_9 XC2_9 XS0_9 BX0_10 SZ6 ⊢
  clear hy1
  refine (HPI1.out _ _ _ _ XC2_9.out).mono ?_
  rintro e z5 ⟨rfl, hbg⟩
  have SZ7 : Hid (y1.heap.size ≤ z5.heap.size) := hbg.size
  have HB_11 := hide (HB_9.out.trans (hbg.mono HB_9.out.size))
  clear HB_9
  have BA0_11 := hide (BA0_9.out.stays hbg)
  clear BA0_9
  have XC2_11 := hide (XC2_9.out.stays hbg)
  clear XC2_9
  have XS0_11 := hide (XS0_9.out.stays hbg)
  clear XS0_9
  have BX0_11 := hide (BX0_10.out.stays hbg)
  clear BX0_10
  clear hbg
  have c_BA0_0 := Lib.cell_of_heap BA0_11.out 0
  simp at c_BA0_0
  have c_BA0_1 := Lib.cell_of_heap BA0_11.out 1
  simp at c_BA0_1
  have c_BA0_2 := Lib.cell_of_heap BA0_11.out 2
  simp at c_BA0_2
  have c_BX0_0 := Lib.cell_of_heap BX0_11.out 0
  simp at c_BX0_0
  have c_BX0_1 := Lib.cell_of_heap BX0_11.out 1
  simp at c_BX0_1
  have c_BX0_2 := Lib.cell_of_heap BX0_11.out 2
  simp at c_BX0_2
  go_wp2_with fail
  clear c_BA0_0 c_BA0_1 c_BA0_2 c_BX0_0 c_BX0_1 c_BX0_2
  have KT : Hid (∀ z z' : World, (Below w.heap.size w z ∧ Box z (w.heap.size) #[.int .i64 x0.owner, .slice a0_1 x0.waits.length b0_1, .slice a0_2 x0.queues.length b0_2] 29 ∧ GtC z3.heap.size z [.int .i64 x0.owner, .slice o2_1 k2_1 c2_1, .slice o2_2 k2_2 c2_2] x0 ∧ GtSh z3.heap.size z4.heap.size z (.slice o2_1 k2_1 c2_1) (.slice o2_2 k2_2 c2_2) x0 ∧ Box z z4.heap.size #[.int .i64 x0.owner, .slice o2_1 k2_1 c2_1, .slice o2_2 k2_2 c2_2] 24) → Below z.heap.size z z' → (Below w.heap.size w z' ∧ Box z' (w.heap.size) #[.int .i64 x0.owner, .slice a0_1 x0.waits.length b0_1, .slice a0_2 x0.queues.length b0_2] 29 ∧ GtC z3.heap.size z' [.int .i64 x0.owner, .slice o2_1 k2_1 c2_1, .slice o2_2 k2_2 c2_2] x0 ∧ GtSh z3.heap.size z4.heap.size z' (.slice o2_1 k2_1 c2_1) (.slice o2_2 k2_2 c2_2) x0 ∧ Box z' z4.heap.size #[.int .i64 x0.owner, .slice o2_1 k2_1 c2_1, .slice o2_2 k2_2 c2_2] 24)) := fun z z' hz hb => ⟨(hz.1).trans (hb.mono (hz.1).size), (hz.2.1).stays hb, (hz.2.2.1).stays hb, (hz.2.2.2.1).stays hb, (hz.2.2.2.2).stays hb⟩
  have KC : Hid (∀ z : World, (Below w.heap.size w z ∧ Box z (w.heap.size) #[.int .i64 x0.owner, .slice a0_1 x0.waits.length b0_1, .slice a0_2 x0.queues.length b0_2] 29 ∧ GtC z3.heap.size z [.int .i64 x0.owner, .slice o2_1 k2_1 c2_1, .slice o2_2 k2_2 c2_2] x0 ∧ GtSh z3.heap.size z4.heap.size z (.slice o2_1 k2_1 c2_1) (.slice o2_2 k2_2 c2_2) x0 ∧ Box z z4.heap.size #[.int .i64 x0.owner, .slice o2_1 k2_1 c2_1, .slice o2_2 k2_2 c2_2] 24) → (z.cell? ⟨(w.heap.size), 0, none⟩ = some (.int .i64 x0.owner) ∧ z.cell? ⟨(w.heap.size), 1, none⟩ = some (.slice a0_1 x0.waits.length b0_1) ∧ z.cell? ⟨(w.heap.size), 2, none⟩ = some (.slice a0_2 x0.queues.length b0_2) ∧ z.cell? ⟨z4.heap.size, 0, none⟩ = some (.int .i64 x0.owner) ∧ z.cell? ⟨z4.heap.size, 1, none⟩ = some (.slice o2_1 k2_1 c2_1) ∧ z.cell? ⟨z4.heap.size, 2, none⟩ = some (.slice o2_2 k2_2 c2_2) ∧ Hid ((Below w.heap.size w z ∧ Box z (w.heap.size) #[.int .i64 x0.owner, .slice a0_1 x0.waits.length b0_1, .slice a0_2 x0.queues.length b0_2] 29 ∧ GtC z3.heap.size z [.int .i64 x0.owner, .slice o2_1 k2_1 c2_1, .slice o2_2 k2_2 c2_2] x0 ∧ GtSh z3.heap.size z4.heap.size z (.slice o2_1 k2_1 c2_1) (.slice o2_2 k2_2 c2_2) x0 ∧ Box z z4.heap.size #[.int .i64 x0.owner, .slice o2_1 k2_1 c2_1, .slice o2_2 k2_2 c2_2] 24)))) := fun z hz => ⟨Lib.cell_of_heap (hz.2.1) 0, Lib.cell_of_heap (hz.2.1) 1, Lib.cell_of_heap (hz.2.1) 2, Lib.cell_of_heap (hz.2.2.2.2) 0, Lib.cell_of_heap (hz.2.2.2.2) 1, Lib.cell_of_heap (hz.2.2.2.2) 2, hz⟩
  have KV : Hid (∀ z : World, (z.cell? ⟨(w.heap.size), 0, none⟩ = some (.int .i64 x0.owner) ∧ z.cell? ⟨(w.heap.size), 1, none⟩ = some (.slice a0_1 x0.waits.length b0_1) ∧ z.cell? ⟨(w.heap.size), 2, none⟩ = some (.slice a0_2 x0.queues.length b0_2) ∧ z.cell? ⟨z4.heap.size, 0, none⟩ = some (.int .i64 x0.owner) ∧ z.cell? ⟨z4.heap.size, 1, none⟩ = some (.slice o2_1 k2_1 c2_1) ∧ z.cell? ⟨z4.heap.size, 2, none⟩ = some (.slice o2_2 k2_2 c2_2) ∧ Hid ((Below w.heap.size w z ∧ Box z (w.heap.size) #[.int .i64 x0.owner, .slice a0_1 x0.waits.length b0_1, .slice a0_2 x0.queues.length b0_2] 29 ∧ GtC z3.heap.size z [.int .i64 x0.owner, .slice o2_1 k2_1 c2_1, .slice o2_2 k2_2 c2_2] x0 ∧ GtSh z3.heap.size z4.heap.size z (.slice o2_1 k2_1 c2_1) (.slice o2_2 k2_2 c2_2) x0 ∧ Box z z4.heap.size #[.int .i64 x0.owner, .slice o2_1 k2_1 c2_1, .slice o2_2 k2_2 c2_2] 24))) → (Below w.heap.size w z ∧ Box z (w.heap.size) #[.int .i64 x0.owner, .slice a0_1 x0.waits.length b0_1, .slice a0_2 x0.queues.length b0_2] 29 ∧ GtC z3.heap.size z [.int .i64 x0.owner, .slice o2_1 k2_1 c2_1, .slice o2_2 k2_2 c2_2] x0 ∧ GtSh z3.heap.size z4.heap.size z (.slice o2_1 k2_1 c2_1) (.slice o2_2 k2_2 c2_2) x0 ∧ Box z z4.heap.size #[.int .i64 x0.owner, .slice o2_1 k2_1 c2_1, .slice o2_2 k2_2 c2_2] 24)) := fun z hz => hz.2.2.2.2.2.2.out
  have KP : Hid (∀ z z' : World, (z.cell? ⟨(w.heap.size), 0, none⟩ = some (.int .i64 x0.owner) ∧ z.cell? ⟨(w.heap.size), 1, none⟩ = some (.slice a0_1 x0.waits.length b0_1) ∧ z.cell? ⟨(w.heap.size), 2, none⟩ = some (.slice a0_2 x0.queues.length b0_2) ∧ z.cell? ⟨z4.heap.size, 0, none⟩ = some (.int .i64 x0.owner) ∧ z.cell? ⟨z4.heap.size, 1, none⟩ = some (.slice o2_1 k2_1 c2_1) ∧ z.cell? ⟨z4.heap.size, 2, none⟩ = some (.slice o2_2 k2_2 c2_2) ∧ Hid ((Below w.heap.size w z ∧ Box z (w.heap.size) #[.int .i64 x0.owner, .slice a0_1 x0.waits.length b0_1, .slice a0_2 x0.queues.length b0_2] 29 ∧ GtC z3.heap.size z [.int .i64 x0.owner, .slice o2_1 k2_1 c2_1, .slice o2_2 k2_2 c2_2] x0 ∧ GtSh z3.heap.size z4.heap.size z (.slice o2_1 k2_1 c2_1) (.slice o2_2 k2_2 c2_2) x0 ∧ Box z z4.heap.size #[.int .i64 x0.owner, .slice o2_1 k2_1 c2_1, .slice o2_2 k2_2 c2_2] 24))) → Below z.heap.size z z' → (z'.cell? ⟨(w.heap.size), 0, none⟩ = some (.int .i64 x0.owner) ∧ z'.cell? ⟨(w.heap.size), 1, none⟩ = some (.slice a0_1 x0.waits.length b0_1) ∧ z'.cell? ⟨(w.heap.size), 2, none⟩ = some (.slice a0_2 x0.queues.length b0_2) ∧ z'.cell? ⟨z4.heap.size, 0, none⟩ = some (.int .i64 x0.owner) ∧ z'.cell? ⟨z4.heap.size, 1, none⟩ = some (.slice o2_1 k2_1 c2_1) ∧ z'.cell? ⟨z4.heap.size, 2, none⟩ = some (.slice o2_2 k2_2 c2_2) ∧ Hid ((Below w.heap.size w z' ∧ Box z' (w.heap.size) #[.int .i64 x0.owner, .slice a0_1 x0.waits.length b0_1, .slice a0_2 x0.queues.length b0_2] 29 ∧ GtC z3.heap.size z' [.int .i64 x0.owner, .slice o2_1 k2_1 c2_1, .slice o2_2 k2_2 c2_2] x0 ∧ GtSh z3.heap.size z4.heap.size z' (.slice o2_1 k2_1 c2_1) (.slice o2_2 k2_2 c2_2) x0 ∧ Box z' z4.heap.size #[.int .i64 x0.owner, .slice o2_1 k2_1 c2_1, .slice o2_2 k2_2 c2_2] 24)))) := fun z z' hz hb => KC.out _ (KT.out _ _ (KV.out _ hz) hb)
  have K0 := hide (KC.out _ (KT.out _ _ ⟨HB_11.out, BA0_11.out, XC2_11.out, XS0_11.out, BX0_11.out⟩ (Below.refl _ _).drew))
  clear HB_11 BA0_11 XC2_11 XS0_11 BX0_11
  go_region_held3 (fun z => z.cell? ⟨(w.heap.size), 0, none⟩ = some (.int .i64 x0.owner) ∧ z.cell? ⟨(w.heap.size), 1, none⟩ = some (.slice a0_1 x0.waits.length b0_1) ∧ z.cell? ⟨(w.heap.size), 2, none⟩ = some (.slice a0_2 x0.queues.length b0_2) ∧ z.cell? ⟨z4.heap.size, 0, none⟩ = some (.int .i64 x0.owner) ∧ z.cell? ⟨z4.heap.size, 1, none⟩ = some (.slice o2_1 k2_1 c2_1) ∧ z.cell? ⟨z4.heap.size, 2, none⟩ = some (.slice o2_2 k2_2 c2_2) ∧ Hid ((Below w.heap.size w z ∧ Box z (w.heap.size) #[.int .i64 x0.owner, .slice a0_1 x0.waits.length b0_1, .slice a0_2 x0.queues.length b0_2] 29 ∧ GtC z3.heap.size z [.int .i64 x0.owner, .slice o2_1 k2_1 c2_1, .slice o2_2 k2_2 c2_2] x0 ∧ GtSh z3.heap.size z4.heap.size z (.slice o2_1 k2_1 c2_1) (.slice o2_2 k2_2 c2_2) x0 ∧ Box z z4.heap.size #[.int .i64 x0.owner, .slice o2_1 k2_1 c2_1, .slice o2_2 k2_2 c2_2] 24))) (first | exact K0.out | exact KP.out _ _ (by assumption) hb7)
    (first
      | (go_at_call 16; refine (toGate_any x0 _ _ _ (HW0.out.stays ((KV.out _ (by assumption)).1)).a1 (HW0.out.stays ((KV.out _ (by assumption)).1)).a2 HN0.out.l1 HN0.out.l2).mono ?_; rintro e w7 ⟨oo1, kk1, cc1, oo2, kk2, cc2, rfl, hc7, hb7⟩; have P7 := hide hc7.at; clear hc7)
      | (go_at_call 11; refine (eqGate_same x0 _ _ _ _ _ (((KV.out _ (by assumption)).2.2.1)).at.a1 P7.out.a1 (((KV.out _ (by assumption)).2.2.1)).at.a2 P7.out.a2 HN0.out.l1 HN0.out.l2).mono ?_; rintro e z6 ⟨rfl, hb7⟩))
  obtain ⟨f0, f1, f2, f3, f4⟩ := KV.out z6 (by assumption)
  clear KT KC KV KP K0
  have HB_12 := hide f0
  have BA0_12 := hide f1
  have XC2_12 := hide f2
  have XS0_12 := hide f3
  have BX0_12 := hide f4
  clear f0 f1 f2 f3 f4
  have c_BA0_0 := Lib.cell_of_heap BA0_12.out 0
  simp at c_BA0_0
  have c_BA0_1 := Lib.cell_of_heap BA0_12.out 1
  simp at c_BA0_1
  have c_BA0_2 := Lib.cell_of_heap BA0_12.out 2
  simp at c_BA0_2
  have c_BX0_0 := Lib.cell_of_heap BX0_12.out 0
  simp at c_BX0_0
  have c_BX0_1 := Lib.cell_of_heap BX0_12.out 1
  simp at c_BX0_1
  have c_BX0_2 := Lib.cell_of_heap BX0_12.out 2
  simp at c_BX0_2
  go_wp2
  go_ret
  exact ⟨rfl, HB_12.out⟩
end Go.Proofs.Ytnedpcgdepiakaa
