/-
  The law of CoreNew, over what both sides answer.
-/
import Derived.Test.YtoageggcbpjlmaaCorP
import Derived.Test.YtoageggcbpjlmaaFlC
import Derived.Deep.RegionHeld3
import Derived.Deep.Cut
namespace Go.Proofs.Ytoageggcbpjlmaa
open Go.RowKit

set_option maxRecDepth 100000 in
set_option maxHeartbeats 8000000 in
theorem lawCoreNew (w : World)
    (SP : ∀ (z : World), Calls Try.prog 7 #[] z fun e w' => ∃ r0_0, e = .returned (.agg #[r0_0, .int .i64 (coreNewE).pc, .int .i64 (coreNewE).process]) ∧ CoOwn z.heap.size w' r0_0 (coreNewE) ∧ Below z.heap.size z w')
    (IP : ∀ (z : World), Calls Try.prog 8 #[] z fun e w' => ∃ r0_0, e = .returned (.agg #[r0_0, .int .i64 (coreNewE).pc, .int .i64 (coreNewE).process]) ∧ CoOwn z.heap.size w' r0_0 (coreNewE) ∧ Below z.heap.size z w')
    (LP0 : CoLen (coreNewE)) :
    Calls Try.prog 3 #[] w fun e w' => e = .returned (.bool true) ∧ Below w.heap.size w w' := by
  have HPS := hide SP
  have HPI := hide IP
  have HLP0 := hide LP0
  clear SP IP LP0
  have HB : Hid (Below w.heap.size w w) := Below.refl _ _
  go_enter Try.func3, Try.ntmps3
  have HPS1 := hide (HPS.out)
  have HPI1 := hide (HPI.out)
  have HL0 := hide (HLP0.out)
  go_wp2_with fail
  refine (HPS1.out _ ).mono ?_
  rintro e z1 ⟨w0_0, rfl, how0, hbw⟩
  have SZ1 : Hid (w.heap.size ≤ z1.heap.size) := hbw.size
  have HB_1 := hide (HB.out.trans (hbw.mono HB.out.size))
  clear HB
  obtain ⟨pw0_0, qw0_0, rfl⟩ := form_own how0.o0
  have WO0_2 := hide (how0)
  clear how0
  clear hbw
  have WL0 := hide (WO0_2.out).lt
  have hba3 : Below z1.heap.size z1 (z1.alloc (.cells #[.slice pw0_0 (coreNewE).regs.length qw0_0, .int .i64 (coreNewE).pc, .int .i64 (coreNewE).process] 24)) := (Below.refl _ _).alloc (Nat.le_refl _) _
  have SZ2 : Hid ((z1.alloc (.cells #[.slice pw0_0 (coreNewE).regs.length qw0_0, .int .i64 (coreNewE).pc, .int .i64 (coreNewE).process] 24)).heap.size = z1.heap.size + 1) := by show _ = _; simp
  have HB_4 := hide (HB_1.out.trans (hba3.mono HB_1.out.size))
  clear HB_1
  have WO0_4 := hide (WO0_2.out.stays hba3)
  clear WO0_2
  have BW0_5 := hide (Box.made z1 #[.slice pw0_0 (coreNewE).regs.length qw0_0, .int .i64 (coreNewE).pc, .int .i64 (coreNewE).process] 24)
  clear hba3
  have c_BW0_0 := Lib.cell_of_heap BW0_5.out 0
  simp at c_BW0_0
  have c_BW0_1 := Lib.cell_of_heap BW0_5.out 1
  simp at c_BW0_1
  have c_BW0_2 := Lib.cell_of_heap BW0_5.out 2
  simp at c_BW0_2
  go_wp2_with fail
  clear c_BW0_0 c_BW0_1 c_BW0_2
  obtain ⟨y1, hy1⟩ : ∃ Z, z1.alloc (.cells #[.slice pw0_0 (coreNewE).regs.length qw0_0, .int .i64 (coreNewE).pc, .int .i64 (coreNewE).process] 24) = Z := ⟨_, rfl⟩
  rw [hy1] at HB_4 WO0_4 BW0_5 SZ2 ⊢
  clear hy1
  refine (HPI1.out _ ).mono ?_
  rintro e z2 ⟨g0_0, rfl, hog0, hbg⟩
  have SZ3 : Hid (y1.heap.size ≤ z2.heap.size) := hbg.size
  have HB_6 := hide (HB_4.out.trans (hbg.mono HB_4.out.size))
  clear HB_4
  have WO0_6 := hide (WO0_4.out.stays hbg)
  clear WO0_4
  have BW0_6 := hide (BW0_5.out.stays hbg)
  clear BW0_5
  obtain ⟨pg0_0, qg0_0, rfl⟩ := form_own hog0.o0
  have GO0_7 := hide (hog0)
  clear hog0
  clear hbg
  have GL0 := hide (GO0_7.out).lt
  have hba8 : Below z2.heap.size z2 (z2.alloc (.cells #[.slice pg0_0 (coreNewE).regs.length qg0_0, .int .i64 (coreNewE).pc, .int .i64 (coreNewE).process] 24)) := (Below.refl _ _).alloc (Nat.le_refl _) _
  have SZ4 : Hid ((z2.alloc (.cells #[.slice pg0_0 (coreNewE).regs.length qg0_0, .int .i64 (coreNewE).pc, .int .i64 (coreNewE).process] 24)).heap.size = z2.heap.size + 1) := by show _ = _; simp
  have HB_9 := hide (HB_6.out.trans (hba8.mono HB_6.out.size))
  clear HB_6
  have WO0_9 := hide (WO0_6.out.stays hba8)
  clear WO0_6
  have BW0_9 := hide (BW0_6.out.stays hba8)
  clear BW0_6
  have GO0_9 := hide (GO0_7.out.stays hba8)
  clear GO0_7
  have BG0_10 := hide (Box.made z2 #[.slice pg0_0 (coreNewE).regs.length qg0_0, .int .i64 (coreNewE).pc, .int .i64 (coreNewE).process] 24)
  clear hba8
  have c_BW0_0 := Lib.cell_of_heap BW0_9.out 0
  simp at c_BW0_0
  have c_BW0_1 := Lib.cell_of_heap BW0_9.out 1
  simp at c_BW0_1
  have c_BW0_2 := Lib.cell_of_heap BW0_9.out 2
  simp at c_BW0_2
  have c_BG0_0 := Lib.cell_of_heap BG0_10.out 0
  simp at c_BG0_0
  have c_BG0_1 := Lib.cell_of_heap BG0_10.out 1
  simp at c_BG0_1
  have c_BG0_2 := Lib.cell_of_heap BG0_10.out 2
  simp at c_BG0_2
  go_wp2_with fail
  clear c_BW0_0 c_BW0_1 c_BW0_2 c_BG0_0 c_BG0_1 c_BG0_2
  obtain ⟨y2, hy2⟩ : ∃ Z, z2.alloc (.cells #[.slice pg0_0 (coreNewE).regs.length qg0_0, .int .i64 (coreNewE).pc, .int .i64 (coreNewE).process] 24) = Z := ⟨_, rfl⟩
  rw [hy2] at HB_9 WO0_9 BW0_9 GO0_9 BG0_10 SZ4 ⊢
  clear hy2
  refine (eqCore_same (coreNewE) _ _ _ (GO0_9.out).at.a0 (WO0_9.out).at.a0 HL0.out.l0).mono ?_
  rintro e z3 ⟨rfl, hbe11⟩
  have SZ5 : Hid (y2.heap.size ≤ z3.heap.size) := hbe11.size
  have HB_12 := hide (HB_9.out.trans (hbe11.mono HB_9.out.size))
  clear HB_9
  have WO0_12 := hide (WO0_9.out.stays hbe11)
  clear WO0_9
  have BW0_12 := hide (BW0_9.out.stays hbe11)
  clear BW0_9
  have GO0_12 := hide (GO0_9.out.stays hbe11)
  clear GO0_9
  have BG0_12 := hide (BG0_10.out.stays hbe11)
  clear BG0_10
  clear hbe11
  have c_BW0_0 := Lib.cell_of_heap BW0_12.out 0
  simp at c_BW0_0
  have c_BW0_1 := Lib.cell_of_heap BW0_12.out 1
  simp at c_BW0_1
  have c_BW0_2 := Lib.cell_of_heap BW0_12.out 2
  simp at c_BW0_2
  have c_BG0_0 := Lib.cell_of_heap BG0_12.out 0
  simp at c_BG0_0
  have c_BG0_1 := Lib.cell_of_heap BG0_12.out 1
  simp at c_BG0_1
  have c_BG0_2 := Lib.cell_of_heap BG0_12.out 2
  simp at c_BG0_2
  go_wp2_with fail
  clear c_BW0_0 c_BW0_1 c_BW0_2 c_BG0_0 c_BG0_1 c_BG0_2
  refine (markCore_any _ _ _ (coreNewE) _ GO0_12.out _ rfl (by have := SZ1.out; have := SZ2.out; have := SZ3.out; have := SZ4.out; have := SZ5.out; have := BG0_12.out.lt; omega) HL0.out.l0).mono ?_
  rintro e z4 ⟨rfl, hhd, hbm, hot⟩
  have HB_13 : Hid (Below w.heap.size w z4) := HB_12.out.trans (hbm.mono (by have := SZ1.out; have := SZ2.out; have := SZ3.out; have := SZ4.out; have := SZ5.out; omega))
  clear HB_12
  have WO0_13 : Hid (CoOwn w.heap.size z4 (.slice pw0_0 (coreNewE).regs.length qw0_0) (coreNewE)) := WO0_12.out.low hbm (fun i hi => by have := WL0.out i hi; have := SZ1.out; have := SZ2.out; have := SZ3.out; have := SZ4.out; have := SZ5.out; omega)
  clear WO0_12
  have BW0_13 : Hid (Box z4 z1.heap.size #[.slice pw0_0 (coreNewE).regs.length qw0_0, .int .i64 (coreNewE).pc, .int .i64 (coreNewE).process] 24) := (hbm.block _ (by have := SZ1.out; have := SZ2.out; have := SZ3.out; have := SZ4.out; have := SZ5.out; omega)).trans BW0_12.out
  clear BW0_12
  clear GO0_12
  have BG0_13 : Hid (Box z4 z2.heap.size #[.slice pg0_0 (coreNewE).regs.length qg0_0, .int .i64 (coreNewE).pc, .int .i64 (coreNewE).process] 24) := (hot _ BG0_12.out.lt (fun e => by have := GL0.out _ e; omega)).trans BG0_12.out
  clear BG0_12
  have GH_14 := hide (hhd)
  clear hbm hot hhd
  obtain ⟨tot, etot⟩ : ∃ tot : Int, ((1 + (coreNewE).regs.length : Nat) : Int) = tot := ⟨_, rfl⟩
  have htot : ¬ tot < 0 := by omega
  have ETOT := hide etot
  rw [etot]
  clear etot
  have c_BW0_0 := Lib.cell_of_heap BW0_13.out 0
  simp at c_BW0_0
  have c_BW0_1 := Lib.cell_of_heap BW0_13.out 1
  simp at c_BW0_1
  have c_BW0_2 := Lib.cell_of_heap BW0_13.out 2
  simp at c_BW0_2
  have c_BG0_0 := Lib.cell_of_heap BG0_13.out 0
  simp at c_BG0_0
  have c_BG0_1 := Lib.cell_of_heap BG0_13.out 1
  simp at c_BG0_1
  have c_BG0_2 := Lib.cell_of_heap BG0_13.out 2
  simp at c_BG0_2
  go_wp2_with fail
  clear c_BW0_0 c_BW0_1 c_BW0_2 c_BG0_0 c_BG0_1 c_BG0_2
  refine (heldCore_any _ _ _ _ _ GH_14.out HL0.out.l0).mono ?_
  rintro e z5 ⟨rfl, hbh15⟩
  have HB_16 := hide (HB_13.out.trans (hbh15.mono HB_13.out.size))
  clear HB_13
  have WO0_16 := hide (WO0_13.out.stays hbh15)
  clear WO0_13
  have BW0_16 := hide (BW0_13.out.stays hbh15)
  clear BW0_13
  have BG0_16 := hide (BG0_13.out.stays hbh15)
  clear BG0_13
  have GH_16 := hide (GH_14.out.stays hbh15)
  clear GH_14
  clear hbh15
  rw [ETOT.out]
  have c_BW0_0 := Lib.cell_of_heap BW0_16.out 0
  simp at c_BW0_0
  have c_BW0_1 := Lib.cell_of_heap BW0_16.out 1
  simp at c_BW0_1
  have c_BW0_2 := Lib.cell_of_heap BW0_16.out 2
  simp at c_BW0_2
  have c_BG0_0 := Lib.cell_of_heap BG0_16.out 0
  simp at c_BG0_0
  have c_BG0_1 := Lib.cell_of_heap BG0_16.out 1
  simp at c_BG0_1
  have c_BG0_2 := Lib.cell_of_heap BG0_16.out 2
  simp at c_BG0_2
  go_wp2_with fail
  clear c_BW0_0 c_BW0_1 c_BW0_2 c_BG0_0 c_BG0_1 c_BG0_2
  refine (HPI1.out _ ).mono ?_
  rintro e z6 ⟨h0_0, rfl, hoh0, hbh⟩
  have SZ6 : Hid (z5.heap.size ≤ z6.heap.size) := hbh.size
  have HB_17 := hide (HB_16.out.trans (hbh.mono HB_16.out.size))
  clear HB_16
  have WO0_17 := hide (WO0_16.out.stays hbh)
  clear WO0_16
  have BW0_17 := hide (BW0_16.out.stays hbh)
  clear BW0_16
  have BG0_17 := hide (BG0_16.out.stays hbh)
  clear BG0_16
  have GH_17 := hide (GH_16.out.stays hbh)
  clear GH_16
  obtain ⟨ph0_0, qh0_0, rfl⟩ := form_own hoh0.o0
  have HO0_18 := hide (hoh0)
  clear hoh0
  clear hbh
  have hba19 : Below z6.heap.size z6 (z6.alloc (.cells #[.slice ph0_0 (coreNewE).regs.length qh0_0, .int .i64 (coreNewE).pc, .int .i64 (coreNewE).process] 24)) := (Below.refl _ _).alloc (Nat.le_refl _) _
  have SZ7 : Hid ((z6.alloc (.cells #[.slice ph0_0 (coreNewE).regs.length qh0_0, .int .i64 (coreNewE).pc, .int .i64 (coreNewE).process] 24)).heap.size = z6.heap.size + 1) := by show _ = _; simp
  have HB_20 := hide (HB_17.out.trans (hba19.mono HB_17.out.size))
  clear HB_17
  have WO0_20 := hide (WO0_17.out.stays hba19)
  clear WO0_17
  have BW0_20 := hide (BW0_17.out.stays hba19)
  clear BW0_17
  have BG0_20 := hide (BG0_17.out.stays hba19)
  clear BG0_17
  have GH_20 := hide (GH_17.out.stays hba19)
  clear GH_17
  have HO0_20 := hide (HO0_18.out.stays hba19)
  clear HO0_18
  have BH0_21 := hide (Box.made z6 #[.slice ph0_0 (coreNewE).regs.length qh0_0, .int .i64 (coreNewE).pc, .int .i64 (coreNewE).process] 24)
  clear hba19
  have c_BW0_0 := Lib.cell_of_heap BW0_20.out 0
  simp at c_BW0_0
  have c_BW0_1 := Lib.cell_of_heap BW0_20.out 1
  simp at c_BW0_1
  have c_BW0_2 := Lib.cell_of_heap BW0_20.out 2
  simp at c_BW0_2
  have c_BG0_0 := Lib.cell_of_heap BG0_20.out 0
  simp at c_BG0_0
  have c_BG0_1 := Lib.cell_of_heap BG0_20.out 1
  simp at c_BG0_1
  have c_BG0_2 := Lib.cell_of_heap BG0_20.out 2
  simp at c_BG0_2
  have c_BH0_0 := Lib.cell_of_heap BH0_21.out 0
  simp at c_BH0_0
  have c_BH0_1 := Lib.cell_of_heap BH0_21.out 1
  simp at c_BH0_1
  have c_BH0_2 := Lib.cell_of_heap BH0_21.out 2
  simp at c_BH0_2
  go_wp2_with fail
  clear c_BW0_0 c_BW0_1 c_BW0_2 c_BG0_0 c_BG0_1 c_BG0_2 c_BH0_0 c_BH0_1 c_BH0_2
  obtain ⟨y3, hy3⟩ : ∃ Z, z6.alloc (.cells #[.slice ph0_0 (coreNewE).regs.length qh0_0, .int .i64 (coreNewE).pc, .int .i64 (coreNewE).process] 24) = Z := ⟨_, rfl⟩
  rw [hy3] at HB_20 WO0_20 BW0_20 BG0_20 GH_20 HO0_20 BH0_21 SZ7 ⊢
  clear hy3
  refine (eqCore_same (coreNewE) _ _ _ (HO0_20.out).at.a0 (WO0_20.out).at.a0 HL0.out.l0).mono ?_
  rintro e z7 ⟨rfl, hbe22⟩
  have SZ8 : Hid (y3.heap.size ≤ z7.heap.size) := hbe22.size
  have HB_23 := hide (HB_20.out.trans (hbe22.mono HB_20.out.size))
  clear HB_20
  have WO0_23 := hide (WO0_20.out.stays hbe22)
  clear WO0_20
  have BW0_23 := hide (BW0_20.out.stays hbe22)
  clear BW0_20
  have BG0_23 := hide (BG0_20.out.stays hbe22)
  clear BG0_20
  have GH_23 := hide (GH_20.out.stays hbe22)
  clear GH_20
  have HO0_23 := hide (HO0_20.out.stays hbe22)
  clear HO0_20
  have BH0_23 := hide (BH0_21.out.stays hbe22)
  clear BH0_21
  clear hbe22
  have c_BW0_0 := Lib.cell_of_heap BW0_23.out 0
  simp at c_BW0_0
  have c_BW0_1 := Lib.cell_of_heap BW0_23.out 1
  simp at c_BW0_1
  have c_BW0_2 := Lib.cell_of_heap BW0_23.out 2
  simp at c_BW0_2
  have c_BG0_0 := Lib.cell_of_heap BG0_23.out 0
  simp at c_BG0_0
  have c_BG0_1 := Lib.cell_of_heap BG0_23.out 1
  simp at c_BG0_1
  have c_BG0_2 := Lib.cell_of_heap BG0_23.out 2
  simp at c_BG0_2
  have c_BH0_0 := Lib.cell_of_heap BH0_23.out 0
  simp at c_BH0_0
  have c_BH0_1 := Lib.cell_of_heap BH0_23.out 1
  simp at c_BH0_1
  have c_BH0_2 := Lib.cell_of_heap BH0_23.out 2
  simp at c_BH0_2
  clear c_BW0_0 c_BW0_1 c_BW0_2 c_BG0_0 c_BG0_1 c_BG0_2 c_BH0_0 c_BH0_1 c_BH0_2
  have c_BW0_0 := Lib.cell_of_heap BW0_23.out 0
  simp at c_BW0_0
  have c_BW0_1 := Lib.cell_of_heap BW0_23.out 1
  simp at c_BW0_1
  have c_BW0_2 := Lib.cell_of_heap BW0_23.out 2
  simp at c_BW0_2
  have c_BG0_0 := Lib.cell_of_heap BG0_23.out 0
  simp at c_BG0_0
  have c_BG0_1 := Lib.cell_of_heap BG0_23.out 1
  simp at c_BG0_1
  have c_BG0_2 := Lib.cell_of_heap BG0_23.out 2
  simp at c_BG0_2
  have c_BH0_0 := Lib.cell_of_heap BH0_23.out 0
  simp at c_BH0_0
  have c_BH0_1 := Lib.cell_of_heap BH0_23.out 1
  simp at c_BH0_1
  have c_BH0_2 := Lib.cell_of_heap BH0_23.out 2
  simp at c_BH0_2
  go_wp2_with fail
  clear c_BW0_0 c_BW0_1 c_BW0_2 c_BG0_0 c_BG0_1 c_BG0_2 c_BH0_0 c_BH0_1 c_BH0_2
  refine (heldCore_any _ _ _ _ _ GH_23.out HL0.out.l0).mono ?_
  rintro e z8 ⟨rfl, hbh24⟩
  have HB_25 := hide (HB_23.out.trans (hbh24.mono HB_23.out.size))
  clear HB_23
  have WO0_25 := hide (WO0_23.out.stays hbh24)
  clear WO0_23
  have BW0_25 := hide (BW0_23.out.stays hbh24)
  clear BW0_23
  have BG0_25 := hide (BG0_23.out.stays hbh24)
  clear BG0_23
  have GH_25 := hide (GH_23.out.stays hbh24)
  clear GH_23
  have HO0_25 := hide (HO0_23.out.stays hbh24)
  clear HO0_23
  have BH0_25 := hide (BH0_23.out.stays hbh24)
  clear BH0_23
  clear hbh24
  rw [ETOT.out]
  go_wp2
  go_ret
  exact ⟨rfl, HB_25.out⟩
end Go.Proofs.Ytoageggcbpjlmaa
