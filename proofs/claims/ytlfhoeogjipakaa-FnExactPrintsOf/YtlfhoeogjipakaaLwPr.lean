/-
  The law of PrintsOf, over what both sides answer.
-/
import Derived.Test.YtlfhoeogjipakaaEvtR
import Derived.Test.YtlfhoeogjipakaaFlK
import Derived.Test.YtlfhoeogjipakaaPrtP
import Derived.Deep.RegionHeld3
import Derived.Deep.Cut
namespace Go.Proofs.Ytlfhoeogjipakaa
open Go.RowKit

set_option maxRecDepth 100000 in
set_option maxHeartbeats 8000000 in
theorem lawPrintsOf (v0_0 : Value) (x0 : Rvt) (w : World) (h0 : RvtAt w v0_0 x0) (m0 : RvtMax x0)
    (SP : szRvt x0 ≤ 1048576 → ∀ (v0_0 : Value) (z : World) (b0 : Nat), RvtC b0 z [v0_0] x0 → Calls Try.prog 5 #[v0_0] z fun e w' => ∃ r0_0, e = .returned (r0_0) ∧ RiOwn z.heap.size w' r0_0 (printsE x0) ∧ Below z.heap.size z w')
    (IP : szRvt x0 ≤ 1048576 → ∀ (v0_0 : Value) (z : World) (b0 : Nat), RvtC b0 z [v0_0] x0 → Calls Try.prog 7 #[v0_0] z fun e w' => ∃ r0_0, e = .returned (r0_0) ∧ RiOwn z.heap.size w' r0_0 (printsE x0) ∧ Below z.heap.size z w')
    (LP0 : szRvt x0 ≤ 1048576 → RiLen (printsE x0)) :
    Calls Try.prog 3 #[v0_0] w fun e w' => e = .returned (.bool true) ∧ Below w.heap.size w w' := by
  have HPS := hide SP
  have HPI := hide IP
  have HLP0 := hide LP0
  clear SP IP LP0
  have HW0 := hide h0
  have HM0 := hide m0
  have HB : Hid (Below w.heap.size w w) := Below.refl _ _
  obtain ⟨⟨a0_0, b0_0, rfl, _⟩⟩ := h0
  clear m0
  go_enter Try.func3, Try.ntmps3
  go_wp2_with fail
  refine (szEventSR_any x0 _ _ _ (by omega) (by omega) (HW0.out.stays HB.out).a0 HM0.out).mono ?_
  rintro e z1 ⟨r0, rfl, hr0, hb0⟩
  have SZ1 : Hid (w.heap.size ≤ z1.heap.size) := hb0.size
  have HB_1 := hide (HB.out.trans (hb0.mono HB.out.size))
  clear HB
  clear hb0
  by_cases hn0 : r0 < 0
  · clear hr0
    go_wp2
    go_ret
    exact ⟨rfl, HB_1.out⟩
  obtain ⟨hp0, hq0⟩ := hr0.resolve_left hn0
  have HQ0 := hide hq0
  have hq0b : r0 ≤ 1048576 := by omega
  clear hq0 hr0
  have HSZ : Hid (szRvt x0 ≤ 1048576) := by
    show _ ≤ _
    have := HQ0.out
    omega
  have HPS1 := hide (HPS.out HSZ.out)
  have HPI1 := hide (HPI.out HSZ.out)
  have HL0 := hide (HLP0.out HSZ.out)
  have HN0 : Hid (RvtLen x0) := szRvt_len (by have := HSZ.out; omega)
  go_wp2_with fail
  refine (toEventSR_any x0 _ _ (HW0.out.stays HB_1.out).a0 HN0.out.l0).mono ?_
  rintro e z2 ⟨o1_0, k1_0, c1_0, rfl, hc1, hb1⟩
  have SZ2 : Hid (z1.heap.size ≤ z2.heap.size) := hb1.size
  have HB_2 := hide (HB_1.out.trans (hb1.mono HB_1.out.size))
  clear HB_1
  have XC1_3 := hide (hc1)
  clear hc1 hb1
  go_wp2_with fail
  refine (HPS1.out _ _ _ XC1_3.out).mono ?_
  rintro e z3 ⟨w0_0, rfl, how0, hbw⟩
  have SZ3 : Hid (z2.heap.size ≤ z3.heap.size) := hbw.size
  have HB_4 := hide (HB_2.out.trans (hbw.mono HB_2.out.size))
  clear HB_2
  have XC1_4 := hide (XC1_3.out.stays hbw)
  clear XC1_3
  obtain ⟨pw0_0, qw0_0, rfl⟩ := form_own how0.o0
  have WO0_5 := hide (how0)
  clear how0
  clear hbw
  have WL0 := hide (WO0_5.out).lt
  clear XC1_4
  go_wp2_with fail
  refine (toEventSR_any x0 _ _ (HW0.out.stays HB_4.out).a0 HN0.out.l0).mono ?_
  rintro e z4 ⟨o2_0, k2_0, c2_0, rfl, hc2, hb2⟩
  have SZ4 : Hid (z3.heap.size ≤ z4.heap.size) := hb2.size
  have HB_6 := hide (HB_4.out.trans (hb2.mono HB_4.out.size))
  clear HB_4
  have WO0_6 := hide (WO0_5.out.stays hb2)
  clear WO0_5
  have XC2_7 := hide (hc2)
  clear hc2 hb2
  have XS0_8 := hide (XC2_7.out.sh (T := z4.heap.size) (Nat.le_refl _))
  go_wp2_with fail
  refine (HPI1.out _ _ _ XC2_7.out).mono ?_
  rintro e z5 ⟨g0_0, rfl, hog0, hbg⟩
  have SZ5 : Hid (z4.heap.size ≤ z5.heap.size) := hbg.size
  have HB_9 := hide (HB_6.out.trans (hbg.mono HB_6.out.size))
  clear HB_6
  have WO0_9 := hide (WO0_6.out.stays hbg)
  clear WO0_6
  have XC2_9 := hide (XC2_7.out.stays hbg)
  clear XC2_7
  have XS0_9 := hide (XS0_8.out.stays hbg)
  clear XS0_8
  obtain ⟨pg0_0, qg0_0, rfl⟩ := form_own hog0.o0
  have GO0_10 := hide (hog0)
  clear hog0
  clear hbg
  have GL0 := hide (GO0_10.out).lt
  go_wp2_with fail
  refine (eqIntSR_same (printsE x0) _ _ _ (GO0_10.out).at.a0 (WO0_9.out).at.a0 HL0.out.l0).mono ?_
  rintro e z6 ⟨rfl, hbe11⟩
  have SZ6 : Hid (z5.heap.size ≤ z6.heap.size) := hbe11.size
  have HB_12 := hide (HB_9.out.trans (hbe11.mono HB_9.out.size))
  clear HB_9
  have WO0_12 := hide (WO0_9.out.stays hbe11)
  clear WO0_9
  have XC2_12 := hide (XC2_9.out.stays hbe11)
  clear XC2_9
  have XS0_12 := hide (XS0_9.out.stays hbe11)
  clear XS0_9
  have GO0_12 := hide (GO0_10.out.stays hbe11)
  clear GO0_10
  clear hbe11
  go_wp2_with fail
  refine (toEventSR_any x0 _ _ (HW0.out.stays HB_12.out).a0 HN0.out.l0).mono ?_
  rintro e z7 ⟨o3_0, k3_0, c3_0, rfl, hc3, hb3⟩
  have SZ7 : Hid (z6.heap.size ≤ z7.heap.size) := hb3.size
  have HB_13 := hide (HB_12.out.trans (hb3.mono HB_12.out.size))
  clear HB_12
  have WO0_13 := hide (WO0_12.out.stays hb3)
  clear WO0_12
  have XC2_13 := hide (XC2_12.out.stays hb3)
  clear XC2_12
  have XS0_13 := hide (XS0_12.out.stays hb3)
  clear XS0_12
  have GO0_13 := hide (GO0_12.out.stays hb3)
  clear GO0_12
  have XC3_14 := hide (hc3)
  clear hc3 hb3
  go_wp2_with fail
  refine (eqEventSR_same x0 _ _ _ (XC2_13.out).at.a0 (XC3_14.out).at.a0 HN0.out.l0).mono ?_
  rintro e z8 ⟨rfl, hbp15⟩
  have SZ8 : Hid (z7.heap.size ≤ z8.heap.size) := hbp15.size
  have HB_16 := hide (HB_13.out.trans (hbp15.mono HB_13.out.size))
  clear HB_13
  have WO0_16 := hide (WO0_13.out.stays hbp15)
  clear WO0_13
  have XC2_16 := hide (XC2_13.out.stays hbp15)
  clear XC2_13
  have XS0_16 := hide (XS0_13.out.stays hbp15)
  clear XS0_13
  have GO0_16 := hide (GO0_13.out.stays hbp15)
  clear GO0_13
  have XC3_16 := hide (XC3_14.out.stays hbp15)
  clear XC3_14
  clear hbp15
  clear XC3_16
  go_wp2_with fail
  refine (turnEventSR_any (B := z3.heap.size) (T := z4.heap.size) _ _ _ XS0_16.out.s0 HN0.out.l0 (by have := SZ1.out; have := SZ2.out; have := SZ3.out; have := SZ4.out; have := SZ5.out; have := SZ6.out; have := SZ7.out; have := SZ8.out; skip; omega) (by have := SZ1.out; have := SZ2.out; have := SZ3.out; have := SZ4.out; have := SZ5.out; have := SZ6.out; have := SZ7.out; have := SZ8.out; skip; omega) (by omega) (by omega)).mono ?_
  rintro e z9 ⟨kx0, rfl, hka0, hkb0, ht0⟩
  have HB_17 : Hid (Below w.heap.size w z9) := HB_16.out.trans (ht0.bel.mono (by have := SZ1.out; have := SZ2.out; have := SZ3.out; have := SZ4.out; have := SZ5.out; have := SZ6.out; have := SZ7.out; have := SZ8.out; omega))
  clear HB_16
  have WO0_17 : Hid (RiOwn z2.heap.size z9 (.slice pw0_0 (printsE x0).row.length qw0_0) (printsE x0)) := WO0_16.out.low ht0.bel (fun i hi => by have := WL0.out i hi; have := SZ1.out; have := SZ2.out; have := SZ3.out; have := SZ4.out; have := SZ5.out; have := SZ6.out; have := SZ7.out; have := SZ8.out; omega)
  clear WO0_16
  clear XC2_16
  clear XS0_16
  have GO0_17 : Hid (RiOwn z4.heap.size z9 (.slice pg0_0 (printsE x0).row.length qg0_0) (printsE x0)) := GO0_16.out.turn ht0 (by have := SZ1.out; have := SZ2.out; have := SZ3.out; have := SZ4.out; have := SZ5.out; have := SZ6.out; have := SZ7.out; have := SZ8.out; omega)
  clear GO0_16
  clear ht0
  have hkn0 : ¬ kx0 < 0 := by omega
  go_wp2_with fail
  refine (eqIntSR_same (printsE x0) _ _ _ (GO0_17.out).at.a0 (WO0_17.out).at.a0 HL0.out.l0).mono ?_
  rintro e z10 ⟨rfl, hbe18⟩
  have SZ9 : Hid (z9.heap.size ≤ z10.heap.size) := hbe18.size
  have HB_19 := hide (HB_17.out.trans (hbe18.mono HB_17.out.size))
  clear HB_17
  have WO0_19 := hide (WO0_17.out.stays hbe18)
  clear WO0_17
  have GO0_19 := hide (GO0_17.out.stays hbe18)
  clear GO0_17
  clear hbe18
  go_wp2_with fail
  refine (markIntSR_any _ (printsE x0) _ GO0_19.out _ rfl HL0.out.l0).mono ?_
  rintro e z11 ⟨rfl, hhd, hbm, hot⟩
  have HB_20 : Hid (Below w.heap.size w z11) := HB_19.out.trans (hbm.mono (by have := SZ1.out; have := SZ2.out; have := SZ3.out; have := SZ4.out; have := SZ5.out; have := SZ6.out; have := SZ7.out; have := SZ8.out; have := SZ9.out; omega))
  clear HB_19
  have WO0_20 : Hid (RiOwn z2.heap.size z11 (.slice pw0_0 (printsE x0).row.length qw0_0) (printsE x0)) := WO0_19.out.low hbm (fun i hi => by have := WL0.out i hi; have := SZ1.out; have := SZ2.out; have := SZ3.out; have := SZ4.out; have := SZ5.out; have := SZ6.out; have := SZ7.out; have := SZ8.out; have := SZ9.out; omega)
  clear WO0_19
  clear GO0_19
  have GH_21 := hide (hhd)
  clear hbm hot hhd
  obtain ⟨tot, etot⟩ : ∃ tot : Int, ((1 + (printsE x0).row.length : Nat) : Int) = tot := ⟨_, rfl⟩
  have htot : ¬ tot < 0 := by omega
  have ETOT := hide etot
  rw [etot]
  clear etot
  go_wp2_with fail
  refine (heldIntSR_any _ _ _ GH_21.out HL0.out.l0).mono ?_
  rintro e z12 ⟨rfl, hbh22⟩
  have HB_23 := hide (HB_20.out.trans (hbh22.mono HB_20.out.size))
  clear HB_20
  have WO0_23 := hide (WO0_20.out.stays hbh22)
  clear WO0_20
  have GH_23 := hide (GH_21.out.stays hbh22)
  clear GH_21
  clear hbh22
  rw [ETOT.out]
  go_wp2_with fail
  refine (toEventSR_any x0 _ _ (HW0.out.stays HB_23.out).a0 HN0.out.l0).mono ?_
  rintro e z13 ⟨o4_0, k4_0, c4_0, rfl, hc4, hb4⟩
  have SZ10 : Hid (z12.heap.size ≤ z13.heap.size) := hb4.size
  have HB_24 := hide (HB_23.out.trans (hb4.mono HB_23.out.size))
  clear HB_23
  have WO0_24 := hide (WO0_23.out.stays hb4)
  clear WO0_23
  have GH_24 := hide (GH_23.out.stays hb4)
  clear GH_23
  have XC4_25 := hide (hc4)
  clear hc4 hb4
  go_wp2_with fail
  refine (HPI1.out _ _ _ XC4_25.out).mono ?_
  rintro e z14 ⟨h0_0, rfl, hoh0, hbh⟩
  have SZ11 : Hid (z13.heap.size ≤ z14.heap.size) := hbh.size
  have HB_26 := hide (HB_24.out.trans (hbh.mono HB_24.out.size))
  clear HB_24
  have WO0_26 := hide (WO0_24.out.stays hbh)
  clear WO0_24
  have GH_26 := hide (GH_24.out.stays hbh)
  clear GH_24
  have XC4_26 := hide (XC4_25.out.stays hbh)
  clear XC4_25
  obtain ⟨ph0_0, qh0_0, rfl⟩ := form_own hoh0.o0
  have HO0_27 := hide (hoh0)
  clear hoh0
  clear hbh
  clear XC4_26
  go_wp2_with fail
  refine (eqIntSR_same (printsE x0) _ _ _ (HO0_27.out).at.a0 (WO0_26.out).at.a0 HL0.out.l0).mono ?_
  rintro e z15 ⟨rfl, hbe28⟩
  have SZ12 : Hid (z14.heap.size ≤ z15.heap.size) := hbe28.size
  have HB_29 := hide (HB_26.out.trans (hbe28.mono HB_26.out.size))
  clear HB_26
  have WO0_29 := hide (WO0_26.out.stays hbe28)
  clear WO0_26
  have GH_29 := hide (GH_26.out.stays hbe28)
  clear GH_26
  have HO0_29 := hide (HO0_27.out.stays hbe28)
  clear HO0_27
  clear hbe28
  go_wp2_with fail
  refine (heldIntSR_any _ _ _ GH_29.out HL0.out.l0).mono ?_
  rintro e z16 ⟨rfl, hbh30⟩
  have HB_31 := hide (HB_29.out.trans (hbh30.mono HB_29.out.size))
  clear HB_29
  have WO0_31 := hide (WO0_29.out.stays hbh30)
  clear WO0_29
  have GH_31 := hide (GH_29.out.stays hbh30)
  clear GH_29
  have HO0_31 := hide (HO0_29.out.stays hbh30)
  clear HO0_29
  clear hbh30
  rw [ETOT.out]
  go_wp2
  go_ret
  exact ⟨rfl, HB_31.out⟩
end Go.Proofs.Ytlfhoeogjipakaa
