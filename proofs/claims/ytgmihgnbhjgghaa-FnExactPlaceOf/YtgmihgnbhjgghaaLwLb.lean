/-
  The law of PlaceOf, over what both sides answer.
-/
import Derived.Test.YtgmihgnbhjgghaaCopE
import Derived.Deep.RegionHeld3
import Derived.Deep.Cut
namespace Go.Proofs.Ytgmihgnbhjgghaa
open Go.RowKit

set_option maxRecDepth 100000 in
set_option maxHeartbeats 8000000 in
theorem lawPlaceOf (v0_0 : Value) (x0 : Rln) (s1 : ByteArray) (w : World) (h0 : RlnAt w v0_0 x0) (m0 : RlnMax x0) (hs1 : s1.size ≤ maxLen)
    (SP : szRln x0 ≤ 1048576 → s1.size ≤ 1048576 → ∀ (v0_0 : Value) (z : World) (b0 : Nat), RlnC b0 z [v0_0] x0 → Calls Try.prog 13 #[v0_0, .string s1] z fun e w' => e = .returned (.int .i64 (placeL x0.row s1)) ∧ Below z.heap.size z w')
    (IP : szRln x0 ≤ 1048576 → s1.size ≤ 1048576 → ∀ (v0_0 : Value) (z : World) (b0 : Nat), RlnC b0 z [v0_0] x0 → Calls Try.prog 14 #[v0_0, .string s1] z fun e w' => e = .returned (.int .i64 (placeL x0.row s1)) ∧ Below z.heap.size z w') :
    Calls Try.prog 5 #[v0_0, .string s1] w fun e w' => e = .returned (.bool true) ∧ Below w.heap.size w w' := by
  have HPS := hide SP
  have HPI := hide IP
  clear SP IP
  have HW0 := hide h0
  have HM0 := hide m0
  have HB : Hid (Below w.heap.size w w) := Below.refl _ _
  obtain ⟨⟨a0_0, b0_0, rfl, _⟩⟩ := h0
  clear m0
  unfold maxLen at hs1
  by_cases hz1 : s1.size ≤ 1048576
  case neg =>
    go_enter Try.func5, Try.ntmps5
    go_wp2
    go_ret
    exact ⟨rfl, HB.out⟩
  go_enter Try.func5, Try.ntmps5
  go_wp2_with fail
  refine (szLineSR_any x0 _ _ _ (by omega) (by omega) (HW0.out.stays HB.out).a0 HM0.out).mono ?_
  rintro e z1 ⟨r0, rfl, hr0, hb0⟩
  have SZ1 : Hid (w.heap.size ≤ z1.heap.size) := hb0.size
  have HB_1 := hide (HB.out.trans (hb0.mono HB.out.size))
  clear HB
  clear hb0
  by_cases hn0 : r0 < 0
  · clear hr0
    go_wp2
    go_ret
    exact ⟨rfl, HB_1.out⟩
  obtain ⟨hp0, hq0⟩ := hr0.resolve_left hn0
  have HQ0 := hide hq0
  have hq0b : r0 ≤ 1048576 := by omega
  clear hq0 hr0
  have HSZ : Hid (szRln x0 ≤ 1048576) := by
    show _ ≤ _
    have := HQ0.out
    omega
  have HPS1 := hide (HPS.out HSZ.out hz1)
  have HPI1 := hide (HPI.out HSZ.out hz1)
  have HN0 : Hid (RlnLen x0) := szRln_len (by have := HSZ.out; omega)
  go_wp2_with fail
  refine (toLineSR_any x0 _ _ (HW0.out.stays HB_1.out).a0 HN0.out.l0).mono ?_
  rintro e z2 ⟨o1_0, k1_0, c1_0, rfl, hc1, hb1⟩
  have SZ2 : Hid (z1.heap.size ≤ z2.heap.size) := hb1.size
  have HB_2 := hide (HB_1.out.trans (hb1.mono HB_1.out.size))
  clear HB_1
  have XC1_3 := hide (hc1)
  clear hc1 hb1
  go_wp2_with fail
  refine (HPS1.out _ _ _ XC1_3.out).mono ?_
  rintro e z3 ⟨rfl, hbw⟩
  have SZ3 : Hid (z2.heap.size ≤ z3.heap.size) := hbw.size
  have HB_4 := hide (HB_2.out.trans (hbw.mono HB_2.out.size))
  clear HB_2
  have XC1_4 := hide (XC1_3.out.stays hbw)
  clear XC1_3
  clear hbw
  clear XC1_4
  go_wp2_with fail
  refine (toLineSR_any x0 _ _ (HW0.out.stays HB_4.out).a0 HN0.out.l0).mono ?_
  rintro e z4 ⟨o2_0, k2_0, c2_0, rfl, hc2, hb2⟩
  have SZ4 : Hid (z3.heap.size ≤ z4.heap.size) := hb2.size
  have HB_5 := hide (HB_4.out.trans (hb2.mono HB_4.out.size))
  clear HB_4
  have XC2_6 := hide (hc2)
  clear hc2 hb2
  have XS0_7 := hide (XC2_6.out.sh (T := z4.heap.size) (Nat.le_refl _))
  go_wp2_with fail
  refine (HPI1.out _ _ _ XC2_6.out).mono ?_
  rintro e z5 ⟨rfl, hbg⟩
  have SZ5 : Hid (z4.heap.size ≤ z5.heap.size) := hbg.size
  have HB_8 := hide (HB_5.out.trans (hbg.mono HB_5.out.size))
  clear HB_5
  have XC2_8 := hide (XC2_6.out.stays hbg)
  clear XC2_6
  have XS0_8 := hide (XS0_7.out.stays hbg)
  clear XS0_7
  clear hbg
  go_wp2_with fail
  refine (toLineSR_any x0 _ _ (HW0.out.stays HB_8.out).a0 HN0.out.l0).mono ?_
  rintro e z6 ⟨o3_0, k3_0, c3_0, rfl, hc3, hb3⟩
  have SZ6 : Hid (z5.heap.size ≤ z6.heap.size) := hb3.size
  have HB_9 := hide (HB_8.out.trans (hb3.mono HB_8.out.size))
  clear HB_8
  have XC2_9 := hide (XC2_8.out.stays hb3)
  clear XC2_8
  have XS0_9 := hide (XS0_8.out.stays hb3)
  clear XS0_8
  have XC3_10 := hide (hc3)
  clear hc3 hb3
  go_wp2_with fail
  refine (eqLineSR_same x0 _ _ _ (XC2_9.out).at.a0 (XC3_10.out).at.a0 HN0.out.l0).mono ?_
  rintro e z7 ⟨rfl, hbp11⟩
  have SZ7 : Hid (z6.heap.size ≤ z7.heap.size) := hbp11.size
  have HB_12 := hide (HB_9.out.trans (hbp11.mono HB_9.out.size))
  clear HB_9
  have XC2_12 := hide (XC2_9.out.stays hbp11)
  clear XC2_9
  have XS0_12 := hide (XS0_9.out.stays hbp11)
  clear XS0_9
  have XC3_12 := hide (XC3_10.out.stays hbp11)
  clear XC3_10
  clear hbp11
  clear XC3_12
  go_wp2
  go_ret
  exact ⟨rfl, HB_12.out⟩
end Go.Proofs.Ytgmihgnbhjgghaa
