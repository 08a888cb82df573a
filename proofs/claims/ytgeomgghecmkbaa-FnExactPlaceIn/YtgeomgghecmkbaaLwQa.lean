/-
  The law of PlaceIn, over what both sides answer.
-/
import Derived.Test.YtgeomgghecmkbaaMatP
import Derived.Deep.RegionHeld3
import Derived.Deep.Cut
namespace Go.Proofs.Ytgeomgghecmkbaa
open Go.RowKit

set_option maxRecDepth 100000 in
set_option maxHeartbeats 8000000 in
theorem lawPlaceIn (v0_0 v0_1 : Value) (x0 : Plc) (s1 : ByteArray) (w : World) (h0 : PlcAt w v0_0 v0_1 x0) (m0 : PlcMax x0) (hs1 : s1.size ≤ maxLen)
    (SP : szPlc x0 ≤ 1048576 → s1.size ≤ 1048576 → ∀ (v0_0 v0_1 : Value) (z : World) (b0 : Nat), PlcC b0 z [v0_0, v0_1] x0 → Calls Try.prog 5 #[.agg #[v0_0, v0_1], .string s1] z fun e w' => e = .returned (.int .i64 (placeE x0 s1)) ∧ Below z.heap.size z w')
    (IP : szPlc x0 ≤ 1048576 → s1.size ≤ 1048576 → ∀ (v0_0 v0_1 : Value) (z : World) (b0 : Nat), PlcC b0 z [v0_0, v0_1] x0 → Calls Try.prog 7 #[.agg #[v0_0, v0_1], .string s1] z fun e w' => e = .returned (.int .i64 (placeE x0 s1)) ∧ Below z.heap.size z w') :
    Calls Try.prog 3 #[.agg #[v0_0, v0_1], .string s1] w fun e w' => e = .returned (.bool true) ∧ Below w.heap.size w w' := by
  have HPS := hide SP
  have HPI := hide IP
  clear SP IP
  have HW0 := hide h0
  have HM0 := hide m0
  have HB : Hid (Below w.heap.size w (w.alloc (.cells #[v0_0, v0_1] 25))) := by show Below w.heap.size w _; go_grown
  have BA0 := hide (Box.madeAt (g := w.heap.size) (w := w) (by simp) #[v0_0, v0_1] 25)
  obtain ⟨⟨a0_0, b0_0, rfl, _⟩, ⟨a0_1, b0_1, rfl, _⟩⟩ := h0
  clear m0
  unfold maxLen at hs1
  by_cases hz1 : s1.size ≤ 1048576
  case neg =>
    go_enter Try.func3, Try.ntmps3
    go_wp2
    go_ret
    exact ⟨rfl, HB.out⟩
  have SZ1 : Hid ((w.alloc (.cells #[.slice a0_0 x0.names.length b0_0, .slice a0_1 x0.ats.length b0_1] 25)).heap.size = w.heap.size + 1) := by show _ = _; simp
  go_enter Try.func3, Try.ntmps3
  have c_BA0_0 := Lib.cell_of_heap BA0.out 0
  simp at c_BA0_0
  have c_BA0_1 := Lib.cell_of_heap BA0.out 1
  simp at c_BA0_1
  go_wp2_with fail
  clear c_BA0_0 c_BA0_1
  obtain ⟨y0, hy0⟩ : ∃ Z, w.alloc (.cells #[.slice a0_0 x0.names.length b0_0, .slice a0_1 x0.ats.length b0_1] 25) = Z := ⟨_, rfl⟩
  rw [hy0] at HB BA0 SZ1 ⊢
  clear hy0
  refine (szPlaces_any x0 _ _ _ _ (by omega) (by omega) (HW0.out.stays HB.out).a0 (HW0.out.stays HB.out).a1 HM0.out).mono ?_
  rintro e z1 ⟨r0, rfl, hr0, hb0⟩
  have SZ2 : Hid (y0.heap.size ≤ z1.heap.size) := hb0.size
  have HB_1 := hide (HB.out.trans (hb0.mono HB.out.size))
  clear HB
  have BA0_1 := hide (BA0.out.stays hb0)
  clear BA0
  clear hb0
  have c_BA0_0 := Lib.cell_of_heap BA0_1.out 0
  simp at c_BA0_0
  have c_BA0_1 := Lib.cell_of_heap BA0_1.out 1
  simp at c_BA0_1
  by_cases hn0 : r0 < 0
  · clear hr0
    go_wp2
    go_ret
    exact ⟨rfl, HB_1.out⟩
  obtain ⟨hp0, hq0⟩ := hr0.resolve_left hn0
  have HQ0 := hide hq0
  have hq0b : r0 ≤ 1048576 := by omega
  clear hq0 hr0
  have HSZ : Hid (szPlc x0 ≤ 1048576) := by
    show _ ≤ _
    have := HQ0.out
    omega
  have HPS1 := hide (HPS.out HSZ.out hz1)
  have HPI1 := hide (HPI.out HSZ.out hz1)
  have HN0 : Hid (PlcLen x0) := szPlc_len (by have := HSZ.out; omega)
  go_wp2_with fail
  clear c_BA0_0 c_BA0_1
  refine (toPlaces_any x0 _ _ _ (HW0.out.stays HB_1.out).a0 (HW0.out.stays HB_1.out).a1 HN0.out.l0 HN0.out.l1).mono ?_
  rintro e z2 ⟨o1_0, k1_0, c1_0, o1_1, k1_1, c1_1, rfl, hc1, hb1⟩
  have SZ3 : Hid (z1.heap.size ≤ z2.heap.size) := hb1.size
  have HB_2 := hide (HB_1.out.trans (hb1.mono HB_1.out.size))
  clear HB_1
  have BA0_2 := hide (BA0_1.out.stays hb1)
  clear BA0_1
  have XC1_3 := hide (hc1)
  clear hc1 hb1
  go_wp2_with fail
  refine (HPS1.out _ _ _ _ XC1_3.out).mono ?_
  rintro e z3 ⟨rfl, hbw⟩
  have SZ4 : Hid (z2.heap.size ≤ z3.heap.size) := hbw.size
  have HB_4 := hide (HB_2.out.trans (hbw.mono HB_2.out.size))
  clear HB_2
  have BA0_4 := hide (BA0_2.out.stays hbw)
  clear BA0_2
  have XC1_4 := hide (XC1_3.out.stays hbw)
  clear XC1_3
  clear hbw
  clear XC1_4
  have c_BA0_0 := Lib.cell_of_heap BA0_4.out 0
  simp at c_BA0_0
  have c_BA0_1 := Lib.cell_of_heap BA0_4.out 1
  simp at c_BA0_1
  go_wp2_with fail
  clear c_BA0_0 c_BA0_1
  refine (toPlaces_any x0 _ _ _ (HW0.out.stays HB_4.out).a0 (HW0.out.stays HB_4.out).a1 HN0.out.l0 HN0.out.l1).mono ?_
  rintro e z4 ⟨o2_0, k2_0, c2_0, o2_1, k2_1, c2_1, rfl, hc2, hb2⟩
  have SZ5 : Hid (z3.heap.size ≤ z4.heap.size) := hb2.size
  have HB_5 := hide (HB_4.out.trans (hb2.mono HB_4.out.size))
  clear HB_4
  have BA0_5 := hide (BA0_4.out.stays hb2)
  clear BA0_4
  have XC2_6 := hide (hc2)
  clear hc2 hb2
  have XS0_7 := hide (XC2_6.out.sh (T := z4.heap.size) (Nat.le_refl _))
  have hba8 : Below z4.heap.size z4 (z4.alloc (.cells #[.slice o2_0 k2_0 c2_0, .slice o2_1 k2_1 c2_1] 28)) := (Below.refl _ _).alloc (Nat.le_refl _) _
  have SZ6 : Hid ((z4.alloc (.cells #[.slice o2_0 k2_0 c2_0, .slice o2_1 k2_1 c2_1] 28)).heap.size = z4.heap.size + 1) := by show _ = _; simp
  have HB_9 := hide (HB_5.out.trans (hba8.mono HB_5.out.size))
  clear HB_5
  have BA0_9 := hide (BA0_5.out.stays hba8)
  clear BA0_5
  have XC2_9 := hide (XC2_6.out.stays hba8)
  clear XC2_6
  have XS0_9 := hide (XS0_7.out.stays hba8)
  clear XS0_7
  have BX0_10 := hide (Box.made z4 #[.slice o2_0 k2_0 c2_0, .slice o2_1 k2_1 c2_1] 28)
  clear hba8
  have c_BA0_0 := Lib.cell_of_heap BA0_9.out 0
  simp at c_BA0_0
  have c_BA0_1 := Lib.cell_of_heap BA0_9.out 1
  simp at c_BA0_1
  have c_BX0_0 := Lib.cell_of_heap BX0_10.out 0
  simp at c_BX0_0
  have c_BX0_1 := Lib.cell_of_heap BX0_10.out 1
  simp at c_BX0_1
  go_wp2_with fail
  clear c_BA0_0 c_BA0_1 c_BX0_0 c_BX0_1
  obtain ⟨y1, hy1⟩ : ∃ Z, z4.alloc (.cells #[.slice o2_0 k2_0 c2_0, .slice o2_1 k2_1 c2_1] 28) = Z := ⟨_, rfl⟩
  rw [hy1] at HB_9 BA0_9 XC2_9 XS0_9 BX0_10 SZ6 ⊢
  clear hy1
  refine (HPI1.out _ _ _ _ XC2_9.out).mono ?_
  rintro e z5 ⟨rfl, hbg⟩
  have SZ7 : Hid (y1.heap.size ≤ z5.heap.size) := hbg.size
  have HB_11 := hide (HB_9.out.trans (hbg.mono HB_9.out.size))
  clear HB_9
  have BA0_11 := hide (BA0_9.out.stays hbg)
  clear BA0_9
  have XC2_11 := hide (XC2_9.out.stays hbg)
  clear XC2_9
  have XS0_11 := hide (XS0_9.out.stays hbg)
  clear XS0_9
  have BX0_11 := hide (BX0_10.out.stays hbg)
  clear BX0_10
  clear hbg
  have c_BA0_0 := Lib.cell_of_heap BA0_11.out 0
  simp at c_BA0_0
  have c_BA0_1 := Lib.cell_of_heap BA0_11.out 1
  simp at c_BA0_1
  have c_BX0_0 := Lib.cell_of_heap BX0_11.out 0
  simp at c_BX0_0
  have c_BX0_1 := Lib.cell_of_heap BX0_11.out 1
  simp at c_BX0_1
  go_wp2_with fail
  clear c_BA0_0 c_BA0_1 c_BX0_0 c_BX0_1
  have KT : Hid (∀ z z' : World, (Below w.heap.size w z ∧ Box z (w.heap.size) #[.slice a0_0 x0.names.length b0_0, .slice a0_1 x0.ats.length b0_1] 25 ∧ PlcC z3.heap.size z [.slice o2_0 k2_0 c2_0, .slice o2_1 k2_1 c2_1] x0 ∧ PlcSh z3.heap.size z4.heap.size z (.slice o2_0 k2_0 c2_0) (.slice o2_1 k2_1 c2_1) x0 ∧ Box z z4.heap.size #[.slice o2_0 k2_0 c2_0, .slice o2_1 k2_1 c2_1] 28) → Below z.heap.size z z' → (Below w.heap.size w z' ∧ Box z' (w.heap.size) #[.slice a0_0 x0.names.length b0_0, .slice a0_1 x0.ats.length b0_1] 25 ∧ PlcC z3.heap.size z' [.slice o2_0 k2_0 c2_0, .slice o2_1 k2_1 c2_1] x0 ∧ PlcSh z3.heap.size z4.heap.size z' (.slice o2_0 k2_0 c2_0) (.slice o2_1 k2_1 c2_1) x0 ∧ Box z' z4.heap.size #[.slice o2_0 k2_0 c2_0, .slice o2_1 k2_1 c2_1] 28)) := fun z z' hz hb => ⟨(hz.1).trans (hb.mono (hz.1).size), (hz.2.1).stays hb, (hz.2.2.1).stays hb, (hz.2.2.2.1).stays hb, (hz.2.2.2.2).stays hb⟩
  have KC : Hid (∀ z : World, (Below w.heap.size w z ∧ Box z (w.heap.size) #[.slice a0_0 x0.names.length b0_0, .slice a0_1 x0.ats.length b0_1] 25 ∧ PlcC z3.heap.size z [.slice o2_0 k2_0 c2_0, .slice o2_1 k2_1 c2_1] x0 ∧ PlcSh z3.heap.size z4.heap.size z (.slice o2_0 k2_0 c2_0) (.slice o2_1 k2_1 c2_1) x0 ∧ Box z z4.heap.size #[.slice o2_0 k2_0 c2_0, .slice o2_1 k2_1 c2_1] 28) → (z.cell? ⟨(w.heap.size), 0, none⟩ = some (.slice a0_0 x0.names.length b0_0) ∧ z.cell? ⟨(w.heap.size), 1, none⟩ = some (.slice a0_1 x0.ats.length b0_1) ∧ z.cell? ⟨z4.heap.size, 0, none⟩ = some (.slice o2_0 k2_0 c2_0) ∧ z.cell? ⟨z4.heap.size, 1, none⟩ = some (.slice o2_1 k2_1 c2_1) ∧ Hid ((Below w.heap.size w z ∧ Box z (w.heap.size) #[.slice a0_0 x0.names.length b0_0, .slice a0_1 x0.ats.length b0_1] 25 ∧ PlcC z3.heap.size z [.slice o2_0 k2_0 c2_0, .slice o2_1 k2_1 c2_1] x0 ∧ PlcSh z3.heap.size z4.heap.size z (.slice o2_0 k2_0 c2_0) (.slice o2_1 k2_1 c2_1) x0 ∧ Box z z4.heap.size #[.slice o2_0 k2_0 c2_0, .slice o2_1 k2_1 c2_1] 28)))) := fun z hz => ⟨Lib.cell_of_heap (hz.2.1) 0, Lib.cell_of_heap (hz.2.1) 1, Lib.cell_of_heap (hz.2.2.2.2) 0, Lib.cell_of_heap (hz.2.2.2.2) 1, hz⟩
  have KV : Hid (∀ z : World, (z.cell? ⟨(w.heap.size), 0, none⟩ = some (.slice a0_0 x0.names.length b0_0) ∧ z.cell? ⟨(w.heap.size), 1, none⟩ = some (.slice a0_1 x0.ats.length b0_1) ∧ z.cell? ⟨z4.heap.size, 0, none⟩ = some (.slice o2_0 k2_0 c2_0) ∧ z.cell? ⟨z4.heap.size, 1, none⟩ = some (.slice o2_1 k2_1 c2_1) ∧ Hid ((Below w.heap.size w z ∧ Box z (w.heap.size) #[.slice a0_0 x0.names.length b0_0, .slice a0_1 x0.ats.length b0_1] 25 ∧ PlcC z3.heap.size z [.slice o2_0 k2_0 c2_0, .slice o2_1 k2_1 c2_1] x0 ∧ PlcSh z3.heap.size z4.heap.size z (.slice o2_0 k2_0 c2_0) (.slice o2_1 k2_1 c2_1) x0 ∧ Box z z4.heap.size #[.slice o2_0 k2_0 c2_0, .slice o2_1 k2_1 c2_1] 28))) → (Below w.heap.size w z ∧ Box z (w.heap.size) #[.slice a0_0 x0.names.length b0_0, .slice a0_1 x0.ats.length b0_1] 25 ∧ PlcC z3.heap.size z [.slice o2_0 k2_0 c2_0, .slice o2_1 k2_1 c2_1] x0 ∧ PlcSh z3.heap.size z4.heap.size z (.slice o2_0 k2_0 c2_0) (.slice o2_1 k2_1 c2_1) x0 ∧ Box z z4.heap.size #[.slice o2_0 k2_0 c2_0, .slice o2_1 k2_1 c2_1] 28)) := fun z hz => hz.2.2.2.2.out
  have KP : Hid (∀ z z' : World, (z.cell? ⟨(w.heap.size), 0, none⟩ = some (.slice a0_0 x0.names.length b0_0) ∧ z.cell? ⟨(w.heap.size), 1, none⟩ = some (.slice a0_1 x0.ats.length b0_1) ∧ z.cell? ⟨z4.heap.size, 0, none⟩ = some (.slice o2_0 k2_0 c2_0) ∧ z.cell? ⟨z4.heap.size, 1, none⟩ = some (.slice o2_1 k2_1 c2_1) ∧ Hid ((Below w.heap.size w z ∧ Box z (w.heap.size) #[.slice a0_0 x0.names.length b0_0, .slice a0_1 x0.ats.length b0_1] 25 ∧ PlcC z3.heap.size z [.slice o2_0 k2_0 c2_0, .slice o2_1 k2_1 c2_1] x0 ∧ PlcSh z3.heap.size z4.heap.size z (.slice o2_0 k2_0 c2_0) (.slice o2_1 k2_1 c2_1) x0 ∧ Box z z4.heap.size #[.slice o2_0 k2_0 c2_0, .slice o2_1 k2_1 c2_1] 28))) → Below z.heap.size z z' → (z'.cell? ⟨(w.heap.size), 0, none⟩ = some (.slice a0_0 x0.names.length b0_0) ∧ z'.cell? ⟨(w.heap.size), 1, none⟩ = some (.slice a0_1 x0.ats.length b0_1) ∧ z'.cell? ⟨z4.heap.size, 0, none⟩ = some (.slice o2_0 k2_0 c2_0) ∧ z'.cell? ⟨z4.heap.size, 1, none⟩ = some (.slice o2_1 k2_1 c2_1) ∧ Hid ((Below w.heap.size w z' ∧ Box z' (w.heap.size) #[.slice a0_0 x0.names.length b0_0, .slice a0_1 x0.ats.length b0_1] 25 ∧ PlcC z3.heap.size z' [.slice o2_0 k2_0 c2_0, .slice o2_1 k2_1 c2_1] x0 ∧ PlcSh z3.heap.size z4.heap.size z' (.slice o2_0 k2_0 c2_0) (.slice o2_1 k2_1 c2_1) x0 ∧ Box z' z4.heap.size #[.slice o2_0 k2_0 c2_0, .slice o2_1 k2_1 c2_1] 28)))) := fun z z' hz hb => KC.out _ (KT.out _ _ (KV.out _ hz) hb)
  have K0 := hide (KC.out _ (KT.out _ _ ⟨HB_11.out, BA0_11.out, XC2_11.out, XS0_11.out, BX0_11.out⟩ (Below.refl _ _).drew))
  clear HB_11 BA0_11 XC2_11 XS0_11 BX0_11
  go_region_held3 (fun z => z.cell? ⟨(w.heap.size), 0, none⟩ = some (.slice a0_0 x0.names.length b0_0) ∧ z.cell? ⟨(w.heap.size), 1, none⟩ = some (.slice a0_1 x0.ats.length b0_1) ∧ z.cell? ⟨z4.heap.size, 0, none⟩ = some (.slice o2_0 k2_0 c2_0) ∧ z.cell? ⟨z4.heap.size, 1, none⟩ = some (.slice o2_1 k2_1 c2_1) ∧ Hid ((Below w.heap.size w z ∧ Box z (w.heap.size) #[.slice a0_0 x0.names.length b0_0, .slice a0_1 x0.ats.length b0_1] 25 ∧ PlcC z3.heap.size z [.slice o2_0 k2_0 c2_0, .slice o2_1 k2_1 c2_1] x0 ∧ PlcSh z3.heap.size z4.heap.size z (.slice o2_0 k2_0 c2_0) (.slice o2_1 k2_1 c2_1) x0 ∧ Box z z4.heap.size #[.slice o2_0 k2_0 c2_0, .slice o2_1 k2_1 c2_1] 28))) (first | exact K0.out | exact KP.out _ _ (by assumption) hb7)
    (first
      | (go_at_call 6; refine (toPlaces_any x0 _ _ _ (HW0.out.stays ((KV.out _ (by assumption)).1)).a0 (HW0.out.stays ((KV.out _ (by assumption)).1)).a1 HN0.out.l0 HN0.out.l1).mono ?_; rintro e w7 ⟨oo0, kk0, cc0, oo1, kk1, cc1, rfl, hc7, hb7⟩; have P7 := hide hc7.at; clear hc7)
      | (go_at_call 8; refine (eqPlaces_same x0 _ _ _ _ _ (((KV.out _ (by assumption)).2.2.1)).at.a0 P7.out.a0 (((KV.out _ (by assumption)).2.2.1)).at.a1 P7.out.a1 HN0.out.l0 HN0.out.l1).mono ?_; rintro e z6 ⟨rfl, hb7⟩))
  obtain ⟨f0, f1, f2, f3, f4⟩ := KV.out z6 (by assumption)
  clear KT KC KV KP K0
  have HB_12 := hide f0
  have BA0_12 := hide f1
  have XC2_12 := hide f2
  have XS0_12 := hide f3
  have BX0_12 := hide f4
  clear f0 f1 f2 f3 f4
  have c_BA0_0 := Lib.cell_of_heap BA0_12.out 0
  simp at c_BA0_0
  have c_BA0_1 := Lib.cell_of_heap BA0_12.out 1
  simp at c_BA0_1
  have c_BX0_0 := Lib.cell_of_heap BX0_12.out 0
  simp at c_BX0_0
  have c_BX0_1 := Lib.cell_of_heap BX0_12.out 1
  simp at c_BX0_1
  go_wp2
  go_ret
  exact ⟨rfl, HB_12.out⟩
end Go.Proofs.Ytgeomgghecmkbaa
