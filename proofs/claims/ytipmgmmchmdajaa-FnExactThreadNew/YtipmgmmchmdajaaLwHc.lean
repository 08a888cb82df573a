/-
  The law of ThreadNew, over what both sides answer.
-/
import Derived.Test.YtipmgmmchmdajaaThrN
import Derived.Test.YtipmgmmchmdajaaFlR
import Derived.Deep.RegionHeld3
import Derived.Deep.Cut
namespace Go.Proofs.Ytipmgmmchmdajaa
open Go.RowKit

set_option maxRecDepth 100000 in
set_option maxHeartbeats 8000000 in
theorem lawThreadNew (v0_0 v0_1 v0_2 v2_0 : Value) (x0 : Pg) (n1 : Int) (x2 : Rw) (w : World) (h0 : PgAt w v0_0 v0_1 v0_2 x0) (m0 : PgMax x0) (h2 : RwAt w v2_0 x2) (m2 : RwMax x2)
    (SP : szPg x0 + szRw x2 ≤ 1048576 → ∀ (v0_0 v0_1 v0_2 v2_0 : Value) (z : World) (b0 : Nat) (b2 : Nat), PgC b0 z [v0_0, v0_1, v0_2] x0 → RwC b2 z [v2_0] x2 → Calls Try.prog 8 #[.agg #[v0_0, v0_1, v0_2], .int .i64 n1, v2_0] z fun e w' => ∃ r0_0 r0_1 r0_2, e = .returned (.agg #[r0_0, r0_1, r0_2, .int .i64 (threadE n1 x2.row).fault]) ∧ TrOwn z.heap.size w' r0_0 r0_1 r0_2 (threadE n1 x2.row) ∧ Below z.heap.size z w')
    (IP : szPg x0 + szRw x2 ≤ 1048576 → ∀ (v0_0 v0_1 v0_2 v2_0 : Value) (z : World) (b0 : Nat) (b2 : Nat), PgC b0 z [v0_0, v0_1, v0_2] x0 → RwC b2 z [v2_0] x2 → Calls Try.prog 11 #[.agg #[v0_0, v0_1, v0_2], .int .i64 n1, v2_0] z fun e w' => ∃ r0_0 r0_1 r0_2, e = .returned (.agg #[r0_0, r0_1, r0_2, .int .i64 (threadE n1 x2.row).fault]) ∧ TrOwn z.heap.size w' r0_0 r0_1 r0_2 (threadE n1 x2.row) ∧ Below z.heap.size z w')
    (LP0 : szPg x0 + szRw x2 ≤ 1048576 → TrLen (threadE n1 x2.row)) :
    Calls Try.prog 3 #[.agg #[v0_0, v0_1, v0_2], .int .i64 n1, v2_0] w fun e w' => e = .returned (.bool true) ∧ Below w.heap.size w w' := by
  have HPS := hide SP
  have HPI := hide IP
  have HLP0 := hide LP0
  clear SP IP LP0
  have HW0 := hide h0
  have HM0 := hide m0
  have HW2 := hide h2
  have HM2 := hide m2
  have HB : Hid (Below w.heap.size w (w.alloc (.cells #[v0_0, v0_1, v0_2] 26))) := by show Below w.heap.size w _; go_grown
  have BA0 := hide (Box.madeAt (g := w.heap.size) (w := w) (by simp) #[v0_0, v0_1, v0_2] 26)
  obtain ⟨⟨a0_0, b0_0, rfl, _⟩, ⟨a0_1, b0_1, rfl, _⟩, ⟨a0_2, b0_2, rfl, _⟩⟩ := h0
  obtain ⟨⟨a2_0, b2_0, rfl, _⟩⟩ := h2
  clear m0
  clear m2
  have SZ1 : Hid ((w.alloc (.cells #[.slice a0_0 x0.nodes.length b0_0, .slice a0_1 x0.mons.length b0_1, .slice a0_2 x0.pros.length b0_2] 26)).heap.size = w.heap.size + 1) := by show _ = _; simp
  go_enter Try.func3, Try.ntmps3
  have c_BA0_0 := Lib.cell_of_heap BA0.out 0
  simp at c_BA0_0
  have c_BA0_1 := Lib.cell_of_heap BA0.out 1
  simp at c_BA0_1
  have c_BA0_2 := Lib.cell_of_heap BA0.out 2
  simp at c_BA0_2
  go_wp2_with fail
  clear c_BA0_0 c_BA0_1 c_BA0_2
  obtain ⟨y0, hy0⟩ : ∃ Z, w.alloc (.cells #[.slice a0_0 x0.nodes.length b0_0, .slice a0_1 x0.mons.length b0_1, .slice a0_2 x0.pros.length b0_2] 26) = Z := ⟨_, rfl⟩
  rw [hy0] at HB BA0 SZ1 ⊢
  clear hy0
  refine (szProgram_any x0 _ _ _ _ _ (by omega) (by omega) (HW0.out.stays HB.out).a0 (HW0.out.stays HB.out).a1 (HW0.out.stays HB.out).a2 HM0.out).mono ?_
  rintro e z1 ⟨r0, rfl, hr0, hb0⟩
  have SZ2 : Hid (y0.heap.size ≤ z1.heap.size) := hb0.size
  have HB_1 := hide (HB.out.trans (hb0.mono HB.out.size))
  clear HB
  have BA0_1 := hide (BA0.out.stays hb0)
  clear BA0
  clear hb0
  have c_BA0_0 := Lib.cell_of_heap BA0_1.out 0
  simp at c_BA0_0
  have c_BA0_1 := Lib.cell_of_heap BA0_1.out 1
  simp at c_BA0_1
  have c_BA0_2 := Lib.cell_of_heap BA0_1.out 2
  simp at c_BA0_2
  by_cases hn0 : r0 < 0
  · clear hr0
    go_wp2
    go_ret
    exact ⟨rfl, HB_1.out⟩
  obtain ⟨hp0, hq0⟩ := hr0.resolve_left hn0
  have HQ0 := hide hq0
  have hq0b : r0 ≤ 1048576 := by omega
  clear hq0 hr0
  go_wp2_with fail
  clear c_BA0_0 c_BA0_1 c_BA0_2
  refine (szStringSR_any x2 _ _ _ (by omega) (by omega) (HW2.out.stays HB_1.out).a0 HM2.out).mono ?_
  rintro e z2 ⟨r2, rfl, hr2, hb2⟩
  have SZ3 : Hid (z1.heap.size ≤ z2.heap.size) := hb2.size
  have HB_2 := hide (HB_1.out.trans (hb2.mono HB_1.out.size))
  clear HB_1
  have BA0_2 := hide (BA0_1.out.stays hb2)
  clear BA0_1
  clear hb2
  have c_BA0_0 := Lib.cell_of_heap BA0_2.out 0
  simp at c_BA0_0
  have c_BA0_1 := Lib.cell_of_heap BA0_2.out 1
  simp at c_BA0_1
  have c_BA0_2 := Lib.cell_of_heap BA0_2.out 2
  simp at c_BA0_2
  by_cases hn2 : r2 < 0
  · clear hr2
    go_wp2
    go_ret
    exact ⟨rfl, HB_2.out⟩
  obtain ⟨hp2, hq2⟩ := hr2.resolve_left hn2
  have HQ2 := hide hq2
  have hq2b : r2 ≤ 1048576 := by omega
  clear hq2 hr2
  have HSZ : Hid (szPg x0 + szRw x2 ≤ 1048576) := by
    show _ ≤ _
    have := HQ0.out
    have := HQ2.out
    omega
  have HPS1 := hide (HPS.out HSZ.out)
  have HPI1 := hide (HPI.out HSZ.out)
  have HL0 := hide (HLP0.out HSZ.out)
  have HN0 : Hid (PgLen x0) := szPg_len (by have := HSZ.out; omega)
  have HN2 : Hid (RwLen x2) := szRw_len (by have := HSZ.out; omega)
  go_wp2_with fail
  clear c_BA0_0 c_BA0_1 c_BA0_2
  refine (toProgramC_any x0 _ _ _ _ (HW0.out.stays HB_2.out).a0 (HW0.out.stays HB_2.out).a1 (HW0.out.stays HB_2.out).a2 HN0.out).mono ?_
  rintro e z3 ⟨o1_0, k1_0, c1_0, o1_1, k1_1, c1_1, o1_2, k1_2, c1_2, rfl, hc1, hb1⟩
  have SZ4 : Hid (z2.heap.size ≤ z3.heap.size) := hb1.size
  have HB_3 := hide (HB_2.out.trans (hb1.mono HB_2.out.size))
  clear HB_2
  have BA0_3 := hide (BA0_2.out.stays hb1)
  clear BA0_2
  have XC1_4 := hide (hc1)
  clear hc1 hb1
  go_wp2_with fail
  refine (toStringSR_any x2 _ _ (HW2.out.stays HB_3.out).a0 HN2.out.l0).mono ?_
  rintro e z4 ⟨o2_0, k2_0, c2_0, rfl, hc2, hb2⟩
  have SZ5 : Hid (z3.heap.size ≤ z4.heap.size) := hb2.size
  have HB_5 := hide (HB_3.out.trans (hb2.mono HB_3.out.size))
  clear HB_3
  have BA0_5 := hide (BA0_3.out.stays hb2)
  clear BA0_3
  have XC1_5 := hide (XC1_4.out.stays hb2)
  clear XC1_4
  have XC2_6 := hide (hc2)
  clear hc2 hb2
  go_wp2_with fail
  refine (HPS1.out _ _ _ _ _ _ _ XC1_5.out XC2_6.out).mono ?_
  rintro e z5 ⟨w0_0, w0_1, w0_2, rfl, how0, hbw⟩
  have SZ6 : Hid (z4.heap.size ≤ z5.heap.size) := hbw.size
  have HB_7 := hide (HB_5.out.trans (hbw.mono HB_5.out.size))
  clear HB_5
  have BA0_7 := hide (BA0_5.out.stays hbw)
  clear BA0_5
  have XC1_7 := hide (XC1_5.out.stays hbw)
  clear XC1_5
  have XC2_7 := hide (XC2_6.out.stays hbw)
  clear XC2_6
  obtain ⟨pw0_0, qw0_0, rfl⟩ := form_own how0.o0
  obtain ⟨pw0_1, qw0_1, rfl⟩ := form_own how0.o1
  obtain ⟨pw0_2, qw0_2, rfl⟩ := form_own how0.o2
  have WO0_8 := hide (how0)
  clear how0
  clear hbw
  have WL0 := hide (WO0_8.out).lt
  clear XC1_7
  clear XC2_7
  have hba9 : Below z5.heap.size z5 (z5.alloc (.cells #[.slice pw0_0 (threadE n1 x2.row).todo.length qw0_0, .slice pw0_1 (threadE n1 x2.row).names.length qw0_1, .slice pw0_2 (threadE n1 x2.row).vals.length qw0_2, .int .i64 (threadE n1 x2.row).fault] 34)) := (Below.refl _ _).alloc (Nat.le_refl _) _
  have SZ7 : Hid ((z5.alloc (.cells #[.slice pw0_0 (threadE n1 x2.row).todo.length qw0_0, .slice pw0_1 (threadE n1 x2.row).names.length qw0_1, .slice pw0_2 (threadE n1 x2.row).vals.length qw0_2, .int .i64 (threadE n1 x2.row).fault] 34)).heap.size = z5.heap.size + 1) := by show _ = _; simp
  have HB_10 := hide (HB_7.out.trans (hba9.mono HB_7.out.size))
  clear HB_7
  have BA0_10 := hide (BA0_7.out.stays hba9)
  clear BA0_7
  have WO0_10 := hide (WO0_8.out.stays hba9)
  clear WO0_8
  have BW0_11 := hide (Box.made z5 #[.slice pw0_0 (threadE n1 x2.row).todo.length qw0_0, .slice pw0_1 (threadE n1 x2.row).names.length qw0_1, .slice pw0_2 (threadE n1 x2.row).vals.length qw0_2, .int .i64 (threadE n1 x2.row).fault] 34)
  clear hba9
  have c_BA0_0 := Lib.cell_of_heap BA0_10.out 0
  simp at c_BA0_0
  have c_BA0_1 := Lib.cell_of_heap BA0_10.out 1
  simp at c_BA0_1
  have c_BA0_2 := Lib.cell_of_heap BA0_10.out 2
  simp at c_BA0_2
  have c_BW0_0 := Lib.cell_of_heap BW0_11.out 0
  simp at c_BW0_0
  have c_BW0_1 := Lib.cell_of_heap BW0_11.out 1
  simp at c_BW0_1
  have c_BW0_2 := Lib.cell_of_heap BW0_11.out 2
  simp at c_BW0_2
  have c_BW0_3 := Lib.cell_of_heap BW0_11.out 3
  simp at c_BW0_3
  go_wp2_with fail
  clear c_BA0_0 c_BA0_1 c_BA0_2 c_BW0_0 c_BW0_1 c_BW0_2 c_BW0_3
  obtain ⟨y1, hy1⟩ : ∃ Z, z5.alloc (.cells #[.slice pw0_0 (threadE n1 x2.row).todo.length qw0_0, .slice pw0_1 (threadE n1 x2.row).names.length qw0_1, .slice pw0_2 (threadE n1 x2.row).vals.length qw0_2, .int .i64 (threadE n1 x2.row).fault] 34) = Z := ⟨_, rfl⟩
  rw [hy1] at HB_10 BA0_10 WO0_10 BW0_11 SZ7 ⊢
  clear hy1
  refine (toProgramC_any x0 _ _ _ _ (HW0.out.stays HB_10.out).a0 (HW0.out.stays HB_10.out).a1 (HW0.out.stays HB_10.out).a2 HN0.out).mono ?_
  rintro e z6 ⟨o3_0, k3_0, c3_0, o3_1, k3_1, c3_1, o3_2, k3_2, c3_2, rfl, hc3, hb3⟩
  have SZ8 : Hid (y1.heap.size ≤ z6.heap.size) := hb3.size
  have HB_12 := hide (HB_10.out.trans (hb3.mono HB_10.out.size))
  clear HB_10
  have BA0_12 := hide (BA0_10.out.stays hb3)
  clear BA0_10
  have WO0_12 := hide (WO0_10.out.stays hb3)
  clear WO0_10
  have BW0_12 := hide (BW0_11.out.stays hb3)
  clear BW0_11
  have XC3_13 := hide (hc3)
  clear hc3 hb3
  have XS0_14 := hide (XC3_13.out.sh (T := z6.heap.size) (Nat.le_refl _) HN0.out)
  have hba15 : Below z6.heap.size z6 (z6.alloc (.cells #[.slice o3_0 k3_0 c3_0, .slice o3_1 k3_1 c3_1, .slice o3_2 k3_2 c3_2] 40)) := (Below.refl _ _).alloc (Nat.le_refl _) _
  have SZ9 : Hid ((z6.alloc (.cells #[.slice o3_0 k3_0 c3_0, .slice o3_1 k3_1 c3_1, .slice o3_2 k3_2 c3_2] 40)).heap.size = z6.heap.size + 1) := by show _ = _; simp
  have HB_16 := hide (HB_12.out.trans (hba15.mono HB_12.out.size))
  clear HB_12
  have BA0_16 := hide (BA0_12.out.stays hba15)
  clear BA0_12
  have WO0_16 := hide (WO0_12.out.stays hba15)
  clear WO0_12
  have BW0_16 := hide (BW0_12.out.stays hba15)
  clear BW0_12
  have XC3_16 := hide (XC3_13.out.stays hba15)
  clear XC3_13
  have XS0_16 := hide (XS0_14.out.stays hba15)
  clear XS0_14
  have BX0_17 := hide (Box.made z6 #[.slice o3_0 k3_0 c3_0, .slice o3_1 k3_1 c3_1, .slice o3_2 k3_2 c3_2] 40)
  clear hba15
  have c_BA0_0 := Lib.cell_of_heap BA0_16.out 0
  simp at c_BA0_0
  have c_BA0_1 := Lib.cell_of_heap BA0_16.out 1
  simp at c_BA0_1
  have c_BA0_2 := Lib.cell_of_heap BA0_16.out 2
  simp at c_BA0_2
  have c_BW0_0 := Lib.cell_of_heap BW0_16.out 0
  simp at c_BW0_0
  have c_BW0_1 := Lib.cell_of_heap BW0_16.out 1
  simp at c_BW0_1
  have c_BW0_2 := Lib.cell_of_heap BW0_16.out 2
  simp at c_BW0_2
  have c_BW0_3 := Lib.cell_of_heap BW0_16.out 3
  simp at c_BW0_3
  have c_BX0_0 := Lib.cell_of_heap BX0_17.out 0
  simp at c_BX0_0
  have c_BX0_1 := Lib.cell_of_heap BX0_17.out 1
  simp at c_BX0_1
  have c_BX0_2 := Lib.cell_of_heap BX0_17.out 2
  simp at c_BX0_2
  go_wp2_with fail
  clear c_BA0_0 c_BA0_1 c_BA0_2 c_BW0_0 c_BW0_1 c_BW0_2 c_BW0_3 c_BX0_0 c_BX0_1 c_BX0_2
  obtain ⟨y2, hy2⟩ : ∃ Z, z6.alloc (.cells #[.slice o3_0 k3_0 c3_0, .slice o3_1 k3_1 c3_1, .slice o3_2 k3_2 c3_2] 40) = Z := ⟨_, rfl⟩
  rw [hy2] at HB_16 BA0_16 WO0_16 BW0_16 XC3_16 XS0_16 BX0_17 SZ9 ⊢
  clear hy2
  refine (toStringSR_any x2 _ _ (HW2.out.stays HB_16.out).a0 HN2.out.l0).mono ?_
  rintro e z7 ⟨o4_0, k4_0, c4_0, rfl, hc4, hb4⟩
  have SZ10 : Hid (y2.heap.size ≤ z7.heap.size) := hb4.size
  have HB_18 := hide (HB_16.out.trans (hb4.mono HB_16.out.size))
  clear HB_16
  have BA0_18 := hide (BA0_16.out.stays hb4)
  clear BA0_16
  have WO0_18 := hide (WO0_16.out.stays hb4)
  clear WO0_16
  have BW0_18 := hide (BW0_16.out.stays hb4)
  clear BW0_16
  have XC3_18 := hide (XC3_16.out.stays hb4)
  clear XC3_16
  have XS0_18 := hide (XS0_16.out.stays hb4)
  clear XS0_16
  have BX0_18 := hide (BX0_17.out.stays hb4)
  clear BX0_17
  have XC4_19 := hide (hc4)
  clear hc4 hb4
  have XS2_20 := hide (XC4_19.out.sh (T := z7.heap.size) (Nat.le_refl _))
  have c_BA0_0 := Lib.cell_of_heap BA0_18.out 0
  simp at c_BA0_0
  have c_BA0_1 := Lib.cell_of_heap BA0_18.out 1
  simp at c_BA0_1
  have c_BA0_2 := Lib.cell_of_heap BA0_18.out 2
  simp at c_BA0_2
  have c_BW0_0 := Lib.cell_of_heap BW0_18.out 0
  simp at c_BW0_0
  have c_BW0_1 := Lib.cell_of_heap BW0_18.out 1
  simp at c_BW0_1
  have c_BW0_2 := Lib.cell_of_heap BW0_18.out 2
  simp at c_BW0_2
  have c_BW0_3 := Lib.cell_of_heap BW0_18.out 3
  simp at c_BW0_3
  have c_BX0_0 := Lib.cell_of_heap BX0_18.out 0
  simp at c_BX0_0
  have c_BX0_1 := Lib.cell_of_heap BX0_18.out 1
  simp at c_BX0_1
  have c_BX0_2 := Lib.cell_of_heap BX0_18.out 2
  simp at c_BX0_2
  go_wp2_with fail
  clear c_BA0_0 c_BA0_1 c_BA0_2 c_BW0_0 c_BW0_1 c_BW0_2 c_BW0_3 c_BX0_0 c_BX0_1 c_BX0_2
  refine (HPI1.out _ _ _ _ _ _ _ XC3_18.out XC4_19.out).mono ?_
  rintro e z8 ⟨g0_0, g0_1, g0_2, rfl, hog0, hbg⟩
  have SZ11 : Hid (z7.heap.size ≤ z8.heap.size) := hbg.size
  have HB_21 := hide (HB_18.out.trans (hbg.mono HB_18.out.size))
  clear HB_18
  have BA0_21 := hide (BA0_18.out.stays hbg)
  clear BA0_18
  have WO0_21 := hide (WO0_18.out.stays hbg)
  clear WO0_18
  have BW0_21 := hide (BW0_18.out.stays hbg)
  clear BW0_18
  have XC3_21 := hide (XC3_18.out.stays hbg)
  clear XC3_18
  have XS0_21 := hide (XS0_18.out.stays hbg)
  clear XS0_18
  have BX0_21 := hide (BX0_18.out.stays hbg)
  clear BX0_18
  have XC4_21 := hide (XC4_19.out.stays hbg)
  clear XC4_19
  have XS2_21 := hide (XS2_20.out.stays hbg)
  clear XS2_20
  obtain ⟨pg0_0, qg0_0, rfl⟩ := form_own hog0.o0
  obtain ⟨pg0_1, qg0_1, rfl⟩ := form_own hog0.o1
  obtain ⟨pg0_2, qg0_2, rfl⟩ := form_own hog0.o2
  have GO0_22 := hide (hog0)
  clear hog0
  clear hbg
  have GL0 := hide (GO0_22.out).lt
  have hba23 : Below z8.heap.size z8 (z8.alloc (.cells #[.slice pg0_0 (threadE n1 x2.row).todo.length qg0_0, .slice pg0_1 (threadE n1 x2.row).names.length qg0_1, .slice pg0_2 (threadE n1 x2.row).vals.length qg0_2, .int .i64 (threadE n1 x2.row).fault] 34)) := (Below.refl _ _).alloc (Nat.le_refl _) _
  have SZ12 : Hid ((z8.alloc (.cells #[.slice pg0_0 (threadE n1 x2.row).todo.length qg0_0, .slice pg0_1 (threadE n1 x2.row).names.length qg0_1, .slice pg0_2 (threadE n1 x2.row).vals.length qg0_2, .int .i64 (threadE n1 x2.row).fault] 34)).heap.size = z8.heap.size + 1) := by show _ = _; simp
  have HB_24 := hide (HB_21.out.trans (hba23.mono HB_21.out.size))
  clear HB_21
  have BA0_24 := hide (BA0_21.out.stays hba23)
  clear BA0_21
  have WO0_24 := hide (WO0_21.out.stays hba23)
  clear WO0_21
  have BW0_24 := hide (BW0_21.out.stays hba23)
  clear BW0_21
  have XC3_24 := hide (XC3_21.out.stays hba23)
  clear XC3_21
  have XS0_24 := hide (XS0_21.out.stays hba23)
  clear XS0_21
  have BX0_24 := hide (BX0_21.out.stays hba23)
  clear BX0_21
  have XC4_24 := hide (XC4_21.out.stays hba23)
  clear XC4_21
  have XS2_24 := hide (XS2_21.out.stays hba23)
  clear XS2_21
  have GO0_24 := hide (GO0_22.out.stays hba23)
  clear GO0_22
  have BG0_25 := hide (Box.made z8 #[.slice pg0_0 (threadE n1 x2.row).todo.length qg0_0, .slice pg0_1 (threadE n1 x2.row).names.length qg0_1, .slice pg0_2 (threadE n1 x2.row).vals.length qg0_2, .int .i64 (threadE n1 x2.row).fault] 34)
  clear hba23
  have c_BA0_0 := Lib.cell_of_heap BA0_24.out 0
  simp at c_BA0_0
  have c_BA0_1 := Lib.cell_of_heap BA0_24.out 1
  simp at c_BA0_1
  have c_BA0_2 := Lib.cell_of_heap BA0_24.out 2
  simp at c_BA0_2
  have c_BW0_0 := Lib.cell_of_heap BW0_24.out 0
  simp at c_BW0_0
  have c_BW0_1 := Lib.cell_of_heap BW0_24.out 1
  simp at c_BW0_1
  have c_BW0_2 := Lib.cell_of_heap BW0_24.out 2
  simp at c_BW0_2
  have c_BW0_3 := Lib.cell_of_heap BW0_24.out 3
  simp at c_BW0_3
  have c_BX0_0 := Lib.cell_of_heap BX0_24.out 0
  simp at c_BX0_0
  have c_BX0_1 := Lib.cell_of_heap BX0_24.out 1
  simp at c_BX0_1
  have c_BX0_2 := Lib.cell_of_heap BX0_24.out 2
  simp at c_BX0_2
  have c_BG0_0 := Lib.cell_of_heap BG0_25.out 0
  simp at c_BG0_0
  have c_BG0_1 := Lib.cell_of_heap BG0_25.out 1
  simp at c_BG0_1
  have c_BG0_2 := Lib.cell_of_heap BG0_25.out 2
  simp at c_BG0_2
  have c_BG0_3 := Lib.cell_of_heap BG0_25.out 3
  simp at c_BG0_3
  go_wp2_with fail
  clear c_BA0_0 c_BA0_1 c_BA0_2 c_BW0_0 c_BW0_1 c_BW0_2 c_BW0_3 c_BX0_0 c_BX0_1 c_BX0_2 c_BG0_0 c_BG0_1 c_BG0_2 c_BG0_3
  obtain ⟨y3, hy3⟩ : ∃ Z, z8.alloc (.cells #[.slice pg0_0 (threadE n1 x2.row).todo.length qg0_0, .slice pg0_1 (threadE n1 x2.row).names.length qg0_1, .slice pg0_2 (threadE n1 x2.row).vals.length qg0_2, .int .i64 (threadE n1 x2.row).fault] 34) = Z := ⟨_, rfl⟩
  rw [hy3] at HB_24 BA0_24 WO0_24 BW0_24 XC3_24 XS0_24 BX0_24 XC4_24 XS2_24 GO0_24 BG0_25 SZ12 ⊢
  clear hy3
  refine (eqThread_same (threadE n1 x2.row) _ _ _ _ _ _ _ (GO0_24.out).at.a0 (WO0_24.out).at.a0 (GO0_24.out).at.a1 (WO0_24.out).at.a1 (GO0_24.out).at.a2 (WO0_24.out).at.a2 HL0.out.l0 HL0.out.l1 HL0.out.l2).mono ?_
  rintro e z9 ⟨rfl, hbe26⟩
  have SZ13 : Hid (y3.heap.size ≤ z9.heap.size) := hbe26.size
  have HB_27 := hide (HB_24.out.trans (hbe26.mono HB_24.out.size))
  clear HB_24
  have BA0_27 := hide (BA0_24.out.stays hbe26)
  clear BA0_24
  have WO0_27 := hide (WO0_24.out.stays hbe26)
  clear WO0_24
  have BW0_27 := hide (BW0_24.out.stays hbe26)
  clear BW0_24
  have XC3_27 := hide (XC3_24.out.stays hbe26)
  clear XC3_24
  have XS0_27 := hide (XS0_24.out.stays hbe26)
  clear XS0_24
  have BX0_27 := hide (BX0_24.out.stays hbe26)
  clear BX0_24
  have XC4_27 := hide (XC4_24.out.stays hbe26)
  clear XC4_24
  have XS2_27 := hide (XS2_24.out.stays hbe26)
  clear XS2_24
  have GO0_27 := hide (GO0_24.out.stays hbe26)
  clear GO0_24
  have BG0_27 := hide (BG0_25.out.stays hbe26)
  clear BG0_25
  clear hbe26
  have c_BA0_0 := Lib.cell_of_heap BA0_27.out 0
  simp at c_BA0_0
  have c_BA0_1 := Lib.cell_of_heap BA0_27.out 1
  simp at c_BA0_1
  have c_BA0_2 := Lib.cell_of_heap BA0_27.out 2
  simp at c_BA0_2
  have c_BW0_0 := Lib.cell_of_heap BW0_27.out 0
  simp at c_BW0_0
  have c_BW0_1 := Lib.cell_of_heap BW0_27.out 1
  simp at c_BW0_1
  have c_BW0_2 := Lib.cell_of_heap BW0_27.out 2
  simp at c_BW0_2
  have c_BW0_3 := Lib.cell_of_heap BW0_27.out 3
  simp at c_BW0_3
  have c_BX0_0 := Lib.cell_of_heap BX0_27.out 0
  simp at c_BX0_0
  have c_BX0_1 := Lib.cell_of_heap BX0_27.out 1
  simp at c_BX0_1
  have c_BX0_2 := Lib.cell_of_heap BX0_27.out 2
  simp at c_BX0_2
  have c_BG0_0 := Lib.cell_of_heap BG0_27.out 0
  simp at c_BG0_0
  have c_BG0_1 := Lib.cell_of_heap BG0_27.out 1
  simp at c_BG0_1
  have c_BG0_2 := Lib.cell_of_heap BG0_27.out 2
  simp at c_BG0_2
  have c_BG0_3 := Lib.cell_of_heap BG0_27.out 3
  simp at c_BG0_3
  go_wp2_with fail
  clear c_BA0_0 c_BA0_1 c_BA0_2 c_BW0_0 c_BW0_1 c_BW0_2 c_BW0_3 c_BX0_0 c_BX0_1 c_BX0_2 c_BG0_0 c_BG0_1 c_BG0_2 c_BG0_3
  have KT : Hid (∀ z z' : World, (Below w.heap.size w z ∧ Box z (w.heap.size) #[.slice a0_0 x0.nodes.length b0_0, .slice a0_1 x0.mons.length b0_1, .slice a0_2 x0.pros.length b0_2] 26 ∧ TrOwn z4.heap.size z (.slice pw0_0 (threadE n1 x2.row).todo.length qw0_0) (.slice pw0_1 (threadE n1 x2.row).names.length qw0_1) (.slice pw0_2 (threadE n1 x2.row).vals.length qw0_2) (threadE n1 x2.row) ∧ Box z z5.heap.size #[.slice pw0_0 (threadE n1 x2.row).todo.length qw0_0, .slice pw0_1 (threadE n1 x2.row).names.length qw0_1, .slice pw0_2 (threadE n1 x2.row).vals.length qw0_2, .int .i64 (threadE n1 x2.row).fault] 34 ∧ PgC y1.heap.size z [.slice o3_0 k3_0 c3_0, .slice o3_1 k3_1 c3_1, .slice o3_2 k3_2 c3_2] x0 ∧ PgSh y1.heap.size z6.heap.size z (.slice o3_0 k3_0 c3_0) (.slice o3_1 k3_1 c3_1) (.slice o3_2 k3_2 c3_2) x0 ∧ Box z z6.heap.size #[.slice o3_0 k3_0 c3_0, .slice o3_1 k3_1 c3_1, .slice o3_2 k3_2 c3_2] 40 ∧ RwC y2.heap.size z [.slice o4_0 k4_0 c4_0] x2 ∧ RwSh y2.heap.size z7.heap.size z (.slice o4_0 k4_0 c4_0) x2 ∧ TrOwn z7.heap.size z (.slice pg0_0 (threadE n1 x2.row).todo.length qg0_0) (.slice pg0_1 (threadE n1 x2.row).names.length qg0_1) (.slice pg0_2 (threadE n1 x2.row).vals.length qg0_2) (threadE n1 x2.row) ∧ Box z z8.heap.size #[.slice pg0_0 (threadE n1 x2.row).todo.length qg0_0, .slice pg0_1 (threadE n1 x2.row).names.length qg0_1, .slice pg0_2 (threadE n1 x2.row).vals.length qg0_2, .int .i64 (threadE n1 x2.row).fault] 34) → Below z.heap.size z z' → (Below w.heap.size w z' ∧ Box z' (w.heap.size) #[.slice a0_0 x0.nodes.length b0_0, .slice a0_1 x0.mons.length b0_1, .slice a0_2 x0.pros.length b0_2] 26 ∧ TrOwn z4.heap.size z' (.slice pw0_0 (threadE n1 x2.row).todo.length qw0_0) (.slice pw0_1 (threadE n1 x2.row).names.length qw0_1) (.slice pw0_2 (threadE n1 x2.row).vals.length qw0_2) (threadE n1 x2.row) ∧ Box z' z5.heap.size #[.slice pw0_0 (threadE n1 x2.row).todo.length qw0_0, .slice pw0_1 (threadE n1 x2.row).names.length qw0_1, .slice pw0_2 (threadE n1 x2.row).vals.length qw0_2, .int .i64 (threadE n1 x2.row).fault] 34 ∧ PgC y1.heap.size z' [.slice o3_0 k3_0 c3_0, .slice o3_1 k3_1 c3_1, .slice o3_2 k3_2 c3_2] x0 ∧ PgSh y1.heap.size z6.heap.size z' (.slice o3_0 k3_0 c3_0) (.slice o3_1 k3_1 c3_1) (.slice o3_2 k3_2 c3_2) x0 ∧ Box z' z6.heap.size #[.slice o3_0 k3_0 c3_0, .slice o3_1 k3_1 c3_1, .slice o3_2 k3_2 c3_2] 40 ∧ RwC y2.heap.size z' [.slice o4_0 k4_0 c4_0] x2 ∧ RwSh y2.heap.size z7.heap.size z' (.slice o4_0 k4_0 c4_0) x2 ∧ TrOwn z7.heap.size z' (.slice pg0_0 (threadE n1 x2.row).todo.length qg0_0) (.slice pg0_1 (threadE n1 x2.row).names.length qg0_1) (.slice pg0_2 (threadE n1 x2.row).vals.length qg0_2) (threadE n1 x2.row) ∧ Box z' z8.heap.size #[.slice pg0_0 (threadE n1 x2.row).todo.length qg0_0, .slice pg0_1 (threadE n1 x2.row).names.length qg0_1, .slice pg0_2 (threadE n1 x2.row).vals.length qg0_2, .int .i64 (threadE n1 x2.row).fault] 34)) := fun z z' hz hb => ⟨(hz.1).trans (hb.mono (hz.1).size), (hz.2.1).stays hb, (hz.2.2.1).stays hb, (hz.2.2.2.1).stays hb, (hz.2.2.2.2.1).stays hb, (hz.2.2.2.2.2.1).stays hb, (hz.2.2.2.2.2.2.1).stays hb, (hz.2.2.2.2.2.2.2.1).stays hb, (hz.2.2.2.2.2.2.2.2.1).stays hb, (hz.2.2.2.2.2.2.2.2.2.1).stays hb, (hz.2.2.2.2.2.2.2.2.2.2).stays hb⟩
  have KC : Hid (∀ z : World, (Below w.heap.size w z ∧ Box z (w.heap.size) #[.slice a0_0 x0.nodes.length b0_0, .slice a0_1 x0.mons.length b0_1, .slice a0_2 x0.pros.length b0_2] 26 ∧ TrOwn z4.heap.size z (.slice pw0_0 (threadE n1 x2.row).todo.length qw0_0) (.slice pw0_1 (threadE n1 x2.row).names.length qw0_1) (.slice pw0_2 (threadE n1 x2.row).vals.length qw0_2) (threadE n1 x2.row) ∧ Box z z5.heap.size #[.slice pw0_0 (threadE n1 x2.row).todo.length qw0_0, .slice pw0_1 (threadE n1 x2.row).names.length qw0_1, .slice pw0_2 (threadE n1 x2.row).vals.length qw0_2, .int .i64 (threadE n1 x2.row).fault] 34 ∧ PgC y1.heap.size z [.slice o3_0 k3_0 c3_0, .slice o3_1 k3_1 c3_1, .slice o3_2 k3_2 c3_2] x0 ∧ PgSh y1.heap.size z6.heap.size z (.slice o3_0 k3_0 c3_0) (.slice o3_1 k3_1 c3_1) (.slice o3_2 k3_2 c3_2) x0 ∧ Box z z6.heap.size #[.slice o3_0 k3_0 c3_0, .slice o3_1 k3_1 c3_1, .slice o3_2 k3_2 c3_2] 40 ∧ RwC y2.heap.size z [.slice o4_0 k4_0 c4_0] x2 ∧ RwSh y2.heap.size z7.heap.size z (.slice o4_0 k4_0 c4_0) x2 ∧ TrOwn z7.heap.size z (.slice pg0_0 (threadE n1 x2.row).todo.length qg0_0) (.slice pg0_1 (threadE n1 x2.row).names.length qg0_1) (.slice pg0_2 (threadE n1 x2.row).vals.length qg0_2) (threadE n1 x2.row) ∧ Box z z8.heap.size #[.slice pg0_0 (threadE n1 x2.row).todo.length qg0_0, .slice pg0_1 (threadE n1 x2.row).names.length qg0_1, .slice pg0_2 (threadE n1 x2.row).vals.length qg0_2, .int .i64 (threadE n1 x2.row).fault] 34) → (z.cell? ⟨(w.heap.size), 0, none⟩ = some (.slice a0_0 x0.nodes.length b0_0) ∧ z.cell? ⟨(w.heap.size), 1, none⟩ = some (.slice a0_1 x0.mons.length b0_1) ∧ z.cell? ⟨(w.heap.size), 2, none⟩ = some (.slice a0_2 x0.pros.length b0_2) ∧ z.cell? ⟨z6.heap.size, 0, none⟩ = some (.slice o3_0 k3_0 c3_0) ∧ z.cell? ⟨z6.heap.size, 1, none⟩ = some (.slice o3_1 k3_1 c3_1) ∧ z.cell? ⟨z6.heap.size, 2, none⟩ = some (.slice o3_2 k3_2 c3_2) ∧ Hid ((Below w.heap.size w z ∧ Box z (w.heap.size) #[.slice a0_0 x0.nodes.length b0_0, .slice a0_1 x0.mons.length b0_1, .slice a0_2 x0.pros.length b0_2] 26 ∧ TrOwn z4.heap.size z (.slice pw0_0 (threadE n1 x2.row).todo.length qw0_0) (.slice pw0_1 (threadE n1 x2.row).names.length qw0_1) (.slice pw0_2 (threadE n1 x2.row).vals.length qw0_2) (threadE n1 x2.row) ∧ Box z z5.heap.size #[.slice pw0_0 (threadE n1 x2.row).todo.length qw0_0, .slice pw0_1 (threadE n1 x2.row).names.length qw0_1, .slice pw0_2 (threadE n1 x2.row).vals.length qw0_2, .int .i64 (threadE n1 x2.row).fault] 34 ∧ PgC y1.heap.size z [.slice o3_0 k3_0 c3_0, .slice o3_1 k3_1 c3_1, .slice o3_2 k3_2 c3_2] x0 ∧ PgSh y1.heap.size z6.heap.size z (.slice o3_0 k3_0 c3_0) (.slice o3_1 k3_1 c3_1) (.slice o3_2 k3_2 c3_2) x0 ∧ Box z z6.heap.size #[.slice o3_0 k3_0 c3_0, .slice o3_1 k3_1 c3_1, .slice o3_2 k3_2 c3_2] 40 ∧ RwC y2.heap.size z [.slice o4_0 k4_0 c4_0] x2 ∧ RwSh y2.heap.size z7.heap.size z (.slice o4_0 k4_0 c4_0) x2 ∧ TrOwn z7.heap.size z (.slice pg0_0 (threadE n1 x2.row).todo.length qg0_0) (.slice pg0_1 (threadE n1 x2.row).names.length qg0_1) (.slice pg0_2 (threadE n1 x2.row).vals.length qg0_2) (threadE n1 x2.row) ∧ Box z z8.heap.size #[.slice pg0_0 (threadE n1 x2.row).todo.length qg0_0, .slice pg0_1 (threadE n1 x2.row).names.length qg0_1, .slice pg0_2 (threadE n1 x2.row).vals.length qg0_2, .int .i64 (threadE n1 x2.row).fault] 34)))) := fun z hz => ⟨Lib.cell_of_heap (hz.2.1) 0, Lib.cell_of_heap (hz.2.1) 1, Lib.cell_of_heap (hz.2.1) 2, Lib.cell_of_heap (hz.2.2.2.2.2.2.1) 0, Lib.cell_of_heap (hz.2.2.2.2.2.2.1) 1, Lib.cell_of_heap (hz.2.2.2.2.2.2.1) 2, hz⟩
  have KV : Hid (∀ z : World, (z.cell? ⟨(w.heap.size), 0, none⟩ = some (.slice a0_0 x0.nodes.length b0_0) ∧ z.cell? ⟨(w.heap.size), 1, none⟩ = some (.slice a0_1 x0.mons.length b0_1) ∧ z.cell? ⟨(w.heap.size), 2, none⟩ = some (.slice a0_2 x0.pros.length b0_2) ∧ z.cell? ⟨z6.heap.size, 0, none⟩ = some (.slice o3_0 k3_0 c3_0) ∧ z.cell? ⟨z6.heap.size, 1, none⟩ = some (.slice o3_1 k3_1 c3_1) ∧ z.cell? ⟨z6.heap.size, 2, none⟩ = some (.slice o3_2 k3_2 c3_2) ∧ Hid ((Below w.heap.size w z ∧ Box z (w.heap.size) #[.slice a0_0 x0.nodes.length b0_0, .slice a0_1 x0.mons.length b0_1, .slice a0_2 x0.pros.length b0_2] 26 ∧ TrOwn z4.heap.size z (.slice pw0_0 (threadE n1 x2.row).todo.length qw0_0) (.slice pw0_1 (threadE n1 x2.row).names.length qw0_1) (.slice pw0_2 (threadE n1 x2.row).vals.length qw0_2) (threadE n1 x2.row) ∧ Box z z5.heap.size #[.slice pw0_0 (threadE n1 x2.row).todo.length qw0_0, .slice pw0_1 (threadE n1 x2.row).names.length qw0_1, .slice pw0_2 (threadE n1 x2.row).vals.length qw0_2, .int .i64 (threadE n1 x2.row).fault] 34 ∧ PgC y1.heap.size z [.slice o3_0 k3_0 c3_0, .slice o3_1 k3_1 c3_1, .slice o3_2 k3_2 c3_2] x0 ∧ PgSh y1.heap.size z6.heap.size z (.slice o3_0 k3_0 c3_0) (.slice o3_1 k3_1 c3_1) (.slice o3_2 k3_2 c3_2) x0 ∧ Box z z6.heap.size #[.slice o3_0 k3_0 c3_0, .slice o3_1 k3_1 c3_1, .slice o3_2 k3_2 c3_2] 40 ∧ RwC y2.heap.size z [.slice o4_0 k4_0 c4_0] x2 ∧ RwSh y2.heap.size z7.heap.size z (.slice o4_0 k4_0 c4_0) x2 ∧ TrOwn z7.heap.size z (.slice pg0_0 (threadE n1 x2.row).todo.length qg0_0) (.slice pg0_1 (threadE n1 x2.row).names.length qg0_1) (.slice pg0_2 (threadE n1 x2.row).vals.length qg0_2) (threadE n1 x2.row) ∧ Box z z8.heap.size #[.slice pg0_0 (threadE n1 x2.row).todo.length qg0_0, .slice pg0_1 (threadE n1 x2.row).names.length qg0_1, .slice pg0_2 (threadE n1 x2.row).vals.length qg0_2, .int .i64 (threadE n1 x2.row).fault] 34))) → (Below w.heap.size w z ∧ Box z (w.heap.size) #[.slice a0_0 x0.nodes.length b0_0, .slice a0_1 x0.mons.length b0_1, .slice a0_2 x0.pros.length b0_2] 26 ∧ TrOwn z4.heap.size z (.slice pw0_0 (threadE n1 x2.row).todo.length qw0_0) (.slice pw0_1 (threadE n1 x2.row).names.length qw0_1) (.slice pw0_2 (threadE n1 x2.row).vals.length qw0_2) (threadE n1 x2.row) ∧ Box z z5.heap.size #[.slice pw0_0 (threadE n1 x2.row).todo.length qw0_0, .slice pw0_1 (threadE n1 x2.row).names.length qw0_1, .slice pw0_2 (threadE n1 x2.row).vals.length qw0_2, .int .i64 (threadE n1 x2.row).fault] 34 ∧ PgC y1.heap.size z [.slice o3_0 k3_0 c3_0, .slice o3_1 k3_1 c3_1, .slice o3_2 k3_2 c3_2] x0 ∧ PgSh y1.heap.size z6.heap.size z (.slice o3_0 k3_0 c3_0) (.slice o3_1 k3_1 c3_1) (.slice o3_2 k3_2 c3_2) x0 ∧ Box z z6.heap.size #[.slice o3_0 k3_0 c3_0, .slice o3_1 k3_1 c3_1, .slice o3_2 k3_2 c3_2] 40 ∧ RwC y2.heap.size z [.slice o4_0 k4_0 c4_0] x2 ∧ RwSh y2.heap.size z7.heap.size z (.slice o4_0 k4_0 c4_0) x2 ∧ TrOwn z7.heap.size z (.slice pg0_0 (threadE n1 x2.row).todo.length qg0_0) (.slice pg0_1 (threadE n1 x2.row).names.length qg0_1) (.slice pg0_2 (threadE n1 x2.row).vals.length qg0_2) (threadE n1 x2.row) ∧ Box z z8.heap.size #[.slice pg0_0 (threadE n1 x2.row).todo.length qg0_0, .slice pg0_1 (threadE n1 x2.row).names.length qg0_1, .slice pg0_2 (threadE n1 x2.row).vals.length qg0_2, .int .i64 (threadE n1 x2.row).fault] 34)) := fun z hz => hz.2.2.2.2.2.2.out
  have KP : Hid (∀ z z' : World, (z.cell? ⟨(w.heap.size), 0, none⟩ = some (.slice a0_0 x0.nodes.length b0_0) ∧ z.cell? ⟨(w.heap.size), 1, none⟩ = some (.slice a0_1 x0.mons.length b0_1) ∧ z.cell? ⟨(w.heap.size), 2, none⟩ = some (.slice a0_2 x0.pros.length b0_2) ∧ z.cell? ⟨z6.heap.size, 0, none⟩ = some (.slice o3_0 k3_0 c3_0) ∧ z.cell? ⟨z6.heap.size, 1, none⟩ = some (.slice o3_1 k3_1 c3_1) ∧ z.cell? ⟨z6.heap.size, 2, none⟩ = some (.slice o3_2 k3_2 c3_2) ∧ Hid ((Below w.heap.size w z ∧ Box z (w.heap.size) #[.slice a0_0 x0.nodes.length b0_0, .slice a0_1 x0.mons.length b0_1, .slice a0_2 x0.pros.length b0_2] 26 ∧ TrOwn z4.heap.size z (.slice pw0_0 (threadE n1 x2.row).todo.length qw0_0) (.slice pw0_1 (threadE n1 x2.row).names.length qw0_1) (.slice pw0_2 (threadE n1 x2.row).vals.length qw0_2) (threadE n1 x2.row) ∧ Box z z5.heap.size #[.slice pw0_0 (threadE n1 x2.row).todo.length qw0_0, .slice pw0_1 (threadE n1 x2.row).names.length qw0_1, .slice pw0_2 (threadE n1 x2.row).vals.length qw0_2, .int .i64 (threadE n1 x2.row).fault] 34 ∧ PgC y1.heap.size z [.slice o3_0 k3_0 c3_0, .slice o3_1 k3_1 c3_1, .slice o3_2 k3_2 c3_2] x0 ∧ PgSh y1.heap.size z6.heap.size z (.slice o3_0 k3_0 c3_0) (.slice o3_1 k3_1 c3_1) (.slice o3_2 k3_2 c3_2) x0 ∧ Box z z6.heap.size #[.slice o3_0 k3_0 c3_0, .slice o3_1 k3_1 c3_1, .slice o3_2 k3_2 c3_2] 40 ∧ RwC y2.heap.size z [.slice o4_0 k4_0 c4_0] x2 ∧ RwSh y2.heap.size z7.heap.size z (.slice o4_0 k4_0 c4_0) x2 ∧ TrOwn z7.heap.size z (.slice pg0_0 (threadE n1 x2.row).todo.length qg0_0) (.slice pg0_1 (threadE n1 x2.row).names.length qg0_1) (.slice pg0_2 (threadE n1 x2.row).vals.length qg0_2) (threadE n1 x2.row) ∧ Box z z8.heap.size #[.slice pg0_0 (threadE n1 x2.row).todo.length qg0_0, .slice pg0_1 (threadE n1 x2.row).names.length qg0_1, .slice pg0_2 (threadE n1 x2.row).vals.length qg0_2, .int .i64 (threadE n1 x2.row).fault] 34))) → Below z.heap.size z z' → (z'.cell? ⟨(w.heap.size), 0, none⟩ = some (.slice a0_0 x0.nodes.length b0_0) ∧ z'.cell? ⟨(w.heap.size), 1, none⟩ = some (.slice a0_1 x0.mons.length b0_1) ∧ z'.cell? ⟨(w.heap.size), 2, none⟩ = some (.slice a0_2 x0.pros.length b0_2) ∧ z'.cell? ⟨z6.heap.size, 0, none⟩ = some (.slice o3_0 k3_0 c3_0) ∧ z'.cell? ⟨z6.heap.size, 1, none⟩ = some (.slice o3_1 k3_1 c3_1) ∧ z'.cell? ⟨z6.heap.size, 2, none⟩ = some (.slice o3_2 k3_2 c3_2) ∧ Hid ((Below w.heap.size w z' ∧ Box z' (w.heap.size) #[.slice a0_0 x0.nodes.length b0_0, .slice a0_1 x0.mons.length b0_1, .slice a0_2 x0.pros.length b0_2] 26 ∧ TrOwn z4.heap.size z' (.slice pw0_0 (threadE n1 x2.row).todo.length qw0_0) (.slice pw0_1 (threadE n1 x2.row).names.length qw0_1) (.slice pw0_2 (threadE n1 x2.row).vals.length qw0_2) (threadE n1 x2.row) ∧ Box z' z5.heap.size #[.slice pw0_0 (threadE n1 x2.row).todo.length qw0_0, .slice pw0_1 (threadE n1 x2.row).names.length qw0_1, .slice pw0_2 (threadE n1 x2.row).vals.length qw0_2, .int .i64 (threadE n1 x2.row).fault] 34 ∧ PgC y1.heap.size z' [.slice o3_0 k3_0 c3_0, .slice o3_1 k3_1 c3_1, .slice o3_2 k3_2 c3_2] x0 ∧ PgSh y1.heap.size z6.heap.size z' (.slice o3_0 k3_0 c3_0) (.slice o3_1 k3_1 c3_1) (.slice o3_2 k3_2 c3_2) x0 ∧ Box z' z6.heap.size #[.slice o3_0 k3_0 c3_0, .slice o3_1 k3_1 c3_1, .slice o3_2 k3_2 c3_2] 40 ∧ RwC y2.heap.size z' [.slice o4_0 k4_0 c4_0] x2 ∧ RwSh y2.heap.size z7.heap.size z' (.slice o4_0 k4_0 c4_0) x2 ∧ TrOwn z7.heap.size z' (.slice pg0_0 (threadE n1 x2.row).todo.length qg0_0) (.slice pg0_1 (threadE n1 x2.row).names.length qg0_1) (.slice pg0_2 (threadE n1 x2.row).vals.length qg0_2) (threadE n1 x2.row) ∧ Box z' z8.heap.size #[.slice pg0_0 (threadE n1 x2.row).todo.length qg0_0, .slice pg0_1 (threadE n1 x2.row).names.length qg0_1, .slice pg0_2 (threadE n1 x2.row).vals.length qg0_2, .int .i64 (threadE n1 x2.row).fault] 34)))) := fun z z' hz hb => KC.out _ (KT.out _ _ (KV.out _ hz) hb)
  have K0 := hide (KC.out _ (KT.out _ _ ⟨HB_27.out, BA0_27.out, WO0_27.out, BW0_27.out, XC3_27.out, XS0_27.out, BX0_27.out, XC4_27.out, XS2_27.out, GO0_27.out, BG0_27.out⟩ (Below.refl _ _).drew))
  clear HB_27 BA0_27 WO0_27 BW0_27 XC3_27 XS0_27 BX0_27 XC4_27 XS2_27 GO0_27 BG0_27
  go_region_held3 (fun z => z.cell? ⟨(w.heap.size), 0, none⟩ = some (.slice a0_0 x0.nodes.length b0_0) ∧ z.cell? ⟨(w.heap.size), 1, none⟩ = some (.slice a0_1 x0.mons.length b0_1) ∧ z.cell? ⟨(w.heap.size), 2, none⟩ = some (.slice a0_2 x0.pros.length b0_2) ∧ z.cell? ⟨z6.heap.size, 0, none⟩ = some (.slice o3_0 k3_0 c3_0) ∧ z.cell? ⟨z6.heap.size, 1, none⟩ = some (.slice o3_1 k3_1 c3_1) ∧ z.cell? ⟨z6.heap.size, 2, none⟩ = some (.slice o3_2 k3_2 c3_2) ∧ Hid ((Below w.heap.size w z ∧ Box z (w.heap.size) #[.slice a0_0 x0.nodes.length b0_0, .slice a0_1 x0.mons.length b0_1, .slice a0_2 x0.pros.length b0_2] 26 ∧ TrOwn z4.heap.size z (.slice pw0_0 (threadE n1 x2.row).todo.length qw0_0) (.slice pw0_1 (threadE n1 x2.row).names.length qw0_1) (.slice pw0_2 (threadE n1 x2.row).vals.length qw0_2) (threadE n1 x2.row) ∧ Box z z5.heap.size #[.slice pw0_0 (threadE n1 x2.row).todo.length qw0_0, .slice pw0_1 (threadE n1 x2.row).names.length qw0_1, .slice pw0_2 (threadE n1 x2.row).vals.length qw0_2, .int .i64 (threadE n1 x2.row).fault] 34 ∧ PgC y1.heap.size z [.slice o3_0 k3_0 c3_0, .slice o3_1 k3_1 c3_1, .slice o3_2 k3_2 c3_2] x0 ∧ PgSh y1.heap.size z6.heap.size z (.slice o3_0 k3_0 c3_0) (.slice o3_1 k3_1 c3_1) (.slice o3_2 k3_2 c3_2) x0 ∧ Box z z6.heap.size #[.slice o3_0 k3_0 c3_0, .slice o3_1 k3_1 c3_1, .slice o3_2 k3_2 c3_2] 40 ∧ RwC y2.heap.size z [.slice o4_0 k4_0 c4_0] x2 ∧ RwSh y2.heap.size z7.heap.size z (.slice o4_0 k4_0 c4_0) x2 ∧ TrOwn z7.heap.size z (.slice pg0_0 (threadE n1 x2.row).todo.length qg0_0) (.slice pg0_1 (threadE n1 x2.row).names.length qg0_1) (.slice pg0_2 (threadE n1 x2.row).vals.length qg0_2) (threadE n1 x2.row) ∧ Box z z8.heap.size #[.slice pg0_0 (threadE n1 x2.row).todo.length qg0_0, .slice pg0_1 (threadE n1 x2.row).names.length qg0_1, .slice pg0_2 (threadE n1 x2.row).vals.length qg0_2, .int .i64 (threadE n1 x2.row).fault] 34))) (first | exact K0.out | exact KP.out _ _ (by assumption) hb7)
    (first
      | (go_at_call 9; refine (toProgramC_any x0 _ _ _ _ (HW0.out.stays ((KV.out _ (by assumption)).1)).a0 (HW0.out.stays ((KV.out _ (by assumption)).1)).a1 (HW0.out.stays ((KV.out _ (by assumption)).1)).a2 HN0.out).mono ?_; rintro e w7 ⟨oo0, kk0, cc0, oo1, kk1, cc1, oo2, kk2, cc2, rfl, hc7, hb7⟩; have P7 := hide hc7.at; clear hc7)
      | (go_at_call 13; refine (eqProgram_same x0 _ _ _ _ _ _ _ (((KV.out _ (by assumption)).2.2.2.2.1)).at.a0 P7.out.a0 (((KV.out _ (by assumption)).2.2.2.2.1)).at.a1 P7.out.a1 (((KV.out _ (by assumption)).2.2.2.2.1)).at.a2 P7.out.a2 HN0.out).mono ?_; rintro e z10 ⟨rfl, hb7⟩))
  obtain ⟨f0, f1, f2, f3, f4, f5, f6, f7, f8, f9, f10⟩ := KV.out z10 (by assumption)
  clear KT KC KV KP K0
  have HB_28 := hide f0
  have BA0_28 := hide f1
  have WO0_28 := hide f2
  have BW0_28 := hide f3
  have XC3_28 := hide f4
  have XS0_28 := hide f5
  have BX0_28 := hide f6
  have XC4_28 := hide f7
  have XS2_28 := hide f8
  have GO0_28 := hide f9
  have BG0_28 := hide f10
  clear f0 f1 f2 f3 f4 f5 f6 f7 f8 f9 f10
  have c_BA0_0 := Lib.cell_of_heap BA0_28.out 0
  simp at c_BA0_0
  have c_BA0_1 := Lib.cell_of_heap BA0_28.out 1
  simp at c_BA0_1
  have c_BA0_2 := Lib.cell_of_heap BA0_28.out 2
  simp at c_BA0_2
  have c_BW0_0 := Lib.cell_of_heap BW0_28.out 0
  simp at c_BW0_0
  have c_BW0_1 := Lib.cell_of_heap BW0_28.out 1
  simp at c_BW0_1
  have c_BW0_2 := Lib.cell_of_heap BW0_28.out 2
  simp at c_BW0_2
  have c_BW0_3 := Lib.cell_of_heap BW0_28.out 3
  simp at c_BW0_3
  have c_BX0_0 := Lib.cell_of_heap BX0_28.out 0
  simp at c_BX0_0
  have c_BX0_1 := Lib.cell_of_heap BX0_28.out 1
  simp at c_BX0_1
  have c_BX0_2 := Lib.cell_of_heap BX0_28.out 2
  simp at c_BX0_2
  have c_BG0_0 := Lib.cell_of_heap BG0_28.out 0
  simp at c_BG0_0
  have c_BG0_1 := Lib.cell_of_heap BG0_28.out 1
  simp at c_BG0_1
  have c_BG0_2 := Lib.cell_of_heap BG0_28.out 2
  simp at c_BG0_2
  have c_BG0_3 := Lib.cell_of_heap BG0_28.out 3
  simp at c_BG0_3
  go_wp2_with fail
  clear c_BA0_0 c_BA0_1 c_BA0_2 c_BW0_0 c_BW0_1 c_BW0_2 c_BW0_3 c_BX0_0 c_BX0_1 c_BX0_2 c_BG0_0 c_BG0_1 c_BG0_2 c_BG0_3
  refine (toStringSR_any x2 _ _ (HW2.out.stays HB_28.out).a0 HN2.out.l0).mono ?_
  rintro e z11 ⟨o5_0, k5_0, c5_0, rfl, hc5, hb5⟩
  have SZ14 : Hid (z10.heap.size ≤ z11.heap.size) := hb5.size
  have HB_29 := hide (HB_28.out.trans (hb5.mono HB_28.out.size))
  clear HB_28
  have BA0_29 := hide (BA0_28.out.stays hb5)
  clear BA0_28
  have WO0_29 := hide (WO0_28.out.stays hb5)
  clear WO0_28
  have BW0_29 := hide (BW0_28.out.stays hb5)
  clear BW0_28
  have XC3_29 := hide (XC3_28.out.stays hb5)
  clear XC3_28
  have XS0_29 := hide (XS0_28.out.stays hb5)
  clear XS0_28
  have BX0_29 := hide (BX0_28.out.stays hb5)
  clear BX0_28
  have XC4_29 := hide (XC4_28.out.stays hb5)
  clear XC4_28
  have XS2_29 := hide (XS2_28.out.stays hb5)
  clear XS2_28
  have GO0_29 := hide (GO0_28.out.stays hb5)
  clear GO0_28
  have BG0_29 := hide (BG0_28.out.stays hb5)
  clear BG0_28
  have XC5_30 := hide (hc5)
  clear hc5 hb5
  go_wp2_with fail
  refine (eqStringSR_same x2 _ _ _ (XC4_29.out).at.a0 (XC5_30.out).at.a0 HN2.out.l0).mono ?_
  rintro e z12 ⟨rfl, hbp31⟩
  have SZ15 : Hid (z11.heap.size ≤ z12.heap.size) := hbp31.size
  have HB_32 := hide (HB_29.out.trans (hbp31.mono HB_29.out.size))
  clear HB_29
  have BA0_32 := hide (BA0_29.out.stays hbp31)
  clear BA0_29
  have WO0_32 := hide (WO0_29.out.stays hbp31)
  clear WO0_29
  have BW0_32 := hide (BW0_29.out.stays hbp31)
  clear BW0_29
  have XC3_32 := hide (XC3_29.out.stays hbp31)
  clear XC3_29
  have XS0_32 := hide (XS0_29.out.stays hbp31)
  clear XS0_29
  have BX0_32 := hide (BX0_29.out.stays hbp31)
  clear BX0_29
  have XC4_32 := hide (XC4_29.out.stays hbp31)
  clear XC4_29
  have XS2_32 := hide (XS2_29.out.stays hbp31)
  clear XS2_29
  have GO0_32 := hide (GO0_29.out.stays hbp31)
  clear GO0_29
  have BG0_32 := hide (BG0_29.out.stays hbp31)
  clear BG0_29
  have XC5_32 := hide (XC5_30.out.stays hbp31)
  clear XC5_30
  clear hbp31
  clear XC5_32
  have c_BA0_0 := Lib.cell_of_heap BA0_32.out 0
  simp at c_BA0_0
  have c_BA0_1 := Lib.cell_of_heap BA0_32.out 1
  simp at c_BA0_1
  have c_BA0_2 := Lib.cell_of_heap BA0_32.out 2
  simp at c_BA0_2
  have c_BW0_0 := Lib.cell_of_heap BW0_32.out 0
  simp at c_BW0_0
  have c_BW0_1 := Lib.cell_of_heap BW0_32.out 1
  simp at c_BW0_1
  have c_BW0_2 := Lib.cell_of_heap BW0_32.out 2
  simp at c_BW0_2
  have c_BW0_3 := Lib.cell_of_heap BW0_32.out 3
  simp at c_BW0_3
  have c_BX0_0 := Lib.cell_of_heap BX0_32.out 0
  simp at c_BX0_0
  have c_BX0_1 := Lib.cell_of_heap BX0_32.out 1
  simp at c_BX0_1
  have c_BX0_2 := Lib.cell_of_heap BX0_32.out 2
  simp at c_BX0_2
  have c_BG0_0 := Lib.cell_of_heap BG0_32.out 0
  simp at c_BG0_0
  have c_BG0_1 := Lib.cell_of_heap BG0_32.out 1
  simp at c_BG0_1
  have c_BG0_2 := Lib.cell_of_heap BG0_32.out 2
  simp at c_BG0_2
  have c_BG0_3 := Lib.cell_of_heap BG0_32.out 3
  simp at c_BG0_3
  go_wp2_with fail
  clear c_BA0_0 c_BA0_1 c_BA0_2 c_BW0_0 c_BW0_1 c_BW0_2 c_BW0_3 c_BX0_0 c_BX0_1 c_BX0_2 c_BG0_0 c_BG0_1 c_BG0_2 c_BG0_3
  refine (turnProgram_any (B := y1.heap.size) (T := z6.heap.size) _ _ _ _ _ XS0_32.out.s0 XS0_32.out.s1 XS0_32.out.s2 HN0.out.l0 HN0.out.l1 HN0.out.l2 (by have := SZ1.out; have := SZ2.out; have := SZ3.out; have := SZ4.out; have := SZ5.out; have := SZ6.out; have := SZ7.out; have := SZ8.out; have := SZ9.out; have := SZ10.out; have := SZ11.out; have := SZ12.out; have := SZ13.out; have := SZ14.out; have := SZ15.out; have := BX0_32.out.lt; omega) (by have := SZ1.out; have := SZ2.out; have := SZ3.out; have := SZ4.out; have := SZ5.out; have := SZ6.out; have := SZ7.out; have := SZ8.out; have := SZ9.out; have := SZ10.out; have := SZ11.out; have := SZ12.out; have := SZ13.out; have := SZ14.out; have := SZ15.out; have := BX0_32.out.lt; omega) (by omega) (by omega)).mono ?_
  rintro e z13 ⟨kx0, rfl, hka0, hkb0, ht0⟩
  have HB_33 : Hid (Below w.heap.size w z13) := HB_32.out.trans (ht0.bel.mono (by have := SZ1.out; have := SZ2.out; have := SZ3.out; have := SZ4.out; have := SZ5.out; have := SZ6.out; have := SZ7.out; have := SZ8.out; have := SZ9.out; have := SZ10.out; have := SZ11.out; have := SZ12.out; have := SZ13.out; have := SZ14.out; have := SZ15.out; omega))
  clear HB_32
  have BA0_33 : Hid (Box z13 (w.heap.size) #[.slice a0_0 x0.nodes.length b0_0, .slice a0_1 x0.mons.length b0_1, .slice a0_2 x0.pros.length b0_2] 26) := (ht0.bel.block _ (by have := SZ1.out; have := SZ2.out; have := SZ3.out; have := SZ4.out; have := SZ5.out; have := SZ6.out; have := SZ7.out; have := SZ8.out; have := SZ9.out; have := SZ10.out; have := SZ11.out; have := SZ12.out; have := SZ13.out; have := SZ14.out; have := SZ15.out; omega)).trans BA0_32.out
  clear BA0_32
  have WO0_33 : Hid (TrOwn z4.heap.size z13 (.slice pw0_0 (threadE n1 x2.row).todo.length qw0_0) (.slice pw0_1 (threadE n1 x2.row).names.length qw0_1) (.slice pw0_2 (threadE n1 x2.row).vals.length qw0_2) (threadE n1 x2.row)) := WO0_32.out.low ht0.bel ⟨fun i hi => by have := WL0.out.1 i hi; have := SZ1.out; have := SZ2.out; have := SZ3.out; have := SZ4.out; have := SZ5.out; have := SZ6.out; have := SZ7.out; have := SZ8.out; have := SZ9.out; have := SZ10.out; have := SZ11.out; have := SZ12.out; have := SZ13.out; have := SZ14.out; have := SZ15.out; omega, fun i hi => by have := WL0.out.2.1 i hi; have := SZ1.out; have := SZ2.out; have := SZ3.out; have := SZ4.out; have := SZ5.out; have := SZ6.out; have := SZ7.out; have := SZ8.out; have := SZ9.out; have := SZ10.out; have := SZ11.out; have := SZ12.out; have := SZ13.out; have := SZ14.out; have := SZ15.out; omega, fun i hi => by have := WL0.out.2.2 i hi; have := SZ1.out; have := SZ2.out; have := SZ3.out; have := SZ4.out; have := SZ5.out; have := SZ6.out; have := SZ7.out; have := SZ8.out; have := SZ9.out; have := SZ10.out; have := SZ11.out; have := SZ12.out; have := SZ13.out; have := SZ14.out; have := SZ15.out; omega⟩
  clear WO0_32
  have BW0_33 : Hid (Box z13 z5.heap.size #[.slice pw0_0 (threadE n1 x2.row).todo.length qw0_0, .slice pw0_1 (threadE n1 x2.row).names.length qw0_1, .slice pw0_2 (threadE n1 x2.row).vals.length qw0_2, .int .i64 (threadE n1 x2.row).fault] 34) := (ht0.bel.block _ (by have := SZ1.out; have := SZ2.out; have := SZ3.out; have := SZ4.out; have := SZ5.out; have := SZ6.out; have := SZ7.out; have := SZ8.out; have := SZ9.out; have := SZ10.out; have := SZ11.out; have := SZ12.out; have := SZ13.out; have := SZ14.out; have := SZ15.out; omega)).trans BW0_32.out
  clear BW0_32
  clear XC3_32
  clear XS0_32
  have BX0_33 : Hid (Box z13 z6.heap.size #[.slice o3_0 k3_0 c3_0, .slice o3_1 k3_1 c3_1, .slice o3_2 k3_2 c3_2] 40) := (ht0.out _ (by have := SZ1.out; have := SZ2.out; have := SZ3.out; have := SZ4.out; have := SZ5.out; have := SZ6.out; have := SZ7.out; have := SZ8.out; have := SZ9.out; have := SZ10.out; have := SZ11.out; have := SZ12.out; have := SZ13.out; have := SZ14.out; have := SZ15.out; omega) BX0_32.out.lt).trans BX0_32.out
  clear BX0_32
  clear XC4_32
  have XS2_33 : Hid (RwSh y2.heap.size z7.heap.size z13 (.slice o4_0 k4_0 c4_0) x2) := XS2_32.out.turn ht0
  clear XS2_32
  have GO0_33 : Hid (TrOwn z7.heap.size z13 (.slice pg0_0 (threadE n1 x2.row).todo.length qg0_0) (.slice pg0_1 (threadE n1 x2.row).names.length qg0_1) (.slice pg0_2 (threadE n1 x2.row).vals.length qg0_2) (threadE n1 x2.row)) := GO0_32.out.turn ht0 (by have := SZ1.out; have := SZ2.out; have := SZ3.out; have := SZ4.out; have := SZ5.out; have := SZ6.out; have := SZ7.out; have := SZ8.out; have := SZ9.out; have := SZ10.out; have := SZ11.out; have := SZ12.out; have := SZ13.out; have := SZ14.out; have := SZ15.out; omega)
  clear GO0_32
  have BG0_33 : Hid (Box z13 z8.heap.size #[.slice pg0_0 (threadE n1 x2.row).todo.length qg0_0, .slice pg0_1 (threadE n1 x2.row).names.length qg0_1, .slice pg0_2 (threadE n1 x2.row).vals.length qg0_2, .int .i64 (threadE n1 x2.row).fault] 34) := (ht0.out _ (by have := SZ1.out; have := SZ2.out; have := SZ3.out; have := SZ4.out; have := SZ5.out; have := SZ6.out; have := SZ7.out; have := SZ8.out; have := SZ9.out; have := SZ10.out; have := SZ11.out; have := SZ12.out; have := SZ13.out; have := SZ14.out; have := SZ15.out; omega) BG0_32.out.lt).trans BG0_32.out
  clear BG0_32
  clear ht0
  have hkn0 : ¬ kx0 < 0 := by omega
  have c_BA0_0 := Lib.cell_of_heap BA0_33.out 0
  simp at c_BA0_0
  have c_BA0_1 := Lib.cell_of_heap BA0_33.out 1
  simp at c_BA0_1
  have c_BA0_2 := Lib.cell_of_heap BA0_33.out 2
  simp at c_BA0_2
  have c_BW0_0 := Lib.cell_of_heap BW0_33.out 0
  simp at c_BW0_0
  have c_BW0_1 := Lib.cell_of_heap BW0_33.out 1
  simp at c_BW0_1
  have c_BW0_2 := Lib.cell_of_heap BW0_33.out 2
  simp at c_BW0_2
  have c_BW0_3 := Lib.cell_of_heap BW0_33.out 3
  simp at c_BW0_3
  have c_BX0_0 := Lib.cell_of_heap BX0_33.out 0
  simp at c_BX0_0
  have c_BX0_1 := Lib.cell_of_heap BX0_33.out 1
  simp at c_BX0_1
  have c_BX0_2 := Lib.cell_of_heap BX0_33.out 2
  simp at c_BX0_2
  have c_BG0_0 := Lib.cell_of_heap BG0_33.out 0
  simp at c_BG0_0
  have c_BG0_1 := Lib.cell_of_heap BG0_33.out 1
  simp at c_BG0_1
  have c_BG0_2 := Lib.cell_of_heap BG0_33.out 2
  simp at c_BG0_2
  have c_BG0_3 := Lib.cell_of_heap BG0_33.out 3
  simp at c_BG0_3
  go_wp2_with fail
  clear c_BA0_0 c_BA0_1 c_BA0_2 c_BW0_0 c_BW0_1 c_BW0_2 c_BW0_3 c_BX0_0 c_BX0_1 c_BX0_2 c_BG0_0 c_BG0_1 c_BG0_2 c_BG0_3
  refine (turnStringSR_any (B := y2.heap.size) (T := z7.heap.size) _ _ _ XS2_33.out.s0 HN2.out.l0 (by have := SZ1.out; have := SZ2.out; have := SZ3.out; have := SZ4.out; have := SZ5.out; have := SZ6.out; have := SZ7.out; have := SZ8.out; have := SZ9.out; have := SZ10.out; have := SZ11.out; have := SZ12.out; have := SZ13.out; have := SZ14.out; have := SZ15.out; have := BG0_33.out.lt; omega) (by have := SZ1.out; have := SZ2.out; have := SZ3.out; have := SZ4.out; have := SZ5.out; have := SZ6.out; have := SZ7.out; have := SZ8.out; have := SZ9.out; have := SZ10.out; have := SZ11.out; have := SZ12.out; have := SZ13.out; have := SZ14.out; have := SZ15.out; have := BG0_33.out.lt; omega) (by omega) (by omega)).mono ?_
  rintro e z14 ⟨kx2, rfl, hka2, hkb2, ht2⟩
  have HB_34 : Hid (Below w.heap.size w z14) := HB_33.out.trans (ht2.bel.mono (by have := SZ1.out; have := SZ2.out; have := SZ3.out; have := SZ4.out; have := SZ5.out; have := SZ6.out; have := SZ7.out; have := SZ8.out; have := SZ9.out; have := SZ10.out; have := SZ11.out; have := SZ12.out; have := SZ13.out; have := SZ14.out; have := SZ15.out; omega))
  clear HB_33
  have BA0_34 : Hid (Box z14 (w.heap.size) #[.slice a0_0 x0.nodes.length b0_0, .slice a0_1 x0.mons.length b0_1, .slice a0_2 x0.pros.length b0_2] 26) := (ht2.bel.block _ (by have := SZ1.out; have := SZ2.out; have := SZ3.out; have := SZ4.out; have := SZ5.out; have := SZ6.out; have := SZ7.out; have := SZ8.out; have := SZ9.out; have := SZ10.out; have := SZ11.out; have := SZ12.out; have := SZ13.out; have := SZ14.out; have := SZ15.out; omega)).trans BA0_33.out
  clear BA0_33
  have WO0_34 : Hid (TrOwn z4.heap.size z14 (.slice pw0_0 (threadE n1 x2.row).todo.length qw0_0) (.slice pw0_1 (threadE n1 x2.row).names.length qw0_1) (.slice pw0_2 (threadE n1 x2.row).vals.length qw0_2) (threadE n1 x2.row)) := WO0_33.out.low ht2.bel ⟨fun i hi => by have := WL0.out.1 i hi; have := SZ1.out; have := SZ2.out; have := SZ3.out; have := SZ4.out; have := SZ5.out; have := SZ6.out; have := SZ7.out; have := SZ8.out; have := SZ9.out; have := SZ10.out; have := SZ11.out; have := SZ12.out; have := SZ13.out; have := SZ14.out; have := SZ15.out; omega, fun i hi => by have := WL0.out.2.1 i hi; have := SZ1.out; have := SZ2.out; have := SZ3.out; have := SZ4.out; have := SZ5.out; have := SZ6.out; have := SZ7.out; have := SZ8.out; have := SZ9.out; have := SZ10.out; have := SZ11.out; have := SZ12.out; have := SZ13.out; have := SZ14.out; have := SZ15.out; omega, fun i hi => by have := WL0.out.2.2 i hi; have := SZ1.out; have := SZ2.out; have := SZ3.out; have := SZ4.out; have := SZ5.out; have := SZ6.out; have := SZ7.out; have := SZ8.out; have := SZ9.out; have := SZ10.out; have := SZ11.out; have := SZ12.out; have := SZ13.out; have := SZ14.out; have := SZ15.out; omega⟩
  clear WO0_33
  have BW0_34 : Hid (Box z14 z5.heap.size #[.slice pw0_0 (threadE n1 x2.row).todo.length qw0_0, .slice pw0_1 (threadE n1 x2.row).names.length qw0_1, .slice pw0_2 (threadE n1 x2.row).vals.length qw0_2, .int .i64 (threadE n1 x2.row).fault] 34) := (ht2.bel.block _ (by have := SZ1.out; have := SZ2.out; have := SZ3.out; have := SZ4.out; have := SZ5.out; have := SZ6.out; have := SZ7.out; have := SZ8.out; have := SZ9.out; have := SZ10.out; have := SZ11.out; have := SZ12.out; have := SZ13.out; have := SZ14.out; have := SZ15.out; omega)).trans BW0_33.out
  clear BW0_33
  have BX0_34 : Hid (Box z14 z6.heap.size #[.slice o3_0 k3_0 c3_0, .slice o3_1 k3_1 c3_1, .slice o3_2 k3_2 c3_2] 40) := (ht2.bel.block _ (by have := SZ1.out; have := SZ2.out; have := SZ3.out; have := SZ4.out; have := SZ5.out; have := SZ6.out; have := SZ7.out; have := SZ8.out; have := SZ9.out; have := SZ10.out; have := SZ11.out; have := SZ12.out; have := SZ13.out; have := SZ14.out; have := SZ15.out; omega)).trans BX0_33.out
  clear BX0_33
  clear XS2_33
  have GO0_34 : Hid (TrOwn z7.heap.size z14 (.slice pg0_0 (threadE n1 x2.row).todo.length qg0_0) (.slice pg0_1 (threadE n1 x2.row).names.length qg0_1) (.slice pg0_2 (threadE n1 x2.row).vals.length qg0_2) (threadE n1 x2.row)) := GO0_33.out.turn ht2 (by have := SZ1.out; have := SZ2.out; have := SZ3.out; have := SZ4.out; have := SZ5.out; have := SZ6.out; have := SZ7.out; have := SZ8.out; have := SZ9.out; have := SZ10.out; have := SZ11.out; have := SZ12.out; have := SZ13.out; have := SZ14.out; have := SZ15.out; omega)
  clear GO0_33
  have BG0_34 : Hid (Box z14 z8.heap.size #[.slice pg0_0 (threadE n1 x2.row).todo.length qg0_0, .slice pg0_1 (threadE n1 x2.row).names.length qg0_1, .slice pg0_2 (threadE n1 x2.row).vals.length qg0_2, .int .i64 (threadE n1 x2.row).fault] 34) := (ht2.out _ (by have := SZ1.out; have := SZ2.out; have := SZ3.out; have := SZ4.out; have := SZ5.out; have := SZ6.out; have := SZ7.out; have := SZ8.out; have := SZ9.out; have := SZ10.out; have := SZ11.out; have := SZ12.out; have := SZ13.out; have := SZ14.out; have := SZ15.out; omega) BG0_33.out.lt).trans BG0_33.out
  clear BG0_33
  clear ht2
  have hkn2 : ¬ kx2 < 0 := by omega
  have c_BA0_0 := Lib.cell_of_heap BA0_34.out 0
  simp at c_BA0_0
  have c_BA0_1 := Lib.cell_of_heap BA0_34.out 1
  simp at c_BA0_1
  have c_BA0_2 := Lib.cell_of_heap BA0_34.out 2
  simp at c_BA0_2
  have c_BW0_0 := Lib.cell_of_heap BW0_34.out 0
  simp at c_BW0_0
  have c_BW0_1 := Lib.cell_of_heap BW0_34.out 1
  simp at c_BW0_1
  have c_BW0_2 := Lib.cell_of_heap BW0_34.out 2
  simp at c_BW0_2
  have c_BW0_3 := Lib.cell_of_heap BW0_34.out 3
  simp at c_BW0_3
  have c_BX0_0 := Lib.cell_of_heap BX0_34.out 0
  simp at c_BX0_0
  have c_BX0_1 := Lib.cell_of_heap BX0_34.out 1
  simp at c_BX0_1
  have c_BX0_2 := Lib.cell_of_heap BX0_34.out 2
  simp at c_BX0_2
  have c_BG0_0 := Lib.cell_of_heap BG0_34.out 0
  simp at c_BG0_0
  have c_BG0_1 := Lib.cell_of_heap BG0_34.out 1
  simp at c_BG0_1
  have c_BG0_2 := Lib.cell_of_heap BG0_34.out 2
  simp at c_BG0_2
  have c_BG0_3 := Lib.cell_of_heap BG0_34.out 3
  simp at c_BG0_3
  go_wp2_with fail
  clear c_BA0_0 c_BA0_1 c_BA0_2 c_BW0_0 c_BW0_1 c_BW0_2 c_BW0_3 c_BX0_0 c_BX0_1 c_BX0_2 c_BG0_0 c_BG0_1 c_BG0_2 c_BG0_3
  refine (eqThread_same (threadE n1 x2.row) _ _ _ _ _ _ _ (GO0_34.out).at.a0 (WO0_34.out).at.a0 (GO0_34.out).at.a1 (WO0_34.out).at.a1 (GO0_34.out).at.a2 (WO0_34.out).at.a2 HL0.out.l0 HL0.out.l1 HL0.out.l2).mono ?_
  rintro e z15 ⟨rfl, hbe35⟩
  have SZ16 : Hid (z14.heap.size ≤ z15.heap.size) := hbe35.size
  have HB_36 := hide (HB_34.out.trans (hbe35.mono HB_34.out.size))
  clear HB_34
  have BA0_36 := hide (BA0_34.out.stays hbe35)
  clear BA0_34
  have WO0_36 := hide (WO0_34.out.stays hbe35)
  clear WO0_34
  have BW0_36 := hide (BW0_34.out.stays hbe35)
  clear BW0_34
  have BX0_36 := hide (BX0_34.out.stays hbe35)
  clear BX0_34
  have GO0_36 := hide (GO0_34.out.stays hbe35)
  clear GO0_34
  have BG0_36 := hide (BG0_34.out.stays hbe35)
  clear BG0_34
  clear hbe35
  have c_BA0_0 := Lib.cell_of_heap BA0_36.out 0
  simp at c_BA0_0
  have c_BA0_1 := Lib.cell_of_heap BA0_36.out 1
  simp at c_BA0_1
  have c_BA0_2 := Lib.cell_of_heap BA0_36.out 2
  simp at c_BA0_2
  have c_BW0_0 := Lib.cell_of_heap BW0_36.out 0
  simp at c_BW0_0
  have c_BW0_1 := Lib.cell_of_heap BW0_36.out 1
  simp at c_BW0_1
  have c_BW0_2 := Lib.cell_of_heap BW0_36.out 2
  simp at c_BW0_2
  have c_BW0_3 := Lib.cell_of_heap BW0_36.out 3
  simp at c_BW0_3
  have c_BX0_0 := Lib.cell_of_heap BX0_36.out 0
  simp at c_BX0_0
  have c_BX0_1 := Lib.cell_of_heap BX0_36.out 1
  simp at c_BX0_1
  have c_BX0_2 := Lib.cell_of_heap BX0_36.out 2
  simp at c_BX0_2
  have c_BG0_0 := Lib.cell_of_heap BG0_36.out 0
  simp at c_BG0_0
  have c_BG0_1 := Lib.cell_of_heap BG0_36.out 1
  simp at c_BG0_1
  have c_BG0_2 := Lib.cell_of_heap BG0_36.out 2
  simp at c_BG0_2
  have c_BG0_3 := Lib.cell_of_heap BG0_36.out 3
  simp at c_BG0_3
  go_wp2_with fail
  clear c_BA0_0 c_BA0_1 c_BA0_2 c_BW0_0 c_BW0_1 c_BW0_2 c_BW0_3 c_BX0_0 c_BX0_1 c_BX0_2 c_BG0_0 c_BG0_1 c_BG0_2 c_BG0_3
  refine (markThread_any _ _ _ _ (threadE n1 x2.row) _ GO0_36.out _ rfl _ rfl _ rfl (by have := SZ1.out; have := SZ2.out; have := SZ3.out; have := SZ4.out; have := SZ5.out; have := SZ6.out; have := SZ7.out; have := SZ8.out; have := SZ9.out; have := SZ10.out; have := SZ11.out; have := SZ12.out; have := SZ13.out; have := SZ14.out; have := SZ15.out; have := SZ16.out; have := BG0_36.out.lt; omega) HL0.out.l0 HL0.out.l1 HL0.out.l2).mono ?_
  rintro e z16 ⟨rfl, hhd, hbm, hot⟩
  have HB_37 : Hid (Below w.heap.size w z16) := HB_36.out.trans (hbm.mono (by have := SZ1.out; have := SZ2.out; have := SZ3.out; have := SZ4.out; have := SZ5.out; have := SZ6.out; have := SZ7.out; have := SZ8.out; have := SZ9.out; have := SZ10.out; have := SZ11.out; have := SZ12.out; have := SZ13.out; have := SZ14.out; have := SZ15.out; have := SZ16.out; omega))
  clear HB_36
  have BA0_37 : Hid (Box z16 (w.heap.size) #[.slice a0_0 x0.nodes.length b0_0, .slice a0_1 x0.mons.length b0_1, .slice a0_2 x0.pros.length b0_2] 26) := (hbm.block _ (by have := SZ1.out; have := SZ2.out; have := SZ3.out; have := SZ4.out; have := SZ5.out; have := SZ6.out; have := SZ7.out; have := SZ8.out; have := SZ9.out; have := SZ10.out; have := SZ11.out; have := SZ12.out; have := SZ13.out; have := SZ14.out; have := SZ15.out; have := SZ16.out; omega)).trans BA0_36.out
  clear BA0_36
  have WO0_37 : Hid (TrOwn z4.heap.size z16 (.slice pw0_0 (threadE n1 x2.row).todo.length qw0_0) (.slice pw0_1 (threadE n1 x2.row).names.length qw0_1) (.slice pw0_2 (threadE n1 x2.row).vals.length qw0_2) (threadE n1 x2.row)) := WO0_36.out.low hbm ⟨fun i hi => by have := WL0.out.1 i hi; have := SZ1.out; have := SZ2.out; have := SZ3.out; have := SZ4.out; have := SZ5.out; have := SZ6.out; have := SZ7.out; have := SZ8.out; have := SZ9.out; have := SZ10.out; have := SZ11.out; have := SZ12.out; have := SZ13.out; have := SZ14.out; have := SZ15.out; have := SZ16.out; omega, fun i hi => by have := WL0.out.2.1 i hi; have := SZ1.out; have := SZ2.out; have := SZ3.out; have := SZ4.out; have := SZ5.out; have := SZ6.out; have := SZ7.out; have := SZ8.out; have := SZ9.out; have := SZ10.out; have := SZ11.out; have := SZ12.out; have := SZ13.out; have := SZ14.out; have := SZ15.out; have := SZ16.out; omega, fun i hi => by have := WL0.out.2.2 i hi; have := SZ1.out; have := SZ2.out; have := SZ3.out; have := SZ4.out; have := SZ5.out; have := SZ6.out; have := SZ7.out; have := SZ8.out; have := SZ9.out; have := SZ10.out; have := SZ11.out; have := SZ12.out; have := SZ13.out; have := SZ14.out; have := SZ15.out; have := SZ16.out; omega⟩
  clear WO0_36
  have BW0_37 : Hid (Box z16 z5.heap.size #[.slice pw0_0 (threadE n1 x2.row).todo.length qw0_0, .slice pw0_1 (threadE n1 x2.row).names.length qw0_1, .slice pw0_2 (threadE n1 x2.row).vals.length qw0_2, .int .i64 (threadE n1 x2.row).fault] 34) := (hbm.block _ (by have := SZ1.out; have := SZ2.out; have := SZ3.out; have := SZ4.out; have := SZ5.out; have := SZ6.out; have := SZ7.out; have := SZ8.out; have := SZ9.out; have := SZ10.out; have := SZ11.out; have := SZ12.out; have := SZ13.out; have := SZ14.out; have := SZ15.out; have := SZ16.out; omega)).trans BW0_36.out
  clear BW0_36
  clear BX0_36
  clear GO0_36
  have BG0_37 : Hid (Box z16 z8.heap.size #[.slice pg0_0 (threadE n1 x2.row).todo.length qg0_0, .slice pg0_1 (threadE n1 x2.row).names.length qg0_1, .slice pg0_2 (threadE n1 x2.row).vals.length qg0_2, .int .i64 (threadE n1 x2.row).fault] 34) := (hot _ BG0_36.out.lt (fun e => by have := GL0.out.1 _ e; omega) (fun e => by have := GL0.out.2.1 _ e; omega) (fun e => by have := GL0.out.2.2 _ e; omega)).trans BG0_36.out
  clear BG0_36
  have GH_38 := hide (hhd)
  clear hbm hot hhd
  obtain ⟨tot, etot⟩ : ∃ tot : Int, ((1 + (threadE n1 x2.row).todo.length + (threadE n1 x2.row).names.length + (threadE n1 x2.row).vals.length : Nat) : Int) = tot := ⟨_, rfl⟩
  have htot : ¬ tot < 0 := by omega
  have ETOT := hide etot
  rw [etot]
  clear etot
  have c_BA0_0 := Lib.cell_of_heap BA0_37.out 0
  simp at c_BA0_0
  have c_BA0_1 := Lib.cell_of_heap BA0_37.out 1
  simp at c_BA0_1
  have c_BA0_2 := Lib.cell_of_heap BA0_37.out 2
  simp at c_BA0_2
  have c_BW0_0 := Lib.cell_of_heap BW0_37.out 0
  simp at c_BW0_0
  have c_BW0_1 := Lib.cell_of_heap BW0_37.out 1
  simp at c_BW0_1
  have c_BW0_2 := Lib.cell_of_heap BW0_37.out 2
  simp at c_BW0_2
  have c_BW0_3 := Lib.cell_of_heap BW0_37.out 3
  simp at c_BW0_3
  have c_BG0_0 := Lib.cell_of_heap BG0_37.out 0
  simp at c_BG0_0
  have c_BG0_1 := Lib.cell_of_heap BG0_37.out 1
  simp at c_BG0_1
  have c_BG0_2 := Lib.cell_of_heap BG0_37.out 2
  simp at c_BG0_2
  have c_BG0_3 := Lib.cell_of_heap BG0_37.out 3
  simp at c_BG0_3
  go_wp2_with fail
  clear c_BA0_0 c_BA0_1 c_BA0_2 c_BW0_0 c_BW0_1 c_BW0_2 c_BW0_3 c_BG0_0 c_BG0_1 c_BG0_2 c_BG0_3
  refine (heldThread_any _ _ _ _ _ _ _ _ GH_38.out HL0.out.l0 HL0.out.l1 HL0.out.l2).mono ?_
  rintro e z17 ⟨rfl, hbh39⟩
  have HB_40 := hide (HB_37.out.trans (hbh39.mono HB_37.out.size))
  clear HB_37
  have BA0_40 := hide (BA0_37.out.stays hbh39)
  clear BA0_37
  have WO0_40 := hide (WO0_37.out.stays hbh39)
  clear WO0_37
  have BW0_40 := hide (BW0_37.out.stays hbh39)
  clear BW0_37
  have BG0_40 := hide (BG0_37.out.stays hbh39)
  clear BG0_37
  have GH_40 := hide (GH_38.out.stays hbh39)
  clear GH_38
  clear hbh39
  rw [ETOT.out]
  have c_BA0_0 := Lib.cell_of_heap BA0_40.out 0
  simp at c_BA0_0
  have c_BA0_1 := Lib.cell_of_heap BA0_40.out 1
  simp at c_BA0_1
  have c_BA0_2 := Lib.cell_of_heap BA0_40.out 2
  simp at c_BA0_2
  have c_BW0_0 := Lib.cell_of_heap BW0_40.out 0
  simp at c_BW0_0
  have c_BW0_1 := Lib.cell_of_heap BW0_40.out 1
  simp at c_BW0_1
  have c_BW0_2 := Lib.cell_of_heap BW0_40.out 2
  simp at c_BW0_2
  have c_BW0_3 := Lib.cell_of_heap BW0_40.out 3
  simp at c_BW0_3
  have c_BG0_0 := Lib.cell_of_heap BG0_40.out 0
  simp at c_BG0_0
  have c_BG0_1 := Lib.cell_of_heap BG0_40.out 1
  simp at c_BG0_1
  have c_BG0_2 := Lib.cell_of_heap BG0_40.out 2
  simp at c_BG0_2
  have c_BG0_3 := Lib.cell_of_heap BG0_40.out 3
  simp at c_BG0_3
  go_wp2_with fail
  clear c_BA0_0 c_BA0_1 c_BA0_2 c_BW0_0 c_BW0_1 c_BW0_2 c_BW0_3 c_BG0_0 c_BG0_1 c_BG0_2 c_BG0_3
  refine (toProgramC_any x0 _ _ _ _ (HW0.out.stays HB_40.out).a0 (HW0.out.stays HB_40.out).a1 (HW0.out.stays HB_40.out).a2 HN0.out).mono ?_
  rintro e z18 ⟨o6_0, k6_0, c6_0, o6_1, k6_1, c6_1, o6_2, k6_2, c6_2, rfl, hc6, hb6⟩
  have SZ17 : Hid (z17.heap.size ≤ z18.heap.size) := hb6.size
  have HB_41 := hide (HB_40.out.trans (hb6.mono HB_40.out.size))
  clear HB_40
  have BA0_41 := hide (BA0_40.out.stays hb6)
  clear BA0_40
  have WO0_41 := hide (WO0_40.out.stays hb6)
  clear WO0_40
  have BW0_41 := hide (BW0_40.out.stays hb6)
  clear BW0_40
  have BG0_41 := hide (BG0_40.out.stays hb6)
  clear BG0_40
  have GH_41 := hide (GH_40.out.stays hb6)
  clear GH_40
  have XC6_42 := hide (hc6)
  clear hc6 hb6
  go_wp2_with fail
  refine (toStringSR_any x2 _ _ (HW2.out.stays HB_41.out).a0 HN2.out.l0).mono ?_
  rintro e z19 ⟨o7_0, k7_0, c7_0, rfl, hc7, hb7⟩
  have SZ18 : Hid (z18.heap.size ≤ z19.heap.size) := hb7.size
  have HB_43 := hide (HB_41.out.trans (hb7.mono HB_41.out.size))
  clear HB_41
  have BA0_43 := hide (BA0_41.out.stays hb7)
  clear BA0_41
  have WO0_43 := hide (WO0_41.out.stays hb7)
  clear WO0_41
  have BW0_43 := hide (BW0_41.out.stays hb7)
  clear BW0_41
  have BG0_43 := hide (BG0_41.out.stays hb7)
  clear BG0_41
  have GH_43 := hide (GH_41.out.stays hb7)
  clear GH_41
  have XC6_43 := hide (XC6_42.out.stays hb7)
  clear XC6_42
  have XC7_44 := hide (hc7)
  clear hc7 hb7
  go_wp2_with fail
  refine (HPI1.out _ _ _ _ _ _ _ XC6_43.out XC7_44.out).mono ?_
  rintro e z20 ⟨h0_0, h0_1, h0_2, rfl, hoh0, hbh⟩
  have SZ19 : Hid (z19.heap.size ≤ z20.heap.size) := hbh.size
  have HB_45 := hide (HB_43.out.trans (hbh.mono HB_43.out.size))
  clear HB_43
  have BA0_45 := hide (BA0_43.out.stays hbh)
  clear BA0_43
  have WO0_45 := hide (WO0_43.out.stays hbh)
  clear WO0_43
  have BW0_45 := hide (BW0_43.out.stays hbh)
  clear BW0_43
  have BG0_45 := hide (BG0_43.out.stays hbh)
  clear BG0_43
  have GH_45 := hide (GH_43.out.stays hbh)
  clear GH_43
  have XC6_45 := hide (XC6_43.out.stays hbh)
  clear XC6_43
  have XC7_45 := hide (XC7_44.out.stays hbh)
  clear XC7_44
  obtain ⟨ph0_0, qh0_0, rfl⟩ := form_own hoh0.o0
  obtain ⟨ph0_1, qh0_1, rfl⟩ := form_own hoh0.o1
  obtain ⟨ph0_2, qh0_2, rfl⟩ := form_own hoh0.o2
  have HO0_46 := hide (hoh0)
  clear hoh0
  clear hbh
  clear XC6_45
  clear XC7_45
  have hba47 : Below z20.heap.size z20 (z20.alloc (.cells #[.slice ph0_0 (threadE n1 x2.row).todo.length qh0_0, .slice ph0_1 (threadE n1 x2.row).names.length qh0_1, .slice ph0_2 (threadE n1 x2.row).vals.length qh0_2, .int .i64 (threadE n1 x2.row).fault] 34)) := (Below.refl _ _).alloc (Nat.le_refl _) _
  have SZ20 : Hid ((z20.alloc (.cells #[.slice ph0_0 (threadE n1 x2.row).todo.length qh0_0, .slice ph0_1 (threadE n1 x2.row).names.length qh0_1, .slice ph0_2 (threadE n1 x2.row).vals.length qh0_2, .int .i64 (threadE n1 x2.row).fault] 34)).heap.size = z20.heap.size + 1) := by show _ = _; simp
  have HB_48 := hide (HB_45.out.trans (hba47.mono HB_45.out.size))
  clear HB_45
  have BA0_48 := hide (BA0_45.out.stays hba47)
  clear BA0_45
  have WO0_48 := hide (WO0_45.out.stays hba47)
  clear WO0_45
  have BW0_48 := hide (BW0_45.out.stays hba47)
  clear BW0_45
  have BG0_48 := hide (BG0_45.out.stays hba47)
  clear BG0_45
  have GH_48 := hide (GH_45.out.stays hba47)
  clear GH_45
  have HO0_48 := hide (HO0_46.out.stays hba47)
  clear HO0_46
  have BH0_49 := hide (Box.made z20 #[.slice ph0_0 (threadE n1 x2.row).todo.length qh0_0, .slice ph0_1 (threadE n1 x2.row).names.length qh0_1, .slice ph0_2 (threadE n1 x2.row).vals.length qh0_2, .int .i64 (threadE n1 x2.row).fault] 34)
  clear hba47
  have c_BA0_0 := Lib.cell_of_heap BA0_48.out 0
  simp at c_BA0_0
  have c_BA0_1 := Lib.cell_of_heap BA0_48.out 1
  simp at c_BA0_1
  have c_BA0_2 := Lib.cell_of_heap BA0_48.out 2
  simp at c_BA0_2
  have c_BW0_0 := Lib.cell_of_heap BW0_48.out 0
  simp at c_BW0_0
  have c_BW0_1 := Lib.cell_of_heap BW0_48.out 1
  simp at c_BW0_1
  have c_BW0_2 := Lib.cell_of_heap BW0_48.out 2
  simp at c_BW0_2
  have c_BW0_3 := Lib.cell_of_heap BW0_48.out 3
  simp at c_BW0_3
  have c_BG0_0 := Lib.cell_of_heap BG0_48.out 0
  simp at c_BG0_0
  have c_BG0_1 := Lib.cell_of_heap BG0_48.out 1
  simp at c_BG0_1
  have c_BG0_2 := Lib.cell_of_heap BG0_48.out 2
  simp at c_BG0_2
  have c_BG0_3 := Lib.cell_of_heap BG0_48.out 3
  simp at c_BG0_3
  have c_BH0_0 := Lib.cell_of_heap BH0_49.out 0
  simp at c_BH0_0
  have c_BH0_1 := Lib.cell_of_heap BH0_49.out 1
  simp at c_BH0_1
  have c_BH0_2 := Lib.cell_of_heap BH0_49.out 2
  simp at c_BH0_2
  have c_BH0_3 := Lib.cell_of_heap BH0_49.out 3
  simp at c_BH0_3
  go_wp2_with fail
  clear c_BA0_0 c_BA0_1 c_BA0_2 c_BW0_0 c_BW0_1 c_BW0_2 c_BW0_3 c_BG0_0 c_BG0_1 c_BG0_2 c_BG0_3 c_BH0_0 c_BH0_1 c_BH0_2 c_BH0_3
  obtain ⟨y4, hy4⟩ : ∃ Z, z20.alloc (.cells #[.slice ph0_0 (threadE n1 x2.row).todo.length qh0_0, .slice ph0_1 (threadE n1 x2.row).names.length qh0_1, .slice ph0_2 (threadE n1 x2.row).vals.length qh0_2, .int .i64 (threadE n1 x2.row).fault] 34) = Z := ⟨_, rfl⟩
  rw [hy4] at HB_48 BA0_48 WO0_48 BW0_48 BG0_48 GH_48 HO0_48 BH0_49 SZ20 ⊢
  clear hy4
  refine (eqThread_same (threadE n1 x2.row) _ _ _ _ _ _ _ (HO0_48.out).at.a0 (WO0_48.out).at.a0 (HO0_48.out).at.a1 (WO0_48.out).at.a1 (HO0_48.out).at.a2 (WO0_48.out).at.a2 HL0.out.l0 HL0.out.l1 HL0.out.l2).mono ?_
  rintro e z21 ⟨rfl, hbe50⟩
  have SZ21 : Hid (y4.heap.size ≤ z21.heap.size) := hbe50.size
  have HB_51 := hide (HB_48.out.trans (hbe50.mono HB_48.out.size))
  clear HB_48
  have BA0_51 := hide (BA0_48.out.stays hbe50)
  clear BA0_48
  have WO0_51 := hide (WO0_48.out.stays hbe50)
  clear WO0_48
  have BW0_51 := hide (BW0_48.out.stays hbe50)
  clear BW0_48
  have BG0_51 := hide (BG0_48.out.stays hbe50)
  clear BG0_48
  have GH_51 := hide (GH_48.out.stays hbe50)
  clear GH_48
  have HO0_51 := hide (HO0_48.out.stays hbe50)
  clear HO0_48
  have BH0_51 := hide (BH0_49.out.stays hbe50)
  clear BH0_49
  clear hbe50
  have c_BA0_0 := Lib.cell_of_heap BA0_51.out 0
  simp at c_BA0_0
  have c_BA0_1 := Lib.cell_of_heap BA0_51.out 1
  simp at c_BA0_1
  have c_BA0_2 := Lib.cell_of_heap BA0_51.out 2
  simp at c_BA0_2
  have c_BW0_0 := Lib.cell_of_heap BW0_51.out 0
  simp at c_BW0_0
  have c_BW0_1 := Lib.cell_of_heap BW0_51.out 1
  simp at c_BW0_1
  have c_BW0_2 := Lib.cell_of_heap BW0_51.out 2
  simp at c_BW0_2
  have c_BW0_3 := Lib.cell_of_heap BW0_51.out 3
  simp at c_BW0_3
  have c_BG0_0 := Lib.cell_of_heap BG0_51.out 0
  simp at c_BG0_0
  have c_BG0_1 := Lib.cell_of_heap BG0_51.out 1
  simp at c_BG0_1
  have c_BG0_2 := Lib.cell_of_heap BG0_51.out 2
  simp at c_BG0_2
  have c_BG0_3 := Lib.cell_of_heap BG0_51.out 3
  simp at c_BG0_3
  have c_BH0_0 := Lib.cell_of_heap BH0_51.out 0
  simp at c_BH0_0
  have c_BH0_1 := Lib.cell_of_heap BH0_51.out 1
  simp at c_BH0_1
  have c_BH0_2 := Lib.cell_of_heap BH0_51.out 2
  simp at c_BH0_2
  have c_BH0_3 := Lib.cell_of_heap BH0_51.out 3
  simp at c_BH0_3
  clear c_BA0_0 c_BA0_1 c_BA0_2 c_BW0_0 c_BW0_1 c_BW0_2 c_BW0_3 c_BG0_0 c_BG0_1 c_BG0_2 c_BG0_3 c_BH0_0 c_BH0_1 c_BH0_2 c_BH0_3
  have c_BA0_0 := Lib.cell_of_heap BA0_51.out 0
  simp at c_BA0_0
  have c_BA0_1 := Lib.cell_of_heap BA0_51.out 1
  simp at c_BA0_1
  have c_BA0_2 := Lib.cell_of_heap BA0_51.out 2
  simp at c_BA0_2
  have c_BW0_0 := Lib.cell_of_heap BW0_51.out 0
  simp at c_BW0_0
  have c_BW0_1 := Lib.cell_of_heap BW0_51.out 1
  simp at c_BW0_1
  have c_BW0_2 := Lib.cell_of_heap BW0_51.out 2
  simp at c_BW0_2
  have c_BW0_3 := Lib.cell_of_heap BW0_51.out 3
  simp at c_BW0_3
  have c_BG0_0 := Lib.cell_of_heap BG0_51.out 0
  simp at c_BG0_0
  have c_BG0_1 := Lib.cell_of_heap BG0_51.out 1
  simp at c_BG0_1
  have c_BG0_2 := Lib.cell_of_heap BG0_51.out 2
  simp at c_BG0_2
  have c_BG0_3 := Lib.cell_of_heap BG0_51.out 3
  simp at c_BG0_3
  have c_BH0_0 := Lib.cell_of_heap BH0_51.out 0
  simp at c_BH0_0
  have c_BH0_1 := Lib.cell_of_heap BH0_51.out 1
  simp at c_BH0_1
  have c_BH0_2 := Lib.cell_of_heap BH0_51.out 2
  simp at c_BH0_2
  have c_BH0_3 := Lib.cell_of_heap BH0_51.out 3
  simp at c_BH0_3
  go_wp2_with fail
  clear c_BA0_0 c_BA0_1 c_BA0_2 c_BW0_0 c_BW0_1 c_BW0_2 c_BW0_3 c_BG0_0 c_BG0_1 c_BG0_2 c_BG0_3 c_BH0_0 c_BH0_1 c_BH0_2 c_BH0_3
  refine (heldThread_any _ _ _ _ _ _ _ _ GH_51.out HL0.out.l0 HL0.out.l1 HL0.out.l2).mono ?_
  rintro e z22 ⟨rfl, hbh52⟩
  have HB_53 := hide (HB_51.out.trans (hbh52.mono HB_51.out.size))
  clear HB_51
  have BA0_53 := hide (BA0_51.out.stays hbh52)
  clear BA0_51
  have WO0_53 := hide (WO0_51.out.stays hbh52)
  clear WO0_51
  have BW0_53 := hide (BW0_51.out.stays hbh52)
  clear BW0_51
  have BG0_53 := hide (BG0_51.out.stays hbh52)
  clear BG0_51
  have GH_53 := hide (GH_51.out.stays hbh52)
  clear GH_51
  have HO0_53 := hide (HO0_51.out.stays hbh52)
  clear HO0_51
  have BH0_53 := hide (BH0_51.out.stays hbh52)
  clear BH0_51
  clear hbh52
  rw [ETOT.out]
  go_wp2
  go_ret
  exact ⟨rfl, HB_53.out⟩
end Go.Proofs.Ytipmgmmchmdajaa
