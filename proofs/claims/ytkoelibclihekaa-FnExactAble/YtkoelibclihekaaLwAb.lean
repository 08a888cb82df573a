/-
  The law of Able, over what both sides answer.
-/
import Derived.Test.YtkoelibclihekaaMdlE
import Derived.Test.YtkoelibclihekaaMdlT
import Derived.Test.YtkoelibclihekaaMdlM
import Derived.Test.YtkoelibclihekaaMdlA
import Derived.Deep.RegionHeld3
import Derived.Deep.Cut
namespace Go.Proofs.Ytkoelibclihekaa
open Go.RowKit

set_option maxRecDepth 100000 in
set_option maxHeartbeats 8000000 in
theorem lawAble (v0_0 v0_1 v0_2 v0_3 v0_4 v0_5 v0_6 v0_7 : Value) (x0 : Md) (w : World) (h0 : MdAt w v0_0 v0_1 v0_2 v0_3 v0_4 v0_5 v0_6 v0_7 x0) (m0 : MdMax x0)
    (SP : szMd x0 ≤ 1048576 → ∀ (v0_0 v0_1 v0_2 v0_3 v0_4 v0_5 v0_6 v0_7 : Value) (z : World) (b0 : Nat), MdC b0 z [v0_0, v0_1, v0_2, v0_3, v0_4, v0_5, v0_6, v0_7, .bool x0.stopped] x0 → Calls Try.prog 6 #[.agg #[v0_0, v0_1, v0_2, v0_3, v0_4, v0_5, v0_6, v0_7, .bool x0.stopped]] z fun e w' => ∃ r0_0, e = .returned (r0_0) ∧ RiOwn z.heap.size w' r0_0 (ableE x0) ∧ Below z.heap.size z w')
    (IP : szMd x0 ≤ 1048576 → ∀ (v0_0 v0_1 v0_2 v0_3 v0_4 v0_5 v0_6 v0_7 : Value) (z : World) (b0 : Nat), MdC b0 z [v0_0, v0_1, v0_2, v0_3, v0_4, v0_5, v0_6, v0_7, .bool x0.stopped] x0 → Calls Try.prog 8 #[.agg #[v0_0, v0_1, v0_2, v0_3, v0_4, v0_5, v0_6, v0_7, .bool x0.stopped]] z fun e w' => ∃ r0_0, e = .returned (r0_0) ∧ RiOwn z.heap.size w' r0_0 (ableE x0) ∧ Below z.heap.size z w')
    (LP0 : szMd x0 ≤ 1048576 → RiLen (ableE x0)) :
    Calls Try.prog 3 #[.agg #[v0_0, v0_1, v0_2, v0_3, v0_4, v0_5, v0_6, v0_7, .bool x0.stopped]] w fun e w' => e = .returned (.bool true) ∧ Below w.heap.size w w' := by
  have HPS := hide SP
  have HPI := hide IP
  have HLP0 := hide LP0
  clear SP IP LP0
  have HW0 := hide h0
  have HM0 := hide m0
  have HB : Hid (Below w.heap.size w (w.alloc (.cells #[v0_0, v0_1, v0_2, v0_3, v0_4, v0_5, v0_6, v0_7, .bool x0.stopped] 33))) := by show Below w.heap.size w _; go_grown
  have BA0 := hide (Box.madeAt (g := w.heap.size) (w := w) (by simp) #[v0_0, v0_1, v0_2, v0_3, v0_4, v0_5, v0_6, v0_7, .bool x0.stopped] 33)
  obtain ⟨⟨a0_0, b0_0, rfl, _⟩, ⟨a0_1, b0_1, rfl, _⟩, ⟨a0_2, b0_2, rfl, _⟩, ⟨a0_3, b0_3, rfl, _⟩, ⟨a0_4, b0_4, rfl, _⟩, ⟨a0_5, b0_5, rfl, _⟩, ⟨a0_6, b0_6, rfl, _⟩, ⟨a0_7, b0_7, rfl, _⟩⟩ := h0
  clear m0
  have SZ1 : Hid ((w.alloc (.cells #[.slice a0_0 x0.prog.nodes.length b0_0, .slice a0_1 x0.prog.mons.length b0_1, .slice a0_2 x0.prog.pros.length b0_2, .slice a0_3 x0.acts.length b0_3, .slice a0_4 x0.gates.length b0_4, .slice a0_5 x0.vars.length b0_5, .slice a0_6 x0.input.length b0_6, .slice a0_7 x0.events.length b0_7, .bool x0.stopped] 33)).heap.size = w.heap.size + 1) := by show _ = _; simp
  go_enter Try.func3, Try.ntmps3
  have c_BA0_0 := Lib.cell_of_heap BA0.out 0
  simp at c_BA0_0
  have c_BA0_1 := Lib.cell_of_heap BA0.out 1
  simp at c_BA0_1
  have c_BA0_2 := Lib.cell_of_heap BA0.out 2
  simp at c_BA0_2
  have c_BA0_3 := Lib.cell_of_heap BA0.out 3
  simp at c_BA0_3
  have c_BA0_4 := Lib.cell_of_heap BA0.out 4
  simp at c_BA0_4
  have c_BA0_5 := Lib.cell_of_heap BA0.out 5
  simp at c_BA0_5
  have c_BA0_6 := Lib.cell_of_heap BA0.out 6
  simp at c_BA0_6
  have c_BA0_7 := Lib.cell_of_heap BA0.out 7
  simp at c_BA0_7
  have c_BA0_8 := Lib.cell_of_heap BA0.out 8
  simp at c_BA0_8
  go_wp2_with fail
  clear c_BA0_0 c_BA0_1 c_BA0_2 c_BA0_3 c_BA0_4 c_BA0_5 c_BA0_6 c_BA0_7 c_BA0_8
  obtain ⟨y0, hy0⟩ : ∃ Z, w.alloc (.cells #[.slice a0_0 x0.prog.nodes.length b0_0, .slice a0_1 x0.prog.mons.length b0_1, .slice a0_2 x0.prog.pros.length b0_2, .slice a0_3 x0.acts.length b0_3, .slice a0_4 x0.gates.length b0_4, .slice a0_5 x0.vars.length b0_5, .slice a0_6 x0.input.length b0_6, .slice a0_7 x0.events.length b0_7, .bool x0.stopped] 33) = Z := ⟨_, rfl⟩
  rw [hy0] at HB BA0 SZ1 ⊢
  clear hy0
  refine (szModel_any x0 _ _ _ _ _ _ _ _ _ _ (by omega) (by omega) (HW0.out.stays HB.out).a0 (HW0.out.stays HB.out).a1 (HW0.out.stays HB.out).a2 (HW0.out.stays HB.out).a3 (HW0.out.stays HB.out).a4 (HW0.out.stays HB.out).a5 (HW0.out.stays HB.out).a6 (HW0.out.stays HB.out).a7 HM0.out).mono ?_
  rintro e z1 ⟨r0, rfl, hr0, hb0⟩
  have SZ2 : Hid (y0.heap.size ≤ z1.heap.size) := hb0.size
  have HB_1 := hide (HB.out.trans (hb0.mono HB.out.size))
  clear HB
  have BA0_1 := hide (BA0.out.stays hb0)
  clear BA0
  clear hb0
  have c_BA0_0 := Lib.cell_of_heap BA0_1.out 0
  simp at c_BA0_0
  have c_BA0_1 := Lib.cell_of_heap BA0_1.out 1
  simp at c_BA0_1
  have c_BA0_2 := Lib.cell_of_heap BA0_1.out 2
  simp at c_BA0_2
  have c_BA0_3 := Lib.cell_of_heap BA0_1.out 3
  simp at c_BA0_3
  have c_BA0_4 := Lib.cell_of_heap BA0_1.out 4
  simp at c_BA0_4
  have c_BA0_5 := Lib.cell_of_heap BA0_1.out 5
  simp at c_BA0_5
  have c_BA0_6 := Lib.cell_of_heap BA0_1.out 6
  simp at c_BA0_6
  have c_BA0_7 := Lib.cell_of_heap BA0_1.out 7
  simp at c_BA0_7
  have c_BA0_8 := Lib.cell_of_heap BA0_1.out 8
  simp at c_BA0_8
  by_cases hn0 : r0 < 0
  · clear hr0
    go_wp2
    go_ret
    exact ⟨rfl, HB_1.out⟩
  obtain ⟨hp0, hq0⟩ := hr0.resolve_left hn0
  have HQ0 := hide hq0
  have hq0b : r0 ≤ 1048576 := by omega
  clear hq0 hr0
  have HSZ : Hid (szMd x0 ≤ 1048576) := by
    show _ ≤ _
    have := HQ0.out
    omega
  have HPS1 := hide (HPS.out HSZ.out)
  have HPI1 := hide (HPI.out HSZ.out)
  have HL0 := hide (HLP0.out HSZ.out)
  have HN0 : Hid (MdLen x0) := szMd_len (by have := HSZ.out; omega)
  go_wp2_with fail
  clear c_BA0_0 c_BA0_1 c_BA0_2 c_BA0_3 c_BA0_4 c_BA0_5 c_BA0_6 c_BA0_7 c_BA0_8
  refine (toModel_any x0 _ _ _ _ _ _ _ _ _ (HW0.out.stays HB_1.out).a0 (HW0.out.stays HB_1.out).a1 (HW0.out.stays HB_1.out).a2 (HW0.out.stays HB_1.out).a3 (HW0.out.stays HB_1.out).a4 (HW0.out.stays HB_1.out).a5 (HW0.out.stays HB_1.out).a6 (HW0.out.stays HB_1.out).a7 HN0.out).mono ?_
  rintro e z2 ⟨o1_0, k1_0, c1_0, o1_1, k1_1, c1_1, o1_2, k1_2, c1_2, o1_3, k1_3, c1_3, o1_4, k1_4, c1_4, o1_5, k1_5, c1_5, o1_6, k1_6, c1_6, o1_7, k1_7, c1_7, rfl, hc1, hb1⟩
  have SZ3 : Hid (z1.heap.size ≤ z2.heap.size) := hb1.size
  have HB_2 := hide (HB_1.out.trans (hb1.mono HB_1.out.size))
  clear HB_1
  have BA0_2 := hide (BA0_1.out.stays hb1)
  clear BA0_1
  have XC1_3 := hide (hc1)
  clear hc1 hb1
  go_wp2_with fail
  refine (HPS1.out _ _ _ _ _ _ _ _ _ _ XC1_3.out).mono ?_
  rintro e z3 ⟨w0_0, rfl, how0, hbw⟩
  have SZ4 : Hid (z2.heap.size ≤ z3.heap.size) := hbw.size
  have HB_4 := hide (HB_2.out.trans (hbw.mono HB_2.out.size))
  clear HB_2
  have BA0_4 := hide (BA0_2.out.stays hbw)
  clear BA0_2
  have XC1_4 := hide (XC1_3.out.stays hbw)
  clear XC1_3
  obtain ⟨pw0_0, qw0_0, rfl⟩ := form_own how0.o0
  have WO0_5 := hide (how0)
  clear how0
  clear hbw
  have WL0 := hide (WO0_5.out).lt
  clear XC1_4
  have c_BA0_0 := Lib.cell_of_heap BA0_4.out 0
  simp at c_BA0_0
  have c_BA0_1 := Lib.cell_of_heap BA0_4.out 1
  simp at c_BA0_1
  have c_BA0_2 := Lib.cell_of_heap BA0_4.out 2
  simp at c_BA0_2
  have c_BA0_3 := Lib.cell_of_heap BA0_4.out 3
  simp at c_BA0_3
  have c_BA0_4 := Lib.cell_of_heap BA0_4.out 4
  simp at c_BA0_4
  have c_BA0_5 := Lib.cell_of_heap BA0_4.out 5
  simp at c_BA0_5
  have c_BA0_6 := Lib.cell_of_heap BA0_4.out 6
  simp at c_BA0_6
  have c_BA0_7 := Lib.cell_of_heap BA0_4.out 7
  simp at c_BA0_7
  have c_BA0_8 := Lib.cell_of_heap BA0_4.out 8
  simp at c_BA0_8
  go_wp2_with fail
  clear c_BA0_0 c_BA0_1 c_BA0_2 c_BA0_3 c_BA0_4 c_BA0_5 c_BA0_6 c_BA0_7 c_BA0_8
  refine (toModel_any x0 _ _ _ _ _ _ _ _ _ (HW0.out.stays HB_4.out).a0 (HW0.out.stays HB_4.out).a1 (HW0.out.stays HB_4.out).a2 (HW0.out.stays HB_4.out).a3 (HW0.out.stays HB_4.out).a4 (HW0.out.stays HB_4.out).a5 (HW0.out.stays HB_4.out).a6 (HW0.out.stays HB_4.out).a7 HN0.out).mono ?_
  rintro e z4 ⟨o2_0, k2_0, c2_0, o2_1, k2_1, c2_1, o2_2, k2_2, c2_2, o2_3, k2_3, c2_3, o2_4, k2_4, c2_4, o2_5, k2_5, c2_5, o2_6, k2_6, c2_6, o2_7, k2_7, c2_7, rfl, hc2, hb2⟩
  have SZ5 : Hid (z3.heap.size ≤ z4.heap.size) := hb2.size
  have HB_6 := hide (HB_4.out.trans (hb2.mono HB_4.out.size))
  clear HB_4
  have BA0_6 := hide (BA0_4.out.stays hb2)
  clear BA0_4
  have WO0_6 := hide (WO0_5.out.stays hb2)
  clear WO0_5
  have XC2_7 := hide (hc2)
  clear hc2 hb2
  have XS0_8 := hide (XC2_7.out.sh (T := z4.heap.size) (Nat.le_refl _) HN0.out)
  have hba9 : Below z4.heap.size z4 (z4.alloc (.cells #[.slice o2_0 k2_0 c2_0, .slice o2_1 k2_1 c2_1, .slice o2_2 k2_2 c2_2, .slice o2_3 k2_3 c2_3, .slice o2_4 k2_4 c2_4, .slice o2_5 k2_5 c2_5, .slice o2_6 k2_6 c2_6, .slice o2_7 k2_7 c2_7, .bool x0.stopped] 46)) := (Below.refl _ _).alloc (Nat.le_refl _) _
  have SZ6 : Hid ((z4.alloc (.cells #[.slice o2_0 k2_0 c2_0, .slice o2_1 k2_1 c2_1, .slice o2_2 k2_2 c2_2, .slice o2_3 k2_3 c2_3, .slice o2_4 k2_4 c2_4, .slice o2_5 k2_5 c2_5, .slice o2_6 k2_6 c2_6, .slice o2_7 k2_7 c2_7, .bool x0.stopped] 46)).heap.size = z4.heap.size + 1) := by show _ = _; simp
  have HB_10 := hide (HB_6.out.trans (hba9.mono HB_6.out.size))
  clear HB_6
  have BA0_10 := hide (BA0_6.out.stays hba9)
  clear BA0_6
  have WO0_10 := hide (WO0_6.out.stays hba9)
  clear WO0_6
  have XC2_10 := hide (XC2_7.out.stays hba9)
  clear XC2_7
  have XS0_10 := hide (XS0_8.out.stays hba9)
  clear XS0_8
  have BX0_11 := hide (Box.made z4 #[.slice o2_0 k2_0 c2_0, .slice o2_1 k2_1 c2_1, .slice o2_2 k2_2 c2_2, .slice o2_3 k2_3 c2_3, .slice o2_4 k2_4 c2_4, .slice o2_5 k2_5 c2_5, .slice o2_6 k2_6 c2_6, .slice o2_7 k2_7 c2_7, .bool x0.stopped] 46)
  clear hba9
  have c_BA0_0 := Lib.cell_of_heap BA0_10.out 0
  simp at c_BA0_0
  have c_BA0_1 := Lib.cell_of_heap BA0_10.out 1
  simp at c_BA0_1
  have c_BA0_2 := Lib.cell_of_heap BA0_10.out 2
  simp at c_BA0_2
  have c_BA0_3 := Lib.cell_of_heap BA0_10.out 3
  simp at c_BA0_3
  have c_BA0_4 := Lib.cell_of_heap BA0_10.out 4
  simp at c_BA0_4
  have c_BA0_5 := Lib.cell_of_heap BA0_10.out 5
  simp at c_BA0_5
  have c_BA0_6 := Lib.cell_of_heap BA0_10.out 6
  simp at c_BA0_6
  have c_BA0_7 := Lib.cell_of_heap BA0_10.out 7
  simp at c_BA0_7
  have c_BA0_8 := Lib.cell_of_heap BA0_10.out 8
  simp at c_BA0_8
  have c_BX0_0 := Lib.cell_of_heap BX0_11.out 0
  simp at c_BX0_0
  have c_BX0_1 := Lib.cell_of_heap BX0_11.out 1
  simp at c_BX0_1
  have c_BX0_2 := Lib.cell_of_heap BX0_11.out 2
  simp at c_BX0_2
  have c_BX0_3 := Lib.cell_of_heap BX0_11.out 3
  simp at c_BX0_3
  have c_BX0_4 := Lib.cell_of_heap BX0_11.out 4
  simp at c_BX0_4
  have c_BX0_5 := Lib.cell_of_heap BX0_11.out 5
  simp at c_BX0_5
  have c_BX0_6 := Lib.cell_of_heap BX0_11.out 6
  simp at c_BX0_6
  have c_BX0_7 := Lib.cell_of_heap BX0_11.out 7
  simp at c_BX0_7
  have c_BX0_8 := Lib.cell_of_heap BX0_11.out 8
  simp at c_BX0_8
  go_wp2_with fail
  clear c_BA0_0 c_BA0_1 c_BA0_2 c_BA0_3 c_BA0_4 c_BA0_5 c_BA0_6 c_BA0_7 c_BA0_8 c_BX0_0 c_BX0_1 c_BX0_2 c_BX0_3 c_BX0_4 c_BX0_5 c_BX0_6 c_BX0_7 c_BX0_8
  obtain ⟨y1, hy1⟩ : ∃ Z, z4.alloc (.cells #[.slice o2_0 k2_0 c2_0, .slice o2_1 k2_1 c2_1, .slice o2_2 k2_2 c2_2, .slice o2_3 k2_3 c2_3, .slice o2_4 k2_4 c2_4, .slice o2_5 k2_5 c2_5, .slice o2_6 k2_6 c2_6, .slice o2_7 k2_7 c2_7, .bool x0.stopped] 46) = Z := ⟨_, rfl⟩
  rw [hy1] at HB_10 BA0_10 WO0_10 XC2_10 XS0_10 BX0_11 SZ6 ⊢
  clear hy1
  refine (HPI1.out _ _ _ _ _ _ _ _ _ _ XC2_10.out).mono ?_
  rintro e z5 ⟨g0_0, rfl, hog0, hbg⟩
  have SZ7 : Hid (y1.heap.size ≤ z5.heap.size) := hbg.size
  have HB_12 := hide (HB_10.out.trans (hbg.mono HB_10.out.size))
  clear HB_10
  have BA0_12 := hide (BA0_10.out.stays hbg)
  clear BA0_10
  have WO0_12 := hide (WO0_10.out.stays hbg)
  clear WO0_10
  have XC2_12 := hide (XC2_10.out.stays hbg)
  clear XC2_10
  have XS0_12 := hide (XS0_10.out.stays hbg)
  clear XS0_10
  have BX0_12 := hide (BX0_11.out.stays hbg)
  clear BX0_11
  obtain ⟨pg0_0, qg0_0, rfl⟩ := form_own hog0.o0
  have GO0_13 := hide (hog0)
  clear hog0
  clear hbg
  have GL0 := hide (GO0_13.out).lt
  have c_BA0_0 := Lib.cell_of_heap BA0_12.out 0
  simp at c_BA0_0
  have c_BA0_1 := Lib.cell_of_heap BA0_12.out 1
  simp at c_BA0_1
  have c_BA0_2 := Lib.cell_of_heap BA0_12.out 2
  simp at c_BA0_2
  have c_BA0_3 := Lib.cell_of_heap BA0_12.out 3
  simp at c_BA0_3
  have c_BA0_4 := Lib.cell_of_heap BA0_12.out 4
  simp at c_BA0_4
  have c_BA0_5 := Lib.cell_of_heap BA0_12.out 5
  simp at c_BA0_5
  have c_BA0_6 := Lib.cell_of_heap BA0_12.out 6
  simp at c_BA0_6
  have c_BA0_7 := Lib.cell_of_heap BA0_12.out 7
  simp at c_BA0_7
  have c_BA0_8 := Lib.cell_of_heap BA0_12.out 8
  simp at c_BA0_8
  have c_BX0_0 := Lib.cell_of_heap BX0_12.out 0
  simp at c_BX0_0
  have c_BX0_1 := Lib.cell_of_heap BX0_12.out 1
  simp at c_BX0_1
  have c_BX0_2 := Lib.cell_of_heap BX0_12.out 2
  simp at c_BX0_2
  have c_BX0_3 := Lib.cell_of_heap BX0_12.out 3
  simp at c_BX0_3
  have c_BX0_4 := Lib.cell_of_heap BX0_12.out 4
  simp at c_BX0_4
  have c_BX0_5 := Lib.cell_of_heap BX0_12.out 5
  simp at c_BX0_5
  have c_BX0_6 := Lib.cell_of_heap BX0_12.out 6
  simp at c_BX0_6
  have c_BX0_7 := Lib.cell_of_heap BX0_12.out 7
  simp at c_BX0_7
  have c_BX0_8 := Lib.cell_of_heap BX0_12.out 8
  simp at c_BX0_8
  go_wp2_with fail
  clear c_BA0_0 c_BA0_1 c_BA0_2 c_BA0_3 c_BA0_4 c_BA0_5 c_BA0_6 c_BA0_7 c_BA0_8 c_BX0_0 c_BX0_1 c_BX0_2 c_BX0_3 c_BX0_4 c_BX0_5 c_BX0_6 c_BX0_7 c_BX0_8
  refine (eqIntSR_same (ableE x0) _ _ _ (GO0_13.out).at.a0 (WO0_12.out).at.a0 HL0.out.l0).mono ?_
  rintro e z6 ⟨rfl, hbe14⟩
  have SZ8 : Hid (z5.heap.size ≤ z6.heap.size) := hbe14.size
  have HB_15 := hide (HB_12.out.trans (hbe14.mono HB_12.out.size))
  clear HB_12
  have BA0_15 := hide (BA0_12.out.stays hbe14)
  clear BA0_12
  have WO0_15 := hide (WO0_12.out.stays hbe14)
  clear WO0_12
  have XC2_15 := hide (XC2_12.out.stays hbe14)
  clear XC2_12
  have XS0_15 := hide (XS0_12.out.stays hbe14)
  clear XS0_12
  have BX0_15 := hide (BX0_12.out.stays hbe14)
  clear BX0_12
  have GO0_15 := hide (GO0_13.out.stays hbe14)
  clear GO0_13
  clear hbe14
  have c_BA0_0 := Lib.cell_of_heap BA0_15.out 0
  simp at c_BA0_0
  have c_BA0_1 := Lib.cell_of_heap BA0_15.out 1
  simp at c_BA0_1
  have c_BA0_2 := Lib.cell_of_heap BA0_15.out 2
  simp at c_BA0_2
  have c_BA0_3 := Lib.cell_of_heap BA0_15.out 3
  simp at c_BA0_3
  have c_BA0_4 := Lib.cell_of_heap BA0_15.out 4
  simp at c_BA0_4
  have c_BA0_5 := Lib.cell_of_heap BA0_15.out 5
  simp at c_BA0_5
  have c_BA0_6 := Lib.cell_of_heap BA0_15.out 6
  simp at c_BA0_6
  have c_BA0_7 := Lib.cell_of_heap BA0_15.out 7
  simp at c_BA0_7
  have c_BA0_8 := Lib.cell_of_heap BA0_15.out 8
  simp at c_BA0_8
  have c_BX0_0 := Lib.cell_of_heap BX0_15.out 0
  simp at c_BX0_0
  have c_BX0_1 := Lib.cell_of_heap BX0_15.out 1
  simp at c_BX0_1
  have c_BX0_2 := Lib.cell_of_heap BX0_15.out 2
  simp at c_BX0_2
  have c_BX0_3 := Lib.cell_of_heap BX0_15.out 3
  simp at c_BX0_3
  have c_BX0_4 := Lib.cell_of_heap BX0_15.out 4
  simp at c_BX0_4
  have c_BX0_5 := Lib.cell_of_heap BX0_15.out 5
  simp at c_BX0_5
  have c_BX0_6 := Lib.cell_of_heap BX0_15.out 6
  simp at c_BX0_6
  have c_BX0_7 := Lib.cell_of_heap BX0_15.out 7
  simp at c_BX0_7
  have c_BX0_8 := Lib.cell_of_heap BX0_15.out 8
  simp at c_BX0_8
  go_wp2_with fail
  clear c_BA0_0 c_BA0_1 c_BA0_2 c_BA0_3 c_BA0_4 c_BA0_5 c_BA0_6 c_BA0_7 c_BA0_8 c_BX0_0 c_BX0_1 c_BX0_2 c_BX0_3 c_BX0_4 c_BX0_5 c_BX0_6 c_BX0_7 c_BX0_8
  have KT : Hid (∀ z z' : World, (Below w.heap.size w z ∧ Box z (w.heap.size) #[.slice a0_0 x0.prog.nodes.length b0_0, .slice a0_1 x0.prog.mons.length b0_1, .slice a0_2 x0.prog.pros.length b0_2, .slice a0_3 x0.acts.length b0_3, .slice a0_4 x0.gates.length b0_4, .slice a0_5 x0.vars.length b0_5, .slice a0_6 x0.input.length b0_6, .slice a0_7 x0.events.length b0_7, .bool x0.stopped] 33 ∧ RiOwn z2.heap.size z (.slice pw0_0 (ableE x0).row.length qw0_0) (ableE x0) ∧ MdC z3.heap.size z [.slice o2_0 k2_0 c2_0, .slice o2_1 k2_1 c2_1, .slice o2_2 k2_2 c2_2, .slice o2_3 k2_3 c2_3, .slice o2_4 k2_4 c2_4, .slice o2_5 k2_5 c2_5, .slice o2_6 k2_6 c2_6, .slice o2_7 k2_7 c2_7, .bool x0.stopped] x0 ∧ MdSh z3.heap.size z4.heap.size z (.slice o2_0 k2_0 c2_0) (.slice o2_1 k2_1 c2_1) (.slice o2_2 k2_2 c2_2) (.slice o2_3 k2_3 c2_3) (.slice o2_4 k2_4 c2_4) (.slice o2_5 k2_5 c2_5) (.slice o2_6 k2_6 c2_6) (.slice o2_7 k2_7 c2_7) x0 ∧ Box z z4.heap.size #[.slice o2_0 k2_0 c2_0, .slice o2_1 k2_1 c2_1, .slice o2_2 k2_2 c2_2, .slice o2_3 k2_3 c2_3, .slice o2_4 k2_4 c2_4, .slice o2_5 k2_5 c2_5, .slice o2_6 k2_6 c2_6, .slice o2_7 k2_7 c2_7, .bool x0.stopped] 46 ∧ RiOwn y1.heap.size z (.slice pg0_0 (ableE x0).row.length qg0_0) (ableE x0)) → Below z.heap.size z z' → (Below w.heap.size w z' ∧ Box z' (w.heap.size) #[.slice a0_0 x0.prog.nodes.length b0_0, .slice a0_1 x0.prog.mons.length b0_1, .slice a0_2 x0.prog.pros.length b0_2, .slice a0_3 x0.acts.length b0_3, .slice a0_4 x0.gates.length b0_4, .slice a0_5 x0.vars.length b0_5, .slice a0_6 x0.input.length b0_6, .slice a0_7 x0.events.length b0_7, .bool x0.stopped] 33 ∧ RiOwn z2.heap.size z' (.slice pw0_0 (ableE x0).row.length qw0_0) (ableE x0) ∧ MdC z3.heap.size z' [.slice o2_0 k2_0 c2_0, .slice o2_1 k2_1 c2_1, .slice o2_2 k2_2 c2_2, .slice o2_3 k2_3 c2_3, .slice o2_4 k2_4 c2_4, .slice o2_5 k2_5 c2_5, .slice o2_6 k2_6 c2_6, .slice o2_7 k2_7 c2_7, .bool x0.stopped] x0 ∧ MdSh z3.heap.size z4.heap.size z' (.slice o2_0 k2_0 c2_0) (.slice o2_1 k2_1 c2_1) (.slice o2_2 k2_2 c2_2) (.slice o2_3 k2_3 c2_3) (.slice o2_4 k2_4 c2_4) (.slice o2_5 k2_5 c2_5) (.slice o2_6 k2_6 c2_6) (.slice o2_7 k2_7 c2_7) x0 ∧ Box z' z4.heap.size #[.slice o2_0 k2_0 c2_0, .slice o2_1 k2_1 c2_1, .slice o2_2 k2_2 c2_2, .slice o2_3 k2_3 c2_3, .slice o2_4 k2_4 c2_4, .slice o2_5 k2_5 c2_5, .slice o2_6 k2_6 c2_6, .slice o2_7 k2_7 c2_7, .bool x0.stopped] 46 ∧ RiOwn y1.heap.size z' (.slice pg0_0 (ableE x0).row.length qg0_0) (ableE x0))) := fun z z' hz hb => ⟨(hz.1).trans (hb.mono (hz.1).size), (hz.2.1).stays hb, (hz.2.2.1).stays hb, (hz.2.2.2.1).stays hb, (hz.2.2.2.2.1).stays hb, (hz.2.2.2.2.2.1).stays hb, (hz.2.2.2.2.2.2).stays hb⟩
  have KC : Hid (∀ z : World, (Below w.heap.size w z ∧ Box z (w.heap.size) #[.slice a0_0 x0.prog.nodes.length b0_0, .slice a0_1 x0.prog.mons.length b0_1, .slice a0_2 x0.prog.pros.length b0_2, .slice a0_3 x0.acts.length b0_3, .slice a0_4 x0.gates.length b0_4, .slice a0_5 x0.vars.length b0_5, .slice a0_6 x0.input.length b0_6, .slice a0_7 x0.events.length b0_7, .bool x0.stopped] 33 ∧ RiOwn z2.heap.size z (.slice pw0_0 (ableE x0).row.length qw0_0) (ableE x0) ∧ MdC z3.heap.size z [.slice o2_0 k2_0 c2_0, .slice o2_1 k2_1 c2_1, .slice o2_2 k2_2 c2_2, .slice o2_3 k2_3 c2_3, .slice o2_4 k2_4 c2_4, .slice o2_5 k2_5 c2_5, .slice o2_6 k2_6 c2_6, .slice o2_7 k2_7 c2_7, .bool x0.stopped] x0 ∧ MdSh z3.heap.size z4.heap.size z (.slice o2_0 k2_0 c2_0) (.slice o2_1 k2_1 c2_1) (.slice o2_2 k2_2 c2_2) (.slice o2_3 k2_3 c2_3) (.slice o2_4 k2_4 c2_4) (.slice o2_5 k2_5 c2_5) (.slice o2_6 k2_6 c2_6) (.slice o2_7 k2_7 c2_7) x0 ∧ Box z z4.heap.size #[.slice o2_0 k2_0 c2_0, .slice o2_1 k2_1 c2_1, .slice o2_2 k2_2 c2_2, .slice o2_3 k2_3 c2_3, .slice o2_4 k2_4 c2_4, .slice o2_5 k2_5 c2_5, .slice o2_6 k2_6 c2_6, .slice o2_7 k2_7 c2_7, .bool x0.stopped] 46 ∧ RiOwn y1.heap.size z (.slice pg0_0 (ableE x0).row.length qg0_0) (ableE x0)) → (z.cell? ⟨(w.heap.size), 0, none⟩ = some (.slice a0_0 x0.prog.nodes.length b0_0) ∧ z.cell? ⟨(w.heap.size), 1, none⟩ = some (.slice a0_1 x0.prog.mons.length b0_1) ∧ z.cell? ⟨(w.heap.size), 2, none⟩ = some (.slice a0_2 x0.prog.pros.length b0_2) ∧ z.cell? ⟨(w.heap.size), 3, none⟩ = some (.slice a0_3 x0.acts.length b0_3) ∧ z.cell? ⟨(w.heap.size), 4, none⟩ = some (.slice a0_4 x0.gates.length b0_4) ∧ z.cell? ⟨(w.heap.size), 5, none⟩ = some (.slice a0_5 x0.vars.length b0_5) ∧ z.cell? ⟨(w.heap.size), 6, none⟩ = some (.slice a0_6 x0.input.length b0_6) ∧ z.cell? ⟨(w.heap.size), 7, none⟩ = some (.slice a0_7 x0.events.length b0_7) ∧ z.cell? ⟨(w.heap.size), 8, none⟩ = some (.bool x0.stopped) ∧ z.cell? ⟨z4.heap.size, 0, none⟩ = some (.slice o2_0 k2_0 c2_0) ∧ z.cell? ⟨z4.heap.size, 1, none⟩ = some (.slice o2_1 k2_1 c2_1) ∧ z.cell? ⟨z4.heap.size, 2, none⟩ = some (.slice o2_2 k2_2 c2_2) ∧ z.cell? ⟨z4.heap.size, 3, none⟩ = some (.slice o2_3 k2_3 c2_3) ∧ z.cell? ⟨z4.heap.size, 4, none⟩ = some (.slice o2_4 k2_4 c2_4) ∧ z.cell? ⟨z4.heap.size, 5, none⟩ = some (.slice o2_5 k2_5 c2_5) ∧ z.cell? ⟨z4.heap.size, 6, none⟩ = some (.slice o2_6 k2_6 c2_6) ∧ z.cell? ⟨z4.heap.size, 7, none⟩ = some (.slice o2_7 k2_7 c2_7) ∧ z.cell? ⟨z4.heap.size, 8, none⟩ = some (.bool x0.stopped) ∧ Hid ((Below w.heap.size w z ∧ Box z (w.heap.size) #[.slice a0_0 x0.prog.nodes.length b0_0, .slice a0_1 x0.prog.mons.length b0_1, .slice a0_2 x0.prog.pros.length b0_2, .slice a0_3 x0.acts.length b0_3, .slice a0_4 x0.gates.length b0_4, .slice a0_5 x0.vars.length b0_5, .slice a0_6 x0.input.length b0_6, .slice a0_7 x0.events.length b0_7, .bool x0.stopped] 33 ∧ RiOwn z2.heap.size z (.slice pw0_0 (ableE x0).row.length qw0_0) (ableE x0) ∧ MdC z3.heap.size z [.slice o2_0 k2_0 c2_0, .slice o2_1 k2_1 c2_1, .slice o2_2 k2_2 c2_2, .slice o2_3 k2_3 c2_3, .slice o2_4 k2_4 c2_4, .slice o2_5 k2_5 c2_5, .slice o2_6 k2_6 c2_6, .slice o2_7 k2_7 c2_7, .bool x0.stopped] x0 ∧ MdSh z3.heap.size z4.heap.size z (.slice o2_0 k2_0 c2_0) (.slice o2_1 k2_1 c2_1) (.slice o2_2 k2_2 c2_2) (.slice o2_3 k2_3 c2_3) (.slice o2_4 k2_4 c2_4) (.slice o2_5 k2_5 c2_5) (.slice o2_6 k2_6 c2_6) (.slice o2_7 k2_7 c2_7) x0 ∧ Box z z4.heap.size #[.slice o2_0 k2_0 c2_0, .slice o2_1 k2_1 c2_1, .slice o2_2 k2_2 c2_2, .slice o2_3 k2_3 c2_3, .slice o2_4 k2_4 c2_4, .slice o2_5 k2_5 c2_5, .slice o2_6 k2_6 c2_6, .slice o2_7 k2_7 c2_7, .bool x0.stopped] 46 ∧ RiOwn y1.heap.size z (.slice pg0_0 (ableE x0).row.length qg0_0) (ableE x0))))) := fun z hz => ⟨Lib.cell_of_heap (hz.2.1) 0, Lib.cell_of_heap (hz.2.1) 1, Lib.cell_of_heap (hz.2.1) 2, Lib.cell_of_heap (hz.2.1) 3, Lib.cell_of_heap (hz.2.1) 4, Lib.cell_of_heap (hz.2.1) 5, Lib.cell_of_heap (hz.2.1) 6, Lib.cell_of_heap (hz.2.1) 7, Lib.cell_of_heap (hz.2.1) 8, Lib.cell_of_heap (hz.2.2.2.2.2.1) 0, Lib.cell_of_heap (hz.2.2.2.2.2.1) 1, Lib.cell_of_heap (hz.2.2.2.2.2.1) 2, Lib.cell_of_heap (hz.2.2.2.2.2.1) 3, Lib.cell_of_heap (hz.2.2.2.2.2.1) 4, Lib.cell_of_heap (hz.2.2.2.2.2.1) 5, Lib.cell_of_heap (hz.2.2.2.2.2.1) 6, Lib.cell_of_heap (hz.2.2.2.2.2.1) 7, Lib.cell_of_heap (hz.2.2.2.2.2.1) 8, hz⟩
  have KV : Hid (∀ z : World, (z.cell? ⟨(w.heap.size), 0, none⟩ = some (.slice a0_0 x0.prog.nodes.length b0_0) ∧ z.cell? ⟨(w.heap.size), 1, none⟩ = some (.slice a0_1 x0.prog.mons.length b0_1) ∧ z.cell? ⟨(w.heap.size), 2, none⟩ = some (.slice a0_2 x0.prog.pros.length b0_2) ∧ z.cell? ⟨(w.heap.size), 3, none⟩ = some (.slice a0_3 x0.acts.length b0_3) ∧ z.cell? ⟨(w.heap.size), 4, none⟩ = some (.slice a0_4 x0.gates.length b0_4) ∧ z.cell? ⟨(w.heap.size), 5, none⟩ = some (.slice a0_5 x0.vars.length b0_5) ∧ z.cell? ⟨(w.heap.size), 6, none⟩ = some (.slice a0_6 x0.input.length b0_6) ∧ z.cell? ⟨(w.heap.size), 7, none⟩ = some (.slice a0_7 x0.events.length b0_7) ∧ z.cell? ⟨(w.heap.size), 8, none⟩ = some (.bool x0.stopped) ∧ z.cell? ⟨z4.heap.size, 0, none⟩ = some (.slice o2_0 k2_0 c2_0) ∧ z.cell? ⟨z4.heap.size, 1, none⟩ = some (.slice o2_1 k2_1 c2_1) ∧ z.cell? ⟨z4.heap.size, 2, none⟩ = some (.slice o2_2 k2_2 c2_2) ∧ z.cell? ⟨z4.heap.size, 3, none⟩ = some (.slice o2_3 k2_3 c2_3) ∧ z.cell? ⟨z4.heap.size, 4, none⟩ = some (.slice o2_4 k2_4 c2_4) ∧ z.cell? ⟨z4.heap.size, 5, none⟩ = some (.slice o2_5 k2_5 c2_5) ∧ z.cell? ⟨z4.heap.size, 6, none⟩ = some (.slice o2_6 k2_6 c2_6) ∧ z.cell? ⟨z4.heap.size, 7, none⟩ = some (.slice o2_7 k2_7 c2_7) ∧ z.cell? ⟨z4.heap.size, 8, none⟩ = some (.bool x0.stopped) ∧ Hid ((Below w.heap.size w z ∧ Box z (w.heap.size) #[.slice a0_0 x0.prog.nodes.length b0_0, .slice a0_1 x0.prog.mons.length b0_1, .slice a0_2 x0.prog.pros.length b0_2, .slice a0_3 x0.acts.length b0_3, .slice a0_4 x0.gates.length b0_4, .slice a0_5 x0.vars.length b0_5, .slice a0_6 x0.input.length b0_6, .slice a0_7 x0.events.length b0_7, .bool x0.stopped] 33 ∧ RiOwn z2.heap.size z (.slice pw0_0 (ableE x0).row.length qw0_0) (ableE x0) ∧ MdC z3.heap.size z [.slice o2_0 k2_0 c2_0, .slice o2_1 k2_1 c2_1, .slice o2_2 k2_2 c2_2, .slice o2_3 k2_3 c2_3, .slice o2_4 k2_4 c2_4, .slice o2_5 k2_5 c2_5, .slice o2_6 k2_6 c2_6, .slice o2_7 k2_7 c2_7, .bool x0.stopped] x0 ∧ MdSh z3.heap.size z4.heap.size z (.slice o2_0 k2_0 c2_0) (.slice o2_1 k2_1 c2_1) (.slice o2_2 k2_2 c2_2) (.slice o2_3 k2_3 c2_3) (.slice o2_4 k2_4 c2_4) (.slice o2_5 k2_5 c2_5) (.slice o2_6 k2_6 c2_6) (.slice o2_7 k2_7 c2_7) x0 ∧ Box z z4.heap.size #[.slice o2_0 k2_0 c2_0, .slice o2_1 k2_1 c2_1, .slice o2_2 k2_2 c2_2, .slice o2_3 k2_3 c2_3, .slice o2_4 k2_4 c2_4, .slice o2_5 k2_5 c2_5, .slice o2_6 k2_6 c2_6, .slice o2_7 k2_7 c2_7, .bool x0.stopped] 46 ∧ RiOwn y1.heap.size z (.slice pg0_0 (ableE x0).row.length qg0_0) (ableE x0)))) → (Below w.heap.size w z ∧ Box z (w.heap.size) #[.slice a0_0 x0.prog.nodes.length b0_0, .slice a0_1 x0.prog.mons.length b0_1, .slice a0_2 x0.prog.pros.length b0_2, .slice a0_3 x0.acts.length b0_3, .slice a0_4 x0.gates.length b0_4, .slice a0_5 x0.vars.length b0_5, .slice a0_6 x0.input.length b0_6, .slice a0_7 x0.events.length b0_7, .bool x0.stopped] 33 ∧ RiOwn z2.heap.size z (.slice pw0_0 (ableE x0).row.length qw0_0) (ableE x0) ∧ MdC z3.heap.size z [.slice o2_0 k2_0 c2_0, .slice o2_1 k2_1 c2_1, .slice o2_2 k2_2 c2_2, .slice o2_3 k2_3 c2_3, .slice o2_4 k2_4 c2_4, .slice o2_5 k2_5 c2_5, .slice o2_6 k2_6 c2_6, .slice o2_7 k2_7 c2_7, .bool x0.stopped] x0 ∧ MdSh z3.heap.size z4.heap.size z (.slice o2_0 k2_0 c2_0) (.slice o2_1 k2_1 c2_1) (.slice o2_2 k2_2 c2_2) (.slice o2_3 k2_3 c2_3) (.slice o2_4 k2_4 c2_4) (.slice o2_5 k2_5 c2_5) (.slice o2_6 k2_6 c2_6) (.slice o2_7 k2_7 c2_7) x0 ∧ Box z z4.heap.size #[.slice o2_0 k2_0 c2_0, .slice o2_1 k2_1 c2_1, .slice o2_2 k2_2 c2_2, .slice o2_3 k2_3 c2_3, .slice o2_4 k2_4 c2_4, .slice o2_5 k2_5 c2_5, .slice o2_6 k2_6 c2_6, .slice o2_7 k2_7 c2_7, .bool x0.stopped] 46 ∧ RiOwn y1.heap.size z (.slice pg0_0 (ableE x0).row.length qg0_0) (ableE x0))) := fun z hz => hz.2.2.2.2.2.2.2.2.2.2.2.2.2.2.2.2.2.2.out
  have KP : Hid (∀ z z' : World, (z.cell? ⟨(w.heap.size), 0, none⟩ = some (.slice a0_0 x0.prog.nodes.length b0_0) ∧ z.cell? ⟨(w.heap.size), 1, none⟩ = some (.slice a0_1 x0.prog.mons.length b0_1) ∧ z.cell? ⟨(w.heap.size), 2, none⟩ = some (.slice a0_2 x0.prog.pros.length b0_2) ∧ z.cell? ⟨(w.heap.size), 3, none⟩ = some (.slice a0_3 x0.acts.length b0_3) ∧ z.cell? ⟨(w.heap.size), 4, none⟩ = some (.slice a0_4 x0.gates.length b0_4) ∧ z.cell? ⟨(w.heap.size), 5, none⟩ = some (.slice a0_5 x0.vars.length b0_5) ∧ z.cell? ⟨(w.heap.size), 6, none⟩ = some (.slice a0_6 x0.input.length b0_6) ∧ z.cell? ⟨(w.heap.size), 7, none⟩ = some (.slice a0_7 x0.events.length b0_7) ∧ z.cell? ⟨(w.heap.size), 8, none⟩ = some (.bool x0.stopped) ∧ z.cell? ⟨z4.heap.size, 0, none⟩ = some (.slice o2_0 k2_0 c2_0) ∧ z.cell? ⟨z4.heap.size, 1, none⟩ = some (.slice o2_1 k2_1 c2_1) ∧ z.cell? ⟨z4.heap.size, 2, none⟩ = some (.slice o2_2 k2_2 c2_2) ∧ z.cell? ⟨z4.heap.size, 3, none⟩ = some (.slice o2_3 k2_3 c2_3) ∧ z.cell? ⟨z4.heap.size, 4, none⟩ = some (.slice o2_4 k2_4 c2_4) ∧ z.cell? ⟨z4.heap.size, 5, none⟩ = some (.slice o2_5 k2_5 c2_5) ∧ z.cell? ⟨z4.heap.size, 6, none⟩ = some (.slice o2_6 k2_6 c2_6) ∧ z.cell? ⟨z4.heap.size, 7, none⟩ = some (.slice o2_7 k2_7 c2_7) ∧ z.cell? ⟨z4.heap.size, 8, none⟩ = some (.bool x0.stopped) ∧ Hid ((Below w.heap.size w z ∧ Box z (w.heap.size) #[.slice a0_0 x0.prog.nodes.length b0_0, .slice a0_1 x0.prog.mons.length b0_1, .slice a0_2 x0.prog.pros.length b0_2, .slice a0_3 x0.acts.length b0_3, .slice a0_4 x0.gates.length b0_4, .slice a0_5 x0.vars.length b0_5, .slice a0_6 x0.input.length b0_6, .slice a0_7 x0.events.length b0_7, .bool x0.stopped] 33 ∧ RiOwn z2.heap.size z (.slice pw0_0 (ableE x0).row.length qw0_0) (ableE x0) ∧ MdC z3.heap.size z [.slice o2_0 k2_0 c2_0, .slice o2_1 k2_1 c2_1, .slice o2_2 k2_2 c2_2, .slice o2_3 k2_3 c2_3, .slice o2_4 k2_4 c2_4, .slice o2_5 k2_5 c2_5, .slice o2_6 k2_6 c2_6, .slice o2_7 k2_7 c2_7, .bool x0.stopped] x0 ∧ MdSh z3.heap.size z4.heap.size z (.slice o2_0 k2_0 c2_0) (.slice o2_1 k2_1 c2_1) (.slice o2_2 k2_2 c2_2) (.slice o2_3 k2_3 c2_3) (.slice o2_4 k2_4 c2_4) (.slice o2_5 k2_5 c2_5) (.slice o2_6 k2_6 c2_6) (.slice o2_7 k2_7 c2_7) x0 ∧ Box z z4.heap.size #[.slice o2_0 k2_0 c2_0, .slice o2_1 k2_1 c2_1, .slice o2_2 k2_2 c2_2, .slice o2_3 k2_3 c2_3, .slice o2_4 k2_4 c2_4, .slice o2_5 k2_5 c2_5, .slice o2_6 k2_6 c2_6, .slice o2_7 k2_7 c2_7, .bool x0.stopped] 46 ∧ RiOwn y1.heap.size z (.slice pg0_0 (ableE x0).row.length qg0_0) (ableE x0)))) → Below z.heap.size z z' → (z'.cell? ⟨(w.heap.size), 0, none⟩ = some (.slice a0_0 x0.prog.nodes.length b0_0) ∧ z'.cell? ⟨(w.heap.size), 1, none⟩ = some (.slice a0_1 x0.prog.mons.length b0_1) ∧ z'.cell? ⟨(w.heap.size), 2, none⟩ = some (.slice a0_2 x0.prog.pros.length b0_2) ∧ z'.cell? ⟨(w.heap.size), 3, none⟩ = some (.slice a0_3 x0.acts.length b0_3) ∧ z'.cell? ⟨(w.heap.size), 4, none⟩ = some (.slice a0_4 x0.gates.length b0_4) ∧ z'.cell? ⟨(w.heap.size), 5, none⟩ = some (.slice a0_5 x0.vars.length b0_5) ∧ z'.cell? ⟨(w.heap.size), 6, none⟩ = some (.slice a0_6 x0.input.length b0_6) ∧ z'.cell? ⟨(w.heap.size), 7, none⟩ = some (.slice a0_7 x0.events.length b0_7) ∧ z'.cell? ⟨(w.heap.size), 8, none⟩ = some (.bool x0.stopped) ∧ z'.cell? ⟨z4.heap.size, 0, none⟩ = some (.slice o2_0 k2_0 c2_0) ∧ z'.cell? ⟨z4.heap.size, 1, none⟩ = some (.slice o2_1 k2_1 c2_1) ∧ z'.cell? ⟨z4.heap.size, 2, none⟩ = some (.slice o2_2 k2_2 c2_2) ∧ z'.cell? ⟨z4.heap.size, 3, none⟩ = some (.slice o2_3 k2_3 c2_3) ∧ z'.cell? ⟨z4.heap.size, 4, none⟩ = some (.slice o2_4 k2_4 c2_4) ∧ z'.cell? ⟨z4.heap.size, 5, none⟩ = some (.slice o2_5 k2_5 c2_5) ∧ z'.cell? ⟨z4.heap.size, 6, none⟩ = some (.slice o2_6 k2_6 c2_6) ∧ z'.cell? ⟨z4.heap.size, 7, none⟩ = some (.slice o2_7 k2_7 c2_7) ∧ z'.cell? ⟨z4.heap.size, 8, none⟩ = some (.bool x0.stopped) ∧ Hid ((Below w.heap.size w z' ∧ Box z' (w.heap.size) #[.slice a0_0 x0.prog.nodes.length b0_0, .slice a0_1 x0.prog.mons.length b0_1, .slice a0_2 x0.prog.pros.length b0_2, .slice a0_3 x0.acts.length b0_3, .slice a0_4 x0.gates.length b0_4, .slice a0_5 x0.vars.length b0_5, .slice a0_6 x0.input.length b0_6, .slice a0_7 x0.events.length b0_7, .bool x0.stopped] 33 ∧ RiOwn z2.heap.size z' (.slice pw0_0 (ableE x0).row.length qw0_0) (ableE x0) ∧ MdC z3.heap.size z' [.slice o2_0 k2_0 c2_0, .slice o2_1 k2_1 c2_1, .slice o2_2 k2_2 c2_2, .slice o2_3 k2_3 c2_3, .slice o2_4 k2_4 c2_4, .slice o2_5 k2_5 c2_5, .slice o2_6 k2_6 c2_6, .slice o2_7 k2_7 c2_7, .bool x0.stopped] x0 ∧ MdSh z3.heap.size z4.heap.size z' (.slice o2_0 k2_0 c2_0) (.slice o2_1 k2_1 c2_1) (.slice o2_2 k2_2 c2_2) (.slice o2_3 k2_3 c2_3) (.slice o2_4 k2_4 c2_4) (.slice o2_5 k2_5 c2_5) (.slice o2_6 k2_6 c2_6) (.slice o2_7 k2_7 c2_7) x0 ∧ Box z' z4.heap.size #[.slice o2_0 k2_0 c2_0, .slice o2_1 k2_1 c2_1, .slice o2_2 k2_2 c2_2, .slice o2_3 k2_3 c2_3, .slice o2_4 k2_4 c2_4, .slice o2_5 k2_5 c2_5, .slice o2_6 k2_6 c2_6, .slice o2_7 k2_7 c2_7, .bool x0.stopped] 46 ∧ RiOwn y1.heap.size z' (.slice pg0_0 (ableE x0).row.length qg0_0) (ableE x0))))) := fun z z' hz hb => KC.out _ (KT.out _ _ (KV.out _ hz) hb)
  have K0 := hide (KC.out _ (KT.out _ _ ⟨HB_15.out, BA0_15.out, WO0_15.out, XC2_15.out, XS0_15.out, BX0_15.out, GO0_15.out⟩ (Below.refl _ _).drew))
  clear HB_15 BA0_15 WO0_15 XC2_15 XS0_15 BX0_15 GO0_15
  go_region_held3 (fun z => z.cell? ⟨(w.heap.size), 0, none⟩ = some (.slice a0_0 x0.prog.nodes.length b0_0) ∧ z.cell? ⟨(w.heap.size), 1, none⟩ = some (.slice a0_1 x0.prog.mons.length b0_1) ∧ z.cell? ⟨(w.heap.size), 2, none⟩ = some (.slice a0_2 x0.prog.pros.length b0_2) ∧ z.cell? ⟨(w.heap.size), 3, none⟩ = some (.slice a0_3 x0.acts.length b0_3) ∧ z.cell? ⟨(w.heap.size), 4, none⟩ = some (.slice a0_4 x0.gates.length b0_4) ∧ z.cell? ⟨(w.heap.size), 5, none⟩ = some (.slice a0_5 x0.vars.length b0_5) ∧ z.cell? ⟨(w.heap.size), 6, none⟩ = some (.slice a0_6 x0.input.length b0_6) ∧ z.cell? ⟨(w.heap.size), 7, none⟩ = some (.slice a0_7 x0.events.length b0_7) ∧ z.cell? ⟨(w.heap.size), 8, none⟩ = some (.bool x0.stopped) ∧ z.cell? ⟨z4.heap.size, 0, none⟩ = some (.slice o2_0 k2_0 c2_0) ∧ z.cell? ⟨z4.heap.size, 1, none⟩ = some (.slice o2_1 k2_1 c2_1) ∧ z.cell? ⟨z4.heap.size, 2, none⟩ = some (.slice o2_2 k2_2 c2_2) ∧ z.cell? ⟨z4.heap.size, 3, none⟩ = some (.slice o2_3 k2_3 c2_3) ∧ z.cell? ⟨z4.heap.size, 4, none⟩ = some (.slice o2_4 k2_4 c2_4) ∧ z.cell? ⟨z4.heap.size, 5, none⟩ = some (.slice o2_5 k2_5 c2_5) ∧ z.cell? ⟨z4.heap.size, 6, none⟩ = some (.slice o2_6 k2_6 c2_6) ∧ z.cell? ⟨z4.heap.size, 7, none⟩ = some (.slice o2_7 k2_7 c2_7) ∧ z.cell? ⟨z4.heap.size, 8, none⟩ = some (.bool x0.stopped) ∧ Hid ((Below w.heap.size w z ∧ Box z (w.heap.size) #[.slice a0_0 x0.prog.nodes.length b0_0, .slice a0_1 x0.prog.mons.length b0_1, .slice a0_2 x0.prog.pros.length b0_2, .slice a0_3 x0.acts.length b0_3, .slice a0_4 x0.gates.length b0_4, .slice a0_5 x0.vars.length b0_5, .slice a0_6 x0.input.length b0_6, .slice a0_7 x0.events.length b0_7, .bool x0.stopped] 33 ∧ RiOwn z2.heap.size z (.slice pw0_0 (ableE x0).row.length qw0_0) (ableE x0) ∧ MdC z3.heap.size z [.slice o2_0 k2_0 c2_0, .slice o2_1 k2_1 c2_1, .slice o2_2 k2_2 c2_2, .slice o2_3 k2_3 c2_3, .slice o2_4 k2_4 c2_4, .slice o2_5 k2_5 c2_5, .slice o2_6 k2_6 c2_6, .slice o2_7 k2_7 c2_7, .bool x0.stopped] x0 ∧ MdSh z3.heap.size z4.heap.size z (.slice o2_0 k2_0 c2_0) (.slice o2_1 k2_1 c2_1) (.slice o2_2 k2_2 c2_2) (.slice o2_3 k2_3 c2_3) (.slice o2_4 k2_4 c2_4) (.slice o2_5 k2_5 c2_5) (.slice o2_6 k2_6 c2_6) (.slice o2_7 k2_7 c2_7) x0 ∧ Box z z4.heap.size #[.slice o2_0 k2_0 c2_0, .slice o2_1 k2_1 c2_1, .slice o2_2 k2_2 c2_2, .slice o2_3 k2_3 c2_3, .slice o2_4 k2_4 c2_4, .slice o2_5 k2_5 c2_5, .slice o2_6 k2_6 c2_6, .slice o2_7 k2_7 c2_7, .bool x0.stopped] 46 ∧ RiOwn y1.heap.size z (.slice pg0_0 (ableE x0).row.length qg0_0) (ableE x0)))) (first | exact K0.out | exact KP.out _ _ (by assumption) hb7)
    (first
      | (go_at_call 7; refine (toModel_any x0 _ _ _ _ _ _ _ _ _ (HW0.out.stays ((KV.out _ (by assumption)).1)).a0 (HW0.out.stays ((KV.out _ (by assumption)).1)).a1 (HW0.out.stays ((KV.out _ (by assumption)).1)).a2 (HW0.out.stays ((KV.out _ (by assumption)).1)).a3 (HW0.out.stays ((KV.out _ (by assumption)).1)).a4 (HW0.out.stays ((KV.out _ (by assumption)).1)).a5 (HW0.out.stays ((KV.out _ (by assumption)).1)).a6 (HW0.out.stays ((KV.out _ (by assumption)).1)).a7 HN0.out).mono ?_; rintro e w7 ⟨oo0, kk0, cc0, oo1, kk1, cc1, oo2, kk2, cc2, oo3, kk3, cc3, oo4, kk4, cc4, oo5, kk5, cc5, oo6, kk6, cc6, oo7, kk7, cc7, rfl, hc7, hb7⟩; have P7 := hide hc7.at; clear hc7)
      | (go_at_call 10; refine (eqModel_same x0 _ _ _ _ _ _ _ _ _ _ _ _ _ _ _ _ _ (((KV.out _ (by assumption)).2.2.2.1)).at.a0 P7.out.a0 (((KV.out _ (by assumption)).2.2.2.1)).at.a1 P7.out.a1 (((KV.out _ (by assumption)).2.2.2.1)).at.a2 P7.out.a2 (((KV.out _ (by assumption)).2.2.2.1)).at.a3 P7.out.a3 (((KV.out _ (by assumption)).2.2.2.1)).at.a4 P7.out.a4 (((KV.out _ (by assumption)).2.2.2.1)).at.a5 P7.out.a5 (((KV.out _ (by assumption)).2.2.2.1)).at.a6 P7.out.a6 (((KV.out _ (by assumption)).2.2.2.1)).at.a7 P7.out.a7 HN0.out).mono ?_; rintro e z7 ⟨rfl, hb7⟩))
  obtain ⟨f0, f1, f2, f3, f4, f5, f6⟩ := KV.out z7 (by assumption)
  clear KT KC KV KP K0
  have HB_16 := hide f0
  have BA0_16 := hide f1
  have WO0_16 := hide f2
  have XC2_16 := hide f3
  have XS0_16 := hide f4
  have BX0_16 := hide f5
  have GO0_16 := hide f6
  clear f0 f1 f2 f3 f4 f5 f6
  have c_BA0_0 := Lib.cell_of_heap BA0_16.out 0
  simp at c_BA0_0
  have c_BA0_1 := Lib.cell_of_heap BA0_16.out 1
  simp at c_BA0_1
  have c_BA0_2 := Lib.cell_of_heap BA0_16.out 2
  simp at c_BA0_2
  have c_BA0_3 := Lib.cell_of_heap BA0_16.out 3
  simp at c_BA0_3
  have c_BA0_4 := Lib.cell_of_heap BA0_16.out 4
  simp at c_BA0_4
  have c_BA0_5 := Lib.cell_of_heap BA0_16.out 5
  simp at c_BA0_5
  have c_BA0_6 := Lib.cell_of_heap BA0_16.out 6
  simp at c_BA0_6
  have c_BA0_7 := Lib.cell_of_heap BA0_16.out 7
  simp at c_BA0_7
  have c_BA0_8 := Lib.cell_of_heap BA0_16.out 8
  simp at c_BA0_8
  have c_BX0_0 := Lib.cell_of_heap BX0_16.out 0
  simp at c_BX0_0
  have c_BX0_1 := Lib.cell_of_heap BX0_16.out 1
  simp at c_BX0_1
  have c_BX0_2 := Lib.cell_of_heap BX0_16.out 2
  simp at c_BX0_2
  have c_BX0_3 := Lib.cell_of_heap BX0_16.out 3
  simp at c_BX0_3
  have c_BX0_4 := Lib.cell_of_heap BX0_16.out 4
  simp at c_BX0_4
  have c_BX0_5 := Lib.cell_of_heap BX0_16.out 5
  simp at c_BX0_5
  have c_BX0_6 := Lib.cell_of_heap BX0_16.out 6
  simp at c_BX0_6
  have c_BX0_7 := Lib.cell_of_heap BX0_16.out 7
  simp at c_BX0_7
  have c_BX0_8 := Lib.cell_of_heap BX0_16.out 8
  simp at c_BX0_8
  go_wp2_with fail
  clear c_BA0_0 c_BA0_1 c_BA0_2 c_BA0_3 c_BA0_4 c_BA0_5 c_BA0_6 c_BA0_7 c_BA0_8 c_BX0_0 c_BX0_1 c_BX0_2 c_BX0_3 c_BX0_4 c_BX0_5 c_BX0_6 c_BX0_7 c_BX0_8
  refine (turnModel_any (B := z3.heap.size) (T := z4.heap.size) _ _ _ _ _ _ _ _ _ _ XS0_16.out.s0 XS0_16.out.s1 XS0_16.out.s2 XS0_16.out.s3 XS0_16.out.s4 XS0_16.out.s5 XS0_16.out.s6 XS0_16.out.s7 HN0.out.l0 HN0.out.l1 HN0.out.l2 HN0.out.l3 HN0.out.l4 HN0.out.l5 HN0.out.l6 HN0.out.l7 (by have := SZ1.out; have := SZ2.out; have := SZ3.out; have := SZ4.out; have := SZ5.out; have := SZ6.out; have := SZ7.out; have := SZ8.out; have := BX0_16.out.lt; omega) (by have := SZ1.out; have := SZ2.out; have := SZ3.out; have := SZ4.out; have := SZ5.out; have := SZ6.out; have := SZ7.out; have := SZ8.out; have := BX0_16.out.lt; omega) (by omega) (by omega)).mono ?_
  rintro e z8 ⟨kx0, rfl, hka0, hkb0, ht0⟩
  have HB_17 : Hid (Below w.heap.size w z8) := HB_16.out.trans (ht0.bel.mono (by have := SZ1.out; have := SZ2.out; have := SZ3.out; have := SZ4.out; have := SZ5.out; have := SZ6.out; have := SZ7.out; have := SZ8.out; omega))
  clear HB_16
  have BA0_17 : Hid (Box z8 (w.heap.size) #[.slice a0_0 x0.prog.nodes.length b0_0, .slice a0_1 x0.prog.mons.length b0_1, .slice a0_2 x0.prog.pros.length b0_2, .slice a0_3 x0.acts.length b0_3, .slice a0_4 x0.gates.length b0_4, .slice a0_5 x0.vars.length b0_5, .slice a0_6 x0.input.length b0_6, .slice a0_7 x0.events.length b0_7, .bool x0.stopped] 33) := (ht0.bel.block _ (by have := SZ1.out; have := SZ2.out; have := SZ3.out; have := SZ4.out; have := SZ5.out; have := SZ6.out; have := SZ7.out; have := SZ8.out; omega)).trans BA0_16.out
  clear BA0_16
  have WO0_17 : Hid (RiOwn z2.heap.size z8 (.slice pw0_0 (ableE x0).row.length qw0_0) (ableE x0)) := WO0_16.out.low ht0.bel (fun i hi => by have := WL0.out i hi; have := SZ1.out; have := SZ2.out; have := SZ3.out; have := SZ4.out; have := SZ5.out; have := SZ6.out; have := SZ7.out; have := SZ8.out; omega)
  clear WO0_16
  clear XC2_16
  clear XS0_16
  have BX0_17 : Hid (Box z8 z4.heap.size #[.slice o2_0 k2_0 c2_0, .slice o2_1 k2_1 c2_1, .slice o2_2 k2_2 c2_2, .slice o2_3 k2_3 c2_3, .slice o2_4 k2_4 c2_4, .slice o2_5 k2_5 c2_5, .slice o2_6 k2_6 c2_6, .slice o2_7 k2_7 c2_7, .bool x0.stopped] 46) := (ht0.out _ (by have := SZ1.out; have := SZ2.out; have := SZ3.out; have := SZ4.out; have := SZ5.out; have := SZ6.out; have := SZ7.out; have := SZ8.out; omega) BX0_16.out.lt).trans BX0_16.out
  clear BX0_16
  have GO0_17 : Hid (RiOwn y1.heap.size z8 (.slice pg0_0 (ableE x0).row.length qg0_0) (ableE x0)) := GO0_16.out.turn ht0 (by have := SZ1.out; have := SZ2.out; have := SZ3.out; have := SZ4.out; have := SZ5.out; have := SZ6.out; have := SZ7.out; have := SZ8.out; omega)
  clear GO0_16
  clear ht0
  have hkn0 : ¬ kx0 < 0 := by omega
  have c_BA0_0 := Lib.cell_of_heap BA0_17.out 0
  simp at c_BA0_0
  have c_BA0_1 := Lib.cell_of_heap BA0_17.out 1
  simp at c_BA0_1
  have c_BA0_2 := Lib.cell_of_heap BA0_17.out 2
  simp at c_BA0_2
  have c_BA0_3 := Lib.cell_of_heap BA0_17.out 3
  simp at c_BA0_3
  have c_BA0_4 := Lib.cell_of_heap BA0_17.out 4
  simp at c_BA0_4
  have c_BA0_5 := Lib.cell_of_heap BA0_17.out 5
  simp at c_BA0_5
  have c_BA0_6 := Lib.cell_of_heap BA0_17.out 6
  simp at c_BA0_6
  have c_BA0_7 := Lib.cell_of_heap BA0_17.out 7
  simp at c_BA0_7
  have c_BA0_8 := Lib.cell_of_heap BA0_17.out 8
  simp at c_BA0_8
  have c_BX0_0 := Lib.cell_of_heap BX0_17.out 0
  simp at c_BX0_0
  have c_BX0_1 := Lib.cell_of_heap BX0_17.out 1
  simp at c_BX0_1
  have c_BX0_2 := Lib.cell_of_heap BX0_17.out 2
  simp at c_BX0_2
  have c_BX0_3 := Lib.cell_of_heap BX0_17.out 3
  simp at c_BX0_3
  have c_BX0_4 := Lib.cell_of_heap BX0_17.out 4
  simp at c_BX0_4
  have c_BX0_5 := Lib.cell_of_heap BX0_17.out 5
  simp at c_BX0_5
  have c_BX0_6 := Lib.cell_of_heap BX0_17.out 6
  simp at c_BX0_6
  have c_BX0_7 := Lib.cell_of_heap BX0_17.out 7
  simp at c_BX0_7
  have c_BX0_8 := Lib.cell_of_heap BX0_17.out 8
  simp at c_BX0_8
  go_wp2_with fail
  clear c_BA0_0 c_BA0_1 c_BA0_2 c_BA0_3 c_BA0_4 c_BA0_5 c_BA0_6 c_BA0_7 c_BA0_8 c_BX0_0 c_BX0_1 c_BX0_2 c_BX0_3 c_BX0_4 c_BX0_5 c_BX0_6 c_BX0_7 c_BX0_8
  refine (eqIntSR_same (ableE x0) _ _ _ (GO0_17.out).at.a0 (WO0_17.out).at.a0 HL0.out.l0).mono ?_
  rintro e z9 ⟨rfl, hbe18⟩
  have SZ9 : Hid (z8.heap.size ≤ z9.heap.size) := hbe18.size
  have HB_19 := hide (HB_17.out.trans (hbe18.mono HB_17.out.size))
  clear HB_17
  have BA0_19 := hide (BA0_17.out.stays hbe18)
  clear BA0_17
  have WO0_19 := hide (WO0_17.out.stays hbe18)
  clear WO0_17
  have BX0_19 := hide (BX0_17.out.stays hbe18)
  clear BX0_17
  have GO0_19 := hide (GO0_17.out.stays hbe18)
  clear GO0_17
  clear hbe18
  have c_BA0_0 := Lib.cell_of_heap BA0_19.out 0
  simp at c_BA0_0
  have c_BA0_1 := Lib.cell_of_heap BA0_19.out 1
  simp at c_BA0_1
  have c_BA0_2 := Lib.cell_of_heap BA0_19.out 2
  simp at c_BA0_2
  have c_BA0_3 := Lib.cell_of_heap BA0_19.out 3
  simp at c_BA0_3
  have c_BA0_4 := Lib.cell_of_heap BA0_19.out 4
  simp at c_BA0_4
  have c_BA0_5 := Lib.cell_of_heap BA0_19.out 5
  simp at c_BA0_5
  have c_BA0_6 := Lib.cell_of_heap BA0_19.out 6
  simp at c_BA0_6
  have c_BA0_7 := Lib.cell_of_heap BA0_19.out 7
  simp at c_BA0_7
  have c_BA0_8 := Lib.cell_of_heap BA0_19.out 8
  simp at c_BA0_8
  have c_BX0_0 := Lib.cell_of_heap BX0_19.out 0
  simp at c_BX0_0
  have c_BX0_1 := Lib.cell_of_heap BX0_19.out 1
  simp at c_BX0_1
  have c_BX0_2 := Lib.cell_of_heap BX0_19.out 2
  simp at c_BX0_2
  have c_BX0_3 := Lib.cell_of_heap BX0_19.out 3
  simp at c_BX0_3
  have c_BX0_4 := Lib.cell_of_heap BX0_19.out 4
  simp at c_BX0_4
  have c_BX0_5 := Lib.cell_of_heap BX0_19.out 5
  simp at c_BX0_5
  have c_BX0_6 := Lib.cell_of_heap BX0_19.out 6
  simp at c_BX0_6
  have c_BX0_7 := Lib.cell_of_heap BX0_19.out 7
  simp at c_BX0_7
  have c_BX0_8 := Lib.cell_of_heap BX0_19.out 8
  simp at c_BX0_8
  go_wp2_with fail
  clear c_BA0_0 c_BA0_1 c_BA0_2 c_BA0_3 c_BA0_4 c_BA0_5 c_BA0_6 c_BA0_7 c_BA0_8 c_BX0_0 c_BX0_1 c_BX0_2 c_BX0_3 c_BX0_4 c_BX0_5 c_BX0_6 c_BX0_7 c_BX0_8
  refine (markIntSR_any _ (ableE x0) _ GO0_19.out _ rfl HL0.out.l0).mono ?_
  rintro e z10 ⟨rfl, hhd, hbm, hot⟩
  have HB_20 : Hid (Below w.heap.size w z10) := HB_19.out.trans (hbm.mono (by have := SZ1.out; have := SZ2.out; have := SZ3.out; have := SZ4.out; have := SZ5.out; have := SZ6.out; have := SZ7.out; have := SZ8.out; have := SZ9.out; omega))
  clear HB_19
  have BA0_20 : Hid (Box z10 (w.heap.size) #[.slice a0_0 x0.prog.nodes.length b0_0, .slice a0_1 x0.prog.mons.length b0_1, .slice a0_2 x0.prog.pros.length b0_2, .slice a0_3 x0.acts.length b0_3, .slice a0_4 x0.gates.length b0_4, .slice a0_5 x0.vars.length b0_5, .slice a0_6 x0.input.length b0_6, .slice a0_7 x0.events.length b0_7, .bool x0.stopped] 33) := (hbm.block _ (by have := SZ1.out; have := SZ2.out; have := SZ3.out; have := SZ4.out; have := SZ5.out; have := SZ6.out; have := SZ7.out; have := SZ8.out; have := SZ9.out; omega)).trans BA0_19.out
  clear BA0_19
  have WO0_20 : Hid (RiOwn z2.heap.size z10 (.slice pw0_0 (ableE x0).row.length qw0_0) (ableE x0)) := WO0_19.out.low hbm (fun i hi => by have := WL0.out i hi; have := SZ1.out; have := SZ2.out; have := SZ3.out; have := SZ4.out; have := SZ5.out; have := SZ6.out; have := SZ7.out; have := SZ8.out; have := SZ9.out; omega)
  clear WO0_19
  clear BX0_19
  clear GO0_19
  have GH_21 := hide (hhd)
  clear hbm hot hhd
  obtain ⟨tot, etot⟩ : ∃ tot : Int, ((1 + (ableE x0).row.length : Nat) : Int) = tot := ⟨_, rfl⟩
  have htot : ¬ tot < 0 := by omega
  have ETOT := hide etot
  rw [etot]
  clear etot
  have c_BA0_0 := Lib.cell_of_heap BA0_20.out 0
  simp at c_BA0_0
  have c_BA0_1 := Lib.cell_of_heap BA0_20.out 1
  simp at c_BA0_1
  have c_BA0_2 := Lib.cell_of_heap BA0_20.out 2
  simp at c_BA0_2
  have c_BA0_3 := Lib.cell_of_heap BA0_20.out 3
  simp at c_BA0_3
  have c_BA0_4 := Lib.cell_of_heap BA0_20.out 4
  simp at c_BA0_4
  have c_BA0_5 := Lib.cell_of_heap BA0_20.out 5
  simp at c_BA0_5
  have c_BA0_6 := Lib.cell_of_heap BA0_20.out 6
  simp at c_BA0_6
  have c_BA0_7 := Lib.cell_of_heap BA0_20.out 7
  simp at c_BA0_7
  have c_BA0_8 := Lib.cell_of_heap BA0_20.out 8
  simp at c_BA0_8
  go_wp2_with fail
  clear c_BA0_0 c_BA0_1 c_BA0_2 c_BA0_3 c_BA0_4 c_BA0_5 c_BA0_6 c_BA0_7 c_BA0_8
  refine (heldIntSR_any _ _ _ GH_21.out HL0.out.l0).mono ?_
  rintro e z11 ⟨rfl, hbh22⟩
  have HB_23 := hide (HB_20.out.trans (hbh22.mono HB_20.out.size))
  clear HB_20
  have BA0_23 := hide (BA0_20.out.stays hbh22)
  clear BA0_20
  have WO0_23 := hide (WO0_20.out.stays hbh22)
  clear WO0_20
  have GH_23 := hide (GH_21.out.stays hbh22)
  clear GH_21
  clear hbh22
  rw [ETOT.out]
  have c_BA0_0 := Lib.cell_of_heap BA0_23.out 0
  simp at c_BA0_0
  have c_BA0_1 := Lib.cell_of_heap BA0_23.out 1
  simp at c_BA0_1
  have c_BA0_2 := Lib.cell_of_heap BA0_23.out 2
  simp at c_BA0_2
  have c_BA0_3 := Lib.cell_of_heap BA0_23.out 3
  simp at c_BA0_3
  have c_BA0_4 := Lib.cell_of_heap BA0_23.out 4
  simp at c_BA0_4
  have c_BA0_5 := Lib.cell_of_heap BA0_23.out 5
  simp at c_BA0_5
  have c_BA0_6 := Lib.cell_of_heap BA0_23.out 6
  simp at c_BA0_6
  have c_BA0_7 := Lib.cell_of_heap BA0_23.out 7
  simp at c_BA0_7
  have c_BA0_8 := Lib.cell_of_heap BA0_23.out 8
  simp at c_BA0_8
  go_wp2_with fail
  clear c_BA0_0 c_BA0_1 c_BA0_2 c_BA0_3 c_BA0_4 c_BA0_5 c_BA0_6 c_BA0_7 c_BA0_8
  refine (toModel_any x0 _ _ _ _ _ _ _ _ _ (HW0.out.stays HB_23.out).a0 (HW0.out.stays HB_23.out).a1 (HW0.out.stays HB_23.out).a2 (HW0.out.stays HB_23.out).a3 (HW0.out.stays HB_23.out).a4 (HW0.out.stays HB_23.out).a5 (HW0.out.stays HB_23.out).a6 (HW0.out.stays HB_23.out).a7 HN0.out).mono ?_
  rintro e z12 ⟨o3_0, k3_0, c3_0, o3_1, k3_1, c3_1, o3_2, k3_2, c3_2, o3_3, k3_3, c3_3, o3_4, k3_4, c3_4, o3_5, k3_5, c3_5, o3_6, k3_6, c3_6, o3_7, k3_7, c3_7, rfl, hc3, hb3⟩
  have SZ10 : Hid (z11.heap.size ≤ z12.heap.size) := hb3.size
  have HB_24 := hide (HB_23.out.trans (hb3.mono HB_23.out.size))
  clear HB_23
  have BA0_24 := hide (BA0_23.out.stays hb3)
  clear BA0_23
  have WO0_24 := hide (WO0_23.out.stays hb3)
  clear WO0_23
  have GH_24 := hide (GH_23.out.stays hb3)
  clear GH_23
  have XC3_25 := hide (hc3)
  clear hc3 hb3
  go_wp2_with fail
  refine (HPI1.out _ _ _ _ _ _ _ _ _ _ XC3_25.out).mono ?_
  rintro e z13 ⟨h0_0, rfl, hoh0, hbh⟩
  have SZ11 : Hid (z12.heap.size ≤ z13.heap.size) := hbh.size
  have HB_26 := hide (HB_24.out.trans (hbh.mono HB_24.out.size))
  clear HB_24
  have BA0_26 := hide (BA0_24.out.stays hbh)
  clear BA0_24
  have WO0_26 := hide (WO0_24.out.stays hbh)
  clear WO0_24
  have GH_26 := hide (GH_24.out.stays hbh)
  clear GH_24
  have XC3_26 := hide (XC3_25.out.stays hbh)
  clear XC3_25
  obtain ⟨ph0_0, qh0_0, rfl⟩ := form_own hoh0.o0
  have HO0_27 := hide (hoh0)
  clear hoh0
  clear hbh
  clear XC3_26
  have c_BA0_0 := Lib.cell_of_heap BA0_26.out 0
  simp at c_BA0_0
  have c_BA0_1 := Lib.cell_of_heap BA0_26.out 1
  simp at c_BA0_1
  have c_BA0_2 := Lib.cell_of_heap BA0_26.out 2
  simp at c_BA0_2
  have c_BA0_3 := Lib.cell_of_heap BA0_26.out 3
  simp at c_BA0_3
  have c_BA0_4 := Lib.cell_of_heap BA0_26.out 4
  simp at c_BA0_4
  have c_BA0_5 := Lib.cell_of_heap BA0_26.out 5
  simp at c_BA0_5
  have c_BA0_6 := Lib.cell_of_heap BA0_26.out 6
  simp at c_BA0_6
  have c_BA0_7 := Lib.cell_of_heap BA0_26.out 7
  simp at c_BA0_7
  have c_BA0_8 := Lib.cell_of_heap BA0_26.out 8
  simp at c_BA0_8
  go_wp2_with fail
  clear c_BA0_0 c_BA0_1 c_BA0_2 c_BA0_3 c_BA0_4 c_BA0_5 c_BA0_6 c_BA0_7 c_BA0_8
  refine (eqIntSR_same (ableE x0) _ _ _ (HO0_27.out).at.a0 (WO0_26.out).at.a0 HL0.out.l0).mono ?_
  rintro e z14 ⟨rfl, hbe28⟩
  have SZ12 : Hid (z13.heap.size ≤ z14.heap.size) := hbe28.size
  have HB_29 := hide (HB_26.out.trans (hbe28.mono HB_26.out.size))
  clear HB_26
  have BA0_29 := hide (BA0_26.out.stays hbe28)
  clear BA0_26
  have WO0_29 := hide (WO0_26.out.stays hbe28)
  clear WO0_26
  have GH_29 := hide (GH_26.out.stays hbe28)
  clear GH_26
  have HO0_29 := hide (HO0_27.out.stays hbe28)
  clear HO0_27
  clear hbe28
  have c_BA0_0 := Lib.cell_of_heap BA0_29.out 0
  simp at c_BA0_0
  have c_BA0_1 := Lib.cell_of_heap BA0_29.out 1
  simp at c_BA0_1
  have c_BA0_2 := Lib.cell_of_heap BA0_29.out 2
  simp at c_BA0_2
  have c_BA0_3 := Lib.cell_of_heap BA0_29.out 3
  simp at c_BA0_3
  have c_BA0_4 := Lib.cell_of_heap BA0_29.out 4
  simp at c_BA0_4
  have c_BA0_5 := Lib.cell_of_heap BA0_29.out 5
  simp at c_BA0_5
  have c_BA0_6 := Lib.cell_of_heap BA0_29.out 6
  simp at c_BA0_6
  have c_BA0_7 := Lib.cell_of_heap BA0_29.out 7
  simp at c_BA0_7
  have c_BA0_8 := Lib.cell_of_heap BA0_29.out 8
  simp at c_BA0_8
  clear c_BA0_0 c_BA0_1 c_BA0_2 c_BA0_3 c_BA0_4 c_BA0_5 c_BA0_6 c_BA0_7 c_BA0_8
  have c_BA0_0 := Lib.cell_of_heap BA0_29.out 0
  simp at c_BA0_0
  have c_BA0_1 := Lib.cell_of_heap BA0_29.out 1
  simp at c_BA0_1
  have c_BA0_2 := Lib.cell_of_heap BA0_29.out 2
  simp at c_BA0_2
  have c_BA0_3 := Lib.cell_of_heap BA0_29.out 3
  simp at c_BA0_3
  have c_BA0_4 := Lib.cell_of_heap BA0_29.out 4
  simp at c_BA0_4
  have c_BA0_5 := Lib.cell_of_heap BA0_29.out 5
  simp at c_BA0_5
  have c_BA0_6 := Lib.cell_of_heap BA0_29.out 6
  simp at c_BA0_6
  have c_BA0_7 := Lib.cell_of_heap BA0_29.out 7
  simp at c_BA0_7
  have c_BA0_8 := Lib.cell_of_heap BA0_29.out 8
  simp at c_BA0_8
  go_wp2_with fail
  clear c_BA0_0 c_BA0_1 c_BA0_2 c_BA0_3 c_BA0_4 c_BA0_5 c_BA0_6 c_BA0_7 c_BA0_8
  refine (heldIntSR_any _ _ _ GH_29.out HL0.out.l0).mono ?_
  rintro e z15 ⟨rfl, hbh30⟩
  have HB_31 := hide (HB_29.out.trans (hbh30.mono HB_29.out.size))
  clear HB_29
  have BA0_31 := hide (BA0_29.out.stays hbh30)
  clear BA0_29
  have WO0_31 := hide (WO0_29.out.stays hbh30)
  clear WO0_29
  have GH_31 := hide (GH_29.out.stays hbh30)
  clear GH_29
  have HO0_31 := hide (HO0_29.out.stays hbh30)
  clear HO0_29
  clear hbh30
  rw [ETOT.out]
  go_wp2
  go_ret
  exact ⟨rfl, HB_31.out⟩
end Go.Proofs.Ytkoelibclihekaa
