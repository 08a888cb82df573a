/-
  The law of VerdictOf, over what both sides answer.
-/
import Derived.Test.YtkoelibclihekaaMdlE
import Derived.Test.YtkoelibclihekaaMdlT
import Derived.Test.YtkoelibclihekaaMdlS
import Derived.Test.YtkoelibclihekaaMdlV
import Derived.Deep.RegionHeld3
import Derived.Deep.Cut
namespace Go.Proofs.Ytkoelibclihekaa
open Go.RowKit

set_option maxRecDepth 100000 in
set_option maxHeartbeats 8000000 in
theorem lawVerdictOf (v0_0 v0_1 v0_2 v0_3 v0_4 v0_5 v0_6 v0_7 : Value) (x0 : Md) (w : World) (h0 : MdAt w v0_0 v0_1 v0_2 v0_3 v0_4 v0_5 v0_6 v0_7 x0) (m0 : MdMax x0)
    (SP : szMd x0 ≤ 1048576 → ∀ (v0_0 v0_1 v0_2 v0_3 v0_4 v0_5 v0_6 v0_7 : Value) (z : World) (b0 : Nat), MdC b0 z [v0_0, v0_1, v0_2, v0_3, v0_4, v0_5, v0_6, v0_7, .bool x0.stopped] x0 → Calls Try.prog 14 #[.agg #[v0_0, v0_1, v0_2, v0_3, v0_4, v0_5, v0_6, v0_7, .bool x0.stopped]] z fun e w' => e = .returned (.int .i64 (verdictE x0)) ∧ Below z.heap.size z w')
    (IP : szMd x0 ≤ 1048576 → ∀ (v0_0 v0_1 v0_2 v0_3 v0_4 v0_5 v0_6 v0_7 : Value) (z : World) (b0 : Nat), MdC b0 z [v0_0, v0_1, v0_2, v0_3, v0_4, v0_5, v0_6, v0_7, .bool x0.stopped] x0 → Calls Try.prog 15 #[.agg #[v0_0, v0_1, v0_2, v0_3, v0_4, v0_5, v0_6, v0_7, .bool x0.stopped]] z fun e w' => e = .returned (.int .i64 (verdictE x0)) ∧ Below z.heap.size z w') :
    Calls Try.prog 4 #[.agg #[v0_0, v0_1, v0_2, v0_3, v0_4, v0_5, v0_6, v0_7, .bool x0.stopped]] w fun e w' => e = .returned (.bool true) ∧ Below w.heap.size w w' := by
  have HPS := hide SP
  have HPI := hide IP
  clear SP IP
  have HW0 := hide h0
  have HM0 := hide m0
  have HB : Hid (Below w.heap.size w (w.alloc (.cells #[v0_0, v0_1, v0_2, v0_3, v0_4, v0_5, v0_6, v0_7, .bool x0.stopped] 33))) := by show Below w.heap.size w _; go_grown
  have BA0 := hide (Box.madeAt (g := w.heap.size) (w := w) (by simp) #[v0_0, v0_1, v0_2, v0_3, v0_4, v0_5, v0_6, v0_7, .bool x0.stopped] 33)
  obtain ⟨⟨a0_0, b0_0, rfl, _⟩, ⟨a0_1, b0_1, rfl, _⟩, ⟨a0_2, b0_2, rfl, _⟩, ⟨a0_3, b0_3, rfl, _⟩, ⟨a0_4, b0_4, rfl, _⟩, ⟨a0_5, b0_5, rfl, _⟩, ⟨a0_6, b0_6, rfl, _⟩, ⟨a0_7, b0_7, rfl, _⟩⟩ := h0
  clear m0
  have SZ1 : Hid ((w.alloc (.cells #[.slice a0_0 x0.prog.nodes.length b0_0, .slice a0_1 x0.prog.mons.length b0_1, .slice a0_2 x0.prog.pros.length b0_2, .slice a0_3 x0.acts.length b0_3, .slice a0_4 x0.gates.length b0_4, .slice a0_5 x0.vars.length b0_5, .slice a0_6 x0.input.length b0_6, .slice a0_7 x0.events.length b0_7, .bool x0.stopped] 33)).heap.size = w.heap.size + 1) := by show _ = _; simp
  go_enter Try.func4, Try.ntmps4
  have c_BA0_0 := Lib.cell_of_heap BA0.out 0
  simp at c_BA0_0
  have c_BA0_1 := Lib.cell_of_heap BA0.out 1
  simp at c_BA0_1
  have c_BA0_2 := Lib.cell_of_heap BA0.out 2
  simp at c_BA0_2
  have c_BA0_3 := Lib.cell_of_heap BA0.out 3
  simp at c_BA0_3
  have c_BA0_4 := Lib.cell_of_heap BA0.out 4
  simp at c_BA0_4
  have c_BA0_5 := Lib.cell_of_heap BA0.out 5
  simp at c_BA0_5
  have c_BA0_6 := Lib.cell_of_heap BA0.out 6
  simp at c_BA0_6
  have c_BA0_7 := Lib.cell_of_heap BA0.out 7
  simp at c_BA0_7
  have c_BA0_8 := Lib.cell_of_heap BA0.out 8
  simp at c_BA0_8
  go_wp2_with fail
  clear c_BA0_0 c_BA0_1 c_BA0_2 c_BA0_3 c_BA0_4 c_BA0_5 c_BA0_6 c_BA0_7 c_BA0_8
  obtain ⟨y0, hy0⟩ : ∃ Z, w.alloc (.cells #[.slice a0_0 x0.prog.nodes.length b0_0, .slice a0_1 x0.prog.mons.length b0_1, .slice a0_2 x0.prog.pros.length b0_2, .slice a0_3 x0.acts.length b0_3, .slice a0_4 x0.gates.length b0_4, .slice a0_5 x0.vars.length b0_5, .slice a0_6 x0.input.length b0_6, .slice a0_7 x0.events.length b0_7, .bool x0.stopped] 33) = Z := ⟨_, rfl⟩
  rw [hy0] at HB BA0 SZ1 ⊢
  clear hy0
  refine (szModel_any x0 _ _ _ _ _ _ _ _ _ _ (by omega) (by omega) (HW0.out.stays HB.out).a0 (HW0.out.stays HB.out).a1 (HW0.out.stays HB.out).a2 (HW0.out.stays HB.out).a3 (HW0.out.stays HB.out).a4 (HW0.out.stays HB.out).a5 (HW0.out.stays HB.out).a6 (HW0.out.stays HB.out).a7 HM0.out).mono ?_
  rintro e z1 ⟨r0, rfl, hr0, hb0⟩
  have SZ2 : Hid (y0.heap.size ≤ z1.heap.size) := hb0.size
  have HB_1 := hide (HB.out.trans (hb0.mono HB.out.size))
  clear HB
  have BA0_1 := hide (BA0.out.stays hb0)
  clear BA0
  clear hb0
  have c_BA0_0 := Lib.cell_of_heap BA0_1.out 0
  simp at c_BA0_0
  have c_BA0_1 := Lib.cell_of_heap BA0_1.out 1
  simp at c_BA0_1
  have c_BA0_2 := Lib.cell_of_heap BA0_1.out 2
  simp at c_BA0_2
  have c_BA0_3 := Lib.cell_of_heap BA0_1.out 3
  simp at c_BA0_3
  have c_BA0_4 := Lib.cell_of_heap BA0_1.out 4
  simp at c_BA0_4
  have c_BA0_5 := Lib.cell_of_heap BA0_1.out 5
  simp at c_BA0_5
  have c_BA0_6 := Lib.cell_of_heap BA0_1.out 6
  simp at c_BA0_6
  have c_BA0_7 := Lib.cell_of_heap BA0_1.out 7
  simp at c_BA0_7
  have c_BA0_8 := Lib.cell_of_heap BA0_1.out 8
  simp at c_BA0_8
  by_cases hn0 : r0 < 0
  · clear hr0
    go_wp2
    go_ret
    exact ⟨rfl, HB_1.out⟩
  obtain ⟨hp0, hq0⟩ := hr0.resolve_left hn0
  have HQ0 := hide hq0
  have hq0b : r0 ≤ 1048576 := by omega
  clear hq0 hr0
  have HSZ : Hid (szMd x0 ≤ 1048576) := by
    show _ ≤ _
    have := HQ0.out
    omega
  have HPS1 := hide (HPS.out HSZ.out)
  have HPI1 := hide (HPI.out HSZ.out)
  have HN0 : Hid (MdLen x0) := szMd_len (by have := HSZ.out; omega)
  go_wp2_with fail
  clear c_BA0_0 c_BA0_1 c_BA0_2 c_BA0_3 c_BA0_4 c_BA0_5 c_BA0_6 c_BA0_7 c_BA0_8
  refine (toModel_any x0 _ _ _ _ _ _ _ _ _ (HW0.out.stays HB_1.out).a0 (HW0.out.stays HB_1.out).a1 (HW0.out.stays HB_1.out).a2 (HW0.out.stays HB_1.out).a3 (HW0.out.stays HB_1.out).a4 (HW0.out.stays HB_1.out).a5 (HW0.out.stays HB_1.out).a6 (HW0.out.stays HB_1.out).a7 HN0.out).mono ?_
  rintro e z2 ⟨o1_0, k1_0, c1_0, o1_1, k1_1, c1_1, o1_2, k1_2, c1_2, o1_3, k1_3, c1_3, o1_4, k1_4, c1_4, o1_5, k1_5, c1_5, o1_6, k1_6, c1_6, o1_7, k1_7, c1_7, rfl, hc1, hb1⟩
  have SZ3 : Hid (z1.heap.size ≤ z2.heap.size) := hb1.size
  have HB_2 := hide (HB_1.out.trans (hb1.mono HB_1.out.size))
  clear HB_1
  have BA0_2 := hide (BA0_1.out.stays hb1)
  clear BA0_1
  have XC1_3 := hide (hc1)
  clear hc1 hb1
  go_wp2_with fail
  refine (HPS1.out _ _ _ _ _ _ _ _ _ _ XC1_3.out).mono ?_
  rintro e z3 ⟨rfl, hbw⟩
  have SZ4 : Hid (z2.heap.size ≤ z3.heap.size) := hbw.size
  have HB_4 := hide (HB_2.out.trans (hbw.mono HB_2.out.size))
  clear HB_2
  have BA0_4 := hide (BA0_2.out.stays hbw)
  clear BA0_2
  have XC1_4 := hide (XC1_3.out.stays hbw)
  clear XC1_3
  clear hbw
  clear XC1_4
  have c_BA0_0 := Lib.cell_of_heap BA0_4.out 0
  simp at c_BA0_0
  have c_BA0_1 := Lib.cell_of_heap BA0_4.out 1
  simp at c_BA0_1
  have c_BA0_2 := Lib.cell_of_heap BA0_4.out 2
  simp at c_BA0_2
  have c_BA0_3 := Lib.cell_of_heap BA0_4.out 3
  simp at c_BA0_3
  have c_BA0_4 := Lib.cell_of_heap BA0_4.out 4
  simp at c_BA0_4
  have c_BA0_5 := Lib.cell_of_heap BA0_4.out 5
  simp at c_BA0_5
  have c_BA0_6 := Lib.cell_of_heap BA0_4.out 6
  simp at c_BA0_6
  have c_BA0_7 := Lib.cell_of_heap BA0_4.out 7
  simp at c_BA0_7
  have c_BA0_8 := Lib.cell_of_heap BA0_4.out 8
  simp at c_BA0_8
  go_wp2_with fail
  clear c_BA0_0 c_BA0_1 c_BA0_2 c_BA0_3 c_BA0_4 c_BA0_5 c_BA0_6 c_BA0_7 c_BA0_8
  refine (toModel_any x0 _ _ _ _ _ _ _ _ _ (HW0.out.stays HB_4.out).a0 (HW0.out.stays HB_4.out).a1 (HW0.out.stays HB_4.out).a2 (HW0.out.stays HB_4.out).a3 (HW0.out.stays HB_4.out).a4 (HW0.out.stays HB_4.out).a5 (HW0.out.stays HB_4.out).a6 (HW0.out.stays HB_4.out).a7 HN0.out).mono ?_
  rintro e z4 ⟨o2_0, k2_0, c2_0, o2_1, k2_1, c2_1, o2_2, k2_2, c2_2, o2_3, k2_3, c2_3, o2_4, k2_4, c2_4, o2_5, k2_5, c2_5, o2_6, k2_6, c2_6, o2_7, k2_7, c2_7, rfl, hc2, hb2⟩
  have SZ5 : Hid (z3.heap.size ≤ z4.heap.size) := hb2.size
  have HB_5 := hide (HB_4.out.trans (hb2.mono HB_4.out.size))
  clear HB_4
  have BA0_5 := hide (BA0_4.out.stays hb2)
  clear BA0_4
  have XC2_6 := hide (hc2)
  clear hc2 hb2
  have XS0_7 := hide (XC2_6.out.sh (T := z4.heap.size) (Nat.le_refl _) HN0.out)
  have hba8 : Below z4.heap.size z4 (z4.alloc (.cells #[.slice o2_0 k2_0 c2_0, .slice o2_1 k2_1 c2_1, .slice o2_2 k2_2 c2_2, .slice o2_3 k2_3 c2_3, .slice o2_4 k2_4 c2_4, .slice o2_5 k2_5 c2_5, .slice o2_6 k2_6 c2_6, .slice o2_7 k2_7 c2_7, .bool x0.stopped] 46)) := (Below.refl _ _).alloc (Nat.le_refl _) _
  have SZ6 : Hid ((z4.alloc (.cells #[.slice o2_0 k2_0 c2_0, .slice o2_1 k2_1 c2_1, .slice o2_2 k2_2 c2_2, .slice o2_3 k2_3 c2_3, .slice o2_4 k2_4 c2_4, .slice o2_5 k2_5 c2_5, .slice o2_6 k2_6 c2_6, .slice o2_7 k2_7 c2_7, .bool x0.stopped] 46)).heap.size = z4.heap.size + 1) := by show _ = _; simp
  have HB_9 := hide (HB_5.out.trans (hba8.mono HB_5.out.size))
  clear HB_5
  have BA0_9 := hide (BA0_5.out.stays hba8)
  clear BA0_5
  have XC2_9 := hide (XC2_6.out.stays hba8)
  clear XC2_6
  have XS0_9 := hide (XS0_7.out.stays hba8)
  clear XS0_7
  have BX0_10 := hide (Box.made z4 #[.slice o2_0 k2_0 c2_0, .slice o2_1 k2_1 c2_1, .slice o2_2 k2_2 c2_2, .slice o2_3 k2_3 c2_3, .slice o2_4 k2_4 c2_4, .slice o2_5 k2_5 c2_5, .slice o2_6 k2_6 c2_6, .slice o2_7 k2_7 c2_7, .bool x0.stopped] 46)
  clear hba8
  have c_BA0_0 := Lib.cell_of_heap BA0_9.out 0
  simp at c_BA0_0
  have c_BA0_1 := Lib.cell_of_heap BA0_9.out 1
  simp at c_BA0_1
  have c_BA0_2 := Lib.cell_of_heap BA0_9.out 2
  simp at c_BA0_2
  have c_BA0_3 := Lib.cell_of_heap BA0_9.out 3
  simp at c_BA0_3
  have c_BA0_4 := Lib.cell_of_heap BA0_9.out 4
  simp at c_BA0_4
  have c_BA0_5 := Lib.cell_of_heap BA0_9.out 5
  simp at c_BA0_5
  have c_BA0_6 := Lib.cell_of_heap BA0_9.out 6
  simp at c_BA0_6
  have c_BA0_7 := Lib.cell_of_heap BA0_9.out 7
  simp at c_BA0_7
  have c_BA0_8 := Lib.cell_of_heap BA0_9.out 8
  simp at c_BA0_8
  have c_BX0_0 := Lib.cell_of_heap BX0_10.out 0
  simp at c_BX0_0
  have c_BX0_1 := Lib.cell_of_heap BX0_10.out 1
  simp at c_BX0_1
  have c_BX0_2 := Lib.cell_of_heap BX0_10.out 2
  simp at c_BX0_2
  have c_BX0_3 := Lib.cell_of_heap BX0_10.out 3
  simp at c_BX0_3
  have c_BX0_4 := Lib.cell_of_heap BX0_10.out 4
  simp at c_BX0_4
  have c_BX0_5 := Lib.cell_of_heap BX0_10.out 5
  simp at c_BX0_5
  have c_BX0_6 := Lib.cell_of_heap BX0_10.out 6
  simp at c_BX0_6
  have c_BX0_7 := Lib.cell_of_heap BX0_10.out 7
  simp at c_BX0_7
  have c_BX0_8 := Lib.cell_of_heap BX0_10.out 8
  simp at c_BX0_8
  go_wp2_with fail
  clear c_BA0_0 c_BA0_1 c_BA0_2 c_BA0_3 c_BA0_4 c_BA0_5 c_BA0_6 c_BA0_7 c_BA0_8 c_BX0_0 c_BX0_1 c_BX0_2 c_BX0_3 c_BX0_4 c_BX0_5 c_BX0_6 c_BX0_7 c_BX0_8
  obtain ⟨y1, hy1⟩ : ∃ Z, z4.alloc (.cells #[.slice o2_0 k2_0 c2_0, .slice o2_1 k2_1 c2_1, .slice o2_2 k2_2 c2_2, .slice o2_3 k2_3 c2_3, .slice o2_4 k2_4 c2_4, .slice o2_5 k2_5 c2_5, .slice o2_6 k2_6 c2_6, .slice o2_7 k2_7 c2_7, .bool x0.stopped] 46) = Z := ⟨_, rfl⟩
  rw [hy1] at HB_9 BA0_9 XC2_9 XS0_9 BX0_10 SZ6 ⊢
  clear hy1
  refine (HPI1.out _ _ _ _ _ _ _ _ _ _ XC2_9.out).mono ?_
  rintro e z5 ⟨rfl, hbg⟩
  have SZ7 : Hid (y1.heap.size ≤ z5.heap.size) := hbg.size
  have HB_11 := hide (HB_9.out.trans (hbg.mono HB_9.out.size))
  clear HB_9
  have BA0_11 := hide (BA0_9.out.stays hbg)
  clear BA0_9
  have XC2_11 := hide (XC2_9.out.stays hbg)
  clear XC2_9
  have XS0_11 := hide (XS0_9.out.stays hbg)
  clear XS0_9
  have BX0_11 := hide (BX0_10.out.stays hbg)
  clear BX0_10
  clear hbg
  have c_BA0_0 := Lib.cell_of_heap BA0_11.out 0
  simp at c_BA0_0
  have c_BA0_1 := Lib.cell_of_heap BA0_11.out 1
  simp at c_BA0_1
  have c_BA0_2 := Lib.cell_of_heap BA0_11.out 2
  simp at c_BA0_2
  have c_BA0_3 := Lib.cell_of_heap BA0_11.out 3
  simp at c_BA0_3
  have c_BA0_4 := Lib.cell_of_heap BA0_11.out 4
  simp at c_BA0_4
  have c_BA0_5 := Lib.cell_of_heap BA0_11.out 5
  simp at c_BA0_5
  have c_BA0_6 := Lib.cell_of_heap BA0_11.out 6
  simp at c_BA0_6
  have c_BA0_7 := Lib.cell_of_heap BA0_11.out 7
  simp at c_BA0_7
  have c_BA0_8 := Lib.cell_of_heap BA0_11.out 8
  simp at c_BA0_8
  have c_BX0_0 := Lib.cell_of_heap BX0_11.out 0
  simp at c_BX0_0
  have c_BX0_1 := Lib.cell_of_heap BX0_11.out 1
  simp at c_BX0_1
  have c_BX0_2 := Lib.cell_of_heap BX0_11.out 2
  simp at c_BX0_2
  have c_BX0_3 := Lib.cell_of_heap BX0_11.out 3
  simp at c_BX0_3
  have c_BX0_4 := Lib.cell_of_heap BX0_11.out 4
  simp at c_BX0_4
  have c_BX0_5 := Lib.cell_of_heap BX0_11.out 5
  simp at c_BX0_5
  have c_BX0_6 := Lib.cell_of_heap BX0_11.out 6
  simp at c_BX0_6
  have c_BX0_7 := Lib.cell_of_heap BX0_11.out 7
  simp at c_BX0_7
  have c_BX0_8 := Lib.cell_of_heap BX0_11.out 8
  simp at c_BX0_8
  go_wp2_with fail
  clear c_BA0_0 c_BA0_1 c_BA0_2 c_BA0_3 c_BA0_4 c_BA0_5 c_BA0_6 c_BA0_7 c_BA0_8 c_BX0_0 c_BX0_1 c_BX0_2 c_BX0_3 c_BX0_4 c_BX0_5 c_BX0_6 c_BX0_7 c_BX0_8
  have KT : Hid (∀ z z' : World, (Below w.heap.size w z ∧ Box z (w.heap.size) #[.slice a0_0 x0.prog.nodes.length b0_0, .slice a0_1 x0.prog.mons.length b0_1, .slice a0_2 x0.prog.pros.length b0_2, .slice a0_3 x0.acts.length b0_3, .slice a0_4 x0.gates.length b0_4, .slice a0_5 x0.vars.length b0_5, .slice a0_6 x0.input.length b0_6, .slice a0_7 x0.events.length b0_7, .bool x0.stopped] 33 ∧ MdC z3.heap.size z [.slice o2_0 k2_0 c2_0, .slice o2_1 k2_1 c2_1, .slice o2_2 k2_2 c2_2, .slice o2_3 k2_3 c2_3, .slice o2_4 k2_4 c2_4, .slice o2_5 k2_5 c2_5, .slice o2_6 k2_6 c2_6, .slice o2_7 k2_7 c2_7, .bool x0.stopped] x0 ∧ MdSh z3.heap.size z4.heap.size z (.slice o2_0 k2_0 c2_0) (.slice o2_1 k2_1 c2_1) (.slice o2_2 k2_2 c2_2) (.slice o2_3 k2_3 c2_3) (.slice o2_4 k2_4 c2_4) (.slice o2_5 k2_5 c2_5) (.slice o2_6 k2_6 c2_6) (.slice o2_7 k2_7 c2_7) x0 ∧ Box z z4.heap.size #[.slice o2_0 k2_0 c2_0, .slice o2_1 k2_1 c2_1, .slice o2_2 k2_2 c2_2, .slice o2_3 k2_3 c2_3, .slice o2_4 k2_4 c2_4, .slice o2_5 k2_5 c2_5, .slice o2_6 k2_6 c2_6, .slice o2_7 k2_7 c2_7, .bool x0.stopped] 46) → Below z.heap.size z z' → (Below w.heap.size w z' ∧ Box z' (w.heap.size) #[.slice a0_0 x0.prog.nodes.length b0_0, .slice a0_1 x0.prog.mons.length b0_1, .slice a0_2 x0.prog.pros.length b0_2, .slice a0_3 x0.acts.length b0_3, .slice a0_4 x0.gates.length b0_4, .slice a0_5 x0.vars.length b0_5, .slice a0_6 x0.input.length b0_6, .slice a0_7 x0.events.length b0_7, .bool x0.stopped] 33 ∧ MdC z3.heap.size z' [.slice o2_0 k2_0 c2_0, .slice o2_1 k2_1 c2_1, .slice o2_2 k2_2 c2_2, .slice o2_3 k2_3 c2_3, .slice o2_4 k2_4 c2_4, .slice o2_5 k2_5 c2_5, .slice o2_6 k2_6 c2_6, .slice o2_7 k2_7 c2_7, .bool x0.stopped] x0 ∧ MdSh z3.heap.size z4.heap.size z' (.slice o2_0 k2_0 c2_0) (.slice o2_1 k2_1 c2_1) (.slice o2_2 k2_2 c2_2) (.slice o2_3 k2_3 c2_3) (.slice o2_4 k2_4 c2_4) (.slice o2_5 k2_5 c2_5) (.slice o2_6 k2_6 c2_6) (.slice o2_7 k2_7 c2_7) x0 ∧ Box z' z4.heap.size #[.slice o2_0 k2_0 c2_0, .slice o2_1 k2_1 c2_1, .slice o2_2 k2_2 c2_2, .slice o2_3 k2_3 c2_3, .slice o2_4 k2_4 c2_4, .slice o2_5 k2_5 c2_5, .slice o2_6 k2_6 c2_6, .slice o2_7 k2_7 c2_7, .bool x0.stopped] 46)) := fun z z' hz hb => ⟨(hz.1).trans (hb.mono (hz.1).size), (hz.2.1).stays hb, (hz.2.2.1).stays hb, (hz.2.2.2.1).stays hb, (hz.2.2.2.2).stays hb⟩
  have KC : Hid (∀ z : World, (Below w.heap.size w z ∧ Box z (w.heap.size) #[.slice a0_0 x0.prog.nodes.length b0_0, .slice a0_1 x0.prog.mons.length b0_1, .slice a0_2 x0.prog.pros.length b0_2, .slice a0_3 x0.acts.length b0_3, .slice a0_4 x0.gates.length b0_4, .slice a0_5 x0.vars.length b0_5, .slice a0_6 x0.input.length b0_6, .slice a0_7 x0.events.length b0_7, .bool x0.stopped] 33 ∧ MdC z3.heap.size z [.slice o2_0 k2_0 c2_0, .slice o2_1 k2_1 c2_1, .slice o2_2 k2_2 c2_2, .slice o2_3 k2_3 c2_3, .slice o2_4 k2_4 c2_4, .slice o2_5 k2_5 c2_5, .slice o2_6 k2_6 c2_6, .slice o2_7 k2_7 c2_7, .bool x0.stopped] x0 ∧ MdSh z3.heap.size z4.heap.size z (.slice o2_0 k2_0 c2_0) (.slice o2_1 k2_1 c2_1) (.slice o2_2 k2_2 c2_2) (.slice o2_3 k2_3 c2_3) (.slice o2_4 k2_4 c2_4) (.slice o2_5 k2_5 c2_5) (.slice o2_6 k2_6 c2_6) (.slice o2_7 k2_7 c2_7) x0 ∧ Box z z4.heap.size #[.slice o2_0 k2_0 c2_0, .slice o2_1 k2_1 c2_1, .slice o2_2 k2_2 c2_2, .slice o2_3 k2_3 c2_3, .slice o2_4 k2_4 c2_4, .slice o2_5 k2_5 c2_5, .slice o2_6 k2_6 c2_6, .slice o2_7 k2_7 c2_7, .bool x0.stopped] 46) → (z.cell? ⟨(w.heap.size), 0, none⟩ = some (.slice a0_0 x0.prog.nodes.length b0_0) ∧ z.cell? ⟨(w.heap.size), 1, none⟩ = some (.slice a0_1 x0.prog.mons.length b0_1) ∧ z.cell? ⟨(w.heap.size), 2, none⟩ = some (.slice a0_2 x0.prog.pros.length b0_2) ∧ z.cell? ⟨(w.heap.size), 3, none⟩ = some (.slice a0_3 x0.acts.length b0_3) ∧ z.cell? ⟨(w.heap.size), 4, none⟩ = some (.slice a0_4 x0.gates.length b0_4) ∧ z.cell? ⟨(w.heap.size), 5, none⟩ = some (.slice a0_5 x0.vars.length b0_5) ∧ z.cell? ⟨(w.heap.size), 6, none⟩ = some (.slice a0_6 x0.input.length b0_6) ∧ z.cell? ⟨(w.heap.size), 7, none⟩ = some (.slice a0_7 x0.events.length b0_7) ∧ z.cell? ⟨(w.heap.size), 8, none⟩ = some (.bool x0.stopped) ∧ z.cell? ⟨z4.heap.size, 0, none⟩ = some (.slice o2_0 k2_0 c2_0) ∧ z.cell? ⟨z4.heap.size, 1, none⟩ = some (.slice o2_1 k2_1 c2_1) ∧ z.cell? ⟨z4.heap.size, 2, none⟩ = some (.slice o2_2 k2_2 c2_2) ∧ z.cell? ⟨z4.heap.size, 3, none⟩ = some (.slice o2_3 k2_3 c2_3) ∧ z.cell? ⟨z4.heap.size, 4, none⟩ = some (.slice o2_4 k2_4 c2_4) ∧ z.cell? ⟨z4.heap.size, 5, none⟩ = some (.slice o2_5 k2_5 c2_5) ∧ z.cell? ⟨z4.heap.size, 6, none⟩ = some (.slice o2_6 k2_6 c2_6) ∧ z.cell? ⟨z4.heap.size, 7, none⟩ = some (.slice o2_7 k2_7 c2_7) ∧ z.cell? ⟨z4.heap.size, 8, none⟩ = some (.bool x0.stopped) ∧ Hid ((Below w.heap.size w z ∧ Box z (w.heap.size) #[.slice a0_0 x0.prog.nodes.length b0_0, .slice a0_1 x0.prog.mons.length b0_1, .slice a0_2 x0.prog.pros.length b0_2, .slice a0_3 x0.acts.length b0_3, .slice a0_4 x0.gates.length b0_4, .slice a0_5 x0.vars.length b0_5, .slice a0_6 x0.input.length b0_6, .slice a0_7 x0.events.length b0_7, .bool x0.stopped] 33 ∧ MdC z3.heap.size z [.slice o2_0 k2_0 c2_0, .slice o2_1 k2_1 c2_1, .slice o2_2 k2_2 c2_2, .slice o2_3 k2_3 c2_3, .slice o2_4 k2_4 c2_4, .slice o2_5 k2_5 c2_5, .slice o2_6 k2_6 c2_6, .slice o2_7 k2_7 c2_7, .bool x0.stopped] x0 ∧ MdSh z3.heap.size z4.heap.size z (.slice o2_0 k2_0 c2_0) (.slice o2_1 k2_1 c2_1) (.slice o2_2 k2_2 c2_2) (.slice o2_3 k2_3 c2_3) (.slice o2_4 k2_4 c2_4) (.slice o2_5 k2_5 c2_5) (.slice o2_6 k2_6 c2_6) (.slice o2_7 k2_7 c2_7) x0 ∧ Box z z4.heap.size #[.slice o2_0 k2_0 c2_0, .slice o2_1 k2_1 c2_1, .slice o2_2 k2_2 c2_2, .slice o2_3 k2_3 c2_3, .slice o2_4 k2_4 c2_4, .slice o2_5 k2_5 c2_5, .slice o2_6 k2_6 c2_6, .slice o2_7 k2_7 c2_7, .bool x0.stopped] 46)))) := fun z hz => ⟨Lib.cell_of_heap (hz.2.1) 0, Lib.cell_of_heap (hz.2.1) 1, Lib.cell_of_heap (hz.2.1) 2, Lib.cell_of_heap (hz.2.1) 3, Lib.cell_of_heap (hz.2.1) 4, Lib.cell_of_heap (hz.2.1) 5, Lib.cell_of_heap (hz.2.1) 6, Lib.cell_of_heap (hz.2.1) 7, Lib.cell_of_heap (hz.2.1) 8, Lib.cell_of_heap (hz.2.2.2.2) 0, Lib.cell_of_heap (hz.2.2.2.2) 1, Lib.cell_of_heap (hz.2.2.2.2) 2, Lib.cell_of_heap (hz.2.2.2.2) 3, Lib.cell_of_heap (hz.2.2.2.2) 4, Lib.cell_of_heap (hz.2.2.2.2) 5, Lib.cell_of_heap (hz.2.2.2.2) 6, Lib.cell_of_heap (hz.2.2.2.2) 7, Lib.cell_of_heap (hz.2.2.2.2) 8, hz⟩
  have KV : Hid (∀ z : World, (z.cell? ⟨(w.heap.size), 0, none⟩ = some (.slice a0_0 x0.prog.nodes.length b0_0) ∧ z.cell? ⟨(w.heap.size), 1, none⟩ = some (.slice a0_1 x0.prog.mons.length b0_1) ∧ z.cell? ⟨(w.heap.size), 2, none⟩ = some (.slice a0_2 x0.prog.pros.length b0_2) ∧ z.cell? ⟨(w.heap.size), 3, none⟩ = some (.slice a0_3 x0.acts.length b0_3) ∧ z.cell? ⟨(w.heap.size), 4, none⟩ = some (.slice a0_4 x0.gates.length b0_4) ∧ z.cell? ⟨(w.heap.size), 5, none⟩ = some (.slice a0_5 x0.vars.length b0_5) ∧ z.cell? ⟨(w.heap.size), 6, none⟩ = some (.slice a0_6 x0.input.length b0_6) ∧ z.cell? ⟨(w.heap.size), 7, none⟩ = some (.slice a0_7 x0.events.length b0_7) ∧ z.cell? ⟨(w.heap.size), 8, none⟩ = some (.bool x0.stopped) ∧ z.cell? ⟨z4.heap.size, 0, none⟩ = some (.slice o2_0 k2_0 c2_0) ∧ z.cell? ⟨z4.heap.size, 1, none⟩ = some (.slice o2_1 k2_1 c2_1) ∧ z.cell? ⟨z4.heap.size, 2, none⟩ = some (.slice o2_2 k2_2 c2_2) ∧ z.cell? ⟨z4.heap.size, 3, none⟩ = some (.slice o2_3 k2_3 c2_3) ∧ z.cell? ⟨z4.heap.size, 4, none⟩ = some (.slice o2_4 k2_4 c2_4) ∧ z.cell? ⟨z4.heap.size, 5, none⟩ = some (.slice o2_5 k2_5 c2_5) ∧ z.cell? ⟨z4.heap.size, 6, none⟩ = some (.slice o2_6 k2_6 c2_6) ∧ z.cell? ⟨z4.heap.size, 7, none⟩ = some (.slice o2_7 k2_7 c2_7) ∧ z.cell? ⟨z4.heap.size, 8, none⟩ = some (.bool x0.stopped) ∧ Hid ((Below w.heap.size w z ∧ Box z (w.heap.size) #[.slice a0_0 x0.prog.nodes.length b0_0, .slice a0_1 x0.prog.mons.length b0_1, .slice a0_2 x0.prog.pros.length b0_2, .slice a0_3 x0.acts.length b0_3, .slice a0_4 x0.gates.length b0_4, .slice a0_5 x0.vars.length b0_5, .slice a0_6 x0.input.length b0_6, .slice a0_7 x0.events.length b0_7, .bool x0.stopped] 33 ∧ MdC z3.heap.size z [.slice o2_0 k2_0 c2_0, .slice o2_1 k2_1 c2_1, .slice o2_2 k2_2 c2_2, .slice o2_3 k2_3 c2_3, .slice o2_4 k2_4 c2_4, .slice o2_5 k2_5 c2_5, .slice o2_6 k2_6 c2_6, .slice o2_7 k2_7 c2_7, .bool x0.stopped] x0 ∧ MdSh z3.heap.size z4.heap.size z (.slice o2_0 k2_0 c2_0) (.slice o2_1 k2_1 c2_1) (.slice o2_2 k2_2 c2_2) (.slice o2_3 k2_3 c2_3) (.slice o2_4 k2_4 c2_4) (.slice o2_5 k2_5 c2_5) (.slice o2_6 k2_6 c2_6) (.slice o2_7 k2_7 c2_7) x0 ∧ Box z z4.heap.size #[.slice o2_0 k2_0 c2_0, .slice o2_1 k2_1 c2_1, .slice o2_2 k2_2 c2_2, .slice o2_3 k2_3 c2_3, .slice o2_4 k2_4 c2_4, .slice o2_5 k2_5 c2_5, .slice o2_6 k2_6 c2_6, .slice o2_7 k2_7 c2_7, .bool x0.stopped] 46))) → (Below w.heap.size w z ∧ Box z (w.heap.size) #[.slice a0_0 x0.prog.nodes.length b0_0, .slice a0_1 x0.prog.mons.length b0_1, .slice a0_2 x0.prog.pros.length b0_2, .slice a0_3 x0.acts.length b0_3, .slice a0_4 x0.gates.length b0_4, .slice a0_5 x0.vars.length b0_5, .slice a0_6 x0.input.length b0_6, .slice a0_7 x0.events.length b0_7, .bool x0.stopped] 33 ∧ MdC z3.heap.size z [.slice o2_0 k2_0 c2_0, .slice o2_1 k2_1 c2_1, .slice o2_2 k2_2 c2_2, .slice o2_3 k2_3 c2_3, .slice o2_4 k2_4 c2_4, .slice o2_5 k2_5 c2_5, .slice o2_6 k2_6 c2_6, .slice o2_7 k2_7 c2_7, .bool x0.stopped] x0 ∧ MdSh z3.heap.size z4.heap.size z (.slice o2_0 k2_0 c2_0) (.slice o2_1 k2_1 c2_1) (.slice o2_2 k2_2 c2_2) (.slice o2_3 k2_3 c2_3) (.slice o2_4 k2_4 c2_4) (.slice o2_5 k2_5 c2_5) (.slice o2_6 k2_6 c2_6) (.slice o2_7 k2_7 c2_7) x0 ∧ Box z z4.heap.size #[.slice o2_0 k2_0 c2_0, .slice o2_1 k2_1 c2_1, .slice o2_2 k2_2 c2_2, .slice o2_3 k2_3 c2_3, .slice o2_4 k2_4 c2_4, .slice o2_5 k2_5 c2_5, .slice o2_6 k2_6 c2_6, .slice o2_7 k2_7 c2_7, .bool x0.stopped] 46)) := fun z hz => hz.2.2.2.2.2.2.2.2.2.2.2.2.2.2.2.2.2.2.out
  have KP : Hid (∀ z z' : World, (z.cell? ⟨(w.heap.size), 0, none⟩ = some (.slice a0_0 x0.prog.nodes.length b0_0) ∧ z.cell? ⟨(w.heap.size), 1, none⟩ = some (.slice a0_1 x0.prog.mons.length b0_1) ∧ z.cell? ⟨(w.heap.size), 2, none⟩ = some (.slice a0_2 x0.prog.pros.length b0_2) ∧ z.cell? ⟨(w.heap.size), 3, none⟩ = some (.slice a0_3 x0.acts.length b0_3) ∧ z.cell? ⟨(w.heap.size), 4, none⟩ = some (.slice a0_4 x0.gates.length b0_4) ∧ z.cell? ⟨(w.heap.size), 5, none⟩ = some (.slice a0_5 x0.vars.length b0_5) ∧ z.cell? ⟨(w.heap.size), 6, none⟩ = some (.slice a0_6 x0.input.length b0_6) ∧ z.cell? ⟨(w.heap.size), 7, none⟩ = some (.slice a0_7 x0.events.length b0_7) ∧ z.cell? ⟨(w.heap.size), 8, none⟩ = some (.bool x0.stopped) ∧ z.cell? ⟨z4.heap.size, 0, none⟩ = some (.slice o2_0 k2_0 c2_0) ∧ z.cell? ⟨z4.heap.size, 1, none⟩ = some (.slice o2_1 k2_1 c2_1) ∧ z.cell? ⟨z4.heap.size, 2, none⟩ = some (.slice o2_2 k2_2 c2_2) ∧ z.cell? ⟨z4.heap.size, 3, none⟩ = some (.slice o2_3 k2_3 c2_3) ∧ z.cell? ⟨z4.heap.size, 4, none⟩ = some (.slice o2_4 k2_4 c2_4) ∧ z.cell? ⟨z4.heap.size, 5, none⟩ = some (.slice o2_5 k2_5 c2_5) ∧ z.cell? ⟨z4.heap.size, 6, none⟩ = some (.slice o2_6 k2_6 c2_6) ∧ z.cell? ⟨z4.heap.size, 7, none⟩ = some (.slice o2_7 k2_7 c2_7) ∧ z.cell? ⟨z4.heap.size, 8, none⟩ = some (.bool x0.stopped) ∧ Hid ((Below w.heap.size w z ∧ Box z (w.heap.size) #[.slice a0_0 x0.prog.nodes.length b0_0, .slice a0_1 x0.prog.mons.length b0_1, .slice a0_2 x0.prog.pros.length b0_2, .slice a0_3 x0.acts.length b0_3, .slice a0_4 x0.gates.length b0_4, .slice a0_5 x0.vars.length b0_5, .slice a0_6 x0.input.length b0_6, .slice a0_7 x0.events.length b0_7, .bool x0.stopped] 33 ∧ MdC z3.heap.size z [.slice o2_0 k2_0 c2_0, .slice o2_1 k2_1 c2_1, .slice o2_2 k2_2 c2_2, .slice o2_3 k2_3 c2_3, .slice o2_4 k2_4 c2_4, .slice o2_5 k2_5 c2_5, .slice o2_6 k2_6 c2_6, .slice o2_7 k2_7 c2_7, .bool x0.stopped] x0 ∧ MdSh z3.heap.size z4.heap.size z (.slice o2_0 k2_0 c2_0) (.slice o2_1 k2_1 c2_1) (.slice o2_2 k2_2 c2_2) (.slice o2_3 k2_3 c2_3) (.slice o2_4 k2_4 c2_4) (.slice o2_5 k2_5 c2_5) (.slice o2_6 k2_6 c2_6) (.slice o2_7 k2_7 c2_7) x0 ∧ Box z z4.heap.size #[.slice o2_0 k2_0 c2_0, .slice o2_1 k2_1 c2_1, .slice o2_2 k2_2 c2_2, .slice o2_3 k2_3 c2_3, .slice o2_4 k2_4 c2_4, .slice o2_5 k2_5 c2_5, .slice o2_6 k2_6 c2_6, .slice o2_7 k2_7 c2_7, .bool x0.stopped] 46))) → Below z.heap.size z z' → (z'.cell? ⟨(w.heap.size), 0, none⟩ = some (.slice a0_0 x0.prog.nodes.length b0_0) ∧ z'.cell? ⟨(w.heap.size), 1, none⟩ = some (.slice a0_1 x0.prog.mons.length b0_1) ∧ z'.cell? ⟨(w.heap.size), 2, none⟩ = some (.slice a0_2 x0.prog.pros.length b0_2) ∧ z'.cell? ⟨(w.heap.size), 3, none⟩ = some (.slice a0_3 x0.acts.length b0_3) ∧ z'.cell? ⟨(w.heap.size), 4, none⟩ = some (.slice a0_4 x0.gates.length b0_4) ∧ z'.cell? ⟨(w.heap.size), 5, none⟩ = some (.slice a0_5 x0.vars.length b0_5) ∧ z'.cell? ⟨(w.heap.size), 6, none⟩ = some (.slice a0_6 x0.input.length b0_6) ∧ z'.cell? ⟨(w.heap.size), 7, none⟩ = some (.slice a0_7 x0.events.length b0_7) ∧ z'.cell? ⟨(w.heap.size), 8, none⟩ = some (.bool x0.stopped) ∧ z'.cell? ⟨z4.heap.size, 0, none⟩ = some (.slice o2_0 k2_0 c2_0) ∧ z'.cell? ⟨z4.heap.size, 1, none⟩ = some (.slice o2_1 k2_1 c2_1) ∧ z'.cell? ⟨z4.heap.size, 2, none⟩ = some (.slice o2_2 k2_2 c2_2) ∧ z'.cell? ⟨z4.heap.size, 3, none⟩ = some (.slice o2_3 k2_3 c2_3) ∧ z'.cell? ⟨z4.heap.size, 4, none⟩ = some (.slice o2_4 k2_4 c2_4) ∧ z'.cell? ⟨z4.heap.size, 5, none⟩ = some (.slice o2_5 k2_5 c2_5) ∧ z'.cell? ⟨z4.heap.size, 6, none⟩ = some (.slice o2_6 k2_6 c2_6) ∧ z'.cell? ⟨z4.heap.size, 7, none⟩ = some (.slice o2_7 k2_7 c2_7) ∧ z'.cell? ⟨z4.heap.size, 8, none⟩ = some (.bool x0.stopped) ∧ Hid ((Below w.heap.size w z' ∧ Box z' (w.heap.size) #[.slice a0_0 x0.prog.nodes.length b0_0, .slice a0_1 x0.prog.mons.length b0_1, .slice a0_2 x0.prog.pros.length b0_2, .slice a0_3 x0.acts.length b0_3, .slice a0_4 x0.gates.length b0_4, .slice a0_5 x0.vars.length b0_5, .slice a0_6 x0.input.length b0_6, .slice a0_7 x0.events.length b0_7, .bool x0.stopped] 33 ∧ MdC z3.heap.size z' [.slice o2_0 k2_0 c2_0, .slice o2_1 k2_1 c2_1, .slice o2_2 k2_2 c2_2, .slice o2_3 k2_3 c2_3, .slice o2_4 k2_4 c2_4, .slice o2_5 k2_5 c2_5, .slice o2_6 k2_6 c2_6, .slice o2_7 k2_7 c2_7, .bool x0.stopped] x0 ∧ MdSh z3.heap.size z4.heap.size z' (.slice o2_0 k2_0 c2_0) (.slice o2_1 k2_1 c2_1) (.slice o2_2 k2_2 c2_2) (.slice o2_3 k2_3 c2_3) (.slice o2_4 k2_4 c2_4) (.slice o2_5 k2_5 c2_5) (.slice o2_6 k2_6 c2_6) (.slice o2_7 k2_7 c2_7) x0 ∧ Box z' z4.heap.size #[.slice o2_0 k2_0 c2_0, .slice o2_1 k2_1 c2_1, .slice o2_2 k2_2 c2_2, .slice o2_3 k2_3 c2_3, .slice o2_4 k2_4 c2_4, .slice o2_5 k2_5 c2_5, .slice o2_6 k2_6 c2_6, .slice o2_7 k2_7 c2_7, .bool x0.stopped] 46)))) := fun z z' hz hb => KC.out _ (KT.out _ _ (KV.out _ hz) hb)
  have K0 := hide (KC.out _ (KT.out _ _ ⟨HB_11.out, BA0_11.out, XC2_11.out, XS0_11.out, BX0_11.out⟩ (Below.refl _ _).drew))
  clear HB_11 BA0_11 XC2_11 XS0_11 BX0_11
  go_region_held3 (fun z => z.cell? ⟨(w.heap.size), 0, none⟩ = some (.slice a0_0 x0.prog.nodes.length b0_0) ∧ z.cell? ⟨(w.heap.size), 1, none⟩ = some (.slice a0_1 x0.prog.mons.length b0_1) ∧ z.cell? ⟨(w.heap.size), 2, none⟩ = some (.slice a0_2 x0.prog.pros.length b0_2) ∧ z.cell? ⟨(w.heap.size), 3, none⟩ = some (.slice a0_3 x0.acts.length b0_3) ∧ z.cell? ⟨(w.heap.size), 4, none⟩ = some (.slice a0_4 x0.gates.length b0_4) ∧ z.cell? ⟨(w.heap.size), 5, none⟩ = some (.slice a0_5 x0.vars.length b0_5) ∧ z.cell? ⟨(w.heap.size), 6, none⟩ = some (.slice a0_6 x0.input.length b0_6) ∧ z.cell? ⟨(w.heap.size), 7, none⟩ = some (.slice a0_7 x0.events.length b0_7) ∧ z.cell? ⟨(w.heap.size), 8, none⟩ = some (.bool x0.stopped) ∧ z.cell? ⟨z4.heap.size, 0, none⟩ = some (.slice o2_0 k2_0 c2_0) ∧ z.cell? ⟨z4.heap.size, 1, none⟩ = some (.slice o2_1 k2_1 c2_1) ∧ z.cell? ⟨z4.heap.size, 2, none⟩ = some (.slice o2_2 k2_2 c2_2) ∧ z.cell? ⟨z4.heap.size, 3, none⟩ = some (.slice o2_3 k2_3 c2_3) ∧ z.cell? ⟨z4.heap.size, 4, none⟩ = some (.slice o2_4 k2_4 c2_4) ∧ z.cell? ⟨z4.heap.size, 5, none⟩ = some (.slice o2_5 k2_5 c2_5) ∧ z.cell? ⟨z4.heap.size, 6, none⟩ = some (.slice o2_6 k2_6 c2_6) ∧ z.cell? ⟨z4.heap.size, 7, none⟩ = some (.slice o2_7 k2_7 c2_7) ∧ z.cell? ⟨z4.heap.size, 8, none⟩ = some (.bool x0.stopped) ∧ Hid ((Below w.heap.size w z ∧ Box z (w.heap.size) #[.slice a0_0 x0.prog.nodes.length b0_0, .slice a0_1 x0.prog.mons.length b0_1, .slice a0_2 x0.prog.pros.length b0_2, .slice a0_3 x0.acts.length b0_3, .slice a0_4 x0.gates.length b0_4, .slice a0_5 x0.vars.length b0_5, .slice a0_6 x0.input.length b0_6, .slice a0_7 x0.events.length b0_7, .bool x0.stopped] 33 ∧ MdC z3.heap.size z [.slice o2_0 k2_0 c2_0, .slice o2_1 k2_1 c2_1, .slice o2_2 k2_2 c2_2, .slice o2_3 k2_3 c2_3, .slice o2_4 k2_4 c2_4, .slice o2_5 k2_5 c2_5, .slice o2_6 k2_6 c2_6, .slice o2_7 k2_7 c2_7, .bool x0.stopped] x0 ∧ MdSh z3.heap.size z4.heap.size z (.slice o2_0 k2_0 c2_0) (.slice o2_1 k2_1 c2_1) (.slice o2_2 k2_2 c2_2) (.slice o2_3 k2_3 c2_3) (.slice o2_4 k2_4 c2_4) (.slice o2_5 k2_5 c2_5) (.slice o2_6 k2_6 c2_6) (.slice o2_7 k2_7 c2_7) x0 ∧ Box z z4.heap.size #[.slice o2_0 k2_0 c2_0, .slice o2_1 k2_1 c2_1, .slice o2_2 k2_2 c2_2, .slice o2_3 k2_3 c2_3, .slice o2_4 k2_4 c2_4, .slice o2_5 k2_5 c2_5, .slice o2_6 k2_6 c2_6, .slice o2_7 k2_7 c2_7, .bool x0.stopped] 46))) (first | exact K0.out | exact KP.out _ _ (by assumption) hb7)
    (first
      | (go_at_call 7; refine (toModel_any x0 _ _ _ _ _ _ _ _ _ (HW0.out.stays ((KV.out _ (by assumption)).1)).a0 (HW0.out.stays ((KV.out _ (by assumption)).1)).a1 (HW0.out.stays ((KV.out _ (by assumption)).1)).a2 (HW0.out.stays ((KV.out _ (by assumption)).1)).a3 (HW0.out.stays ((KV.out _ (by assumption)).1)).a4 (HW0.out.stays ((KV.out _ (by assumption)).1)).a5 (HW0.out.stays ((KV.out _ (by assumption)).1)).a6 (HW0.out.stays ((KV.out _ (by assumption)).1)).a7 HN0.out).mono ?_; rintro e w7 ⟨oo0, kk0, cc0, oo1, kk1, cc1, oo2, kk2, cc2, oo3, kk3, cc3, oo4, kk4, cc4, oo5, kk5, cc5, oo6, kk6, cc6, oo7, kk7, cc7, rfl, hc7, hb7⟩; have P7 := hide hc7.at; clear hc7)
      | (go_at_call 10; refine (eqModel_same x0 _ _ _ _ _ _ _ _ _ _ _ _ _ _ _ _ _ (((KV.out _ (by assumption)).2.2.1)).at.a0 P7.out.a0 (((KV.out _ (by assumption)).2.2.1)).at.a1 P7.out.a1 (((KV.out _ (by assumption)).2.2.1)).at.a2 P7.out.a2 (((KV.out _ (by assumption)).2.2.1)).at.a3 P7.out.a3 (((KV.out _ (by assumption)).2.2.1)).at.a4 P7.out.a4 (((KV.out _ (by assumption)).2.2.1)).at.a5 P7.out.a5 (((KV.out _ (by assumption)).2.2.1)).at.a6 P7.out.a6 (((KV.out _ (by assumption)).2.2.1)).at.a7 P7.out.a7 HN0.out).mono ?_; rintro e z6 ⟨rfl, hb7⟩))
  obtain ⟨f0, f1, f2, f3, f4⟩ := KV.out z6 (by assumption)
  clear KT KC KV KP K0
  have HB_12 := hide f0
  have BA0_12 := hide f1
  have XC2_12 := hide f2
  have XS0_12 := hide f3
  have BX0_12 := hide f4
  clear f0 f1 f2 f3 f4
  have c_BA0_0 := Lib.cell_of_heap BA0_12.out 0
  simp at c_BA0_0
  have c_BA0_1 := Lib.cell_of_heap BA0_12.out 1
  simp at c_BA0_1
  have c_BA0_2 := Lib.cell_of_heap BA0_12.out 2
  simp at c_BA0_2
  have c_BA0_3 := Lib.cell_of_heap BA0_12.out 3
  simp at c_BA0_3
  have c_BA0_4 := Lib.cell_of_heap BA0_12.out 4
  simp at c_BA0_4
  have c_BA0_5 := Lib.cell_of_heap BA0_12.out 5
  simp at c_BA0_5
  have c_BA0_6 := Lib.cell_of_heap BA0_12.out 6
  simp at c_BA0_6
  have c_BA0_7 := Lib.cell_of_heap BA0_12.out 7
  simp at c_BA0_7
  have c_BA0_8 := Lib.cell_of_heap BA0_12.out 8
  simp at c_BA0_8
  have c_BX0_0 := Lib.cell_of_heap BX0_12.out 0
  simp at c_BX0_0
  have c_BX0_1 := Lib.cell_of_heap BX0_12.out 1
  simp at c_BX0_1
  have c_BX0_2 := Lib.cell_of_heap BX0_12.out 2
  simp at c_BX0_2
  have c_BX0_3 := Lib.cell_of_heap BX0_12.out 3
  simp at c_BX0_3
  have c_BX0_4 := Lib.cell_of_heap BX0_12.out 4
  simp at c_BX0_4
  have c_BX0_5 := Lib.cell_of_heap BX0_12.out 5
  simp at c_BX0_5
  have c_BX0_6 := Lib.cell_of_heap BX0_12.out 6
  simp at c_BX0_6
  have c_BX0_7 := Lib.cell_of_heap BX0_12.out 7
  simp at c_BX0_7
  have c_BX0_8 := Lib.cell_of_heap BX0_12.out 8
  simp at c_BX0_8
  go_wp2
  go_ret
  exact ⟨rfl, HB_12.out⟩
end Go.Proofs.Ytkoelibclihekaa
