/-
  The law of StateOf, over what both sides answer.
-/
import Derived.Test.YtipmgmmchmdajaaLawK
import Derived.Deep.RegionHeld3
import Derived.Deep.Cut
namespace Go.Proofs.Ytipmgmmchmdajaa
open Go.RowKit

set_option maxRecDepth 100000 in
set_option maxHeartbeats 8000000 in
theorem lawStateOf (v0_0 v0_1 v0_2 v1_0 v1_1 v1_2 : Value) (x0 : Pg) (x1 : Tr) (w : World) (h0 : PgAt w v0_0 v0_1 v0_2 x0) (m0 : PgMax x0) (h1 : TrAt w v1_0 v1_1 v1_2 x1) (m1 : TrMax x1)
    (SP : szPg x0 + szTr x1 ≤ 1048576 → ∀ (v0_0 v0_1 v0_2 v1_0 v1_1 v1_2 : Value) (z : World) (b0 : Nat) (b1 : Nat), PgC b0 z [v0_0, v0_1, v0_2] x0 → TrC b1 z [v1_0, v1_1, v1_2, .int .i64 x1.fault] x1 → Calls Try.prog 20 #[.agg #[v0_0, v0_1, v0_2], .agg #[v1_0, v1_1, v1_2, .int .i64 x1.fault]] z fun e w' => e = .returned (.int .i64 (stateE x0 x1)) ∧ Below z.heap.size z w')
    (IP : szPg x0 + szTr x1 ≤ 1048576 → ∀ (v0_0 v0_1 v0_2 v1_0 v1_1 v1_2 : Value) (z : World) (b0 : Nat) (b1 : Nat), PgC b0 z [v0_0, v0_1, v0_2] x0 → TrC b1 z [v1_0, v1_1, v1_2, .int .i64 x1.fault] x1 → Calls Try.prog 22 #[.agg #[v0_0, v0_1, v0_2], .agg #[v1_0, v1_1, v1_2, .int .i64 x1.fault]] z fun e w' => e = .returned (.int .i64 (stateE x0 x1)) ∧ Below z.heap.size z w') :
    Calls Try.prog 4 #[.agg #[v0_0, v0_1, v0_2], .agg #[v1_0, v1_1, v1_2, .int .i64 x1.fault]] w fun e w' => e = .returned (.bool true) ∧ Below w.heap.size w w' := by
  have HPS := hide SP
  have HPI := hide IP
  clear SP IP
  have HW0 := hide h0
  have HM0 := hide m0
  have HW1 := hide h1
  have HM1 := hide m1
  have HB : Hid (Below w.heap.size w ((w.alloc (.cells #[v0_0, v0_1, v0_2] 26)).alloc (.cells #[v1_0, v1_1, v1_2, .int .i64 x1.fault] 51))) := by show Below w.heap.size w _; go_grown
  have BA0 := hide ((Box.madeAt (g := w.heap.size) (w := w) (by simp) #[v0_0, v0_1, v0_2] 26).stays ((Below.refl _ _).alloc (Nat.le_refl _) (.cells #[v1_0, v1_1, v1_2, .int .i64 x1.fault] 51)))
  have BA1 := hide (Box.madeAt (g := w.heap.size + 1) (w := (w.alloc (.cells #[v0_0, v0_1, v0_2] 26))) (by simp) #[v1_0, v1_1, v1_2, .int .i64 x1.fault] 51)
  obtain ⟨⟨a0_0, b0_0, rfl, _⟩, ⟨a0_1, b0_1, rfl, _⟩, ⟨a0_2, b0_2, rfl, _⟩⟩ := h0
  obtain ⟨⟨a1_0, b1_0, rfl, _⟩, ⟨a1_1, b1_1, rfl, _⟩, ⟨a1_2, b1_2, rfl, _⟩⟩ := h1
  clear m0
  clear m1
  have SZ1 : Hid (((w.alloc (.cells #[.slice a0_0 x0.nodes.length b0_0, .slice a0_1 x0.mons.length b0_1, .slice a0_2 x0.pros.length b0_2] 26)).alloc (.cells #[.slice a1_0 x1.todo.length b1_0, .slice a1_1 x1.names.length b1_1, .slice a1_2 x1.vals.length b1_2, .int .i64 x1.fault] 51)).heap.size = w.heap.size + 2) := by show _ = _; simp
  go_enter Try.func4, Try.ntmps4
  have c_BA0_0 := Lib.cell_of_heap BA0.out 0
  simp at c_BA0_0
  have c_BA0_1 := Lib.cell_of_heap BA0.out 1
  simp at c_BA0_1
  have c_BA0_2 := Lib.cell_of_heap BA0.out 2
  simp at c_BA0_2
  have c_BA1_0 := Lib.cell_of_heap BA1.out 0
  simp at c_BA1_0
  have c_BA1_1 := Lib.cell_of_heap BA1.out 1
  simp at c_BA1_1
  have c_BA1_2 := Lib.cell_of_heap BA1.out 2
  simp at c_BA1_2
  have c_BA1_3 := Lib.cell_of_heap BA1.out 3
  simp at c_BA1_3
  go_wp2_with fail
  clear c_BA0_0 c_BA0_1 c_BA0_2 c_BA1_0 c_BA1_1 c_BA1_2 c_BA1_3
  obtain ⟨y0, hy0⟩ : ∃ Z, (w.alloc (.cells #[.slice a0_0 x0.nodes.length b0_0, .slice a0_1 x0.mons.length b0_1, .slice a0_2 x0.pros.length b0_2] 26)).alloc (.cells #[.slice a1_0 x1.todo.length b1_0, .slice a1_1 x1.names.length b1_1, .slice a1_2 x1.vals.length b1_2, .int .i64 x1.fault] 51) = Z := ⟨_, rfl⟩
  rw [hy0] at HB BA0 BA1 SZ1 ⊢
  clear hy0
  refine (szProgram_any x0 _ _ _ _ _ (by omega) (by omega) (HW0.out.stays HB.out).a0 (HW0.out.stays HB.out).a1 (HW0.out.stays HB.out).a2 HM0.out).mono ?_
  rintro e z1 ⟨r0, rfl, hr0, hb0⟩
  have SZ2 : Hid (y0.heap.size ≤ z1.heap.size) := hb0.size
  have HB_1 := hide (HB.out.trans (hb0.mono HB.out.size))
  clear HB
  have BA0_1 := hide (BA0.out.stays hb0)
  clear BA0
  have BA1_1 := hide (BA1.out.stays hb0)
  clear BA1
  clear hb0
  have c_BA0_0 := Lib.cell_of_heap BA0_1.out 0
  simp at c_BA0_0
  have c_BA0_1 := Lib.cell_of_heap BA0_1.out 1
  simp at c_BA0_1
  have c_BA0_2 := Lib.cell_of_heap BA0_1.out 2
  simp at c_BA0_2
  have c_BA1_0 := Lib.cell_of_heap BA1_1.out 0
  simp at c_BA1_0
  have c_BA1_1 := Lib.cell_of_heap BA1_1.out 1
  simp at c_BA1_1
  have c_BA1_2 := Lib.cell_of_heap BA1_1.out 2
  simp at c_BA1_2
  have c_BA1_3 := Lib.cell_of_heap BA1_1.out 3
  simp at c_BA1_3
  by_cases hn0 : r0 < 0
  · clear hr0
    go_wp2
    go_ret
    exact ⟨rfl, HB_1.out⟩
  obtain ⟨hp0, hq0⟩ := hr0.resolve_left hn0
  have HQ0 := hide hq0
  have hq0b : r0 ≤ 1048576 := by omega
  clear hq0 hr0
  go_wp2_with fail
  clear c_BA0_0 c_BA0_1 c_BA0_2 c_BA1_0 c_BA1_1 c_BA1_2 c_BA1_3
  refine (szThread_any x1 _ _ _ _ _ (by omega) (by omega) (HW1.out.stays HB_1.out).a0 (HW1.out.stays HB_1.out).a1 (HW1.out.stays HB_1.out).a2 HM1.out).mono ?_
  rintro e z2 ⟨r1, rfl, hr1, hb1⟩
  have SZ3 : Hid (z1.heap.size ≤ z2.heap.size) := hb1.size
  have HB_2 := hide (HB_1.out.trans (hb1.mono HB_1.out.size))
  clear HB_1
  have BA0_2 := hide (BA0_1.out.stays hb1)
  clear BA0_1
  have BA1_2 := hide (BA1_1.out.stays hb1)
  clear BA1_1
  clear hb1
  have c_BA0_0 := Lib.cell_of_heap BA0_2.out 0
  simp at c_BA0_0
  have c_BA0_1 := Lib.cell_of_heap BA0_2.out 1
  simp at c_BA0_1
  have c_BA0_2 := Lib.cell_of_heap BA0_2.out 2
  simp at c_BA0_2
  have c_BA1_0 := Lib.cell_of_heap BA1_2.out 0
  simp at c_BA1_0
  have c_BA1_1 := Lib.cell_of_heap BA1_2.out 1
  simp at c_BA1_1
  have c_BA1_2 := Lib.cell_of_heap BA1_2.out 2
  simp at c_BA1_2
  have c_BA1_3 := Lib.cell_of_heap BA1_2.out 3
  simp at c_BA1_3
  by_cases hn1 : r1 < 0
  · clear hr1
    go_wp2
    go_ret
    exact ⟨rfl, HB_2.out⟩
  obtain ⟨hp1, hq1⟩ := hr1.resolve_left hn1
  have HQ1 := hide hq1
  have hq1b : r1 ≤ 1048576 := by omega
  clear hq1 hr1
  have HSZ : Hid (szPg x0 + szTr x1 ≤ 1048576) := by
    show _ ≤ _
    have := HQ0.out
    have := HQ1.out
    omega
  have HPS1 := hide (HPS.out HSZ.out)
  have HPI1 := hide (HPI.out HSZ.out)
  have HN0 : Hid (PgLen x0) := szPg_len (by have := HSZ.out; omega)
  have HN1 : Hid (TrLen x1) := szTr_len (by have := HSZ.out; omega)
  go_wp2_with fail
  clear c_BA0_0 c_BA0_1 c_BA0_2 c_BA1_0 c_BA1_1 c_BA1_2 c_BA1_3
  have KT : Hid (∀ z : World, Below z2.heap.size z2 z → (Below w.heap.size w z ∧ Box z (w.heap.size) #[.slice a0_0 x0.nodes.length b0_0, .slice a0_1 x0.mons.length b0_1, .slice a0_2 x0.pros.length b0_2] 26 ∧ Box z (w.heap.size + 1) #[.slice a1_0 x1.todo.length b1_0, .slice a1_1 x1.names.length b1_1, .slice a1_2 x1.vals.length b1_2, .int .i64 x1.fault] 51)) := fun z hb => ⟨HB_2.out.trans (hb.mono HB_2.out.size), BA0_2.out.stays hb, BA1_2.out.stays hb⟩
  go_cut [6] from 10 (fun s z => s = .int .i64 (stateE x0 x1) ∧ Hid (Below z2.heap.size z2 z))
  case first =>
    have KC : Hid (∀ z : World, Below z2.heap.size z2 z → (z.cell? ⟨(w.heap.size), 0, none⟩ = some (.slice a0_0 x0.nodes.length b0_0) ∧ z.cell? ⟨(w.heap.size), 1, none⟩ = some (.slice a0_1 x0.mons.length b0_1) ∧ z.cell? ⟨(w.heap.size), 2, none⟩ = some (.slice a0_2 x0.pros.length b0_2) ∧ z.cell? ⟨(w.heap.size + 1), 0, none⟩ = some (.slice a1_0 x1.todo.length b1_0) ∧ z.cell? ⟨(w.heap.size + 1), 1, none⟩ = some (.slice a1_1 x1.names.length b1_1) ∧ z.cell? ⟨(w.heap.size + 1), 2, none⟩ = some (.slice a1_2 x1.vals.length b1_2) ∧ z.cell? ⟨(w.heap.size + 1), 3, none⟩ = some (.int .i64 x1.fault) ∧ Hid (Below z2.heap.size z2 z))) := fun z hz => ⟨Lib.cell_of_heap (BA0_2.out.stays hz) 0, Lib.cell_of_heap (BA0_2.out.stays hz) 1, Lib.cell_of_heap (BA0_2.out.stays hz) 2, Lib.cell_of_heap (BA1_2.out.stays hz) 0, Lib.cell_of_heap (BA1_2.out.stays hz) 1, Lib.cell_of_heap (BA1_2.out.stays hz) 2, Lib.cell_of_heap (BA1_2.out.stays hz) 3, hz⟩
    have KV : Hid (∀ z : World, (z.cell? ⟨(w.heap.size), 0, none⟩ = some (.slice a0_0 x0.nodes.length b0_0) ∧ z.cell? ⟨(w.heap.size), 1, none⟩ = some (.slice a0_1 x0.mons.length b0_1) ∧ z.cell? ⟨(w.heap.size), 2, none⟩ = some (.slice a0_2 x0.pros.length b0_2) ∧ z.cell? ⟨(w.heap.size + 1), 0, none⟩ = some (.slice a1_0 x1.todo.length b1_0) ∧ z.cell? ⟨(w.heap.size + 1), 1, none⟩ = some (.slice a1_1 x1.names.length b1_1) ∧ z.cell? ⟨(w.heap.size + 1), 2, none⟩ = some (.slice a1_2 x1.vals.length b1_2) ∧ z.cell? ⟨(w.heap.size + 1), 3, none⟩ = some (.int .i64 x1.fault) ∧ Hid (Below z2.heap.size z2 z)) → Below z2.heap.size z2 z) := fun z hz => hz.2.2.2.2.2.2.2.out
    have KP : Hid (∀ z z' : World, (z.cell? ⟨(w.heap.size), 0, none⟩ = some (.slice a0_0 x0.nodes.length b0_0) ∧ z.cell? ⟨(w.heap.size), 1, none⟩ = some (.slice a0_1 x0.mons.length b0_1) ∧ z.cell? ⟨(w.heap.size), 2, none⟩ = some (.slice a0_2 x0.pros.length b0_2) ∧ z.cell? ⟨(w.heap.size + 1), 0, none⟩ = some (.slice a1_0 x1.todo.length b1_0) ∧ z.cell? ⟨(w.heap.size + 1), 1, none⟩ = some (.slice a1_1 x1.names.length b1_1) ∧ z.cell? ⟨(w.heap.size + 1), 2, none⟩ = some (.slice a1_2 x1.vals.length b1_2) ∧ z.cell? ⟨(w.heap.size + 1), 3, none⟩ = some (.int .i64 x1.fault) ∧ Hid (Below z2.heap.size z2 z)) → Below z.heap.size z z' → (z'.cell? ⟨(w.heap.size), 0, none⟩ = some (.slice a0_0 x0.nodes.length b0_0) ∧ z'.cell? ⟨(w.heap.size), 1, none⟩ = some (.slice a0_1 x0.mons.length b0_1) ∧ z'.cell? ⟨(w.heap.size), 2, none⟩ = some (.slice a0_2 x0.pros.length b0_2) ∧ z'.cell? ⟨(w.heap.size + 1), 0, none⟩ = some (.slice a1_0 x1.todo.length b1_0) ∧ z'.cell? ⟨(w.heap.size + 1), 1, none⟩ = some (.slice a1_1 x1.names.length b1_1) ∧ z'.cell? ⟨(w.heap.size + 1), 2, none⟩ = some (.slice a1_2 x1.vals.length b1_2) ∧ z'.cell? ⟨(w.heap.size + 1), 3, none⟩ = some (.int .i64 x1.fault) ∧ Hid (Below z2.heap.size z2 z'))) := fun z z' hz hb => KC.out _ ((KV.out _ hz).trans (hb.mono (KV.out _ hz).size))
    have K0 := hide (KC.out _ (Below.refl z2.heap.size z2).drew)
    have KE0 : Hid (∀ z : World, (z.cell? ⟨(w.heap.size), 0, none⟩ = some (.slice a0_0 x0.nodes.length b0_0) ∧ z.cell? ⟨(w.heap.size), 1, none⟩ = some (.slice a0_1 x0.mons.length b0_1) ∧ z.cell? ⟨(w.heap.size), 2, none⟩ = some (.slice a0_2 x0.pros.length b0_2) ∧ z.cell? ⟨(w.heap.size + 1), 0, none⟩ = some (.slice a1_0 x1.todo.length b1_0) ∧ z.cell? ⟨(w.heap.size + 1), 1, none⟩ = some (.slice a1_1 x1.names.length b1_1) ∧ z.cell? ⟨(w.heap.size + 1), 2, none⟩ = some (.slice a1_2 x1.vals.length b1_2) ∧ z.cell? ⟨(w.heap.size + 1), 3, none⟩ = some (.int .i64 x1.fault) ∧ Hid (Below z2.heap.size z2 z)) → PgAt z (.slice a0_0 x0.nodes.length b0_0) (.slice a0_1 x0.mons.length b0_1) (.slice a0_2 x0.pros.length b0_2) x0) := fun z hz => HW0.out.stays (HB_2.out.trans ((KV.out _ hz).mono HB_2.out.size))
    have KE1 : Hid (∀ z : World, (z.cell? ⟨(w.heap.size), 0, none⟩ = some (.slice a0_0 x0.nodes.length b0_0) ∧ z.cell? ⟨(w.heap.size), 1, none⟩ = some (.slice a0_1 x0.mons.length b0_1) ∧ z.cell? ⟨(w.heap.size), 2, none⟩ = some (.slice a0_2 x0.pros.length b0_2) ∧ z.cell? ⟨(w.heap.size + 1), 0, none⟩ = some (.slice a1_0 x1.todo.length b1_0) ∧ z.cell? ⟨(w.heap.size + 1), 1, none⟩ = some (.slice a1_1 x1.names.length b1_1) ∧ z.cell? ⟨(w.heap.size + 1), 2, none⟩ = some (.slice a1_2 x1.vals.length b1_2) ∧ z.cell? ⟨(w.heap.size + 1), 3, none⟩ = some (.int .i64 x1.fault) ∧ Hid (Below z2.heap.size z2 z)) → TrAt z (.slice a1_0 x1.todo.length b1_0) (.slice a1_1 x1.names.length b1_1) (.slice a1_2 x1.vals.length b1_2) x1) := fun z hz => HW1.out.stays (HB_2.out.trans ((KV.out _ hz).mono HB_2.out.size))
    go_region_held3 (fun z => z.cell? ⟨(w.heap.size), 0, none⟩ = some (.slice a0_0 x0.nodes.length b0_0) ∧ z.cell? ⟨(w.heap.size), 1, none⟩ = some (.slice a0_1 x0.mons.length b0_1) ∧ z.cell? ⟨(w.heap.size), 2, none⟩ = some (.slice a0_2 x0.pros.length b0_2) ∧ z.cell? ⟨(w.heap.size + 1), 0, none⟩ = some (.slice a1_0 x1.todo.length b1_0) ∧ z.cell? ⟨(w.heap.size + 1), 1, none⟩ = some (.slice a1_1 x1.names.length b1_1) ∧ z.cell? ⟨(w.heap.size + 1), 2, none⟩ = some (.slice a1_2 x1.vals.length b1_2) ∧ z.cell? ⟨(w.heap.size + 1), 3, none⟩ = some (.int .i64 x1.fault) ∧ Hid (Below z2.heap.size z2 z)) (first | exact K0.out | exact KP.out _ _ (by assumption) hb0_ | exact KP.out _ _ (by assumption) hb1_ | exact KP.out _ _ (by assumption) hb8_)
      (first
        | (go_at_call 9; with_reducible refine (toProgramC_any x0 (.slice a0_0 x0.nodes.length b0_0) (.slice a0_1 x0.mons.length b0_1) (.slice a0_2 x0.pros.length b0_2) _ (KE0.out _ (by assumption)).a0 (KE0.out _ (by assumption)).a1 (KE0.out _ (by assumption)).a2 HN0.out).mono ?_; rintro e w0_ ⟨oo0_0, kk0_0, cc0_0, oo0_1, kk0_1, cc0_1, oo0_2, kk0_2, cc0_2, rfl, hc0_, hb0_⟩)
        | (go_at_call 21; with_reducible refine (toThread_any x1 (.slice a1_0 x1.todo.length b1_0) (.slice a1_1 x1.names.length b1_1) (.slice a1_2 x1.vals.length b1_2) _ (KE1.out _ (by assumption)).a0 (KE1.out _ (by assumption)).a1 (KE1.out _ (by assumption)).a2 HN1.out.l0 HN1.out.l1 HN1.out.l2).mono ?_; rintro e w1_ ⟨oo1_0, kk1_0, cc1_0, oo1_1, kk1_1, cc1_1, oo1_2, kk1_2, cc1_2, rfl, hc1_, hb1_⟩; have hd0_1 := hc0_.stays hb1_)
        | (go_at_call 20; refine (HPS1.out _ _ _ _ _ _ _ _ _ hd0_1 hc1_).mono ?_; rintro e w8_ ⟨rfl, hb8_⟩))
    all_goals (go_wp2_with fail; go_meet)
    all_goals exact ⟨rfl, hide (KV.out _ (by assumption))⟩
  case rest =>
    obtain ⟨rfl, HBc⟩ := hcut
    obtain ⟨f0, f1, f2⟩ := KT.out _ HBc.out
    have SZ4 : Hid (z2.heap.size ≤ wc.heap.size) := HBc.out.size
    have HB_3 := hide f0
    clear HB_2
    have BA0_3 := hide f1
    clear BA0_2
    have BA1_3 := hide f2
    clear BA1_2
    clear KT HBc f0 f1 f2
    have c_BA0_0 := Lib.cell_of_heap BA0_3.out 0
    simp at c_BA0_0
    have c_BA0_1 := Lib.cell_of_heap BA0_3.out 1
    simp at c_BA0_1
    have c_BA0_2 := Lib.cell_of_heap BA0_3.out 2
    simp at c_BA0_2
    have c_BA1_0 := Lib.cell_of_heap BA1_3.out 0
    simp at c_BA1_0
    have c_BA1_1 := Lib.cell_of_heap BA1_3.out 1
    simp at c_BA1_1
    have c_BA1_2 := Lib.cell_of_heap BA1_3.out 2
    simp at c_BA1_2
    have c_BA1_3 := Lib.cell_of_heap BA1_3.out 3
    simp at c_BA1_3
    go_wp2_with fail
    clear c_BA0_0 c_BA0_1 c_BA0_2 c_BA1_0 c_BA1_1 c_BA1_2 c_BA1_3
    refine (toProgramC_any x0 _ _ _ _ (HW0.out.stays HB_3.out).a0 (HW0.out.stays HB_3.out).a1 (HW0.out.stays HB_3.out).a2 HN0.out).mono ?_
    rintro e z3 ⟨o1_0, k1_0, c1_0, o1_1, k1_1, c1_1, o1_2, k1_2, c1_2, rfl, hc1, hb1⟩
    have SZ5 : Hid (wc.heap.size ≤ z3.heap.size) := hb1.size
    have HB_4 := hide (HB_3.out.trans (hb1.mono HB_3.out.size))
    clear HB_3
    have BA0_4 := hide (BA0_3.out.stays hb1)
    clear BA0_3
    have BA1_4 := hide (BA1_3.out.stays hb1)
    clear BA1_3
    have XC1_5 := hide (hc1)
    clear hc1 hb1
    have XS0_6 := hide (XC1_5.out.sh (T := z3.heap.size) (Nat.le_refl _) HN0.out)
    have hba7 : Below z3.heap.size z3 (z3.alloc (.cells #[.slice o1_0 k1_0 c1_0, .slice o1_1 k1_1 c1_1, .slice o1_2 k1_2 c1_2] 40)) := (Below.refl _ _).alloc (Nat.le_refl _) _
    have SZ6 : Hid ((z3.alloc (.cells #[.slice o1_0 k1_0 c1_0, .slice o1_1 k1_1 c1_1, .slice o1_2 k1_2 c1_2] 40)).heap.size = z3.heap.size + 1) := by show _ = _; simp
    have HB_8 := hide (HB_4.out.trans (hba7.mono HB_4.out.size))
    clear HB_4
    have BA0_8 := hide (BA0_4.out.stays hba7)
    clear BA0_4
    have BA1_8 := hide (BA1_4.out.stays hba7)
    clear BA1_4
    have XC1_8 := hide (XC1_5.out.stays hba7)
    clear XC1_5
    have XS0_8 := hide (XS0_6.out.stays hba7)
    clear XS0_6
    have BX0_9 := hide (Box.made z3 #[.slice o1_0 k1_0 c1_0, .slice o1_1 k1_1 c1_1, .slice o1_2 k1_2 c1_2] 40)
    clear hba7
    have c_BA0_0 := Lib.cell_of_heap BA0_8.out 0
    simp at c_BA0_0
    have c_BA0_1 := Lib.cell_of_heap BA0_8.out 1
    simp at c_BA0_1
    have c_BA0_2 := Lib.cell_of_heap BA0_8.out 2
    simp at c_BA0_2
    have c_BA1_0 := Lib.cell_of_heap BA1_8.out 0
    simp at c_BA1_0
    have c_BA1_1 := Lib.cell_of_heap BA1_8.out 1
    simp at c_BA1_1
    have c_BA1_2 := Lib.cell_of_heap BA1_8.out 2
    simp at c_BA1_2
    have c_BA1_3 := Lib.cell_of_heap BA1_8.out 3
    simp at c_BA1_3
    have c_BX0_0 := Lib.cell_of_heap BX0_9.out 0
    simp at c_BX0_0
    have c_BX0_1 := Lib.cell_of_heap BX0_9.out 1
    simp at c_BX0_1
    have c_BX0_2 := Lib.cell_of_heap BX0_9.out 2
    simp at c_BX0_2
    go_wp2_with fail
    clear c_BA0_0 c_BA0_1 c_BA0_2 c_BA1_0 c_BA1_1 c_BA1_2 c_BA1_3 c_BX0_0 c_BX0_1 c_BX0_2
    obtain ⟨y1, hy1⟩ : ∃ Z, z3.alloc (.cells #[.slice o1_0 k1_0 c1_0, .slice o1_1 k1_1 c1_1, .slice o1_2 k1_2 c1_2] 40) = Z := ⟨_, rfl⟩
    rw [hy1] at HB_8 BA0_8 BA1_8 XC1_8 XS0_8 BX0_9 SZ6 ⊢
    clear hy1
    refine (toThread_any x1 _ _ _ _ (HW1.out.stays HB_8.out).a0 (HW1.out.stays HB_8.out).a1 (HW1.out.stays HB_8.out).a2 HN1.out.l0 HN1.out.l1 HN1.out.l2).mono ?_
    rintro e z4 ⟨o2_0, k2_0, c2_0, o2_1, k2_1, c2_1, o2_2, k2_2, c2_2, rfl, hc2, hb2⟩
    have SZ7 : Hid (y1.heap.size ≤ z4.heap.size) := hb2.size
    have HB_10 := hide (HB_8.out.trans (hb2.mono HB_8.out.size))
    clear HB_8
    have BA0_10 := hide (BA0_8.out.stays hb2)
    clear BA0_8
    have BA1_10 := hide (BA1_8.out.stays hb2)
    clear BA1_8
    have XC1_10 := hide (XC1_8.out.stays hb2)
    clear XC1_8
    have XS0_10 := hide (XS0_8.out.stays hb2)
    clear XS0_8
    have BX0_10 := hide (BX0_9.out.stays hb2)
    clear BX0_9
    have XC2_11 := hide (hc2)
    clear hc2 hb2
    have XS1_12 := hide (XC2_11.out.sh (T := z4.heap.size) (Nat.le_refl _))
    have hba13 : Below z4.heap.size z4 (z4.alloc (.cells #[.slice o2_0 k2_0 c2_0, .slice o2_1 k2_1 c2_1, .slice o2_2 k2_2 c2_2, .int .i64 x1.fault] 34)) := (Below.refl _ _).alloc (Nat.le_refl _) _
    have SZ8 : Hid ((z4.alloc (.cells #[.slice o2_0 k2_0 c2_0, .slice o2_1 k2_1 c2_1, .slice o2_2 k2_2 c2_2, .int .i64 x1.fault] 34)).heap.size = z4.heap.size + 1) := by show _ = _; simp
    have HB_14 := hide (HB_10.out.trans (hba13.mono HB_10.out.size))
    clear HB_10
    have BA0_14 := hide (BA0_10.out.stays hba13)
    clear BA0_10
    have BA1_14 := hide (BA1_10.out.stays hba13)
    clear BA1_10
    have XC1_14 := hide (XC1_10.out.stays hba13)
    clear XC1_10
    have XS0_14 := hide (XS0_10.out.stays hba13)
    clear XS0_10
    have BX0_14 := hide (BX0_10.out.stays hba13)
    clear BX0_10
    have XC2_14 := hide (XC2_11.out.stays hba13)
    clear XC2_11
    have XS1_14 := hide (XS1_12.out.stays hba13)
    clear XS1_12
    have BX1_15 := hide (Box.made z4 #[.slice o2_0 k2_0 c2_0, .slice o2_1 k2_1 c2_1, .slice o2_2 k2_2 c2_2, .int .i64 x1.fault] 34)
    clear hba13
    have c_BA0_0 := Lib.cell_of_heap BA0_14.out 0
    simp at c_BA0_0
    have c_BA0_1 := Lib.cell_of_heap BA0_14.out 1
    simp at c_BA0_1
    have c_BA0_2 := Lib.cell_of_heap BA0_14.out 2
    simp at c_BA0_2
    have c_BA1_0 := Lib.cell_of_heap BA1_14.out 0
    simp at c_BA1_0
    have c_BA1_1 := Lib.cell_of_heap BA1_14.out 1
    simp at c_BA1_1
    have c_BA1_2 := Lib.cell_of_heap BA1_14.out 2
    simp at c_BA1_2
    have c_BA1_3 := Lib.cell_of_heap BA1_14.out 3
    simp at c_BA1_3
    have c_BX0_0 := Lib.cell_of_heap BX0_14.out 0
    simp at c_BX0_0
    have c_BX0_1 := Lib.cell_of_heap BX0_14.out 1
    simp at c_BX0_1
    have c_BX0_2 := Lib.cell_of_heap BX0_14.out 2
    simp at c_BX0_2
    have c_BX1_0 := Lib.cell_of_heap BX1_15.out 0
    simp at c_BX1_0
    have c_BX1_1 := Lib.cell_of_heap BX1_15.out 1
    simp at c_BX1_1
    have c_BX1_2 := Lib.cell_of_heap BX1_15.out 2
    simp at c_BX1_2
    have c_BX1_3 := Lib.cell_of_heap BX1_15.out 3
    simp at c_BX1_3
    go_wp2_with fail
    clear c_BA0_0 c_BA0_1 c_BA0_2 c_BA1_0 c_BA1_1 c_BA1_2 c_BA1_3 c_BX0_0 c_BX0_1 c_BX0_2 c_BX1_0 c_BX1_1 c_BX1_2 c_BX1_3
    obtain ⟨y2, hy2⟩ : ∃ Z, z4.alloc (.cells #[.slice o2_0 k2_0 c2_0, .slice o2_1 k2_1 c2_1, .slice o2_2 k2_2 c2_2, .int .i64 x1.fault] 34) = Z := ⟨_, rfl⟩
    rw [hy2] at HB_14 BA0_14 BA1_14 XC1_14 XS0_14 BX0_14 XC2_14 XS1_14 BX1_15 SZ8 ⊢
    clear hy2
    refine (HPI1.out _ _ _ _ _ _ _ _ _ XC1_14.out XC2_14.out).mono ?_
    rintro e z5 ⟨rfl, hbg⟩
    have SZ9 : Hid (y2.heap.size ≤ z5.heap.size) := hbg.size
    have HB_16 := hide (HB_14.out.trans (hbg.mono HB_14.out.size))
    clear HB_14
    have BA0_16 := hide (BA0_14.out.stays hbg)
    clear BA0_14
    have BA1_16 := hide (BA1_14.out.stays hbg)
    clear BA1_14
    have XC1_16 := hide (XC1_14.out.stays hbg)
    clear XC1_14
    have XS0_16 := hide (XS0_14.out.stays hbg)
    clear XS0_14
    have BX0_16 := hide (BX0_14.out.stays hbg)
    clear BX0_14
    have XC2_16 := hide (XC2_14.out.stays hbg)
    clear XC2_14
    have XS1_16 := hide (XS1_14.out.stays hbg)
    clear XS1_14
    have BX1_16 := hide (BX1_15.out.stays hbg)
    clear BX1_15
    clear hbg
    have c_BA0_0 := Lib.cell_of_heap BA0_16.out 0
    simp at c_BA0_0
    have c_BA0_1 := Lib.cell_of_heap BA0_16.out 1
    simp at c_BA0_1
    have c_BA0_2 := Lib.cell_of_heap BA0_16.out 2
    simp at c_BA0_2
    have c_BA1_0 := Lib.cell_of_heap BA1_16.out 0
    simp at c_BA1_0
    have c_BA1_1 := Lib.cell_of_heap BA1_16.out 1
    simp at c_BA1_1
    have c_BA1_2 := Lib.cell_of_heap BA1_16.out 2
    simp at c_BA1_2
    have c_BA1_3 := Lib.cell_of_heap BA1_16.out 3
    simp at c_BA1_3
    have c_BX0_0 := Lib.cell_of_heap BX0_16.out 0
    simp at c_BX0_0
    have c_BX0_1 := Lib.cell_of_heap BX0_16.out 1
    simp at c_BX0_1
    have c_BX0_2 := Lib.cell_of_heap BX0_16.out 2
    simp at c_BX0_2
    have c_BX1_0 := Lib.cell_of_heap BX1_16.out 0
    simp at c_BX1_0
    have c_BX1_1 := Lib.cell_of_heap BX1_16.out 1
    simp at c_BX1_1
    have c_BX1_2 := Lib.cell_of_heap BX1_16.out 2
    simp at c_BX1_2
    have c_BX1_3 := Lib.cell_of_heap BX1_16.out 3
    simp at c_BX1_3
    go_wp2_with fail
    clear c_BA0_0 c_BA0_1 c_BA0_2 c_BA1_0 c_BA1_1 c_BA1_2 c_BA1_3 c_BX0_0 c_BX0_1 c_BX0_2 c_BX1_0 c_BX1_1 c_BX1_2 c_BX1_3
    have KT : Hid (∀ z z' : World, (Below w.heap.size w z ∧ Box z (w.heap.size) #[.slice a0_0 x0.nodes.length b0_0, .slice a0_1 x0.mons.length b0_1, .slice a0_2 x0.pros.length b0_2] 26 ∧ Box z (w.heap.size + 1) #[.slice a1_0 x1.todo.length b1_0, .slice a1_1 x1.names.length b1_1, .slice a1_2 x1.vals.length b1_2, .int .i64 x1.fault] 51 ∧ PgC wc.heap.size z [.slice o1_0 k1_0 c1_0, .slice o1_1 k1_1 c1_1, .slice o1_2 k1_2 c1_2] x0 ∧ PgSh wc.heap.size z3.heap.size z (.slice o1_0 k1_0 c1_0) (.slice o1_1 k1_1 c1_1) (.slice o1_2 k1_2 c1_2) x0 ∧ Box z z3.heap.size #[.slice o1_0 k1_0 c1_0, .slice o1_1 k1_1 c1_1, .slice o1_2 k1_2 c1_2] 40 ∧ TrC y1.heap.size z [.slice o2_0 k2_0 c2_0, .slice o2_1 k2_1 c2_1, .slice o2_2 k2_2 c2_2, .int .i64 x1.fault] x1 ∧ TrSh y1.heap.size z4.heap.size z (.slice o2_0 k2_0 c2_0) (.slice o2_1 k2_1 c2_1) (.slice o2_2 k2_2 c2_2) x1 ∧ Box z z4.heap.size #[.slice o2_0 k2_0 c2_0, .slice o2_1 k2_1 c2_1, .slice o2_2 k2_2 c2_2, .int .i64 x1.fault] 34) → Below z.heap.size z z' → (Below w.heap.size w z' ∧ Box z' (w.heap.size) #[.slice a0_0 x0.nodes.length b0_0, .slice a0_1 x0.mons.length b0_1, .slice a0_2 x0.pros.length b0_2] 26 ∧ Box z' (w.heap.size + 1) #[.slice a1_0 x1.todo.length b1_0, .slice a1_1 x1.names.length b1_1, .slice a1_2 x1.vals.length b1_2, .int .i64 x1.fault] 51 ∧ PgC wc.heap.size z' [.slice o1_0 k1_0 c1_0, .slice o1_1 k1_1 c1_1, .slice o1_2 k1_2 c1_2] x0 ∧ PgSh wc.heap.size z3.heap.size z' (.slice o1_0 k1_0 c1_0) (.slice o1_1 k1_1 c1_1) (.slice o1_2 k1_2 c1_2) x0 ∧ Box z' z3.heap.size #[.slice o1_0 k1_0 c1_0, .slice o1_1 k1_1 c1_1, .slice o1_2 k1_2 c1_2] 40 ∧ TrC y1.heap.size z' [.slice o2_0 k2_0 c2_0, .slice o2_1 k2_1 c2_1, .slice o2_2 k2_2 c2_2, .int .i64 x1.fault] x1 ∧ TrSh y1.heap.size z4.heap.size z' (.slice o2_0 k2_0 c2_0) (.slice o2_1 k2_1 c2_1) (.slice o2_2 k2_2 c2_2) x1 ∧ Box z' z4.heap.size #[.slice o2_0 k2_0 c2_0, .slice o2_1 k2_1 c2_1, .slice o2_2 k2_2 c2_2, .int .i64 x1.fault] 34)) := fun z z' hz hb => ⟨(hz.1).trans (hb.mono (hz.1).size), (hz.2.1).stays hb, (hz.2.2.1).stays hb, (hz.2.2.2.1).stays hb, (hz.2.2.2.2.1).stays hb, (hz.2.2.2.2.2.1).stays hb, (hz.2.2.2.2.2.2.1).stays hb, (hz.2.2.2.2.2.2.2.1).stays hb, (hz.2.2.2.2.2.2.2.2).stays hb⟩
    have KC : Hid (∀ z : World, (Below w.heap.size w z ∧ Box z (w.heap.size) #[.slice a0_0 x0.nodes.length b0_0, .slice a0_1 x0.mons.length b0_1, .slice a0_2 x0.pros.length b0_2] 26 ∧ Box z (w.heap.size + 1) #[.slice a1_0 x1.todo.length b1_0, .slice a1_1 x1.names.length b1_1, .slice a1_2 x1.vals.length b1_2, .int .i64 x1.fault] 51 ∧ PgC wc.heap.size z [.slice o1_0 k1_0 c1_0, .slice o1_1 k1_1 c1_1, .slice o1_2 k1_2 c1_2] x0 ∧ PgSh wc.heap.size z3.heap.size z (.slice o1_0 k1_0 c1_0) (.slice o1_1 k1_1 c1_1) (.slice o1_2 k1_2 c1_2) x0 ∧ Box z z3.heap.size #[.slice o1_0 k1_0 c1_0, .slice o1_1 k1_1 c1_1, .slice o1_2 k1_2 c1_2] 40 ∧ TrC y1.heap.size z [.slice o2_0 k2_0 c2_0, .slice o2_1 k2_1 c2_1, .slice o2_2 k2_2 c2_2, .int .i64 x1.fault] x1 ∧ TrSh y1.heap.size z4.heap.size z (.slice o2_0 k2_0 c2_0) (.slice o2_1 k2_1 c2_1) (.slice o2_2 k2_2 c2_2) x1 ∧ Box z z4.heap.size #[.slice o2_0 k2_0 c2_0, .slice o2_1 k2_1 c2_1, .slice o2_2 k2_2 c2_2, .int .i64 x1.fault] 34) → (z.cell? ⟨(w.heap.size), 0, none⟩ = some (.slice a0_0 x0.nodes.length b0_0) ∧ z.cell? ⟨(w.heap.size), 1, none⟩ = some (.slice a0_1 x0.mons.length b0_1) ∧ z.cell? ⟨(w.heap.size), 2, none⟩ = some (.slice a0_2 x0.pros.length b0_2) ∧ z.cell? ⟨z3.heap.size, 0, none⟩ = some (.slice o1_0 k1_0 c1_0) ∧ z.cell? ⟨z3.heap.size, 1, none⟩ = some (.slice o1_1 k1_1 c1_1) ∧ z.cell? ⟨z3.heap.size, 2, none⟩ = some (.slice o1_2 k1_2 c1_2) ∧ Hid ((Below w.heap.size w z ∧ Box z (w.heap.size) #[.slice a0_0 x0.nodes.length b0_0, .slice a0_1 x0.mons.length b0_1, .slice a0_2 x0.pros.length b0_2] 26 ∧ Box z (w.heap.size + 1) #[.slice a1_0 x1.todo.length b1_0, .slice a1_1 x1.names.length b1_1, .slice a1_2 x1.vals.length b1_2, .int .i64 x1.fault] 51 ∧ PgC wc.heap.size z [.slice o1_0 k1_0 c1_0, .slice o1_1 k1_1 c1_1, .slice o1_2 k1_2 c1_2] x0 ∧ PgSh wc.heap.size z3.heap.size z (.slice o1_0 k1_0 c1_0) (.slice o1_1 k1_1 c1_1) (.slice o1_2 k1_2 c1_2) x0 ∧ Box z z3.heap.size #[.slice o1_0 k1_0 c1_0, .slice o1_1 k1_1 c1_1, .slice o1_2 k1_2 c1_2] 40 ∧ TrC y1.heap.size z [.slice o2_0 k2_0 c2_0, .slice o2_1 k2_1 c2_1, .slice o2_2 k2_2 c2_2, .int .i64 x1.fault] x1 ∧ TrSh y1.heap.size z4.heap.size z (.slice o2_0 k2_0 c2_0) (.slice o2_1 k2_1 c2_1) (.slice o2_2 k2_2 c2_2) x1 ∧ Box z z4.heap.size #[.slice o2_0 k2_0 c2_0, .slice o2_1 k2_1 c2_1, .slice o2_2 k2_2 c2_2, .int .i64 x1.fault] 34)))) := fun z hz => ⟨Lib.cell_of_heap (hz.2.1) 0, Lib.cell_of_heap (hz.2.1) 1, Lib.cell_of_heap (hz.2.1) 2, Lib.cell_of_heap (hz.2.2.2.2.2.1) 0, Lib.cell_of_heap (hz.2.2.2.2.2.1) 1, Lib.cell_of_heap (hz.2.2.2.2.2.1) 2, hz⟩
    have KV : Hid (∀ z : World, (z.cell? ⟨(w.heap.size), 0, none⟩ = some (.slice a0_0 x0.nodes.length b0_0) ∧ z.cell? ⟨(w.heap.size), 1, none⟩ = some (.slice a0_1 x0.mons.length b0_1) ∧ z.cell? ⟨(w.heap.size), 2, none⟩ = some (.slice a0_2 x0.pros.length b0_2) ∧ z.cell? ⟨z3.heap.size, 0, none⟩ = some (.slice o1_0 k1_0 c1_0) ∧ z.cell? ⟨z3.heap.size, 1, none⟩ = some (.slice o1_1 k1_1 c1_1) ∧ z.cell? ⟨z3.heap.size, 2, none⟩ = some (.slice o1_2 k1_2 c1_2) ∧ Hid ((Below w.heap.size w z ∧ Box z (w.heap.size) #[.slice a0_0 x0.nodes.length b0_0, .slice a0_1 x0.mons.length b0_1, .slice a0_2 x0.pros.length b0_2] 26 ∧ Box z (w.heap.size + 1) #[.slice a1_0 x1.todo.length b1_0, .slice a1_1 x1.names.length b1_1, .slice a1_2 x1.vals.length b1_2, .int .i64 x1.fault] 51 ∧ PgC wc.heap.size z [.slice o1_0 k1_0 c1_0, .slice o1_1 k1_1 c1_1, .slice o1_2 k1_2 c1_2] x0 ∧ PgSh wc.heap.size z3.heap.size z (.slice o1_0 k1_0 c1_0) (.slice o1_1 k1_1 c1_1) (.slice o1_2 k1_2 c1_2) x0 ∧ Box z z3.heap.size #[.slice o1_0 k1_0 c1_0, .slice o1_1 k1_1 c1_1, .slice o1_2 k1_2 c1_2] 40 ∧ TrC y1.heap.size z [.slice o2_0 k2_0 c2_0, .slice o2_1 k2_1 c2_1, .slice o2_2 k2_2 c2_2, .int .i64 x1.fault] x1 ∧ TrSh y1.heap.size z4.heap.size z (.slice o2_0 k2_0 c2_0) (.slice o2_1 k2_1 c2_1) (.slice o2_2 k2_2 c2_2) x1 ∧ Box z z4.heap.size #[.slice o2_0 k2_0 c2_0, .slice o2_1 k2_1 c2_1, .slice o2_2 k2_2 c2_2, .int .i64 x1.fault] 34))) → (Below w.heap.size w z ∧ Box z (w.heap.size) #[.slice a0_0 x0.nodes.length b0_0, .slice a0_1 x0.mons.length b0_1, .slice a0_2 x0.pros.length b0_2] 26 ∧ Box z (w.heap.size + 1) #[.slice a1_0 x1.todo.length b1_0, .slice a1_1 x1.names.length b1_1, .slice a1_2 x1.vals.length b1_2, .int .i64 x1.fault] 51 ∧ PgC wc.heap.size z [.slice o1_0 k1_0 c1_0, .slice o1_1 k1_1 c1_1, .slice o1_2 k1_2 c1_2] x0 ∧ PgSh wc.heap.size z3.heap.size z (.slice o1_0 k1_0 c1_0) (.slice o1_1 k1_1 c1_1) (.slice o1_2 k1_2 c1_2) x0 ∧ Box z z3.heap.size #[.slice o1_0 k1_0 c1_0, .slice o1_1 k1_1 c1_1, .slice o1_2 k1_2 c1_2] 40 ∧ TrC y1.heap.size z [.slice o2_0 k2_0 c2_0, .slice o2_1 k2_1 c2_1, .slice o2_2 k2_2 c2_2, .int .i64 x1.fault] x1 ∧ TrSh y1.heap.size z4.heap.size z (.slice o2_0 k2_0 c2_0) (.slice o2_1 k2_1 c2_1) (.slice o2_2 k2_2 c2_2) x1 ∧ Box z z4.heap.size #[.slice o2_0 k2_0 c2_0, .slice o2_1 k2_1 c2_1, .slice o2_2 k2_2 c2_2, .int .i64 x1.fault] 34)) := fun z hz => hz.2.2.2.2.2.2.out
    have KP : Hid (∀ z z' : World, (z.cell? ⟨(w.heap.size), 0, none⟩ = some (.slice a0_0 x0.nodes.length b0_0) ∧ z.cell? ⟨(w.heap.size), 1, none⟩ = some (.slice a0_1 x0.mons.length b0_1) ∧ z.cell? ⟨(w.heap.size), 2, none⟩ = some (.slice a0_2 x0.pros.length b0_2) ∧ z.cell? ⟨z3.heap.size, 0, none⟩ = some (.slice o1_0 k1_0 c1_0) ∧ z.cell? ⟨z3.heap.size, 1, none⟩ = some (.slice o1_1 k1_1 c1_1) ∧ z.cell? ⟨z3.heap.size, 2, none⟩ = some (.slice o1_2 k1_2 c1_2) ∧ Hid ((Below w.heap.size w z ∧ Box z (w.heap.size) #[.slice a0_0 x0.nodes.length b0_0, .slice a0_1 x0.mons.length b0_1, .slice a0_2 x0.pros.length b0_2] 26 ∧ Box z (w.heap.size + 1) #[.slice a1_0 x1.todo.length b1_0, .slice a1_1 x1.names.length b1_1, .slice a1_2 x1.vals.length b1_2, .int .i64 x1.fault] 51 ∧ PgC wc.heap.size z [.slice o1_0 k1_0 c1_0, .slice o1_1 k1_1 c1_1, .slice o1_2 k1_2 c1_2] x0 ∧ PgSh wc.heap.size z3.heap.size z (.slice o1_0 k1_0 c1_0) (.slice o1_1 k1_1 c1_1) (.slice o1_2 k1_2 c1_2) x0 ∧ Box z z3.heap.size #[.slice o1_0 k1_0 c1_0, .slice o1_1 k1_1 c1_1, .slice o1_2 k1_2 c1_2] 40 ∧ TrC y1.heap.size z [.slice o2_0 k2_0 c2_0, .slice o2_1 k2_1 c2_1, .slice o2_2 k2_2 c2_2, .int .i64 x1.fault] x1 ∧ TrSh y1.heap.size z4.heap.size z (.slice o2_0 k2_0 c2_0) (.slice o2_1 k2_1 c2_1) (.slice o2_2 k2_2 c2_2) x1 ∧ Box z z4.heap.size #[.slice o2_0 k2_0 c2_0, .slice o2_1 k2_1 c2_1, .slice o2_2 k2_2 c2_2, .int .i64 x1.fault] 34))) → Below z.heap.size z z' → (z'.cell? ⟨(w.heap.size), 0, none⟩ = some (.slice a0_0 x0.nodes.length b0_0) ∧ z'.cell? ⟨(w.heap.size), 1, none⟩ = some (.slice a0_1 x0.mons.length b0_1) ∧ z'.cell? ⟨(w.heap.size), 2, none⟩ = some (.slice a0_2 x0.pros.length b0_2) ∧ z'.cell? ⟨z3.heap.size, 0, none⟩ = some (.slice o1_0 k1_0 c1_0) ∧ z'.cell? ⟨z3.heap.size, 1, none⟩ = some (.slice o1_1 k1_1 c1_1) ∧ z'.cell? ⟨z3.heap.size, 2, none⟩ = some (.slice o1_2 k1_2 c1_2) ∧ Hid ((Below w.heap.size w z' ∧ Box z' (w.heap.size) #[.slice a0_0 x0.nodes.length b0_0, .slice a0_1 x0.mons.length b0_1, .slice a0_2 x0.pros.length b0_2] 26 ∧ Box z' (w.heap.size + 1) #[.slice a1_0 x1.todo.length b1_0, .slice a1_1 x1.names.length b1_1, .slice a1_2 x1.vals.length b1_2, .int .i64 x1.fault] 51 ∧ PgC wc.heap.size z' [.slice o1_0 k1_0 c1_0, .slice o1_1 k1_1 c1_1, .slice o1_2 k1_2 c1_2] x0 ∧ PgSh wc.heap.size z3.heap.size z' (.slice o1_0 k1_0 c1_0) (.slice o1_1 k1_1 c1_1) (.slice o1_2 k1_2 c1_2) x0 ∧ Box z' z3.heap.size #[.slice o1_0 k1_0 c1_0, .slice o1_1 k1_1 c1_1, .slice o1_2 k1_2 c1_2] 40 ∧ TrC y1.heap.size z' [.slice o2_0 k2_0 c2_0, .slice o2_1 k2_1 c2_1, .slice o2_2 k2_2 c2_2, .int .i64 x1.fault] x1 ∧ TrSh y1.heap.size z4.heap.size z' (.slice o2_0 k2_0 c2_0) (.slice o2_1 k2_1 c2_1) (.slice o2_2 k2_2 c2_2) x1 ∧ Box z' z4.heap.size #[.slice o2_0 k2_0 c2_0, .slice o2_1 k2_1 c2_1, .slice o2_2 k2_2 c2_2, .int .i64 x1.fault] 34)))) := fun z z' hz hb => KC.out _ (KT.out _ _ (KV.out _ hz) hb)
    have K0 := hide (KC.out _ (KT.out _ _ ⟨HB_16.out, BA0_16.out, BA1_16.out, XC1_16.out, XS0_16.out, BX0_16.out, XC2_16.out, XS1_16.out, BX1_16.out⟩ (Below.refl _ _).drew))
    clear HB_16 BA0_16 BA1_16 XC1_16 XS0_16 BX0_16 XC2_16 XS1_16 BX1_16
    go_region_held3 (fun z => z.cell? ⟨(w.heap.size), 0, none⟩ = some (.slice a0_0 x0.nodes.length b0_0) ∧ z.cell? ⟨(w.heap.size), 1, none⟩ = some (.slice a0_1 x0.mons.length b0_1) ∧ z.cell? ⟨(w.heap.size), 2, none⟩ = some (.slice a0_2 x0.pros.length b0_2) ∧ z.cell? ⟨z3.heap.size, 0, none⟩ = some (.slice o1_0 k1_0 c1_0) ∧ z.cell? ⟨z3.heap.size, 1, none⟩ = some (.slice o1_1 k1_1 c1_1) ∧ z.cell? ⟨z3.heap.size, 2, none⟩ = some (.slice o1_2 k1_2 c1_2) ∧ Hid ((Below w.heap.size w z ∧ Box z (w.heap.size) #[.slice a0_0 x0.nodes.length b0_0, .slice a0_1 x0.mons.length b0_1, .slice a0_2 x0.pros.length b0_2] 26 ∧ Box z (w.heap.size + 1) #[.slice a1_0 x1.todo.length b1_0, .slice a1_1 x1.names.length b1_1, .slice a1_2 x1.vals.length b1_2, .int .i64 x1.fault] 51 ∧ PgC wc.heap.size z [.slice o1_0 k1_0 c1_0, .slice o1_1 k1_1 c1_1, .slice o1_2 k1_2 c1_2] x0 ∧ PgSh wc.heap.size z3.heap.size z (.slice o1_0 k1_0 c1_0) (.slice o1_1 k1_1 c1_1) (.slice o1_2 k1_2 c1_2) x0 ∧ Box z z3.heap.size #[.slice o1_0 k1_0 c1_0, .slice o1_1 k1_1 c1_1, .slice o1_2 k1_2 c1_2] 40 ∧ TrC y1.heap.size z [.slice o2_0 k2_0 c2_0, .slice o2_1 k2_1 c2_1, .slice o2_2 k2_2 c2_2, .int .i64 x1.fault] x1 ∧ TrSh y1.heap.size z4.heap.size z (.slice o2_0 k2_0 c2_0) (.slice o2_1 k2_1 c2_1) (.slice o2_2 k2_2 c2_2) x1 ∧ Box z z4.heap.size #[.slice o2_0 k2_0 c2_0, .slice o2_1 k2_1 c2_1, .slice o2_2 k2_2 c2_2, .int .i64 x1.fault] 34))) (first | exact K0.out | exact KP.out _ _ (by assumption) hb7)
      (first
        | (go_at_call 9; refine (toProgramC_any x0 _ _ _ _ (HW0.out.stays ((KV.out _ (by assumption)).1)).a0 (HW0.out.stays ((KV.out _ (by assumption)).1)).a1 (HW0.out.stays ((KV.out _ (by assumption)).1)).a2 HN0.out).mono ?_; rintro e w7 ⟨oo0, kk0, cc0, oo1, kk1, cc1, oo2, kk2, cc2, rfl, hc7, hb7⟩; have P7 := hide hc7.at; clear hc7)
        | (go_at_call 13; refine (eqProgram_same x0 _ _ _ _ _ _ _ (((KV.out _ (by assumption)).2.2.2.1)).at.a0 P7.out.a0 (((KV.out _ (by assumption)).2.2.2.1)).at.a1 P7.out.a1 (((KV.out _ (by assumption)).2.2.2.1)).at.a2 P7.out.a2 HN0.out).mono ?_; rintro e z6 ⟨rfl, hb7⟩))
    obtain ⟨f0, f1, f2, f3, f4, f5, f6, f7, f8⟩ := KV.out z6 (by assumption)
    clear KT KC KV KP K0
    have HB_17 := hide f0
    have BA0_17 := hide f1
    have BA1_17 := hide f2
    have XC1_17 := hide f3
    have XS0_17 := hide f4
    have BX0_17 := hide f5
    have XC2_17 := hide f6
    have XS1_17 := hide f7
    have BX1_17 := hide f8
    clear f0 f1 f2 f3 f4 f5 f6 f7 f8
    have c_BA0_0 := Lib.cell_of_heap BA0_17.out 0
    simp at c_BA0_0
    have c_BA0_1 := Lib.cell_of_heap BA0_17.out 1
    simp at c_BA0_1
    have c_BA0_2 := Lib.cell_of_heap BA0_17.out 2
    simp at c_BA0_2
    have c_BA1_0 := Lib.cell_of_heap BA1_17.out 0
    simp at c_BA1_0
    have c_BA1_1 := Lib.cell_of_heap BA1_17.out 1
    simp at c_BA1_1
    have c_BA1_2 := Lib.cell_of_heap BA1_17.out 2
    simp at c_BA1_2
    have c_BA1_3 := Lib.cell_of_heap BA1_17.out 3
    simp at c_BA1_3
    have c_BX0_0 := Lib.cell_of_heap BX0_17.out 0
    simp at c_BX0_0
    have c_BX0_1 := Lib.cell_of_heap BX0_17.out 1
    simp at c_BX0_1
    have c_BX0_2 := Lib.cell_of_heap BX0_17.out 2
    simp at c_BX0_2
    have c_BX1_0 := Lib.cell_of_heap BX1_17.out 0
    simp at c_BX1_0
    have c_BX1_1 := Lib.cell_of_heap BX1_17.out 1
    simp at c_BX1_1
    have c_BX1_2 := Lib.cell_of_heap BX1_17.out 2
    simp at c_BX1_2
    have c_BX1_3 := Lib.cell_of_heap BX1_17.out 3
    simp at c_BX1_3
    go_wp2_with fail
    clear c_BA0_0 c_BA0_1 c_BA0_2 c_BA1_0 c_BA1_1 c_BA1_2 c_BA1_3 c_BX0_0 c_BX0_1 c_BX0_2 c_BX1_0 c_BX1_1 c_BX1_2 c_BX1_3
    have KT : Hid (∀ z z' : World, (Below w.heap.size w z ∧ Box z (w.heap.size) #[.slice a0_0 x0.nodes.length b0_0, .slice a0_1 x0.mons.length b0_1, .slice a0_2 x0.pros.length b0_2] 26 ∧ Box z (w.heap.size + 1) #[.slice a1_0 x1.todo.length b1_0, .slice a1_1 x1.names.length b1_1, .slice a1_2 x1.vals.length b1_2, .int .i64 x1.fault] 51 ∧ PgC wc.heap.size z [.slice o1_0 k1_0 c1_0, .slice o1_1 k1_1 c1_1, .slice o1_2 k1_2 c1_2] x0 ∧ PgSh wc.heap.size z3.heap.size z (.slice o1_0 k1_0 c1_0) (.slice o1_1 k1_1 c1_1) (.slice o1_2 k1_2 c1_2) x0 ∧ Box z z3.heap.size #[.slice o1_0 k1_0 c1_0, .slice o1_1 k1_1 c1_1, .slice o1_2 k1_2 c1_2] 40 ∧ TrC y1.heap.size z [.slice o2_0 k2_0 c2_0, .slice o2_1 k2_1 c2_1, .slice o2_2 k2_2 c2_2, .int .i64 x1.fault] x1 ∧ TrSh y1.heap.size z4.heap.size z (.slice o2_0 k2_0 c2_0) (.slice o2_1 k2_1 c2_1) (.slice o2_2 k2_2 c2_2) x1 ∧ Box z z4.heap.size #[.slice o2_0 k2_0 c2_0, .slice o2_1 k2_1 c2_1, .slice o2_2 k2_2 c2_2, .int .i64 x1.fault] 34) → Below z.heap.size z z' → (Below w.heap.size w z' ∧ Box z' (w.heap.size) #[.slice a0_0 x0.nodes.length b0_0, .slice a0_1 x0.mons.length b0_1, .slice a0_2 x0.pros.length b0_2] 26 ∧ Box z' (w.heap.size + 1) #[.slice a1_0 x1.todo.length b1_0, .slice a1_1 x1.names.length b1_1, .slice a1_2 x1.vals.length b1_2, .int .i64 x1.fault] 51 ∧ PgC wc.heap.size z' [.slice o1_0 k1_0 c1_0, .slice o1_1 k1_1 c1_1, .slice o1_2 k1_2 c1_2] x0 ∧ PgSh wc.heap.size z3.heap.size z' (.slice o1_0 k1_0 c1_0) (.slice o1_1 k1_1 c1_1) (.slice o1_2 k1_2 c1_2) x0 ∧ Box z' z3.heap.size #[.slice o1_0 k1_0 c1_0, .slice o1_1 k1_1 c1_1, .slice o1_2 k1_2 c1_2] 40 ∧ TrC y1.heap.size z' [.slice o2_0 k2_0 c2_0, .slice o2_1 k2_1 c2_1, .slice o2_2 k2_2 c2_2, .int .i64 x1.fault] x1 ∧ TrSh y1.heap.size z4.heap.size z' (.slice o2_0 k2_0 c2_0) (.slice o2_1 k2_1 c2_1) (.slice o2_2 k2_2 c2_2) x1 ∧ Box z' z4.heap.size #[.slice o2_0 k2_0 c2_0, .slice o2_1 k2_1 c2_1, .slice o2_2 k2_2 c2_2, .int .i64 x1.fault] 34)) := fun z z' hz hb => ⟨(hz.1).trans (hb.mono (hz.1).size), (hz.2.1).stays hb, (hz.2.2.1).stays hb, (hz.2.2.2.1).stays hb, (hz.2.2.2.2.1).stays hb, (hz.2.2.2.2.2.1).stays hb, (hz.2.2.2.2.2.2.1).stays hb, (hz.2.2.2.2.2.2.2.1).stays hb, (hz.2.2.2.2.2.2.2.2).stays hb⟩
    have KC : Hid (∀ z : World, (Below w.heap.size w z ∧ Box z (w.heap.size) #[.slice a0_0 x0.nodes.length b0_0, .slice a0_1 x0.mons.length b0_1, .slice a0_2 x0.pros.length b0_2] 26 ∧ Box z (w.heap.size + 1) #[.slice a1_0 x1.todo.length b1_0, .slice a1_1 x1.names.length b1_1, .slice a1_2 x1.vals.length b1_2, .int .i64 x1.fault] 51 ∧ PgC wc.heap.size z [.slice o1_0 k1_0 c1_0, .slice o1_1 k1_1 c1_1, .slice o1_2 k1_2 c1_2] x0 ∧ PgSh wc.heap.size z3.heap.size z (.slice o1_0 k1_0 c1_0) (.slice o1_1 k1_1 c1_1) (.slice o1_2 k1_2 c1_2) x0 ∧ Box z z3.heap.size #[.slice o1_0 k1_0 c1_0, .slice o1_1 k1_1 c1_1, .slice o1_2 k1_2 c1_2] 40 ∧ TrC y1.heap.size z [.slice o2_0 k2_0 c2_0, .slice o2_1 k2_1 c2_1, .slice o2_2 k2_2 c2_2, .int .i64 x1.fault] x1 ∧ TrSh y1.heap.size z4.heap.size z (.slice o2_0 k2_0 c2_0) (.slice o2_1 k2_1 c2_1) (.slice o2_2 k2_2 c2_2) x1 ∧ Box z z4.heap.size #[.slice o2_0 k2_0 c2_0, .slice o2_1 k2_1 c2_1, .slice o2_2 k2_2 c2_2, .int .i64 x1.fault] 34) → (z.cell? ⟨(w.heap.size + 1), 0, none⟩ = some (.slice a1_0 x1.todo.length b1_0) ∧ z.cell? ⟨(w.heap.size + 1), 1, none⟩ = some (.slice a1_1 x1.names.length b1_1) ∧ z.cell? ⟨(w.heap.size + 1), 2, none⟩ = some (.slice a1_2 x1.vals.length b1_2) ∧ z.cell? ⟨(w.heap.size + 1), 3, none⟩ = some (.int .i64 x1.fault) ∧ z.cell? ⟨z4.heap.size, 0, none⟩ = some (.slice o2_0 k2_0 c2_0) ∧ z.cell? ⟨z4.heap.size, 1, none⟩ = some (.slice o2_1 k2_1 c2_1) ∧ z.cell? ⟨z4.heap.size, 2, none⟩ = some (.slice o2_2 k2_2 c2_2) ∧ z.cell? ⟨z4.heap.size, 3, none⟩ = some (.int .i64 x1.fault) ∧ Hid ((Below w.heap.size w z ∧ Box z (w.heap.size) #[.slice a0_0 x0.nodes.length b0_0, .slice a0_1 x0.mons.length b0_1, .slice a0_2 x0.pros.length b0_2] 26 ∧ Box z (w.heap.size + 1) #[.slice a1_0 x1.todo.length b1_0, .slice a1_1 x1.names.length b1_1, .slice a1_2 x1.vals.length b1_2, .int .i64 x1.fault] 51 ∧ PgC wc.heap.size z [.slice o1_0 k1_0 c1_0, .slice o1_1 k1_1 c1_1, .slice o1_2 k1_2 c1_2] x0 ∧ PgSh wc.heap.size z3.heap.size z (.slice o1_0 k1_0 c1_0) (.slice o1_1 k1_1 c1_1) (.slice o1_2 k1_2 c1_2) x0 ∧ Box z z3.heap.size #[.slice o1_0 k1_0 c1_0, .slice o1_1 k1_1 c1_1, .slice o1_2 k1_2 c1_2] 40 ∧ TrC y1.heap.size z [.slice o2_0 k2_0 c2_0, .slice o2_1 k2_1 c2_1, .slice o2_2 k2_2 c2_2, .int .i64 x1.fault] x1 ∧ TrSh y1.heap.size z4.heap.size z (.slice o2_0 k2_0 c2_0) (.slice o2_1 k2_1 c2_1) (.slice o2_2 k2_2 c2_2) x1 ∧ Box z z4.heap.size #[.slice o2_0 k2_0 c2_0, .slice o2_1 k2_1 c2_1, .slice o2_2 k2_2 c2_2, .int .i64 x1.fault] 34)))) := fun z hz => ⟨Lib.cell_of_heap (hz.2.2.1) 0, Lib.cell_of_heap (hz.2.2.1) 1, Lib.cell_of_heap (hz.2.2.1) 2, Lib.cell_of_heap (hz.2.2.1) 3, Lib.cell_of_heap (hz.2.2.2.2.2.2.2.2) 0, Lib.cell_of_heap (hz.2.2.2.2.2.2.2.2) 1, Lib.cell_of_heap (hz.2.2.2.2.2.2.2.2) 2, Lib.cell_of_heap (hz.2.2.2.2.2.2.2.2) 3, hz⟩
    have KV : Hid (∀ z : World, (z.cell? ⟨(w.heap.size + 1), 0, none⟩ = some (.slice a1_0 x1.todo.length b1_0) ∧ z.cell? ⟨(w.heap.size + 1), 1, none⟩ = some (.slice a1_1 x1.names.length b1_1) ∧ z.cell? ⟨(w.heap.size + 1), 2, none⟩ = some (.slice a1_2 x1.vals.length b1_2) ∧ z.cell? ⟨(w.heap.size + 1), 3, none⟩ = some (.int .i64 x1.fault) ∧ z.cell? ⟨z4.heap.size, 0, none⟩ = some (.slice o2_0 k2_0 c2_0) ∧ z.cell? ⟨z4.heap.size, 1, none⟩ = some (.slice o2_1 k2_1 c2_1) ∧ z.cell? ⟨z4.heap.size, 2, none⟩ = some (.slice o2_2 k2_2 c2_2) ∧ z.cell? ⟨z4.heap.size, 3, none⟩ = some (.int .i64 x1.fault) ∧ Hid ((Below w.heap.size w z ∧ Box z (w.heap.size) #[.slice a0_0 x0.nodes.length b0_0, .slice a0_1 x0.mons.length b0_1, .slice a0_2 x0.pros.length b0_2] 26 ∧ Box z (w.heap.size + 1) #[.slice a1_0 x1.todo.length b1_0, .slice a1_1 x1.names.length b1_1, .slice a1_2 x1.vals.length b1_2, .int .i64 x1.fault] 51 ∧ PgC wc.heap.size z [.slice o1_0 k1_0 c1_0, .slice o1_1 k1_1 c1_1, .slice o1_2 k1_2 c1_2] x0 ∧ PgSh wc.heap.size z3.heap.size z (.slice o1_0 k1_0 c1_0) (.slice o1_1 k1_1 c1_1) (.slice o1_2 k1_2 c1_2) x0 ∧ Box z z3.heap.size #[.slice o1_0 k1_0 c1_0, .slice o1_1 k1_1 c1_1, .slice o1_2 k1_2 c1_2] 40 ∧ TrC y1.heap.size z [.slice o2_0 k2_0 c2_0, .slice o2_1 k2_1 c2_1, .slice o2_2 k2_2 c2_2, .int .i64 x1.fault] x1 ∧ TrSh y1.heap.size z4.heap.size z (.slice o2_0 k2_0 c2_0) (.slice o2_1 k2_1 c2_1) (.slice o2_2 k2_2 c2_2) x1 ∧ Box z z4.heap.size #[.slice o2_0 k2_0 c2_0, .slice o2_1 k2_1 c2_1, .slice o2_2 k2_2 c2_2, .int .i64 x1.fault] 34))) → (Below w.heap.size w z ∧ Box z (w.heap.size) #[.slice a0_0 x0.nodes.length b0_0, .slice a0_1 x0.mons.length b0_1, .slice a0_2 x0.pros.length b0_2] 26 ∧ Box z (w.heap.size + 1) #[.slice a1_0 x1.todo.length b1_0, .slice a1_1 x1.names.length b1_1, .slice a1_2 x1.vals.length b1_2, .int .i64 x1.fault] 51 ∧ PgC wc.heap.size z [.slice o1_0 k1_0 c1_0, .slice o1_1 k1_1 c1_1, .slice o1_2 k1_2 c1_2] x0 ∧ PgSh wc.heap.size z3.heap.size z (.slice o1_0 k1_0 c1_0) (.slice o1_1 k1_1 c1_1) (.slice o1_2 k1_2 c1_2) x0 ∧ Box z z3.heap.size #[.slice o1_0 k1_0 c1_0, .slice o1_1 k1_1 c1_1, .slice o1_2 k1_2 c1_2] 40 ∧ TrC y1.heap.size z [.slice o2_0 k2_0 c2_0, .slice o2_1 k2_1 c2_1, .slice o2_2 k2_2 c2_2, .int .i64 x1.fault] x1 ∧ TrSh y1.heap.size z4.heap.size z (.slice o2_0 k2_0 c2_0) (.slice o2_1 k2_1 c2_1) (.slice o2_2 k2_2 c2_2) x1 ∧ Box z z4.heap.size #[.slice o2_0 k2_0 c2_0, .slice o2_1 k2_1 c2_1, .slice o2_2 k2_2 c2_2, .int .i64 x1.fault] 34)) := fun z hz => hz.2.2.2.2.2.2.2.2.out
    have KP : Hid (∀ z z' : World, (z.cell? ⟨(w.heap.size + 1), 0, none⟩ = some (.slice a1_0 x1.todo.length b1_0) ∧ z.cell? ⟨(w.heap.size + 1), 1, none⟩ = some (.slice a1_1 x1.names.length b1_1) ∧ z.cell? ⟨(w.heap.size + 1), 2, none⟩ = some (.slice a1_2 x1.vals.length b1_2) ∧ z.cell? ⟨(w.heap.size + 1), 3, none⟩ = some (.int .i64 x1.fault) ∧ z.cell? ⟨z4.heap.size, 0, none⟩ = some (.slice o2_0 k2_0 c2_0) ∧ z.cell? ⟨z4.heap.size, 1, none⟩ = some (.slice o2_1 k2_1 c2_1) ∧ z.cell? ⟨z4.heap.size, 2, none⟩ = some (.slice o2_2 k2_2 c2_2) ∧ z.cell? ⟨z4.heap.size, 3, none⟩ = some (.int .i64 x1.fault) ∧ Hid ((Below w.heap.size w z ∧ Box z (w.heap.size) #[.slice a0_0 x0.nodes.length b0_0, .slice a0_1 x0.mons.length b0_1, .slice a0_2 x0.pros.length b0_2] 26 ∧ Box z (w.heap.size + 1) #[.slice a1_0 x1.todo.length b1_0, .slice a1_1 x1.names.length b1_1, .slice a1_2 x1.vals.length b1_2, .int .i64 x1.fault] 51 ∧ PgC wc.heap.size z [.slice o1_0 k1_0 c1_0, .slice o1_1 k1_1 c1_1, .slice o1_2 k1_2 c1_2] x0 ∧ PgSh wc.heap.size z3.heap.size z (.slice o1_0 k1_0 c1_0) (.slice o1_1 k1_1 c1_1) (.slice o1_2 k1_2 c1_2) x0 ∧ Box z z3.heap.size #[.slice o1_0 k1_0 c1_0, .slice o1_1 k1_1 c1_1, .slice o1_2 k1_2 c1_2] 40 ∧ TrC y1.heap.size z [.slice o2_0 k2_0 c2_0, .slice o2_1 k2_1 c2_1, .slice o2_2 k2_2 c2_2, .int .i64 x1.fault] x1 ∧ TrSh y1.heap.size z4.heap.size z (.slice o2_0 k2_0 c2_0) (.slice o2_1 k2_1 c2_1) (.slice o2_2 k2_2 c2_2) x1 ∧ Box z z4.heap.size #[.slice o2_0 k2_0 c2_0, .slice o2_1 k2_1 c2_1, .slice o2_2 k2_2 c2_2, .int .i64 x1.fault] 34))) → Below z.heap.size z z' → (z'.cell? ⟨(w.heap.size + 1), 0, none⟩ = some (.slice a1_0 x1.todo.length b1_0) ∧ z'.cell? ⟨(w.heap.size + 1), 1, none⟩ = some (.slice a1_1 x1.names.length b1_1) ∧ z'.cell? ⟨(w.heap.size + 1), 2, none⟩ = some (.slice a1_2 x1.vals.length b1_2) ∧ z'.cell? ⟨(w.heap.size + 1), 3, none⟩ = some (.int .i64 x1.fault) ∧ z'.cell? ⟨z4.heap.size, 0, none⟩ = some (.slice o2_0 k2_0 c2_0) ∧ z'.cell? ⟨z4.heap.size, 1, none⟩ = some (.slice o2_1 k2_1 c2_1) ∧ z'.cell? ⟨z4.heap.size, 2, none⟩ = some (.slice o2_2 k2_2 c2_2) ∧ z'.cell? ⟨z4.heap.size, 3, none⟩ = some (.int .i64 x1.fault) ∧ Hid ((Below w.heap.size w z' ∧ Box z' (w.heap.size) #[.slice a0_0 x0.nodes.length b0_0, .slice a0_1 x0.mons.length b0_1, .slice a0_2 x0.pros.length b0_2] 26 ∧ Box z' (w.heap.size + 1) #[.slice a1_0 x1.todo.length b1_0, .slice a1_1 x1.names.length b1_1, .slice a1_2 x1.vals.length b1_2, .int .i64 x1.fault] 51 ∧ PgC wc.heap.size z' [.slice o1_0 k1_0 c1_0, .slice o1_1 k1_1 c1_1, .slice o1_2 k1_2 c1_2] x0 ∧ PgSh wc.heap.size z3.heap.size z' (.slice o1_0 k1_0 c1_0) (.slice o1_1 k1_1 c1_1) (.slice o1_2 k1_2 c1_2) x0 ∧ Box z' z3.heap.size #[.slice o1_0 k1_0 c1_0, .slice o1_1 k1_1 c1_1, .slice o1_2 k1_2 c1_2] 40 ∧ TrC y1.heap.size z' [.slice o2_0 k2_0 c2_0, .slice o2_1 k2_1 c2_1, .slice o2_2 k2_2 c2_2, .int .i64 x1.fault] x1 ∧ TrSh y1.heap.size z4.heap.size z' (.slice o2_0 k2_0 c2_0) (.slice o2_1 k2_1 c2_1) (.slice o2_2 k2_2 c2_2) x1 ∧ Box z' z4.heap.size #[.slice o2_0 k2_0 c2_0, .slice o2_1 k2_1 c2_1, .slice o2_2 k2_2 c2_2, .int .i64 x1.fault] 34)))) := fun z z' hz hb => KC.out _ (KT.out _ _ (KV.out _ hz) hb)
    have K0 := hide (KC.out _ (KT.out _ _ ⟨HB_17.out, BA0_17.out, BA1_17.out, XC1_17.out, XS0_17.out, BX0_17.out, XC2_17.out, XS1_17.out, BX1_17.out⟩ (Below.refl _ _).drew))
    clear HB_17 BA0_17 BA1_17 XC1_17 XS0_17 BX0_17 XC2_17 XS1_17 BX1_17
    go_region_held3 (fun z => z.cell? ⟨(w.heap.size + 1), 0, none⟩ = some (.slice a1_0 x1.todo.length b1_0) ∧ z.cell? ⟨(w.heap.size + 1), 1, none⟩ = some (.slice a1_1 x1.names.length b1_1) ∧ z.cell? ⟨(w.heap.size + 1), 2, none⟩ = some (.slice a1_2 x1.vals.length b1_2) ∧ z.cell? ⟨(w.heap.size + 1), 3, none⟩ = some (.int .i64 x1.fault) ∧ z.cell? ⟨z4.heap.size, 0, none⟩ = some (.slice o2_0 k2_0 c2_0) ∧ z.cell? ⟨z4.heap.size, 1, none⟩ = some (.slice o2_1 k2_1 c2_1) ∧ z.cell? ⟨z4.heap.size, 2, none⟩ = some (.slice o2_2 k2_2 c2_2) ∧ z.cell? ⟨z4.heap.size, 3, none⟩ = some (.int .i64 x1.fault) ∧ Hid ((Below w.heap.size w z ∧ Box z (w.heap.size) #[.slice a0_0 x0.nodes.length b0_0, .slice a0_1 x0.mons.length b0_1, .slice a0_2 x0.pros.length b0_2] 26 ∧ Box z (w.heap.size + 1) #[.slice a1_0 x1.todo.length b1_0, .slice a1_1 x1.names.length b1_1, .slice a1_2 x1.vals.length b1_2, .int .i64 x1.fault] 51 ∧ PgC wc.heap.size z [.slice o1_0 k1_0 c1_0, .slice o1_1 k1_1 c1_1, .slice o1_2 k1_2 c1_2] x0 ∧ PgSh wc.heap.size z3.heap.size z (.slice o1_0 k1_0 c1_0) (.slice o1_1 k1_1 c1_1) (.slice o1_2 k1_2 c1_2) x0 ∧ Box z z3.heap.size #[.slice o1_0 k1_0 c1_0, .slice o1_1 k1_1 c1_1, .slice o1_2 k1_2 c1_2] 40 ∧ TrC y1.heap.size z [.slice o2_0 k2_0 c2_0, .slice o2_1 k2_1 c2_1, .slice o2_2 k2_2 c2_2, .int .i64 x1.fault] x1 ∧ TrSh y1.heap.size z4.heap.size z (.slice o2_0 k2_0 c2_0) (.slice o2_1 k2_1 c2_1) (.slice o2_2 k2_2 c2_2) x1 ∧ Box z z4.heap.size #[.slice o2_0 k2_0 c2_0, .slice o2_1 k2_1 c2_1, .slice o2_2 k2_2 c2_2, .int .i64 x1.fault] 34))) (first | exact K0.out | exact KP.out _ _ (by assumption) hb7)
      (first
        | (go_at_call 21; refine (toThread_any x1 _ _ _ _ (HW1.out.stays ((KV.out _ (by assumption)).1)).a0 (HW1.out.stays ((KV.out _ (by assumption)).1)).a1 (HW1.out.stays ((KV.out _ (by assumption)).1)).a2 HN1.out.l0 HN1.out.l1 HN1.out.l2).mono ?_; rintro e w7 ⟨oo0, kk0, cc0, oo1, kk1, cc1, oo2, kk2, cc2, rfl, hc7, hb7⟩; have P7 := hide hc7.at; clear hc7)
        | (go_at_call 12; refine (eqThread_same x1 _ _ _ _ _ _ _ (((KV.out _ (by assumption)).2.2.2.2.2.2.1)).at.a0 P7.out.a0 (((KV.out _ (by assumption)).2.2.2.2.2.2.1)).at.a1 P7.out.a1 (((KV.out _ (by assumption)).2.2.2.2.2.2.1)).at.a2 P7.out.a2 HN1.out.l0 HN1.out.l1 HN1.out.l2).mono ?_; rintro e z7 ⟨rfl, hb7⟩))
    obtain ⟨f0, f1, f2, f3, f4, f5, f6, f7, f8⟩ := KV.out z7 (by assumption)
    clear KT KC KV KP K0
    have HB_18 := hide f0
    have BA0_18 := hide f1
    have BA1_18 := hide f2
    have XC1_18 := hide f3
    have XS0_18 := hide f4
    have BX0_18 := hide f5
    have XC2_18 := hide f6
    have XS1_18 := hide f7
    have BX1_18 := hide f8
    clear f0 f1 f2 f3 f4 f5 f6 f7 f8
    have c_BA0_0 := Lib.cell_of_heap BA0_18.out 0
    simp at c_BA0_0
    have c_BA0_1 := Lib.cell_of_heap BA0_18.out 1
    simp at c_BA0_1
    have c_BA0_2 := Lib.cell_of_heap BA0_18.out 2
    simp at c_BA0_2
    have c_BA1_0 := Lib.cell_of_heap BA1_18.out 0
    simp at c_BA1_0
    have c_BA1_1 := Lib.cell_of_heap BA1_18.out 1
    simp at c_BA1_1
    have c_BA1_2 := Lib.cell_of_heap BA1_18.out 2
    simp at c_BA1_2
    have c_BA1_3 := Lib.cell_of_heap BA1_18.out 3
    simp at c_BA1_3
    have c_BX0_0 := Lib.cell_of_heap BX0_18.out 0
    simp at c_BX0_0
    have c_BX0_1 := Lib.cell_of_heap BX0_18.out 1
    simp at c_BX0_1
    have c_BX0_2 := Lib.cell_of_heap BX0_18.out 2
    simp at c_BX0_2
    have c_BX1_0 := Lib.cell_of_heap BX1_18.out 0
    simp at c_BX1_0
    have c_BX1_1 := Lib.cell_of_heap BX1_18.out 1
    simp at c_BX1_1
    have c_BX1_2 := Lib.cell_of_heap BX1_18.out 2
    simp at c_BX1_2
    have c_BX1_3 := Lib.cell_of_heap BX1_18.out 3
    simp at c_BX1_3
    go_wp2
    go_ret
    exact ⟨rfl, HB_18.out⟩
end Go.Proofs.Ytipmgmmchmdajaa
