/-
  The law of Granted, out of its pieces.
-/
import Derived.Test.YtpdpmnkonkpheaaGreatPurS
import Derived.Test.YtpdpmnkonkpheaaGreatAccG
namespace Go.Proofs.YtpdpmnkonkpheaaGreat
open Go.RowKit

set_option maxRecDepth 100000 in
set_option maxHeartbeats 4000000 in
theorem lawGranted (nv mv pv : Value) (x : Pg) (w : World) (h : PgAt w nv mv pv x) (hm : PgMax x) :
    Calls Tryz.prog 3 #[.agg #[nv, mv, pv]] w fun e w' => e = .returned (.bool true) ∧ Below w.heap.size w w' := by
  have HM := hide hm
  have BA := hide (Box.made w #[nv, mv, pv] 26)
  have BB : Hid (Below w.heap.size w (w.alloc (.cells #[nv, mv, pv] 26))) := (Below.refl _ _).alloc (Nat.le_refl _) _
  have HA := hide (h.stays BB.out)
  obtain ⟨⟨a0, b0, rfl, _⟩, ⟨a1, b1, rfl, _⟩, ⟨a2, b2, rfl, _⟩⟩ := h
  clear hm
  go_enter Tryz.func3, Tryz.ntmps3
  go_wp2_with fail
  refine (szProgram_any x _ _ _ _ _ (by omega) (by omega) HA.out.nodes HA.out.mons HA.out.pros HM.out).mono ?_
  rintro e z1 ⟨r, rfl, hr, hb1⟩
  have BA1 := hide (BA.out.stays hb1)
  have BB1 := hide (BB.out.trans (hb1.mono BB.out.size))
  have HA1 := hide (HA.out.stays hb1)
  have p0 := Lib.cell_of_heap BA1.out 0
  have p1 := Lib.cell_of_heap BA1.out 1
  have p2 := Lib.cell_of_heap BA1.out 2
  simp at p0 p1 p2
  clear hb1 BA BB HA
  by_cases hr0 : r < 0
  · clear hr
    go_wp2
    go_ret
    exact ⟨rfl, BB1.out⟩
  have hsz : szPg x ≤ 1048576 := by have := (hr.resolve_left hr0).2; omega
  have hI : Hid (PgIn x) := szPg_in hsz
  have hFT : Hid (PgFit x) := szPg_fit hsz
  clear hsz
  clear hr
  go_wp2_with fail
  refine (toProgram_at HA1.out hI.out.len).mono ?_
  rintro e z2 ⟨o0, n0, c0, o1, n1, c1, o2, n2, c2, rfl, hc2, hb2⟩
  have BA2 := hide (BA1.out.stays hb2)
  have BB2 := hide (BB1.out.trans (hb2.mono BB1.out.size))
  have HA2 := hide (HA1.out.stays hb2)
  have P2 := hide hc2.at
  clear p0 p1 p2
  have p0 := Lib.cell_of_heap BA2.out 0
  have p1 := Lib.cell_of_heap BA2.out 1
  have p2 := Lib.cell_of_heap BA2.out 2
  simp at p0 p1 p2
  clear hb2 hc2 BA1 BB1 HA1
  go_wp2_with fail
  refine (specGranted_any _ _ _ x _ P2.out.1.nodes P2.out.1.mons P2.out.1.pros hFT.out).mono ?_
  rintro e z3 ⟨rfl, hb3⟩
  have BA3 := hide (BA2.out.stays hb3)
  have BB3 := hide (BB2.out.trans (hb3.mono BB2.out.size))
  have HA3 := hide (HA2.out.stays hb3)
  clear p0 p1 p2
  have p0 := Lib.cell_of_heap BA3.out 0
  have p1 := Lib.cell_of_heap BA3.out 1
  have p2 := Lib.cell_of_heap BA3.out 2
  simp at p0 p1 p2
  clear hb3 BA2 BB2 HA2 P2
  go_wp2_with fail
  refine (toProgram_at HA3.out hI.out.len).mono ?_
  rintro e z4 ⟨o3, n3, c3, o4, n4, c4, o5, n5, c5, rfl, hc4, hb4⟩
  have L4 : Hid (LawB w (.slice a0 x.nodes.length b0) (.slice a1 x.mons.length b1) (.slice a2 x.pros.length b2) x z4.heap.size (.slice o3 n3 c3) (.slice o4 n4 c4) (.slice o5 n5 c5) (z4.alloc (.cells #[.slice o3 n3 c3, .slice o4 n4 c4, .slice o5 n5 c5] 33))) := by
    have hb : Below z4.heap.size z4 (z4.alloc (.cells #[.slice o3 n3 c3, .slice o4 n4 c4, .slice o5 n5 c5] 33)) := (Below.refl _ _).alloc (Nat.le_refl _) _
    have hb5 := BB3.out.trans (hb4.mono BB3.out.size)
    exact ⟨(BA3.out.stays hb4).stays hb, Box.made _ _ _, hb5.trans (hb.mono hb5.size), (HA3.out.stays hb4).stays hb, hc4.at.1.stays hb⟩
  have R4 : Hid (NdsRoom (z4.alloc (.cells #[.slice o3 n3 c3, .slice o4 n4 c4, .slice o5 n5 c5] 33)) (.slice o3 n3 c3) x.nodes.length) := hc4.at.2.stays ((Below.refl _ _).alloc (Nat.le_refl _) _)
  clear p0 p1 p2 hb4 hc4 BA3 BB3 HA3
  go_wp2_with fail
  refine (implGranted_any _ _ _ x _ L4.out.own.nodes L4.out.own.mons L4.out.own.pros R4.out hFT.out).mono ?_
  rintro e z5 ⟨rfl, hb5⟩
  rw [← grant_eq]
  have L5 := hide (L4.out.stays hb5)
  clear hb5 L4 R4
  obtain ⟨g0, g1, g2, g3, g4, g5, hh⟩ := L5.out.spread
  go_wp2_with fail
  have KP : Hid (∀ z z' : World, (z.cell? ⟨w.heap.size, 0, none⟩ = some (.slice a0 x.nodes.length b0) ∧ z.cell? ⟨w.heap.size, 1, none⟩ = some (.slice a1 x.mons.length b1) ∧ z.cell? ⟨w.heap.size, 2, none⟩ = some (.slice a2 x.pros.length b2) ∧ z.cell? ⟨z4.heap.size, 0, none⟩ = some (.slice o3 n3 c3) ∧ z.cell? ⟨z4.heap.size, 1, none⟩ = some (.slice o4 n4 c4) ∧ z.cell? ⟨z4.heap.size, 2, none⟩ = some (.slice o5 n5 c5) ∧ Hid (LawB w (.slice a0 x.nodes.length b0) (.slice a1 x.mons.length b1) (.slice a2 x.pros.length b2) x z4.heap.size (.slice o3 n3 c3) (.slice o4 n4 c4) (.slice o5 n5 c5) z)) → Below z.heap.size z z' → (z'.cell? ⟨w.heap.size, 0, none⟩ = some (.slice a0 x.nodes.length b0) ∧ z'.cell? ⟨w.heap.size, 1, none⟩ = some (.slice a1 x.mons.length b1) ∧ z'.cell? ⟨w.heap.size, 2, none⟩ = some (.slice a2 x.pros.length b2) ∧ z'.cell? ⟨z4.heap.size, 0, none⟩ = some (.slice o3 n3 c3) ∧ z'.cell? ⟨z4.heap.size, 1, none⟩ = some (.slice o4 n4 c4) ∧ z'.cell? ⟨z4.heap.size, 2, none⟩ = some (.slice o5 n5 c5) ∧ Hid (LawB w (.slice a0 x.nodes.length b0) (.slice a1 x.mons.length b1) (.slice a2 x.pros.length b2) x z4.heap.size (.slice o3 n3 c3) (.slice o4 n4 c4) (.slice o5 n5 c5) z'))) := fun z z' hz hb => (hz.2.2.2.2.2.2.out.stays hb).spread
  have KD : Hid (∀ z : World, (z.cell? ⟨w.heap.size, 0, none⟩ = some (.slice a0 x.nodes.length b0) ∧ z.cell? ⟨w.heap.size, 1, none⟩ = some (.slice a1 x.mons.length b1) ∧ z.cell? ⟨w.heap.size, 2, none⟩ = some (.slice a2 x.pros.length b2) ∧ z.cell? ⟨z4.heap.size, 0, none⟩ = some (.slice o3 n3 c3) ∧ z.cell? ⟨z4.heap.size, 1, none⟩ = some (.slice o4 n4 c4) ∧ z.cell? ⟨z4.heap.size, 2, none⟩ = some (.slice o5 n5 c5) ∧ Hid (LawB w (.slice a0 x.nodes.length b0) (.slice a1 x.mons.length b1) (.slice a2 x.pros.length b2) x z4.heap.size (.slice o3 n3 c3) (.slice o4 n4 c4) (.slice o5 n5 c5) z)) → LawB w (.slice a0 x.nodes.length b0) (.slice a1 x.mons.length b1) (.slice a2 x.pros.length b2) x z4.heap.size (.slice o3 n3 c3) (.slice o4 n4 c4) (.slice o5 n5 c5) z) := fun z hz => hz.2.2.2.2.2.2.out
  have K0 := hide (L5.out.stays (Below.refl _ _).drew).spread
  go_region_held3 (fun z => z.cell? ⟨w.heap.size, 0, none⟩ = some (.slice a0 x.nodes.length b0) ∧ z.cell? ⟨w.heap.size, 1, none⟩ = some (.slice a1 x.mons.length b1) ∧ z.cell? ⟨w.heap.size, 2, none⟩ = some (.slice a2 x.pros.length b2) ∧ z.cell? ⟨z4.heap.size, 0, none⟩ = some (.slice o3 n3 c3) ∧ z.cell? ⟨z4.heap.size, 1, none⟩ = some (.slice o4 n4 c4) ∧ z.cell? ⟨z4.heap.size, 2, none⟩ = some (.slice o5 n5 c5) ∧ Hid (LawB w (.slice a0 x.nodes.length b0) (.slice a1 x.mons.length b1) (.slice a2 x.pros.length b2) x z4.heap.size (.slice o3 n3 c3) (.slice o4 n4 c4) (.slice o5 n5 c5) z)) (first | exact K0.out | exact KP.out _ _ (by assumption) hb7)
    ((first
      | (go_at_call 6; refine (toProgram_at (KD.out _ (by assumption)).arg hI.out.len).mono ?_; rintro e w7 ⟨o6, n6, c6, o7, n7, c7, o8, n8, c8, rfl, hc7, hb7⟩; have P7 := hide hc7.at; clear hc7)
      | (go_at_call 8; refine (eqProgram_at (KD.out _ (by assumption)).own P7.out.1 hI.out.len).mono ?_; rintro e w7 ⟨rfl, hb7⟩)))
  all_goals (have D := hide (KD.out _ (by assumption)))
  all_goals go_wp2
  all_goals go_ret
  all_goals exact ⟨rfl, D.out.bel⟩
end Go.Proofs.YtpdpmnkonkpheaaGreat
