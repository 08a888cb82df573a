/-
  The laws of MonitorAt and EntryAt, out of their pieces.
-/
import Derived.Test.YthhmonkfhjfagaaLawK
import Derived.Test.YthhmonkfhjfagaaEntW
import Derived.Test.YthhmonkfhjfagaaEntI
import Derived.Deep.RegionHeld3
namespace Go.Proofs.Ythhmonkfhjfagaa
open Go.RowKit

/-- What holds while a law on one program runs: the argument in its box, the copy in its box. -/
structure LawB (w : World) (nv mv pv : Value) (x : Pg) (g : Nat) (a b c : Value) (z : World) : Prop where
  bA : Box z w.heap.size #[nv, mv, pv] 26
  b0 : Box z g #[a, b, c] 33
  bel : Below w.heap.size w z
  arg : PgAt z nv mv pv x
  own : PgAt z a b c x
theorem LawB.stays {w : World} {nv mv pv : Value} {x : Pg} {g : Nat} {a b c : Value} {z z' : World} (h : LawB w nv mv pv x g a b c z) (hb : Below z.heap.size z z') : LawB w nv mv pv x g a b c z' :=
  ⟨h.bA.stays hb, h.b0.stays hb, h.bel.trans (hb.mono h.bel.size), h.arg.stays hb, h.own.stays hb⟩
theorem LawB.spread {w : World} {nv mv pv : Value} {x : Pg} {g : Nat} {a b c : Value} {z : World} (h : LawB w nv mv pv x g a b c z) :
    z.cell? ⟨w.heap.size, 0, none⟩ = some nv ∧ z.cell? ⟨w.heap.size, 1, none⟩ = some mv ∧ z.cell? ⟨w.heap.size, 2, none⟩ = some pv ∧ z.cell? ⟨g, 0, none⟩ = some a ∧ z.cell? ⟨g, 1, none⟩ = some b ∧ z.cell? ⟨g, 2, none⟩ = some c ∧ Hid (LawB w nv mv pv x g a b c z) :=
  ⟨Lib.cell_of_heap h.bA 0, Lib.cell_of_heap h.bA 1, Lib.cell_of_heap h.bA 2, Lib.cell_of_heap h.b0 0, Lib.cell_of_heap h.b0 1, Lib.cell_of_heap h.b0 2, h⟩
set_option maxRecDepth 100000 in
set_option maxHeartbeats 4000000 in
theorem lawEntryAt (nv mv pv : Value) (x : Pg) (m : Int) (s : ByteArray) (w : World) (h : PgAt w nv mv pv x) (hm : PgMax x) (hw : s.size ≤ maxLen) :
    Calls Try.prog 3 #[.agg #[nv, mv, pv], .int .i64 m, .string s] w fun e w' => e = .returned (.bool true) ∧ Below w.heap.size w w' := by
  have HM := hide hm
  have BA := hide (Box.made w #[nv, mv, pv] 26)
  have BB : Hid (Below w.heap.size w (w.alloc (.cells #[nv, mv, pv] 26))) := (Below.refl _ _).alloc (Nat.le_refl _) _
  have HA := hide (h.stays BB.out)
  obtain ⟨⟨a0, b0, rfl, _⟩, ⟨a1, b1, rfl, _⟩, ⟨a2, b2, rfl, _⟩⟩ := h
  clear hm
  unfold maxLen at hw
  by_cases hs : s.size ≤ 1048576
  case neg =>
    go_enter Try.func3, Try.ntmps3
    go_wp2
    go_ret
    exact ⟨rfl, BB.out⟩
  go_enter Try.func3, Try.ntmps3
  go_wp2_with fail
  refine (szProgram_any x _ _ _ _ _ (by omega) (by omega) HA.out.nodes HA.out.mons HA.out.pros HM.out).mono ?_
  rintro e z1 ⟨r, rfl, hr, hb1⟩
  have BA1 := hide (BA.out.stays hb1)
  have BB1 := hide (BB.out.trans (hb1.mono BB.out.size))
  have HA1 := hide (HA.out.stays hb1)
  have p0 := Lib.cell_of_heap BA1.out 0
  have p1 := Lib.cell_of_heap BA1.out 1
  have p2 := Lib.cell_of_heap BA1.out 2
  simp at p0 p1 p2
  clear hb1 BA BB HA
  by_cases hr0 : r < 0
  · clear hr
    go_wp2
    go_ret
    exact ⟨rfl, BB1.out⟩
  have hsz : szPg x ≤ 1048576 := by have := (hr.resolve_left hr0).2; omega
  have hI : Hid (PgLen x) := szPg_len hsz
  clear hsz
  clear hr
  go_wp2_with fail
  refine (toProgram_at HA1.out hI.out).mono ?_
  rintro e z2 ⟨o0, n0, c0, o1, n1, c1, o2, n2, c2, rfl, hc2, hb2⟩
  have BA2 := hide (BA1.out.stays hb2)
  have BB2 := hide (BB1.out.trans (hb2.mono BB1.out.size))
  have HA2 := hide (HA1.out.stays hb2)
  have P2 := hide hc2.at
  clear p0 p1 p2
  have p0 := Lib.cell_of_heap BA2.out 0
  have p1 := Lib.cell_of_heap BA2.out 1
  have p2 := Lib.cell_of_heap BA2.out 2
  simp at p0 p1 p2
  clear hb2 hc2 BA1 BB1 HA1
  go_wp2_with fail
  refine (specEntryAt_any _ _ _ x.mons m s _ P2.out.1.nodes.sl P2.out.1.mons P2.out.1.pros.sl hI.out.ml (fun y hy => (hI.out.mon y hy).2.2)).mono ?_
  rintro e z3 ⟨rfl, hb3⟩
  have BA3 := hide (BA2.out.stays hb3)
  have BB3 := hide (BB2.out.trans (hb3.mono BB2.out.size))
  have HA3 := hide (HA2.out.stays hb3)
  clear p0 p1 p2
  have p0 := Lib.cell_of_heap BA3.out 0
  have p1 := Lib.cell_of_heap BA3.out 1
  have p2 := Lib.cell_of_heap BA3.out 2
  simp at p0 p1 p2
  clear hb3 BA2 BB2 HA2 P2
  go_wp2_with fail
  refine (toProgram_at HA3.out hI.out).mono ?_
  rintro e z4 ⟨o3, n3, c3, o4, n4, c4, o5, n5, c5, rfl, hc4, hb4⟩
  have L4 : Hid (LawB w (.slice a0 x.nodes.length b0) (.slice a1 x.mons.length b1) (.slice a2 x.pros.length b2) x z4.heap.size (.slice o3 n3 c3) (.slice o4 n4 c4) (.slice o5 n5 c5) (z4.alloc (.cells #[.slice o3 n3 c3, .slice o4 n4 c4, .slice o5 n5 c5] 33))) := by
    have hb : Below z4.heap.size z4 (z4.alloc (.cells #[.slice o3 n3 c3, .slice o4 n4 c4, .slice o5 n5 c5] 33)) := (Below.refl _ _).alloc (Nat.le_refl _) _
    have hb5 := BB3.out.trans (hb4.mono BB3.out.size)
    exact ⟨(BA3.out.stays hb4).stays hb, Box.made _ _ _, hb5.trans (hb.mono hb5.size), (HA3.out.stays hb4).stays hb, hc4.at.1.stays hb⟩
  have R4 : Hid (NdsRoom (z4.alloc (.cells #[.slice o3 n3 c3, .slice o4 n4 c4, .slice o5 n5 c5] 33)) (.slice o3 n3 c3) x.nodes.length) := hc4.at.2.stays ((Below.refl _ _).alloc (Nat.le_refl _) _)
  clear p0 p1 p2 hb4 hc4 BA3 BB3 HA3
  go_wp2_with fail
  refine (implEntryAt_any _ _ _ x.mons m s _ L4.out.own.nodes.sl L4.out.own.mons L4.out.own.pros.sl (fun y hy => (hI.out.mon y hy).2.2)).mono ?_
  rintro e z5 ⟨rfl, hb5⟩
  have L5 := hide (L4.out.stays hb5)
  clear hb5 L4 R4
  obtain ⟨g0, g1, g2, g3, g4, g5, hh⟩ := L5.out.spread
  go_wp2_with fail
  have KP : Hid (∀ z z' : World, (z.cell? ⟨w.heap.size, 0, none⟩ = some (.slice a0 x.nodes.length b0) ∧ z.cell? ⟨w.heap.size, 1, none⟩ = some (.slice a1 x.mons.length b1) ∧ z.cell? ⟨w.heap.size, 2, none⟩ = some (.slice a2 x.pros.length b2) ∧ z.cell? ⟨z4.heap.size, 0, none⟩ = some (.slice o3 n3 c3) ∧ z.cell? ⟨z4.heap.size, 1, none⟩ = some (.slice o4 n4 c4) ∧ z.cell? ⟨z4.heap.size, 2, none⟩ = some (.slice o5 n5 c5) ∧ Hid (LawB w (.slice a0 x.nodes.length b0) (.slice a1 x.mons.length b1) (.slice a2 x.pros.length b2) x z4.heap.size (.slice o3 n3 c3) (.slice o4 n4 c4) (.slice o5 n5 c5) z)) → Below z.heap.size z z' → (z'.cell? ⟨w.heap.size, 0, none⟩ = some (.slice a0 x.nodes.length b0) ∧ z'.cell? ⟨w.heap.size, 1, none⟩ = some (.slice a1 x.mons.length b1) ∧ z'.cell? ⟨w.heap.size, 2, none⟩ = some (.slice a2 x.pros.length b2) ∧ z'.cell? ⟨z4.heap.size, 0, none⟩ = some (.slice o3 n3 c3) ∧ z'.cell? ⟨z4.heap.size, 1, none⟩ = some (.slice o4 n4 c4) ∧ z'.cell? ⟨z4.heap.size, 2, none⟩ = some (.slice o5 n5 c5) ∧ Hid (LawB w (.slice a0 x.nodes.length b0) (.slice a1 x.mons.length b1) (.slice a2 x.pros.length b2) x z4.heap.size (.slice o3 n3 c3) (.slice o4 n4 c4) (.slice o5 n5 c5) z'))) := fun z z' hz hb => (hz.2.2.2.2.2.2.out.stays hb).spread
  have KD : Hid (∀ z : World, (z.cell? ⟨w.heap.size, 0, none⟩ = some (.slice a0 x.nodes.length b0) ∧ z.cell? ⟨w.heap.size, 1, none⟩ = some (.slice a1 x.mons.length b1) ∧ z.cell? ⟨w.heap.size, 2, none⟩ = some (.slice a2 x.pros.length b2) ∧ z.cell? ⟨z4.heap.size, 0, none⟩ = some (.slice o3 n3 c3) ∧ z.cell? ⟨z4.heap.size, 1, none⟩ = some (.slice o4 n4 c4) ∧ z.cell? ⟨z4.heap.size, 2, none⟩ = some (.slice o5 n5 c5) ∧ Hid (LawB w (.slice a0 x.nodes.length b0) (.slice a1 x.mons.length b1) (.slice a2 x.pros.length b2) x z4.heap.size (.slice o3 n3 c3) (.slice o4 n4 c4) (.slice o5 n5 c5) z)) → LawB w (.slice a0 x.nodes.length b0) (.slice a1 x.mons.length b1) (.slice a2 x.pros.length b2) x z4.heap.size (.slice o3 n3 c3) (.slice o4 n4 c4) (.slice o5 n5 c5) z) := fun z hz => hz.2.2.2.2.2.2.out
  have K0 := hide (L5.out.stays (Below.refl _ _).drew).spread
  go_region_held3 (fun z => z.cell? ⟨w.heap.size, 0, none⟩ = some (.slice a0 x.nodes.length b0) ∧ z.cell? ⟨w.heap.size, 1, none⟩ = some (.slice a1 x.mons.length b1) ∧ z.cell? ⟨w.heap.size, 2, none⟩ = some (.slice a2 x.pros.length b2) ∧ z.cell? ⟨z4.heap.size, 0, none⟩ = some (.slice o3 n3 c3) ∧ z.cell? ⟨z4.heap.size, 1, none⟩ = some (.slice o4 n4 c4) ∧ z.cell? ⟨z4.heap.size, 2, none⟩ = some (.slice o5 n5 c5) ∧ Hid (LawB w (.slice a0 x.nodes.length b0) (.slice a1 x.mons.length b1) (.slice a2 x.pros.length b2) x z4.heap.size (.slice o3 n3 c3) (.slice o4 n4 c4) (.slice o5 n5 c5) z)) (first | exact K0.out | exact KP.out _ _ (by assumption) hb7)
    ((first
      | (go_at_call 6; refine (toProgram_at (KD.out _ (by assumption)).arg hI.out).mono ?_; rintro e w7 ⟨o6, n6, c6, o7, n7, c7, o8, n8, c8, rfl, hc7, hb7⟩; have P7 := hide hc7.at; clear hc7)
      | (go_at_call 8; refine (eqProgram_at (KD.out _ (by assumption)).own P7.out.1 hI.out).mono ?_; rintro e w7 ⟨rfl, hb7⟩)))
  all_goals (have D := hide (KD.out _ (by assumption)))
  all_goals go_wp2
  all_goals go_ret
  all_goals exact ⟨rfl, D.out.bel⟩
end Go.Proofs.Ythhmonkfhjfagaa
