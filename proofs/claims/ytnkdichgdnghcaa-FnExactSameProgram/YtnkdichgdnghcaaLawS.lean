/-
  The law of two programs that are held against each other, out of its pieces.
-/
import Derived.Test.YtnkdichgdnghcaaLawK
import Derived.Test.YtnkdichgdnghcaaSameE
namespace Go.Proofs.Ytnkdichgdnghcaa
open Go.RowKit

/-- Two programs that came in, in their boxes. -/
structure Two (w : World) (a b c a' b' c' : Value) (x y : Pg) (z : World) : Prop where
  bA : Box z w.heap.size #[a, b, c] 26
  bB : Box z (w.heap.size + 1) #[a', b', c'] 26
  bel : Below w.heap.size w z
  argA : PgAt z a b c x
  argB : PgAt z a' b' c' y
theorem Two.stays {w : World} {a b c a' b' c' : Value} {x y : Pg} {z z' : World} (h : Two w a b c a' b' c' x y z) (hb : Below z.heap.size z z') : Two w a b c a' b' c' x y z' :=
  ⟨h.bA.stays hb, h.bB.stays hb, h.bel.trans (hb.mono h.bel.size), h.argA.stays hb, h.argB.stays hb⟩
theorem Two.spread {w : World} {a b c a' b' c' : Value} {x y : Pg} {z : World} (h : Two w a b c a' b' c' x y z) :
    z.cell? ⟨w.heap.size, 0, none⟩ = some a ∧ z.cell? ⟨w.heap.size, 1, none⟩ = some b ∧ z.cell? ⟨w.heap.size, 2, none⟩ = some c ∧ z.cell? ⟨w.heap.size + 1, 0, none⟩ = some a' ∧ z.cell? ⟨w.heap.size + 1, 1, none⟩ = some b' ∧ z.cell? ⟨w.heap.size + 1, 2, none⟩ = some c' ∧ Hid (Two w a b c a' b' c' x y z) :=
  ⟨Lib.cell_of_heap h.bA 0, Lib.cell_of_heap h.bA 1, Lib.cell_of_heap h.bA 2, Lib.cell_of_heap h.bB 0, Lib.cell_of_heap h.bB 1, Lib.cell_of_heap h.bB 2, h⟩
/-- Copies of both, in boxes of the law's own. -/
structure Four (w : World) (a b c a' b' c' : Value) (x y : Pg) (g : Nat) (d e f : Value) (g' : Nat) (d' e' f' : Value) (z : World) : Prop where
  two : Two w a b c a' b' c' x y z
  b0 : Box z g #[d, e, f] 33
  b1 : Box z g' #[d', e', f'] 33
  ownA : PgAt z d e f x
  ownB : PgAt z d' e' f' y
theorem Four.stays {w : World} {a b c a' b' c' : Value} {x y : Pg} {g : Nat} {d e f : Value} {g' : Nat} {d' e' f' : Value} {z z' : World} (h : Four w a b c a' b' c' x y g d e f g' d' e' f' z) (hb : Below z.heap.size z z') : Four w a b c a' b' c' x y g d e f g' d' e' f' z' :=
  ⟨h.two.stays hb, h.b0.stays hb, h.b1.stays hb, h.ownA.stays hb, h.ownB.stays hb⟩
theorem Four.spread {w : World} {a b c a' b' c' : Value} {x y : Pg} {g : Nat} {d e f : Value} {g' : Nat} {d' e' f' : Value} {z : World} (h : Four w a b c a' b' c' x y g d e f g' d' e' f' z) :
    (z.cell? ⟨w.heap.size, 0, none⟩ = some a ∧ z.cell? ⟨w.heap.size, 1, none⟩ = some b ∧ z.cell? ⟨w.heap.size, 2, none⟩ = some c ∧ z.cell? ⟨w.heap.size + 1, 0, none⟩ = some a' ∧ z.cell? ⟨w.heap.size + 1, 1, none⟩ = some b' ∧ z.cell? ⟨w.heap.size + 1, 2, none⟩ = some c')
      ∧ (z.cell? ⟨g, 0, none⟩ = some d ∧ z.cell? ⟨g, 1, none⟩ = some e ∧ z.cell? ⟨g, 2, none⟩ = some f ∧ z.cell? ⟨g', 0, none⟩ = some d' ∧ z.cell? ⟨g', 1, none⟩ = some e' ∧ z.cell? ⟨g', 2, none⟩ = some f') ∧ Hid (Four w a b c a' b' c' x y g d e f g' d' e' f' z) :=
  ⟨⟨Lib.cell_of_heap h.two.bA 0, Lib.cell_of_heap h.two.bA 1, Lib.cell_of_heap h.two.bA 2, Lib.cell_of_heap h.two.bB 0, Lib.cell_of_heap h.two.bB 1, Lib.cell_of_heap h.two.bB 2⟩,
    ⟨Lib.cell_of_heap h.b0 0, Lib.cell_of_heap h.b0 1, Lib.cell_of_heap h.b0 2, Lib.cell_of_heap h.b1 0, Lib.cell_of_heap h.b1 1, Lib.cell_of_heap h.b1 2⟩, h⟩
theorem specSame_at {w : World} {a b c a' b' c' : Value} {x y : Pg} (h : PgAt w a b c x) (k : PgAt w a' b' c' y) (lx : PgLen x) (ly : PgLen y) :
    Calls Try.prog 5 #[.agg #[a, b, c], .agg #[a', b', c']] w fun e w' => e = .returned (.bool (pgB x y)) ∧ Below w.heap.size w w' :=
  specSame_any x y a a' b b' c c' w h.nodes k.nodes h.mons k.mons h.pros k.pros lx ly
theorem implSame_at {w : World} {a b c a' b' c' : Value} {x y : Pg} (h : PgAt w a b c x) (k : PgAt w a' b' c' y) (lx : PgLen x) (ly : PgLen y) :
    Calls Try.prog 7 #[.agg #[a, b, c], .agg #[a', b', c']] w fun e w' => e = .returned (.bool (pgB x y)) ∧ Below w.heap.size w w' :=
  samePg_any x y a a' b b' c c' w h.nodes k.nodes h.mons k.mons h.pros k.pros lx ly

set_option maxRecDepth 100000 in
set_option maxHeartbeats 8000000 in
theorem lawSame (nv mv pv nv' mv' pv' : Value) (x y : Pg) (w : World) (h : PgAt w nv mv pv x) (k : PgAt w nv' mv' pv' y) (hm : PgMax x) (km : PgMax y) :
    Calls Try.prog 3 #[.agg #[nv, mv, pv], .agg #[nv', mv', pv']] w fun e w' => e = .returned (.bool true) ∧ Below w.heap.size w w' := by
  have HM := hide hm
  have KM := hide km
  have T0 : Hid (Two w nv mv pv nv' mv' pv' x y ((w.alloc (.cells #[nv, mv, pv] 26)).alloc (.cells #[nv', mv', pv'] 26))) := by
    have hb : Below w.heap.size w ((w.alloc (.cells #[nv, mv, pv] 26)).alloc (.cells #[nv', mv', pv'] 26)) := by go_grown
    exact ⟨(Box.made w _ _).stays ((Below.refl _ _).alloc (Nat.le_refl _) _), Box.madeAt (by simp) _ _, hb, h.stays hb, k.stays hb⟩
  obtain ⟨⟨a0, b0, rfl, _⟩, ⟨a1, b1, rfl, _⟩, ⟨a2, b2, rfl, _⟩⟩ := h
  obtain ⟨⟨a3, b3, rfl, _⟩, ⟨a4, b4, rfl, _⟩, ⟨a5, b5, rfl, _⟩⟩ := k
  clear hm km
  obtain ⟨nx0, e⟩ : ∃ n, x.nodes.length = n := ⟨_, rfl⟩
  rw [e] at T0 ⊢; clear e
  obtain ⟨nx1, e⟩ : ∃ n, x.mons.length = n := ⟨_, rfl⟩
  rw [e] at T0 ⊢; clear e
  obtain ⟨nx2, e⟩ : ∃ n, x.pros.length = n := ⟨_, rfl⟩
  rw [e] at T0 ⊢; clear e
  obtain ⟨ny0, e⟩ : ∃ n, y.nodes.length = n := ⟨_, rfl⟩
  rw [e] at T0 ⊢; clear e
  obtain ⟨ny1, e⟩ : ∃ n, y.mons.length = n := ⟨_, rfl⟩
  rw [e] at T0 ⊢; clear e
  obtain ⟨ny2, e⟩ : ∃ n, y.pros.length = n := ⟨_, rfl⟩
  rw [e] at T0 ⊢; clear e
  go_enter Try.func3, Try.ntmps3
  go_wp2_with fail
  refine (szProgram_any x _ _ _ _ _ (by omega) (by omega) T0.out.argA.nodes T0.out.argA.mons T0.out.argA.pros HM.out).mono ?_
  rintro e z1 ⟨r, rfl, hr, hb1⟩
  have T1 := hide (T0.out.stays hb1)
  clear hb1 T0
  obtain ⟨q0, q1, q2, q3, q4, q5, _⟩ := T1.out.spread
  by_cases hr0 : r < 0
  · clear hr
    go_wp2
    go_ret
    exact ⟨rfl, T1.out.bel⟩
  have hr1 : 0 ≤ r := by omega
  have hr2 : r ≤ 1048576 := by have := (hr.resolve_left hr0).2; omega
  have LX : Hid (PgLen x) := szPg_len (by have := (hr.resolve_left hr0).2; omega)
  clear hr
  go_wp2_with fail
  refine (szProgram_any y _ _ _ _ _ hr1 hr2 T1.out.argB.nodes T1.out.argB.mons T1.out.argB.pros KM.out).mono ?_
  rintro e z2 ⟨r', rfl, hr, hb1⟩
  have T2 := hide (T1.out.stays hb1)
  clear hb1 T1 q0 q1 q2 q3 q4 q5
  obtain ⟨q0, q1, q2, q3, q4, q5, _⟩ := T2.out.spread
  by_cases hr0' : r' < 0
  · clear hr
    go_wp2
    go_ret
    exact ⟨rfl, T2.out.bel⟩
  have LY : Hid (PgLen y) := szPg_len (by have := (hr.resolve_left hr0').2; omega)
  clear hr hr0 hr1 hr2
  go_wp2_with fail
  clear q0 q1 q2 q3 q4 q5
  have KP : Hid (∀ z z' : World, (z.cell? ⟨w.heap.size, 0, none⟩ = some (.slice a0 nx0 b0) ∧ z.cell? ⟨w.heap.size, 1, none⟩ = some (.slice a1 nx1 b1) ∧ z.cell? ⟨w.heap.size, 2, none⟩ = some (.slice a2 nx2 b2) ∧ z.cell? ⟨w.heap.size + 1, 0, none⟩ = some (.slice a3 ny0 b3) ∧ z.cell? ⟨w.heap.size + 1, 1, none⟩ = some (.slice a4 ny1 b4) ∧ z.cell? ⟨w.heap.size + 1, 2, none⟩ = some (.slice a5 ny2 b5) ∧ Hid (Two w (.slice a0 nx0 b0) (.slice a1 nx1 b1) (.slice a2 nx2 b2) (.slice a3 ny0 b3) (.slice a4 ny1 b4) (.slice a5 ny2 b5) x y z)) → Below z.heap.size z z' → (z'.cell? ⟨w.heap.size, 0, none⟩ = some (.slice a0 nx0 b0) ∧ z'.cell? ⟨w.heap.size, 1, none⟩ = some (.slice a1 nx1 b1) ∧ z'.cell? ⟨w.heap.size, 2, none⟩ = some (.slice a2 nx2 b2) ∧ z'.cell? ⟨w.heap.size + 1, 0, none⟩ = some (.slice a3 ny0 b3) ∧ z'.cell? ⟨w.heap.size + 1, 1, none⟩ = some (.slice a4 ny1 b4) ∧ z'.cell? ⟨w.heap.size + 1, 2, none⟩ = some (.slice a5 ny2 b5) ∧ Hid (Two w (.slice a0 nx0 b0) (.slice a1 nx1 b1) (.slice a2 nx2 b2) (.slice a3 ny0 b3) (.slice a4 ny1 b4) (.slice a5 ny2 b5) x y z'))) := fun z z' hz hb => (hz.2.2.2.2.2.2.out.stays hb).spread
  have KD : Hid (∀ z : World, (z.cell? ⟨w.heap.size, 0, none⟩ = some (.slice a0 nx0 b0) ∧ z.cell? ⟨w.heap.size, 1, none⟩ = some (.slice a1 nx1 b1) ∧ z.cell? ⟨w.heap.size, 2, none⟩ = some (.slice a2 nx2 b2) ∧ z.cell? ⟨w.heap.size + 1, 0, none⟩ = some (.slice a3 ny0 b3) ∧ z.cell? ⟨w.heap.size + 1, 1, none⟩ = some (.slice a4 ny1 b4) ∧ z.cell? ⟨w.heap.size + 1, 2, none⟩ = some (.slice a5 ny2 b5) ∧ Hid (Two w (.slice a0 nx0 b0) (.slice a1 nx1 b1) (.slice a2 nx2 b2) (.slice a3 ny0 b3) (.slice a4 ny1 b4) (.slice a5 ny2 b5) x y z)) → Two w (.slice a0 nx0 b0) (.slice a1 nx1 b1) (.slice a2 nx2 b2) (.slice a3 ny0 b3) (.slice a4 ny1 b4) (.slice a5 ny2 b5) x y z) := fun z hz => hz.2.2.2.2.2.2.out
  have K0 := hide (T2.out.stays (Below.refl _ _).drew).spread
  go_region_held3 (fun z => z.cell? ⟨w.heap.size, 0, none⟩ = some (.slice a0 nx0 b0) ∧ z.cell? ⟨w.heap.size, 1, none⟩ = some (.slice a1 nx1 b1) ∧ z.cell? ⟨w.heap.size, 2, none⟩ = some (.slice a2 nx2 b2) ∧ z.cell? ⟨w.heap.size + 1, 0, none⟩ = some (.slice a3 ny0 b3) ∧ z.cell? ⟨w.heap.size + 1, 1, none⟩ = some (.slice a4 ny1 b4) ∧ z.cell? ⟨w.heap.size + 1, 2, none⟩ = some (.slice a5 ny2 b5) ∧ Hid (Two w (.slice a0 nx0 b0) (.slice a1 nx1 b1) (.slice a2 nx2 b2) (.slice a3 ny0 b3) (.slice a4 ny1 b4) (.slice a5 ny2 b5) x y z)) (first | exact K0.out | exact KP.out _ _ (by assumption) hb7)
    ((first
      | (go_at_call 6; refine (toProgram_at (by first | exact (KD.out _ (by assumption)).argA | exact (KD.out _ (by assumption)).argB) (by first | exact LX.out | exact LY.out)).mono ?_; rintro e w7 ⟨o6, n6, c6, o7, n7, c7, o8, n8, c8, rfl, hc7, hb7⟩; (first | (have P9 := hide (P7.out.stays hb7); clear P7; have P7 := hide hc7.at.1; clear hc7) | (have P7 := hide hc7.at.1; clear hc7)))
      | (go_at_call 5; refine (specSame_at (by first | exact P9.out | exact P7.out) (by first | exact P9.out | exact P7.out) LX.out LY.out).mono ?_; rintro e w7 ⟨rfl, hb7⟩; clear P7 P9)))
  all_goals (have D := hide (KD.out _ (by assumption)))
  all_goals clear KP KD K0
  all_goals obtain ⟨q0, q1, q2, q3, q4, q5, _⟩ := D.out.spread
  all_goals go_wp2_with fail
  all_goals refine (toProgram_at D.out.argA LX.out).mono ?_
  all_goals rintro e z4 ⟨o0, n0, c0, o1, n1, c1, o2, n2, c2, rfl, hc4, hb4⟩
  all_goals (have E4 : Hid (Two w (.slice a0 nx0 b0) (.slice a1 nx1 b1) (.slice a2 nx2 b2) (.slice a3 ny0 b3) (.slice a4 ny1 b4) (.slice a5 ny2 b5) x y (z4.alloc (.cells #[.slice o0 n0 c0, .slice o1 n1 c1, .slice o2 n2 c2] 33)) ∧ Box (z4.alloc (.cells #[.slice o0 n0 c0, .slice o1 n1 c1, .slice o2 n2 c2] 33)) z4.heap.size #[.slice o0 n0 c0, .slice o1 n1 c1, .slice o2 n2 c2] 33 ∧ PgAt (z4.alloc (.cells #[.slice o0 n0 c0, .slice o1 n1 c1, .slice o2 n2 c2] 33)) (.slice o0 n0 c0) (.slice o1 n1 c1) (.slice o2 n2 c2) x) := ⟨(D.out.stays hb4).stays ((Below.refl _ _).alloc (Nat.le_refl _) _), Box.made _ _ _, hc4.at.1.stays ((Below.refl _ _).alloc (Nat.le_refl _) _)⟩)
  all_goals clear q0 q1 q2 q3 q4 q5 hb4 hc4 D
  all_goals obtain ⟨q0, q1, q2, q3, q4, q5, _⟩ := E4.out.1.spread
  all_goals go_wp2_with fail
  all_goals refine (toProgram_at E4.out.1.argB LY.out).mono ?_
  all_goals rintro e z5 ⟨o3, n3, c3, o4, n4, c4, o5, n5, c5, rfl, hc4, hb4⟩
  all_goals (obtain ⟨g0, eg0⟩ : ∃ g, z4.heap.size = g := ⟨_, rfl⟩)
  all_goals (obtain ⟨g1, eg1⟩ : ∃ g, z5.heap.size = g := ⟨_, rfl⟩)
  all_goals (have F : Hid (Four w (.slice a0 nx0 b0) (.slice a1 nx1 b1) (.slice a2 nx2 b2) (.slice a3 ny0 b3) (.slice a4 ny1 b4) (.slice a5 ny2 b5) x y g0 (.slice o0 n0 c0) (.slice o1 n1 c1) (.slice o2 n2 c2) g1 (.slice o3 n3 c3) (.slice o4 n4 c4) (.slice o5 n5 c5) (z5.alloc (.cells #[.slice o3 n3 c3, .slice o4 n4 c4, .slice o5 n5 c5] 33))) := ⟨(E4.out.1.stays hb4).stays ((Below.refl _ _).alloc (Nat.le_refl _) _), (((eg0 ▸ E4.out.2.1 : Box _ g0 _ _).stays hb4).stays ((Below.refl _ _).alloc (Nat.le_refl _) _) : Box _ g0 _ _), Box.madeAt eg1.symm _ _, (E4.out.2.2.stays hb4).stays ((Below.refl _ _).alloc (Nat.le_refl _) _), hc4.at.1.stays ((Below.refl _ _).alloc (Nat.le_refl _) _)⟩)
  all_goals clear q0 q1 q2 q3 q4 q5 hb4 hc4 E4
  all_goals obtain ⟨⟨q0, q1, q2, q3, q4, q5⟩, ⟨q6, q7, q8, q9, q10, q11⟩, _⟩ := F.out.spread
  all_goals go_wp2_with fail
  all_goals refine (implSame_at F.out.ownA F.out.ownB LX.out LY.out).mono ?_
  all_goals rintro e z6 ⟨rfl, hb6⟩
  all_goals (have G := hide (F.out.stays hb6); clear F hb6; have F := G; clear G)
  all_goals clear q0 q1 q2 q3 q4 q5 q6 q7 q8 q9 q10 q11
  all_goals obtain ⟨⟨q0, q1, q2, q3, q4, q5⟩, ⟨q6, q7, q8, q9, q10, q11⟩, _⟩ := F.out.spread
  all_goals go_wp2_with fail
  all_goals (have KP : Hid (∀ z z' : World, ((z.cell? ⟨w.heap.size, 0, none⟩ = some (.slice a0 nx0 b0) ∧ z.cell? ⟨w.heap.size, 1, none⟩ = some (.slice a1 nx1 b1) ∧ z.cell? ⟨w.heap.size, 2, none⟩ = some (.slice a2 nx2 b2) ∧ z.cell? ⟨w.heap.size + 1, 0, none⟩ = some (.slice a3 ny0 b3) ∧ z.cell? ⟨w.heap.size + 1, 1, none⟩ = some (.slice a4 ny1 b4) ∧ z.cell? ⟨w.heap.size + 1, 2, none⟩ = some (.slice a5 ny2 b5)) ∧ (z.cell? ⟨g0, 0, none⟩ = some (.slice o0 n0 c0) ∧ z.cell? ⟨g0, 1, none⟩ = some (.slice o1 n1 c1) ∧ z.cell? ⟨g0, 2, none⟩ = some (.slice o2 n2 c2) ∧ z.cell? ⟨g1, 0, none⟩ = some (.slice o3 n3 c3) ∧ z.cell? ⟨g1, 1, none⟩ = some (.slice o4 n4 c4) ∧ z.cell? ⟨g1, 2, none⟩ = some (.slice o5 n5 c5)) ∧ Hid (Four w (.slice a0 nx0 b0) (.slice a1 nx1 b1) (.slice a2 nx2 b2) (.slice a3 ny0 b3) (.slice a4 ny1 b4) (.slice a5 ny2 b5) x y g0 (.slice o0 n0 c0) (.slice o1 n1 c1) (.slice o2 n2 c2) g1 (.slice o3 n3 c3) (.slice o4 n4 c4) (.slice o5 n5 c5) z)) → Below z.heap.size z z' → ((z'.cell? ⟨w.heap.size, 0, none⟩ = some (.slice a0 nx0 b0) ∧ z'.cell? ⟨w.heap.size, 1, none⟩ = some (.slice a1 nx1 b1) ∧ z'.cell? ⟨w.heap.size, 2, none⟩ = some (.slice a2 nx2 b2) ∧ z'.cell? ⟨w.heap.size + 1, 0, none⟩ = some (.slice a3 ny0 b3) ∧ z'.cell? ⟨w.heap.size + 1, 1, none⟩ = some (.slice a4 ny1 b4) ∧ z'.cell? ⟨w.heap.size + 1, 2, none⟩ = some (.slice a5 ny2 b5)) ∧ (z'.cell? ⟨g0, 0, none⟩ = some (.slice o0 n0 c0) ∧ z'.cell? ⟨g0, 1, none⟩ = some (.slice o1 n1 c1) ∧ z'.cell? ⟨g0, 2, none⟩ = some (.slice o2 n2 c2) ∧ z'.cell? ⟨g1, 0, none⟩ = some (.slice o3 n3 c3) ∧ z'.cell? ⟨g1, 1, none⟩ = some (.slice o4 n4 c4) ∧ z'.cell? ⟨g1, 2, none⟩ = some (.slice o5 n5 c5)) ∧ Hid (Four w (.slice a0 nx0 b0) (.slice a1 nx1 b1) (.slice a2 nx2 b2) (.slice a3 ny0 b3) (.slice a4 ny1 b4) (.slice a5 ny2 b5) x y g0 (.slice o0 n0 c0) (.slice o1 n1 c1) (.slice o2 n2 c2) g1 (.slice o3 n3 c3) (.slice o4 n4 c4) (.slice o5 n5 c5) z'))) := fun z z' hz hb => (hz.2.2.out.stays hb).spread)
  all_goals (have KD : Hid (∀ z : World, ((z.cell? ⟨w.heap.size, 0, none⟩ = some (.slice a0 nx0 b0) ∧ z.cell? ⟨w.heap.size, 1, none⟩ = some (.slice a1 nx1 b1) ∧ z.cell? ⟨w.heap.size, 2, none⟩ = some (.slice a2 nx2 b2) ∧ z.cell? ⟨w.heap.size + 1, 0, none⟩ = some (.slice a3 ny0 b3) ∧ z.cell? ⟨w.heap.size + 1, 1, none⟩ = some (.slice a4 ny1 b4) ∧ z.cell? ⟨w.heap.size + 1, 2, none⟩ = some (.slice a5 ny2 b5)) ∧ (z.cell? ⟨g0, 0, none⟩ = some (.slice o0 n0 c0) ∧ z.cell? ⟨g0, 1, none⟩ = some (.slice o1 n1 c1) ∧ z.cell? ⟨g0, 2, none⟩ = some (.slice o2 n2 c2) ∧ z.cell? ⟨g1, 0, none⟩ = some (.slice o3 n3 c3) ∧ z.cell? ⟨g1, 1, none⟩ = some (.slice o4 n4 c4) ∧ z.cell? ⟨g1, 2, none⟩ = some (.slice o5 n5 c5)) ∧ Hid (Four w (.slice a0 nx0 b0) (.slice a1 nx1 b1) (.slice a2 nx2 b2) (.slice a3 ny0 b3) (.slice a4 ny1 b4) (.slice a5 ny2 b5) x y g0 (.slice o0 n0 c0) (.slice o1 n1 c1) (.slice o2 n2 c2) g1 (.slice o3 n3 c3) (.slice o4 n4 c4) (.slice o5 n5 c5) z)) → Four w (.slice a0 nx0 b0) (.slice a1 nx1 b1) (.slice a2 nx2 b2) (.slice a3 ny0 b3) (.slice a4 ny1 b4) (.slice a5 ny2 b5) x y g0 (.slice o0 n0 c0) (.slice o1 n1 c1) (.slice o2 n2 c2) g1 (.slice o3 n3 c3) (.slice o4 n4 c4) (.slice o5 n5 c5) z) := fun z hz => hz.2.2.out)
  all_goals (have K0 := hide (F.out.stays (Below.refl _ _).drew).spread)
  all_goals go_region_held3 (fun z => (z.cell? ⟨w.heap.size, 0, none⟩ = some (.slice a0 nx0 b0) ∧ z.cell? ⟨w.heap.size, 1, none⟩ = some (.slice a1 nx1 b1) ∧ z.cell? ⟨w.heap.size, 2, none⟩ = some (.slice a2 nx2 b2) ∧ z.cell? ⟨w.heap.size + 1, 0, none⟩ = some (.slice a3 ny0 b3) ∧ z.cell? ⟨w.heap.size + 1, 1, none⟩ = some (.slice a4 ny1 b4) ∧ z.cell? ⟨w.heap.size + 1, 2, none⟩ = some (.slice a5 ny2 b5)) ∧ (z.cell? ⟨g0, 0, none⟩ = some (.slice o0 n0 c0) ∧ z.cell? ⟨g0, 1, none⟩ = some (.slice o1 n1 c1) ∧ z.cell? ⟨g0, 2, none⟩ = some (.slice o2 n2 c2) ∧ z.cell? ⟨g1, 0, none⟩ = some (.slice o3 n3 c3) ∧ z.cell? ⟨g1, 1, none⟩ = some (.slice o4 n4 c4) ∧ z.cell? ⟨g1, 2, none⟩ = some (.slice o5 n5 c5)) ∧ Hid (Four w (.slice a0 nx0 b0) (.slice a1 nx1 b1) (.slice a2 nx2 b2) (.slice a3 ny0 b3) (.slice a4 ny1 b4) (.slice a5 ny2 b5) x y g0 (.slice o0 n0 c0) (.slice o1 n1 c1) (.slice o2 n2 c2) g1 (.slice o3 n3 c3) (.slice o4 n4 c4) (.slice o5 n5 c5) z)) (first | exact K0.out | exact KP.out _ _ (by assumption) hb7)
    ((first
      | (go_at_call 6; refine (toProgram_at (KD.out _ (by assumption)).two.argA LX.out).mono ?_; rintro e w7 ⟨o6, n6, c6, o7, n7, c7, o8, n8, c8, rfl, hc7, hb7⟩; have P7 := hide hc7.at; clear hc7)
      | (go_at_call 8; refine (eqProgram_at (KD.out _ (by assumption)).ownA P7.out.1 LX.out).mono ?_; rintro e w7 ⟨rfl, hb7⟩; clear P7)))
  all_goals (have G := hide (KD.out _ (by assumption)))
  all_goals clear KP KD K0 F
  all_goals (have F := G; clear G)
  all_goals clear q0 q1 q2 q3 q4 q5 q6 q7 q8 q9 q10 q11
  all_goals obtain ⟨⟨q0, q1, q2, q3, q4, q5⟩, ⟨q6, q7, q8, q9, q10, q11⟩, _⟩ := F.out.spread
  all_goals go_wp2_with fail
  all_goals (have KP : Hid (∀ z z' : World, ((z.cell? ⟨w.heap.size, 0, none⟩ = some (.slice a0 nx0 b0) ∧ z.cell? ⟨w.heap.size, 1, none⟩ = some (.slice a1 nx1 b1) ∧ z.cell? ⟨w.heap.size, 2, none⟩ = some (.slice a2 nx2 b2) ∧ z.cell? ⟨w.heap.size + 1, 0, none⟩ = some (.slice a3 ny0 b3) ∧ z.cell? ⟨w.heap.size + 1, 1, none⟩ = some (.slice a4 ny1 b4) ∧ z.cell? ⟨w.heap.size + 1, 2, none⟩ = some (.slice a5 ny2 b5)) ∧ (z.cell? ⟨g0, 0, none⟩ = some (.slice o0 n0 c0) ∧ z.cell? ⟨g0, 1, none⟩ = some (.slice o1 n1 c1) ∧ z.cell? ⟨g0, 2, none⟩ = some (.slice o2 n2 c2) ∧ z.cell? ⟨g1, 0, none⟩ = some (.slice o3 n3 c3) ∧ z.cell? ⟨g1, 1, none⟩ = some (.slice o4 n4 c4) ∧ z.cell? ⟨g1, 2, none⟩ = some (.slice o5 n5 c5)) ∧ Hid (Four w (.slice a0 nx0 b0) (.slice a1 nx1 b1) (.slice a2 nx2 b2) (.slice a3 ny0 b3) (.slice a4 ny1 b4) (.slice a5 ny2 b5) x y g0 (.slice o0 n0 c0) (.slice o1 n1 c1) (.slice o2 n2 c2) g1 (.slice o3 n3 c3) (.slice o4 n4 c4) (.slice o5 n5 c5) z)) → Below z.heap.size z z' → ((z'.cell? ⟨w.heap.size, 0, none⟩ = some (.slice a0 nx0 b0) ∧ z'.cell? ⟨w.heap.size, 1, none⟩ = some (.slice a1 nx1 b1) ∧ z'.cell? ⟨w.heap.size, 2, none⟩ = some (.slice a2 nx2 b2) ∧ z'.cell? ⟨w.heap.size + 1, 0, none⟩ = some (.slice a3 ny0 b3) ∧ z'.cell? ⟨w.heap.size + 1, 1, none⟩ = some (.slice a4 ny1 b4) ∧ z'.cell? ⟨w.heap.size + 1, 2, none⟩ = some (.slice a5 ny2 b5)) ∧ (z'.cell? ⟨g0, 0, none⟩ = some (.slice o0 n0 c0) ∧ z'.cell? ⟨g0, 1, none⟩ = some (.slice o1 n1 c1) ∧ z'.cell? ⟨g0, 2, none⟩ = some (.slice o2 n2 c2) ∧ z'.cell? ⟨g1, 0, none⟩ = some (.slice o3 n3 c3) ∧ z'.cell? ⟨g1, 1, none⟩ = some (.slice o4 n4 c4) ∧ z'.cell? ⟨g1, 2, none⟩ = some (.slice o5 n5 c5)) ∧ Hid (Four w (.slice a0 nx0 b0) (.slice a1 nx1 b1) (.slice a2 nx2 b2) (.slice a3 ny0 b3) (.slice a4 ny1 b4) (.slice a5 ny2 b5) x y g0 (.slice o0 n0 c0) (.slice o1 n1 c1) (.slice o2 n2 c2) g1 (.slice o3 n3 c3) (.slice o4 n4 c4) (.slice o5 n5 c5) z'))) := fun z z' hz hb => (hz.2.2.out.stays hb).spread)
  all_goals (have KD : Hid (∀ z : World, ((z.cell? ⟨w.heap.size, 0, none⟩ = some (.slice a0 nx0 b0) ∧ z.cell? ⟨w.heap.size, 1, none⟩ = some (.slice a1 nx1 b1) ∧ z.cell? ⟨w.heap.size, 2, none⟩ = some (.slice a2 nx2 b2) ∧ z.cell? ⟨w.heap.size + 1, 0, none⟩ = some (.slice a3 ny0 b3) ∧ z.cell? ⟨w.heap.size + 1, 1, none⟩ = some (.slice a4 ny1 b4) ∧ z.cell? ⟨w.heap.size + 1, 2, none⟩ = some (.slice a5 ny2 b5)) ∧ (z.cell? ⟨g0, 0, none⟩ = some (.slice o0 n0 c0) ∧ z.cell? ⟨g0, 1, none⟩ = some (.slice o1 n1 c1) ∧ z.cell? ⟨g0, 2, none⟩ = some (.slice o2 n2 c2) ∧ z.cell? ⟨g1, 0, none⟩ = some (.slice o3 n3 c3) ∧ z.cell? ⟨g1, 1, none⟩ = some (.slice o4 n4 c4) ∧ z.cell? ⟨g1, 2, none⟩ = some (.slice o5 n5 c5)) ∧ Hid (Four w (.slice a0 nx0 b0) (.slice a1 nx1 b1) (.slice a2 nx2 b2) (.slice a3 ny0 b3) (.slice a4 ny1 b4) (.slice a5 ny2 b5) x y g0 (.slice o0 n0 c0) (.slice o1 n1 c1) (.slice o2 n2 c2) g1 (.slice o3 n3 c3) (.slice o4 n4 c4) (.slice o5 n5 c5) z)) → Four w (.slice a0 nx0 b0) (.slice a1 nx1 b1) (.slice a2 nx2 b2) (.slice a3 ny0 b3) (.slice a4 ny1 b4) (.slice a5 ny2 b5) x y g0 (.slice o0 n0 c0) (.slice o1 n1 c1) (.slice o2 n2 c2) g1 (.slice o3 n3 c3) (.slice o4 n4 c4) (.slice o5 n5 c5) z) := fun z hz => hz.2.2.out)
  all_goals (have K0 := hide (F.out.stays (Below.refl _ _).drew).spread)
  all_goals go_region_held3 (fun z => (z.cell? ⟨w.heap.size, 0, none⟩ = some (.slice a0 nx0 b0) ∧ z.cell? ⟨w.heap.size, 1, none⟩ = some (.slice a1 nx1 b1) ∧ z.cell? ⟨w.heap.size, 2, none⟩ = some (.slice a2 nx2 b2) ∧ z.cell? ⟨w.heap.size + 1, 0, none⟩ = some (.slice a3 ny0 b3) ∧ z.cell? ⟨w.heap.size + 1, 1, none⟩ = some (.slice a4 ny1 b4) ∧ z.cell? ⟨w.heap.size + 1, 2, none⟩ = some (.slice a5 ny2 b5)) ∧ (z.cell? ⟨g0, 0, none⟩ = some (.slice o0 n0 c0) ∧ z.cell? ⟨g0, 1, none⟩ = some (.slice o1 n1 c1) ∧ z.cell? ⟨g0, 2, none⟩ = some (.slice o2 n2 c2) ∧ z.cell? ⟨g1, 0, none⟩ = some (.slice o3 n3 c3) ∧ z.cell? ⟨g1, 1, none⟩ = some (.slice o4 n4 c4) ∧ z.cell? ⟨g1, 2, none⟩ = some (.slice o5 n5 c5)) ∧ Hid (Four w (.slice a0 nx0 b0) (.slice a1 nx1 b1) (.slice a2 nx2 b2) (.slice a3 ny0 b3) (.slice a4 ny1 b4) (.slice a5 ny2 b5) x y g0 (.slice o0 n0 c0) (.slice o1 n1 c1) (.slice o2 n2 c2) g1 (.slice o3 n3 c3) (.slice o4 n4 c4) (.slice o5 n5 c5) z)) (first | exact K0.out | exact KP.out _ _ (by assumption) hb7)
    ((first
      | (go_at_call 6; refine (toProgram_at (KD.out _ (by assumption)).two.argB LY.out).mono ?_; rintro e w7 ⟨o6, n6, c6, o7, n7, c7, o8, n8, c8, rfl, hc7, hb7⟩; have P7 := hide hc7.at; clear hc7)
      | (go_at_call 8; refine (eqProgram_at (KD.out _ (by assumption)).ownB P7.out.1 LY.out).mono ?_; rintro e w7 ⟨rfl, hb7⟩; clear P7)))
  all_goals (have G := hide (KD.out _ (by assumption)))
  all_goals clear KP KD K0 F
  all_goals (have F := G; clear G)
  all_goals go_wp2
  all_goals go_ret
  all_goals exact ⟨rfl, F.out.two.bel⟩
theorem lawSameF (nv mv pv : Value) (x : Pg) (nv' mv' pv' : Value) (y : Pg) (w : World) (h : PgAt w nv mv pv x) (hm : PgMax x) (k : PgAt w nv' mv' pv' y) (km : PgMax y) :
    Calls Try.prog 3 #[.agg #[nv, mv, pv], .agg #[nv', mv', pv']] w fun e w' => e = .returned (.bool true) ∧ Below w.heap.size w w' :=
  lawSame nv mv pv nv' mv' pv' x y w h k hm km
end Go.Proofs.Ytnkdichgdnghcaa
