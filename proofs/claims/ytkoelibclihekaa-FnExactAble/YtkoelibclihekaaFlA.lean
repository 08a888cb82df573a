/-
  An actor, as the laws' own helpers take it.
-/
import Derived.Test.YtkoelibclihekaaFlV
import Derived.Test.YtkoelibclihekaaLawV
import Derived.Test.YtkoelibclihekaaLawE
import Derived.Test.YtkoelibclihekaaLawZ
import Derived.Deep.Cut
namespace Go.Proofs.Ytkoelibclihekaa
open Go.RowKit
open Go.ChangeShapes Go.WideShapes Go.ChangeAt Go.Deep

structure Ac where
  otodo : List Int
  onames : List ByteArray
  ovals : List Int
  ofault : Int
  itodo : List Int
  inames : List ByteArray
  ivals : List Int
  ifault : Int
  monitor : Int
  entry : Int
  ready : Bool
  over : Bool
structure AcAt (w : World) (v0 v1 v2 v4 v5 v6 : Value) (x : Ac) : Prop where
  a0 : IntsAt w v0 x.otodo
  a1 : StrsAt w v1 x.onames
  a2 : IntsAt w v2 x.ovals
  a4 : IntsAt w v4 x.itodo
  a5 : StrsAt w v5 x.inames
  a6 : IntsAt w v6 x.ivals
def AcC (base : Nat) (w : World) (cs : List Value) (x : Ac) : Prop := ∃ v0 v1 v2 v4 v5 v6, cs = [v0, v1, v2, .int .i64 x.ofault, v4, v5, v6, .int .i64 x.ifault, .int .i64 x.monitor, .int .i64 x.entry, .bool x.ready, .bool x.over] ∧ IntsIn base w v0 x.otodo ∧ StrsIn base w v1 x.onames ∧ IntsIn base w v2 x.ovals ∧ IntsIn base w v4 x.itodo ∧ StrsIn base w v5 x.inames ∧ IntsIn base w v6 x.ivals
structure AcMax (x : Ac) : Prop where
  m0 : IntsMax x.otodo
  m1 : StrsMax x.onames
  m2 : IntsMax x.ovals
  m4 : IntsMax x.itodo
  m5 : StrsMax x.inames
  m6 : IntsMax x.ivals
def szAc (x : Ac) : Nat := szTr ⟨x.otodo, x.onames, x.ovals, x.ofault⟩ + szTr ⟨x.itodo, x.inames, x.ivals, x.ifault⟩
set_option maxRecDepth 100000 in
set_option maxHeartbeats 2000000 in
theorem szActor_any (x : Ac) (v0 v1 v2 v4 v5 v6 : Value) (l : Int) (w : World) (h0 : 0 ≤ l) (h1 : l ≤ 1048576) (k0 : IntsAt w v0 x.otodo) (k1 : StrsAt w v1 x.onames) (k2 : IntsAt w v2 x.ovals) (k4 : IntsAt w v4 x.itodo) (k5 : StrsAt w v5 x.inames) (k6 : IntsAt w v6 x.ivals) (hm : AcMax x) :
    Calls Try.prog 43 #[.agg #[v0, v1, v2, .int .i64 x.ofault, v4, v5, v6, .int .i64 x.ifault, .int .i64 x.monitor, .int .i64 x.entry, .bool x.ready, .bool x.over], .int .i64 l] w fun e w' => ∃ r : Int, e = .returned (.int .i64 r) ∧ (r < 0 ∨ (0 ≤ r ∧ r + (szAc x : Nat) = l)) ∧ Below w.heap.size w w' := by
  have HU : Hid (szAc x = szTr ⟨x.otodo, x.onames, x.ovals, x.ofault⟩ + szTr ⟨x.itodo, x.inames, x.ivals, x.ifault⟩) := hide rfl
  have C0 := fun l w h0 h1 a b c => hide (szThread_any ⟨x.otodo, x.onames, x.ovals, x.ofault⟩ v0 v1 v2 l w h0 h1 a b c ⟨hm.m0, hm.m1, hm.m2⟩)
  have C1 := fun l w h0 h1 a b c => hide (szThread_any ⟨x.itodo, x.inames, x.ivals, x.ifault⟩ v4 v5 v6 l w h0 h1 a b c ⟨hm.m4, hm.m5, hm.m6⟩)
  have B0 := hide (Box.made w #[v0, v1, v2, .int .i64 x.ofault, v4, v5, v6, .int .i64 x.ifault, .int .i64 x.monitor, .int .i64 x.entry, .bool x.ready, .bool x.over] 92)
  have BB : Hid (Below w.heap.size w (w.alloc (.cells #[v0, v1, v2, .int .i64 x.ofault, v4, v5, v6, .int .i64 x.ifault, .int .i64 x.monitor, .int .i64 x.entry, .bool x.ready, .bool x.over] 92))) := hide ((Below.refl _ _).alloc (Nat.le_refl _) _)
  have K0 := hide k0
  obtain ⟨o0, c0, rfl, _⟩ := k0
  have K1 := hide k1
  obtain ⟨o1, c1, rfl, _⟩ := k1
  have K2 := hide k2
  obtain ⟨o2, c2, rfl, _⟩ := k2
  have K4 := hide k4
  obtain ⟨o4, c4, rfl, _⟩ := k4
  have K5 := hide k5
  obtain ⟨o5, c5, rfl, _⟩ := k5
  have K6 := hide k6
  obtain ⟨o6, c6, rfl, _⟩ := k6
  clear hm
  obtain ⟨s0, es0⟩ : ∃ s, szTr ⟨x.otodo, x.onames, x.ovals, x.ofault⟩ = s := ⟨_, rfl⟩
  obtain ⟨s1, es1⟩ : ∃ s, szTr ⟨x.itodo, x.inames, x.ivals, x.ifault⟩ = s := ⟨_, rfl⟩
  simp only [es0, es1] at C0 C1 HU
  obtain ⟨W1, hW⟩ : ∃ W1, w.alloc (.cells #[.slice o0 x.otodo.length c0, .slice o1 x.onames.length c1, .slice o2 x.ovals.length c2, .int .i64 x.ofault, .slice o4 x.itodo.length c4, .slice o5 x.inames.length c5, .slice o6 x.ivals.length c6, .int .i64 x.ifault, .int .i64 x.monitor, .int .i64 x.entry, .bool x.ready, .bool x.over] 92) = W1 := ⟨_, rfl⟩
  have HW := hide hW
  rw [hW] at B0 BB
  clear hW es0 es1
  have p0 := Lib.cell_of_heap B0.out 0
  have p1 := Lib.cell_of_heap B0.out 1
  have p2 := Lib.cell_of_heap B0.out 2
  have p3 := Lib.cell_of_heap B0.out 3
  have p4 := Lib.cell_of_heap B0.out 4
  have p5 := Lib.cell_of_heap B0.out 5
  have p6 := Lib.cell_of_heap B0.out 6
  have p7 := Lib.cell_of_heap B0.out 7
  have p8 := Lib.cell_of_heap B0.out 8
  have p9 := Lib.cell_of_heap B0.out 9
  have p10 := Lib.cell_of_heap B0.out 10
  have p11 := Lib.cell_of_heap B0.out 11
  simp at p0 p1 p2 p3 p4 p5 p6 p7 p8 p9 p10 p11
  rw [← HW.out] at p0 p1 p2 p3 p4 p5 p6 p7 p8 p9 p10 p11
  go_enter Try.func43, Try.ntmps43
  go_wp2_with fail
  rw [HW.out]
  clear p0 p1 p2 p3 p4 p5 p6 p7 p8 p9 p10 p11
  refine (unhide (C0 _ _ h0 h1 (K0.out.stays BB.out) (K1.out.stays BB.out) (K2.out.stays BB.out))).mono ?_
  rintro e z0 ⟨r0, rfl, hr0, hb0⟩
  have B1 := hide (B0.out.stays hb0)
  have BB1 := hide (BB.out.trans (hb0.mono BB.out.size))
  clear hb0
  have p0 := Lib.cell_of_heap B1.out 0
  have p1 := Lib.cell_of_heap B1.out 1
  have p2 := Lib.cell_of_heap B1.out 2
  have p3 := Lib.cell_of_heap B1.out 3
  have p4 := Lib.cell_of_heap B1.out 4
  have p5 := Lib.cell_of_heap B1.out 5
  have p6 := Lib.cell_of_heap B1.out 6
  have p7 := Lib.cell_of_heap B1.out 7
  have p8 := Lib.cell_of_heap B1.out 8
  have p9 := Lib.cell_of_heap B1.out 9
  have p10 := Lib.cell_of_heap B1.out 10
  have p11 := Lib.cell_of_heap B1.out 11
  simp at p0 p1 p2 p3 p4 p5 p6 p7 p8 p9 p10 p11
  by_cases q0 : r0 < 0
  · clear hr0
    go_wp2
    go_ret
    exact ⟨-1, rfl, .inl (by omega), BB1.out⟩
  obtain ⟨e0, f0⟩ := hr0.resolve_left q0
  have F0 := hide f0
  have x0 : r0 ≤ 1048576 := by omega
  clear f0 hr0
  go_wp2_with fail
  clear p0 p1 p2 p3 p4 p5 p6 p7 p8 p9 p10 p11
  refine (unhide (C1 _ _ e0 x0 (K4.out.stays BB1.out) (K5.out.stays BB1.out) (K6.out.stays BB1.out))).mono ?_
  rintro e z1 ⟨r1, rfl, hr1, hb1⟩
  have BB2 := hide (BB1.out.trans (hb1.mono BB1.out.size))
  clear hb1
  by_cases q1 : r1 < 0
  · clear hr1
    go_wp2
    go_ret
    exact ⟨-1, rfl, .inl (by omega), BB2.out⟩
  obtain ⟨e1, f1⟩ := hr1.resolve_left q1
  have F1 := hide f1
  clear f1 hr1
  go_wp2
  go_ret
  exact ⟨r1, rfl, .inr ⟨by omega, by rw [HU.out]; have := F0.out; have := F1.out; omega⟩, BB2.out⟩
set_option maxRecDepth 100000 in
set_option maxHeartbeats 2000000 in
theorem eqActor_same (x : Ac) (p0 q0 p1 q1 p2 q2 p4 q4 p5 q5 p6 q6 : Value) (w : World) (h0 : IntsAt w p0 x.otodo) (k0 : IntsAt w q0 x.otodo) (h1 : StrsAt w p1 x.onames) (k1 : StrsAt w q1 x.onames) (h2 : IntsAt w p2 x.ovals) (k2 : IntsAt w q2 x.ovals) (h4 : IntsAt w p4 x.itodo) (k4 : IntsAt w q4 x.itodo) (h5 : StrsAt w p5 x.inames) (k5 : StrsAt w q5 x.inames) (h6 : IntsAt w p6 x.ivals) (k6 : IntsAt w q6 x.ivals) (l0 : x.otodo.length ≤ 1048576) (l1 : x.onames.length ≤ 1048576) (l2 : x.ovals.length ≤ 1048576) (l4 : x.itodo.length ≤ 1048576) (l5 : x.inames.length ≤ 1048576) (l6 : x.ivals.length ≤ 1048576) :
    Calls Try.prog 56 #[.agg #[p0, p1, p2, .int .i64 x.ofault, p4, p5, p6, .int .i64 x.ifault, .int .i64 x.monitor, .int .i64 x.entry, .bool x.ready, .bool x.over], .agg #[q0, q1, q2, .int .i64 x.ofault, q4, q5, q6, .int .i64 x.ifault, .int .i64 x.monitor, .int .i64 x.entry, .bool x.ready, .bool x.over]] w fun e w' => e = .returned (.bool true) ∧ Below w.heap.size w w' := by
  have C0 := fun w a a' b b' c c' => hide (eqThread_same ⟨x.otodo, x.onames, x.ovals, x.ofault⟩ p0 q0 p1 q1 p2 q2 w a a' b b' c c' l0 l1 l2)
  have C1 := fun w a a' b b' c c' => hide (eqThread_same ⟨x.itodo, x.inames, x.ivals, x.ifault⟩ p4 q4 p5 q5 p6 q6 w a a' b b' c c' l4 l5 l6)
  have T := hide (TwoB.start w #[p0, p1, p2, .int .i64 x.ofault, p4, p5, p6, .int .i64 x.ifault, .int .i64 x.monitor, .int .i64 x.entry, .bool x.ready, .bool x.over] #[q0, q1, q2, .int .i64 x.ofault, q4, q5, q6, .int .i64 x.ifault, .int .i64 x.monitor, .int .i64 x.entry, .bool x.ready, .bool x.over] 65)
  have H0 := hide h0
  have K0 := hide k0
  obtain ⟨ao0, ac0, rfl, _⟩ := h0
  obtain ⟨bo0, bc0, rfl, _⟩ := k0
  have H1 := hide h1
  have K1 := hide k1
  obtain ⟨ao1, ac1, rfl, _⟩ := h1
  obtain ⟨bo1, bc1, rfl, _⟩ := k1
  have H2 := hide h2
  have K2 := hide k2
  obtain ⟨ao2, ac2, rfl, _⟩ := h2
  obtain ⟨bo2, bc2, rfl, _⟩ := k2
  have H4 := hide h4
  have K4 := hide k4
  obtain ⟨ao4, ac4, rfl, _⟩ := h4
  obtain ⟨bo4, bc4, rfl, _⟩ := k4
  have H5 := hide h5
  have K5 := hide k5
  obtain ⟨ao5, ac5, rfl, _⟩ := h5
  obtain ⟨bo5, bc5, rfl, _⟩ := k5
  have H6 := hide h6
  have K6 := hide k6
  obtain ⟨ao6, ac6, rfl, _⟩ := h6
  obtain ⟨bo6, bc6, rfl, _⟩ := k6
  go_enter Try.func56, Try.ntmps56
  go_wp2_with fail
  refine (unhide (C0 _ (H0.out.stays T.out.bel) (K0.out.stays T.out.bel) (H1.out.stays T.out.bel) (K1.out.stays T.out.bel) (H2.out.stays T.out.bel) (K2.out.stays T.out.bel))).mono ?_
  rintro e z0 ⟨rfl, hb0⟩
  have T0 := hide (T.out.stays hb0)
  clear hb0 T
  have r0 := Lib.cell_of_heap T0.out.bA 0
  have s0 := Lib.cell_of_heap T0.out.bB 0
  have r1 := Lib.cell_of_heap T0.out.bA 1
  have s1 := Lib.cell_of_heap T0.out.bB 1
  have r2 := Lib.cell_of_heap T0.out.bA 2
  have s2 := Lib.cell_of_heap T0.out.bB 2
  have r3 := Lib.cell_of_heap T0.out.bA 3
  have s3 := Lib.cell_of_heap T0.out.bB 3
  have r4 := Lib.cell_of_heap T0.out.bA 4
  have s4 := Lib.cell_of_heap T0.out.bB 4
  have r5 := Lib.cell_of_heap T0.out.bA 5
  have s5 := Lib.cell_of_heap T0.out.bB 5
  have r6 := Lib.cell_of_heap T0.out.bA 6
  have s6 := Lib.cell_of_heap T0.out.bB 6
  have r7 := Lib.cell_of_heap T0.out.bA 7
  have s7 := Lib.cell_of_heap T0.out.bB 7
  have r8 := Lib.cell_of_heap T0.out.bA 8
  have s8 := Lib.cell_of_heap T0.out.bB 8
  have r9 := Lib.cell_of_heap T0.out.bA 9
  have s9 := Lib.cell_of_heap T0.out.bB 9
  have r10 := Lib.cell_of_heap T0.out.bA 10
  have s10 := Lib.cell_of_heap T0.out.bB 10
  have r11 := Lib.cell_of_heap T0.out.bA 11
  have s11 := Lib.cell_of_heap T0.out.bB 11
  simp at r0 s0 r1 s1 r2 s2 r3 s3 r4 s4 r5 s5 r6 s6 r7 s7 r8 s8 r9 s9 r10 s10 r11 s11
  go_wp2_with fail
  clear r0 s0 r1 s1 r2 s2 r3 s3 r4 s4 r5 s5 r6 s6 r7 s7 r8 s8 r9 s9 r10 s10 r11 s11
  refine (unhide (C1 _ (H4.out.stays T0.out.bel) (K4.out.stays T0.out.bel) (H5.out.stays T0.out.bel) (K5.out.stays T0.out.bel) (H6.out.stays T0.out.bel) (K6.out.stays T0.out.bel))).mono ?_
  rintro e z1 ⟨rfl, hb1⟩
  have T1 := hide (T0.out.stays hb1)
  clear hb1 T0
  have r0 := Lib.cell_of_heap T1.out.bA 0
  have s0 := Lib.cell_of_heap T1.out.bB 0
  have r1 := Lib.cell_of_heap T1.out.bA 1
  have s1 := Lib.cell_of_heap T1.out.bB 1
  have r2 := Lib.cell_of_heap T1.out.bA 2
  have s2 := Lib.cell_of_heap T1.out.bB 2
  have r3 := Lib.cell_of_heap T1.out.bA 3
  have s3 := Lib.cell_of_heap T1.out.bB 3
  have r4 := Lib.cell_of_heap T1.out.bA 4
  have s4 := Lib.cell_of_heap T1.out.bB 4
  have r5 := Lib.cell_of_heap T1.out.bA 5
  have s5 := Lib.cell_of_heap T1.out.bB 5
  have r6 := Lib.cell_of_heap T1.out.bA 6
  have s6 := Lib.cell_of_heap T1.out.bB 6
  have r7 := Lib.cell_of_heap T1.out.bA 7
  have s7 := Lib.cell_of_heap T1.out.bB 7
  have r8 := Lib.cell_of_heap T1.out.bA 8
  have s8 := Lib.cell_of_heap T1.out.bB 8
  have r9 := Lib.cell_of_heap T1.out.bA 9
  have s9 := Lib.cell_of_heap T1.out.bB 9
  have r10 := Lib.cell_of_heap T1.out.bA 10
  have s10 := Lib.cell_of_heap T1.out.bB 10
  have r11 := Lib.cell_of_heap T1.out.bA 11
  have s11 := Lib.cell_of_heap T1.out.bB 11
  simp at r0 s0 r1 s1 r2 s2 r3 s3 r4 s4 r5 s5 r6 s6 r7 s7 r8 s8 r9 s9 r10 s10 r11 s11
  go_wp2
  go_ret
  exact ⟨rfl, T1.out.bel⟩
set_option maxRecDepth 100000 in
set_option maxHeartbeats 8000000 in
theorem toActor_any (x : Ac) (v0 v1 v2 v4 v5 v6 : Value) (w : World) (h0 : IntsAt w v0 x.otodo) (h1 : StrsAt w v1 x.onames) (h2 : IntsAt w v2 x.ovals) (h4 : IntsAt w v4 x.itodo) (h5 : StrsAt w v5 x.inames) (h6 : IntsAt w v6 x.ivals) (l0 : x.otodo.length ≤ 1048576) (l1 : x.onames.length ≤ 1048576) (l2 : x.ovals.length ≤ 1048576) (l4 : x.itodo.length ≤ 1048576) (l5 : x.inames.length ≤ 1048576) (l6 : x.ivals.length ≤ 1048576) :
    Calls Try.prog 49 #[.agg #[v0, v1, v2, .int .i64 x.ofault, v4, v5, v6, .int .i64 x.ifault, .int .i64 x.monitor, .int .i64 x.entry, .bool x.ready, .bool x.over]] w fun e w' => ∃ o0 n0 c0 o1 n1 c1 o2 n2 c2 o4 n4 c4 o5 n5 c5 o6 n6 c6, e = .returned (.agg #[.slice o0 n0 c0, .slice o1 n1 c1, .slice o2 n2 c2, .int .i64 x.ofault, .slice o4 n4 c4, .slice o5 n5 c5, .slice o6 n6 c6, .int .i64 x.ifault, .int .i64 x.monitor, .int .i64 x.entry, .bool x.ready, .bool x.over]) ∧ AcC w.heap.size w' [.slice o0 n0 c0, .slice o1 n1 c1, .slice o2 n2 c2, .int .i64 x.ofault, .slice o4 n4 c4, .slice o5 n5 c5, .slice o6 n6 c6, .int .i64 x.ifault, .int .i64 x.monitor, .int .i64 x.entry, .bool x.ready, .bool x.over] x ∧ Below w.heap.size w w' := by
  have C0 := fun w a b c => hide (toThread_any ⟨x.otodo, x.onames, x.ovals, x.ofault⟩ v0 v1 v2 w a b c l0 l1 l2)
  have C1 := fun w a b c => hide (toThread_any ⟨x.itodo, x.inames, x.ivals, x.ifault⟩ v4 v5 v6 w a b c l4 l5 l6)
  have T := hide (ThreeB.start w #[v0, v1, v2, .int .i64 x.ofault, v4, v5, v6, .int .i64 x.ifault, .int .i64 x.monitor, .int .i64 x.entry, .bool x.ready, .bool x.over] #[.slice none 0 0, .slice none 0 0, .slice none 0 0, .int .i64 0, .slice none 0 0, .slice none 0 0, .slice none 0 0, .int .i64 0, .int .i64 0, .int .i64 0, .bool false, .bool false] #[.slice none 0 0, .slice none 0 0, .slice none 0 0, .int .i64 0, .slice none 0 0, .slice none 0 0, .slice none 0 0, .int .i64 0, .int .i64 0, .int .i64 0, .bool false, .bool false] 92 65)
  have H0 := hide h0
  obtain ⟨a0, b0, rfl, _⟩ := h0
  have H1 := hide h1
  obtain ⟨a1, b1, rfl, _⟩ := h1
  have H2 := hide h2
  obtain ⟨a2, b2, rfl, _⟩ := h2
  have H4 := hide h4
  obtain ⟨a4, b4, rfl, _⟩ := h4
  have H5 := hide h5
  obtain ⟨a5, b5, rfl, _⟩ := h5
  have H6 := hide h6
  obtain ⟨a6, b6, rfl, _⟩ := h6
  go_enter Try.func49, Try.ntmps49
  go_wp2_with fail
  refine (unhide (C0 _ (H0.out.stays T.out.bel) (H1.out.stays T.out.bel) (H2.out.stays T.out.bel))).mono ?_
  rintro e z0 ⟨o0, n0, c0, o1, n1, c1, o2, n2, c2, rfl, hv, hb⟩
  have S0 := hide (T.out.stays hb)
  obtain ⟨u0, u1, u2, eu, w0, w1, w2⟩ := hv
  injection eu with eu0 eu'
  injection eu' with eu1 eu'
  injection eu' with eu2 _
  subst eu0 eu1 eu2
  have V0 := hide (w0.mono T.out.lt)
  have V1 := hide (w1.mono T.out.lt)
  have V2 := hide (w2.mono T.out.lt)
  clear hb w0 w1 w2 T
  have r0 := Lib.cell_of_heap S0.out.bO 0
  simp at r0
  have t0 := Lib.frozen_of_heap S0.out.bO 0
  have r1 := Lib.cell_of_heap S0.out.bO 1
  simp at r1
  have t1 := Lib.frozen_of_heap S0.out.bO 1
  have r2 := Lib.cell_of_heap S0.out.bO 2
  simp at r2
  have t2 := Lib.frozen_of_heap S0.out.bO 2
  have r3 := Lib.cell_of_heap S0.out.bO 3
  simp at r3
  have t3 := Lib.frozen_of_heap S0.out.bO 3
  have P1 := hide (S0.out.put 0 (.slice o0 n0 c0))
  have V0 := hide (V0.out.kept (ThreeB.kept 0 (.slice o0 n0 c0)))
  have V1 := hide (V1.out.kept (ThreeB.kept 0 (.slice o0 n0 c0)))
  have V2 := hide (V2.out.kept (ThreeB.kept 0 (.slice o0 n0 c0)))
  have P2 := hide (P1.out.put 1 (.slice o1 n1 c1))
  have V0 := hide (V0.out.kept (ThreeB.kept 1 (.slice o1 n1 c1)))
  have V1 := hide (V1.out.kept (ThreeB.kept 1 (.slice o1 n1 c1)))
  have V2 := hide (V2.out.kept (ThreeB.kept 1 (.slice o1 n1 c1)))
  have P3 := hide (P2.out.put 2 (.slice o2 n2 c2))
  have V0 := hide (V0.out.kept (ThreeB.kept 2 (.slice o2 n2 c2)))
  have V1 := hide (V1.out.kept (ThreeB.kept 2 (.slice o2 n2 c2)))
  have V2 := hide (V2.out.kept (ThreeB.kept 2 (.slice o2 n2 c2)))
  have P4 := hide (P3.out.put 3 (.int .i64 x.ofault))
  have V0 := hide (V0.out.kept (ThreeB.kept 3 (.int .i64 x.ofault)))
  have V1 := hide (V1.out.kept (ThreeB.kept 3 (.int .i64 x.ofault)))
  have V2 := hide (V2.out.kept (ThreeB.kept 3 (.int .i64 x.ofault)))
  go_upto_region 3 with fail
  obtain ⟨Y4, hY⟩ : ∃ Y, (((z0.setCell ⟨w.heap.size + 1 + 1, 0, none⟩ (.slice o0 n0 c0)).setCell ⟨w.heap.size + 1 + 1, 1, none⟩ (.slice o1 n1 c1)).setCell ⟨w.heap.size + 1 + 1, 2, none⟩ (.slice o2 n2 c2)).setCell ⟨w.heap.size + 1 + 1, 3, none⟩ (.int .i64 x.ofault) = Y := ⟨_, rfl⟩
  rw [hY] at P4 V0 V1 V2 ⊢
  clear hY
  clear r0 r1 r2 r3 t0 t1 t2 t3
  have p4 := Lib.cell_of_heap P4.out.bA 4
  simp at p4
  have p5 := Lib.cell_of_heap P4.out.bA 5
  simp at p5
  have p6 := Lib.cell_of_heap P4.out.bA 6
  simp at p6
  have p7 := Lib.cell_of_heap P4.out.bA 7
  simp at p7
  go_wp2_with fail
  refine (unhide (C1 _ (H4.out.stays P4.out.bel) (H5.out.stays P4.out.bel) (H6.out.stays P4.out.bel))).mono ?_
  clear p4 p5 p6 p7
  rintro e z1 ⟨o4, n4, c4, o5, n5, c5, o6, n6, c6, rfl, hv, hb⟩
  have S1 := hide (P4.out.stays hb)
  obtain ⟨u0, u1, u2, eu, w0, w1, w2⟩ := hv
  injection eu with eu0 eu'
  injection eu' with eu1 eu'
  injection eu' with eu2 _
  subst eu0 eu1 eu2
  have V4 := hide (w0.mono P4.out.lt)
  have V5 := hide (w1.mono P4.out.lt)
  have V6 := hide (w2.mono P4.out.lt)
  have V0 := hide (V0.out.kept (KeptFrom.below hb))
  have V1 := hide (V1.out.kept (KeptFrom.below hb))
  have V2 := hide (V2.out.kept (KeptFrom.below hb))
  clear hb w0 w1 w2 P4
  have r4 := Lib.cell_of_heap S1.out.bO 4
  simp at r4
  have t4 := Lib.frozen_of_heap S1.out.bO 4
  have r5 := Lib.cell_of_heap S1.out.bO 5
  simp at r5
  have t5 := Lib.frozen_of_heap S1.out.bO 5
  have r6 := Lib.cell_of_heap S1.out.bO 6
  simp at r6
  have t6 := Lib.frozen_of_heap S1.out.bO 6
  have r7 := Lib.cell_of_heap S1.out.bO 7
  simp at r7
  have t7 := Lib.frozen_of_heap S1.out.bO 7
  have P5 := hide (S1.out.put 4 (.slice o4 n4 c4))
  have V0 := hide (V0.out.kept (ThreeB.kept 4 (.slice o4 n4 c4)))
  have V1 := hide (V1.out.kept (ThreeB.kept 4 (.slice o4 n4 c4)))
  have V2 := hide (V2.out.kept (ThreeB.kept 4 (.slice o4 n4 c4)))
  have V4 := hide (V4.out.kept (ThreeB.kept 4 (.slice o4 n4 c4)))
  have V5 := hide (V5.out.kept (ThreeB.kept 4 (.slice o4 n4 c4)))
  have V6 := hide (V6.out.kept (ThreeB.kept 4 (.slice o4 n4 c4)))
  have P6 := hide (P5.out.put 5 (.slice o5 n5 c5))
  have V0 := hide (V0.out.kept (ThreeB.kept 5 (.slice o5 n5 c5)))
  have V1 := hide (V1.out.kept (ThreeB.kept 5 (.slice o5 n5 c5)))
  have V2 := hide (V2.out.kept (ThreeB.kept 5 (.slice o5 n5 c5)))
  have V4 := hide (V4.out.kept (ThreeB.kept 5 (.slice o5 n5 c5)))
  have V5 := hide (V5.out.kept (ThreeB.kept 5 (.slice o5 n5 c5)))
  have V6 := hide (V6.out.kept (ThreeB.kept 5 (.slice o5 n5 c5)))
  have P7 := hide (P6.out.put 6 (.slice o6 n6 c6))
  have V0 := hide (V0.out.kept (ThreeB.kept 6 (.slice o6 n6 c6)))
  have V1 := hide (V1.out.kept (ThreeB.kept 6 (.slice o6 n6 c6)))
  have V2 := hide (V2.out.kept (ThreeB.kept 6 (.slice o6 n6 c6)))
  have V4 := hide (V4.out.kept (ThreeB.kept 6 (.slice o6 n6 c6)))
  have V5 := hide (V5.out.kept (ThreeB.kept 6 (.slice o6 n6 c6)))
  have V6 := hide (V6.out.kept (ThreeB.kept 6 (.slice o6 n6 c6)))
  have P8 := hide (P7.out.put 7 (.int .i64 x.ifault))
  have V0 := hide (V0.out.kept (ThreeB.kept 7 (.int .i64 x.ifault)))
  have V1 := hide (V1.out.kept (ThreeB.kept 7 (.int .i64 x.ifault)))
  have V2 := hide (V2.out.kept (ThreeB.kept 7 (.int .i64 x.ifault)))
  have V4 := hide (V4.out.kept (ThreeB.kept 7 (.int .i64 x.ifault)))
  have V5 := hide (V5.out.kept (ThreeB.kept 7 (.int .i64 x.ifault)))
  have V6 := hide (V6.out.kept (ThreeB.kept 7 (.int .i64 x.ifault)))
  go_upto_region 4 with fail
  obtain ⟨Y8, hY⟩ : ∃ Y, (((z1.setCell ⟨w.heap.size + 1 + 1, 4, none⟩ (.slice o4 n4 c4)).setCell ⟨w.heap.size + 1 + 1, 5, none⟩ (.slice o5 n5 c5)).setCell ⟨w.heap.size + 1 + 1, 6, none⟩ (.slice o6 n6 c6)).setCell ⟨w.heap.size + 1 + 1, 7, none⟩ (.int .i64 x.ifault) = Y := ⟨_, rfl⟩
  rw [hY] at P8 V0 V1 V2 V4 V5 V6 ⊢
  clear hY
  clear r4 r5 r6 r7 t4 t5 t6 t7
  have p8 := Lib.cell_of_heap P8.out.bA 8
  simp at p8
  have r8 := Lib.cell_of_heap P8.out.bO 8
  simp at r8
  have t8 := Lib.frozen_of_heap P8.out.bO 8
  have P9 := hide (P8.out.put 8 (.int .i64 x.monitor))
  have V0 := hide (V0.out.kept (ThreeB.kept 8 (.int .i64 x.monitor)))
  have V1 := hide (V1.out.kept (ThreeB.kept 8 (.int .i64 x.monitor)))
  have V2 := hide (V2.out.kept (ThreeB.kept 8 (.int .i64 x.monitor)))
  have V4 := hide (V4.out.kept (ThreeB.kept 8 (.int .i64 x.monitor)))
  have V5 := hide (V5.out.kept (ThreeB.kept 8 (.int .i64 x.monitor)))
  have V6 := hide (V6.out.kept (ThreeB.kept 8 (.int .i64 x.monitor)))
  go_upto_region 5 with fail
  obtain ⟨Y9, hY⟩ : ∃ Y, Y8.setCell ⟨w.heap.size + 1 + 1, 8, none⟩ (.int .i64 x.monitor) = Y := ⟨_, rfl⟩
  rw [hY] at P9 V0 V1 V2 V4 V5 V6 ⊢
  clear hY
  clear p8 r8 t8
  have p9 := Lib.cell_of_heap P9.out.bA 9
  simp at p9
  have r9 := Lib.cell_of_heap P9.out.bO 9
  simp at r9
  have t9 := Lib.frozen_of_heap P9.out.bO 9
  have P10 := hide (P9.out.put 9 (.int .i64 x.entry))
  have V0 := hide (V0.out.kept (ThreeB.kept 9 (.int .i64 x.entry)))
  have V1 := hide (V1.out.kept (ThreeB.kept 9 (.int .i64 x.entry)))
  have V2 := hide (V2.out.kept (ThreeB.kept 9 (.int .i64 x.entry)))
  have V4 := hide (V4.out.kept (ThreeB.kept 9 (.int .i64 x.entry)))
  have V5 := hide (V5.out.kept (ThreeB.kept 9 (.int .i64 x.entry)))
  have V6 := hide (V6.out.kept (ThreeB.kept 9 (.int .i64 x.entry)))
  go_upto_region 6 with fail
  obtain ⟨Y10, hY⟩ : ∃ Y, Y9.setCell ⟨w.heap.size + 1 + 1, 9, none⟩ (.int .i64 x.entry) = Y := ⟨_, rfl⟩
  rw [hY] at P10 V0 V1 V2 V4 V5 V6 ⊢
  clear hY
  clear p9 r9 t9
  have p10 := Lib.cell_of_heap P10.out.bA 10
  simp at p10
  have r10 := Lib.cell_of_heap P10.out.bO 10
  simp at r10
  have t10 := Lib.frozen_of_heap P10.out.bO 10
  have P11 := hide (P10.out.put 10 (.bool x.ready))
  have V0 := hide (V0.out.kept (ThreeB.kept 10 (.bool x.ready)))
  have V1 := hide (V1.out.kept (ThreeB.kept 10 (.bool x.ready)))
  have V2 := hide (V2.out.kept (ThreeB.kept 10 (.bool x.ready)))
  have V4 := hide (V4.out.kept (ThreeB.kept 10 (.bool x.ready)))
  have V5 := hide (V5.out.kept (ThreeB.kept 10 (.bool x.ready)))
  have V6 := hide (V6.out.kept (ThreeB.kept 10 (.bool x.ready)))
  go_upto_region 7 with fail
  obtain ⟨Y11, hY⟩ : ∃ Y, Y10.setCell ⟨w.heap.size + 1 + 1, 10, none⟩ (.bool x.ready) = Y := ⟨_, rfl⟩
  rw [hY] at P11 V0 V1 V2 V4 V5 V6 ⊢
  clear hY
  clear p10 r10 t10
  have p11 := Lib.cell_of_heap P11.out.bA 11
  simp at p11
  have r11 := Lib.cell_of_heap P11.out.bO 11
  simp at r11
  have t11 := Lib.frozen_of_heap P11.out.bO 11
  have P12 := hide (P11.out.put 11 (.bool x.over))
  have V0 := hide (V0.out.kept (ThreeB.kept 11 (.bool x.over)))
  have V1 := hide (V1.out.kept (ThreeB.kept 11 (.bool x.over)))
  have V2 := hide (V2.out.kept (ThreeB.kept 11 (.bool x.over)))
  have V4 := hide (V4.out.kept (ThreeB.kept 11 (.bool x.over)))
  have V5 := hide (V5.out.kept (ThreeB.kept 11 (.bool x.over)))
  have V6 := hide (V6.out.kept (ThreeB.kept 11 (.bool x.over)))
  go_upto_region 8 with fail
  obtain ⟨Y12, hY⟩ : ∃ Y, Y11.setCell ⟨w.heap.size + 1 + 1, 11, none⟩ (.bool x.over) = Y := ⟨_, rfl⟩
  rw [hY] at P12 V0 V1 V2 V4 V5 V6 ⊢
  clear hY
  clear p11 r11 t11
  have r0 := Lib.cell_of_heap P12.out.bO 0
  simp at r0
  have t0 := Lib.frozen_of_heap P12.out.bO 0
  have r1 := Lib.cell_of_heap P12.out.bO 1
  simp at r1
  have t1 := Lib.frozen_of_heap P12.out.bO 1
  have r2 := Lib.cell_of_heap P12.out.bO 2
  simp at r2
  have t2 := Lib.frozen_of_heap P12.out.bO 2
  have r3 := Lib.cell_of_heap P12.out.bO 3
  simp at r3
  have t3 := Lib.frozen_of_heap P12.out.bO 3
  have r4 := Lib.cell_of_heap P12.out.bO 4
  simp at r4
  have t4 := Lib.frozen_of_heap P12.out.bO 4
  have r5 := Lib.cell_of_heap P12.out.bO 5
  simp at r5
  have t5 := Lib.frozen_of_heap P12.out.bO 5
  have r6 := Lib.cell_of_heap P12.out.bO 6
  simp at r6
  have t6 := Lib.frozen_of_heap P12.out.bO 6
  have r7 := Lib.cell_of_heap P12.out.bO 7
  simp at r7
  have t7 := Lib.frozen_of_heap P12.out.bO 7
  have r8 := Lib.cell_of_heap P12.out.bO 8
  simp at r8
  have t8 := Lib.frozen_of_heap P12.out.bO 8
  have r9 := Lib.cell_of_heap P12.out.bO 9
  simp at r9
  have t9 := Lib.frozen_of_heap P12.out.bO 9
  have r10 := Lib.cell_of_heap P12.out.bO 10
  simp at r10
  have t10 := Lib.frozen_of_heap P12.out.bO 10
  have r11 := Lib.cell_of_heap P12.out.bO 11
  simp at r11
  have t11 := Lib.frozen_of_heap P12.out.bO 11
  have q0 := Lib.cell_of_heap P12.out.bZ 0
  simp at q0
  have s0 := Lib.frozen_of_heap P12.out.bZ 0
  have q1 := Lib.cell_of_heap P12.out.bZ 1
  simp at q1
  have s1 := Lib.frozen_of_heap P12.out.bZ 1
  have q2 := Lib.cell_of_heap P12.out.bZ 2
  simp at q2
  have s2 := Lib.frozen_of_heap P12.out.bZ 2
  have q3 := Lib.cell_of_heap P12.out.bZ 3
  simp at q3
  have s3 := Lib.frozen_of_heap P12.out.bZ 3
  have q4 := Lib.cell_of_heap P12.out.bZ 4
  simp at q4
  have s4 := Lib.frozen_of_heap P12.out.bZ 4
  have q5 := Lib.cell_of_heap P12.out.bZ 5
  simp at q5
  have s5 := Lib.frozen_of_heap P12.out.bZ 5
  have q6 := Lib.cell_of_heap P12.out.bZ 6
  simp at q6
  have s6 := Lib.frozen_of_heap P12.out.bZ 6
  have q7 := Lib.cell_of_heap P12.out.bZ 7
  simp at q7
  have s7 := Lib.frozen_of_heap P12.out.bZ 7
  have q8 := Lib.cell_of_heap P12.out.bZ 8
  simp at q8
  have s8 := Lib.frozen_of_heap P12.out.bZ 8
  have q9 := Lib.cell_of_heap P12.out.bZ 9
  simp at q9
  have s9 := Lib.frozen_of_heap P12.out.bZ 9
  have q10 := Lib.cell_of_heap P12.out.bZ 10
  simp at q10
  have s10 := Lib.frozen_of_heap P12.out.bZ 10
  have q11 := Lib.cell_of_heap P12.out.bZ 11
  simp at q11
  have s11 := Lib.frozen_of_heap P12.out.bZ 11
  go_wp2
  refine box_ret (g := w.heap.size + 1) (t := 65) (cs := #[.slice o0 n0 c0, .slice o1 n1 c1, .slice o2 n2 c2, .int .i64 x.ofault, .slice o4 n4 c4, .slice o5 n5 c5, .slice o6 n6 c6, .int .i64 x.ifault, .int .i64 x.monitor, .int .i64 x.entry, .bool x.ready, .bool x.over]) rfl rfl ?_ _ Try.underlying65 rfl (by kernel_rfl) rfl ?_
  · simpa using ((((((((((((P12.out.bZ.set 0 _).set 1 _).set 2 _).set 3 _).set 4 _).set 5 _).set 6 _).set 7 _).set 8 _).set 9 _).set 10 _).set 11 _)
  · refine ⟨_, _, _, _, _, _, _, _, _, _, _, _, _, _, _, _, _, _, rfl, ⟨_, _, _, _, _, _, rfl, ?_, ?_, ?_, ?_, ?_, ?_⟩, ?_⟩
    · refine CellsIn.mono (base := w.heap.size + 3) ?_ (by omega)
      iterate 12 refine CellsIn.kept ?_ (ThreeB.keptR _ _)
      exact V0.out
    · refine CellsIn.mono (base := w.heap.size + 3) ?_ (by omega)
      iterate 12 refine CellsIn.kept ?_ (ThreeB.keptR _ _)
      exact V1.out
    · refine CellsIn.mono (base := w.heap.size + 3) ?_ (by omega)
      iterate 12 refine CellsIn.kept ?_ (ThreeB.keptR _ _)
      exact V2.out
    · refine CellsIn.mono (base := w.heap.size + 3) ?_ (by omega)
      iterate 12 refine CellsIn.kept ?_ (ThreeB.keptR _ _)
      exact V4.out
    · refine CellsIn.mono (base := w.heap.size + 3) ?_ (by omega)
      iterate 12 refine CellsIn.kept ?_ (ThreeB.keptR _ _)
      exact V5.out
    · refine CellsIn.mono (base := w.heap.size + 3) ?_ (by omega)
      iterate 12 refine CellsIn.kept ?_ (ThreeB.keptR _ _)
      exact V6.out
    · iterate 12 refine Below.setCell ?_ (by dsimp only; omega) _
      exact P12.out.bel
theorem cells_Ac : Try.prog.cellsOf 92 = 12 := by kernel_rfl
theorem cells_Tr4 : Try.prog.cellsOf 90 = 4 := by kernel_rfl
theorem cells_bl : Try.prog.cellsOf 4 = 1 := by kernel_rfl
section
variable {H : Type} {enc : TypeId × Value → H} {W : World}
set_option maxRecDepth 100000 in
theorem opens_Ac (fuel : Nat) (cs : List Value) (x : DataW H × List MemPlace) (h : DataW.trod enc Try.prog W 0 (fun _ => true) true fuel 92 cs = some x) : ∃ v0 v1 v2 v4 v5 v6 y, cs = [v0, v1, v2, .int .i64 y.ofault, v4, v5, v6, .int .i64 y.ifault, .int .i64 y.monitor, .int .i64 y.entry, .bool y.ready, .bool y.over] ∧ AcAt W v0 v1 v2 v4 v5 v6 y ∧ AcMax y := by
  obtain ⟨ys, k, _, _, hcl, hyl, hf⟩ := DataW.trod_struct Try.underlying92 h
  rw [cells_Ac] at hcl
  match ys, hyl, cs, hcl with
  | [y0, y1, y2, y3, y4, y5], _, [w0, w1, w2, w3, w4, w5, w6, w7, w8, w9, w10, w11], _ =>
    have g0 := hf 0 _ rfl
    have g1 := hf 1 _ rfl
    have g2 := hf 2 _ rfl
    have g3 := hf 3 _ rfl
    have g4 := hf 4 _ rfl
    have g5 := hf 5 _ rfl
    simp [cells_Tr4, cells_int, cells_bl] at g0 g1 g2 g3 g4 g5
    obtain ⟨u0, u1, u2, t0, e0, a0, m0⟩ := opens_Tr _ _ _ g0
    simp at e0
    obtain ⟨rfl, rfl, rfl, rfl⟩ := e0
    obtain ⟨u4, u5, u6, t1, e1, a1, m1⟩ := opens_Tr _ _ _ g1
    simp at e1
    obtain ⟨rfl, rfl, rfl, rfl⟩ := e1
    obtain ⟨k2, e2⟩ := opens_int _ _ _ g2
    simp [IntRel] at e2
    subst e2
    obtain ⟨k3, e3⟩ := opens_int _ _ _ g3
    simp [IntRel] at e3
    subst e3
    obtain ⟨k4, e4, _⟩ := DataW.trod_bool Try.underlying4 g4
    simp at e4
    subst e4
    obtain ⟨k5, e5, _⟩ := DataW.trod_bool Try.underlying4 g5
    simp at e5
    subst e5
    exact ⟨_, _, _, _, _, _, ⟨t0.todo, t0.names, t0.vals, t0.fault, t1.todo, t1.names, t1.vals, t1.fault, k2, k3, k4, k5⟩, rfl, ⟨a0.a0, a0.a1, a0.a2, a1.a0, a1.a1, a1.a2⟩, ⟨m0.m0, m0.m1, m0.m2, m1.m0, m1.m1, m1.m2⟩⟩
end
end Go.Proofs.Ytkoelibclihekaa
