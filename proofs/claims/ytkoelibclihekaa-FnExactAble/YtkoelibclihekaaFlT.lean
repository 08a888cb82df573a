/-
  A thread by the laws' own helpers: how much it holds, copied, held against another.
-/
import Derived.Test.YtkoelibclihekaaFlE
namespace Go.Proofs.Ytkoelibclihekaa
open Go.RowKit

structure Th where
  todo : List Int
  env : Ev
  fault : Int
structure ThAt (w : World) (v0 v1 v2 : Value) (x : Th) : Prop where
  a0 : IntsAt w v0 x.todo
  a1 : EvAt w v1 v2 x.env
theorem ThAt.stays {w w' : World} {v0 v1 v2 : Value} {x : Th} (h : ThAt w v0 v1 v2 x) (hb : Below w.heap.size w w') : ThAt w' v0 v1 v2 x := ⟨h.a0.stays hb, h.a1.stays hb⟩
def ThC (base : Nat) (w : World) (cs : List Value) (x : Th) : Prop := ∃ v0 v1 v2, cs = [v0, v1, v2, .int .i64 x.fault] ∧ IntsIn base w v0 x.todo ∧ EvC base w [v1, v2] x.env
structure ThMax (x : Th) : Prop where
  m0 : IntsMax x.todo
  m1 : EvMax x.env
structure ThLen (x : Th) : Prop where
  l0 : x.todo.length ≤ 1048576
  l1 : EvLen x.env
def szTh (x : Th) : Nat := x.todo.length + szEv x.env
theorem szTh_len {x : Th} (h : szTh x ≤ 1048576) : ThLen x := by
  unfold szTh at h
  exact ⟨by omega, szEv_len (by omega)⟩
theorem ThC.at {base : Nat} {w : World} {v0 v1 v2 u : Value} {x : Th} (h : ThC base w [v0, v1, v2, u] x) : ThAt w v0 v1 v2 x := by
  obtain ⟨u0, u1, u2, e, h0, h1⟩ := h
  injection e with e0 e
  injection e with e1 e
  injection e with e2 _
  subst e0 e1 e2
  exact ⟨IntsIn.at h0, h1.at⟩
theorem ThC.kept {base : Nat} {w w' : World} {cs : List Value} {x : Th} (h : ThC base w cs x) (k : KeptFrom base w w') : ThC base w' cs x := by
  obtain ⟨u0, u1, u2, e, h0, h1⟩ := h
  exact ⟨u0, u1, u2, e, h0.kept k, h1.kept k⟩
theorem ThC.stays {base : Nat} {w w' : World} {cs : List Value} {x : Th} (h : ThC base w cs x) (hb : Below w.heap.size w w') : ThC base w' cs x := h.kept (KeptFrom.below hb)
theorem ThC.form {base : Nat} {w : World} {cs : List Value} {x : Th} (h : ThC base w cs x) : ∃ o0 c0 o1 c1 o2 c2, cs = [.slice o0 x.todo.length c0, .slice o1 x.env.names.length c1, .slice o2 x.env.vals.length c2, .int .i64 x.fault] := by
  obtain ⟨u0, u1, u2, rfl, h0, h1⟩ := h
  obtain ⟨o1, c1, o2, c2, e⟩ := h1.form
  injection e with e1 e
  injection e with e2 _
  subst e1 e2
  obtain ⟨o0, c0, e0, _⟩ := IntsIn.at h0
  subst e0
  exact ⟨_, _, _, _, _, _, rfl⟩

set_option maxRecDepth 100000 in
set_option maxHeartbeats 1000000 in
theorem szThreadN_any (x : Th) (v0 v1 v2 : Value) (l : Int) (w : World) (h0 : 0 ≤ l) (h1 : l ≤ 1048576) (k0 : IntsAt w v0 x.todo) (k1 : EvAt w v1 v2 x.env) (hm : ThMax x) :
    Calls Try.prog 68 #[.agg #[v0, v1, v2, .int .i64 x.fault], .int .i64 l] w fun e w' => ∃ r : Int, e = .returned (.int .i64 r) ∧ (r < 0 ∨ (0 ≤ r ∧ r + (szTh x : Nat) = l)) ∧ Below w.heap.size w w' := by
  have HU : Hid (szTh x = x.todo.length + szEv x.env) := rfl
  have B0 := hide (Box.made w #[v0, v1, v2, .int .i64 x.fault] 90)
  have BB : Hid (Below w.heap.size w (w.alloc (.cells #[v0, v1, v2, .int .i64 x.fault] 90))) := (Below.refl _ _).alloc (Nat.le_refl _) _
  have C0 := fun l w h0 h1 k => hide (szIntS_any v0 x.todo l w h0 h1 k hm.m0)
  have C1 := fun l w h0 h1 k => hide (szEnv_any x.env v1 v2 l w h0 h1 (EvAt.a0 k) (EvAt.a1 k) hm.m1)
  have K0 := hide k0
  have K1 := hide k1
  obtain ⟨o0, c0, rfl, _⟩ := k0
  obtain ⟨o1, c1, rfl, _⟩ := k1.a0
  obtain ⟨o2, c2, rfl, _⟩ := k1.a1
  clear hm k1
  go_enter Try.func68, Try.ntmps68
  go_wp2_with fail
  refine (unhide (C0 (l) _ (by omega) (by omega) (K0.out.stays BB.out))).mono ?_
  rintro e z0 ⟨r0, rfl, hr0, hb0⟩
  have B1 := hide (B0.out.stays hb0)
  have BB1 := hide (BB.out.trans (hb0.mono BB.out.size))
  have p1 := Lib.cell_of_heap B1.out 1
  have p2 := Lib.cell_of_heap B1.out 2
  simp at p1 p2
  clear hb0
  by_cases q0 : r0 < 0
  · clear hr0
    go_wp2
    go_ret
    exact ⟨-1, rfl, .inl (by omega), BB1.out⟩
  obtain ⟨e0, f0⟩ := hr0.resolve_left q0
  have F0 := hide f0
  have x0 : r0 ≤ 1048576 := by omega
  clear f0 hr0
  go_wp2_with fail
  clear p1 p2
  refine (unhide (C1 (r0) _ (by omega) (by omega) (K1.out.stays BB1.out))).mono ?_
  rintro e z1 ⟨r1, rfl, hr1, hb1⟩
  have BB2 := hide (BB1.out.trans (hb1.mono BB1.out.size))
  clear hb1
  by_cases q1 : r1 < 0
  · clear hr1
    go_wp2
    go_ret
    exact ⟨-1, rfl, .inl (by omega), BB2.out⟩
  obtain ⟨e1, f1⟩ := hr1.resolve_left q1
  have F1 := hide f1
  have x1 : r1 ≤ 1048576 := by omega
  clear f1 hr1
  go_wp2
  go_ret
  exact ⟨r1, rfl, .inr ⟨by omega, by
    rw [HU.out]
    have := F0.out
    have := F1.out
    omega⟩, BB2.out⟩

set_option maxRecDepth 100000 in
set_option maxHeartbeats 2000000 in
theorem toThreadN_any (x : Th) (v0 v1 v2 : Value) (w : World) (h : ThAt w v0 v1 v2 x) (hl : ThLen x) :
    Calls Try.prog 73 #[.agg #[v0, v1, v2, .int .i64 x.fault]] w fun e w' => ∃ o0 n0 c0 o1 n1 c1 o2 n2 c2, e = .returned (.agg #[.slice o0 n0 c0, .slice o1 n1 c1, .slice o2 n2 c2, .int .i64 x.fault]) ∧ ThC w.heap.size w' [.slice o0 n0 c0, .slice o1 n1 c1, .slice o2 n2 c2, .int .i64 x.fault] x ∧ Below w.heap.size w w' := by
  have C0 := fun w h => hide (toIntS_any v0 x.todo w h hl.l0)
  have C1 := fun w (h : EvAt w v1 v2 x.env) => hide (toEnv_any x.env v1 v2 w h.a0 h.a1 hl.l1.l0 hl.l1.l1)
  have H0 := hide h.a0
  have H1 := hide h.a1
  have T := hide (ThreeB.start w #[v0, v1, v2, .int .i64 x.fault] #[.slice none 0 0, .slice none 0 0, .slice none 0 0, .int .i64 0] #[.slice none 0 0, .slice none 0 0, .slice none 0 0, .int .i64 0] 90 63)
  obtain ⟨a0, b0, rfl, _⟩ := h.a0
  obtain ⟨a1, b1, rfl, _⟩ := h.a1.a0
  obtain ⟨a2, b2, rfl, _⟩ := h.a1.a1
  clear h hl
  go_enter Try.func73, Try.ntmps73
  go_wp2_with fail
  refine (unhide (C0 _ (H0.out.stays T.out.bel))).mono ?_
  rintro e z0 ⟨u0, rfl, hv0, hb0⟩
  have S0 := hide (T.out.stays hb0)
  have V0 : Hid (IntsIn (w.heap.size + 3) z0 u0 x.todo) := hv0.mono T.out.lt
  obtain ⟨o0, n0, c0, rfl⟩ := hv0.form
  have p1 := Lib.cell_of_heap S0.out.bA 1
  have p2 := Lib.cell_of_heap S0.out.bA 2
  have r0 := Lib.cell_of_heap S0.out.bO 0
  have t0 := Lib.frozen_of_heap S0.out.bO 0
  simp at p1 p2 r0
  clear hb0 hv0 T C0 H0
  have T0 := hide (S0.out.put 0 (.slice o0 n0 c0))
  have V0 := hide (V0.out.kept (ThreeB.kept 0 (.slice o0 n0 c0)))
  go_wp2_with fail
  clear p1 p2 r0 t0
  refine (unhide (C1 _ (H1.out.stays T0.out.bel))).mono ?_
  rintro e z1 ⟨o1, n1, c1, o2, n2, c2, rfl, hv1, hb1⟩
  have S1 := hide (T0.out.stays hb1)
  have V0 := hide (V0.out.kept (KeptFrom.below hb1))
  have V1 : Hid (EvC (w.heap.size + 3) z1 [.slice o1 n1 c1, .slice o2 n2 c2] x.env) := by
    obtain ⟨m1, m2, em, hm1, hm2⟩ := hv1
    exact ⟨m1, m2, em, hm1.mono T0.out.lt, hm2.mono T0.out.lt⟩
  have p3 := Lib.cell_of_heap S1.out.bA 3
  have r1 := Lib.cell_of_heap S1.out.bO 1
  have r2 := Lib.cell_of_heap S1.out.bO 2
  have t1 := Lib.frozen_of_heap S1.out.bO 1
  have t2 := Lib.frozen_of_heap S1.out.bO 2
  simp at p3 r1 r2
  clear hb1 hv1 T0 C1 H1
  have T1 := hide ((S1.out.put 1 (.slice o1 n1 c1)).put 2 (.slice o2 n2 c2))
  have V0 := hide ((V0.out.kept (ThreeB.kept 1 (.slice o1 n1 c1))).kept (ThreeB.kept 2 (.slice o2 n2 c2)))
  have V1 := hide ((V1.out.kept (ThreeB.kept 1 (.slice o1 n1 c1))).kept (ThreeB.kept 2 (.slice o2 n2 c2)))
  have p3 := Lib.cell_of_heap T1.out.bA 3
  have r3 := Lib.cell_of_heap T1.out.bO 3
  have t3 := Lib.frozen_of_heap T1.out.bO 3
  simp at p3 r3
  have T2 := hide (T1.out.put 3 (.int .i64 x.fault))
  have V0 := hide (V0.out.kept (ThreeB.kept 3 (.int .i64 x.fault)))
  have V1 := hide (V1.out.kept (ThreeB.kept 3 (.int .i64 x.fault)))
  have y0 := Lib.cell_of_heap T2.out.bO 0
  have y1 := Lib.cell_of_heap T2.out.bO 1
  have y2 := Lib.cell_of_heap T2.out.bO 2
  have y3 := Lib.cell_of_heap T2.out.bO 3
  have q0 := Lib.cell_of_heap T2.out.bZ 0
  have q1 := Lib.cell_of_heap T2.out.bZ 1
  have q2 := Lib.cell_of_heap T2.out.bZ 2
  have q3 := Lib.cell_of_heap T2.out.bZ 3
  have s0 := Lib.frozen_of_heap T2.out.bZ 0
  have s1 := Lib.frozen_of_heap T2.out.bZ 1
  have s2 := Lib.frozen_of_heap T2.out.bZ 2
  have s3 := Lib.frozen_of_heap T2.out.bZ 3
  simp at y0 y1 y2 y3 q0 q1 q2 q3
  go_wp2
  refine box_ret (g := w.heap.size + 1) (t := 63) (cs := #[.slice o0 n0 c0, .slice o1 n1 c1, .slice o2 n2 c2, .int .i64 x.fault]) rfl rfl ?_ _ Try.underlying63 rfl (by kernel_rfl) rfl ?_
  · simpa using ((((T2.out.bZ.set 0 (.slice o0 n0 c0)).set 1 (.slice o1 n1 c1)).set 2 (.slice o2 n2 c2)).set 3 (.int .i64 x.fault))
  · refine ⟨_, _, _, _, _, _, _, _, _, rfl, ⟨_, _, _, rfl, ?_, ?_⟩, ?_⟩
    · refine CellsIn.mono (base := w.heap.size + 3) ?_ (by omega)
      iterate 4 refine CellsIn.kept ?_ (ThreeB.keptR _ _)
      exact V0.out
    · have V9 := (((V1.out.kept (ThreeB.keptR 0 (.slice o0 n0 c0))).kept (ThreeB.keptR 1 (.slice o1 n1 c1))).kept (ThreeB.keptR 2 (.slice o2 n2 c2))).kept (ThreeB.keptR 3 (.int .i64 x.fault))
      obtain ⟨m1, m2, em, hm1, hm2⟩ := V9
      exact ⟨m1, m2, em, hm1.mono (by omega), hm2.mono (by omega)⟩
    · iterate 4 refine Below.setCell ?_ (by dsimp only; omega) _
      exact T2.out.bel

set_option maxRecDepth 100000 in
set_option maxHeartbeats 1000000 in
theorem eqThreadN_same (x : Th) (p0 p1 p2 q0 q1 q2 : Value) (w : World) (h : ThAt w p0 p1 p2 x) (k : ThAt w q0 q1 q2 x) (hl : ThLen x) :
    Calls Try.prog 78 #[.agg #[p0, p1, p2, .int .i64 x.fault], .agg #[q0, q1, q2, .int .i64 x.fault]] w fun e w' => e = .returned (.bool true) ∧ Below w.heap.size w w' := by
  have C0 := fun w h k => hide (eqIntS_same p0 q0 x.todo w h k hl.l0)
  have C1 := fun w (h : EvAt w p1 p2 x.env) (k : EvAt w q1 q2 x.env) => hide (eqEnv_same x.env p1 q1 p2 q2 w h.a0 k.a0 h.a1 k.a1 hl.l1.l0 hl.l1.l1)
  have H := hide h
  have K := hide k
  have T := hide (TwoB.start w #[p0, p1, p2, .int .i64 x.fault] #[q0, q1, q2, .int .i64 x.fault] 63)
  obtain ⟨ao0, ac0, rfl, _⟩ := h.a0
  obtain ⟨bo0, bc0, rfl, _⟩ := k.a0
  obtain ⟨ao1, ac1, rfl, _⟩ := h.a1.a0
  obtain ⟨bo1, bc1, rfl, _⟩ := k.a1.a0
  obtain ⟨ao2, ac2, rfl, _⟩ := h.a1.a1
  obtain ⟨bo2, bc2, rfl, _⟩ := k.a1.a1
  clear h k hl
  go_enter Try.func78, Try.ntmps78
  go_wp2_with fail
  refine (unhide (C0 _ (H.out.stays T.out.bel).a0 (K.out.stays T.out.bel).a0)).mono ?_
  rintro e z0 ⟨rfl, hb0⟩
  have T0 := hide (T.out.stays hb0)
  have r1 := Lib.cell_of_heap T0.out.bA 1
  have s1 := Lib.cell_of_heap T0.out.bB 1
  have r2 := Lib.cell_of_heap T0.out.bA 2
  have s2 := Lib.cell_of_heap T0.out.bB 2
  simp at r1 s1 r2 s2
  clear hb0
  go_wp2_with fail
  clear r1 s1 r2 s2
  refine (unhide (C1 _ (H.out.stays T0.out.bel).a1 (K.out.stays T0.out.bel).a1)).mono ?_
  rintro e z1 ⟨rfl, hb1⟩
  have T1 := hide (T0.out.stays hb1)
  have r3 := Lib.cell_of_heap T1.out.bA 3
  have s3 := Lib.cell_of_heap T1.out.bB 3
  simp at r3 s3
  clear hb1
  go_wp2
  go_ret
  exact ⟨rfl, T1.out.bel⟩

theorem cells_Th : Try.prog.cellsOf 90 = 4 := by kernel_rfl
section
open Go.ChangeShapes Go.WideShapes Go.ChangeAt Go.Deep
variable {H : Type} {enc : TypeId × Value → H} {W : World}
set_option maxRecDepth 100000 in
theorem opens_Th (fuel : Nat) (cs : List Value) (x : DataW H × List MemPlace) (h : DataW.trod enc Try.prog W 0 (fun _ => true) true fuel 90 cs = some x) : ∃ v0 v1 v2 y, cs = [v0, v1, v2, .int .i64 y.fault] ∧ ThAt W v0 v1 v2 y ∧ ThMax y := by
  obtain ⟨ys, k, _, _, hcl, hyl, hf⟩ := DataW.trod_struct Try.underlying90 h
  rw [cells_Th] at hcl
  match ys, hyl, cs, hcl with
  | [y0, y1, y2], _, [w0, w1, w2, w3], _ =>
    have g0 := hf 0 _ rfl
    have g1 := hf 1 _ rfl
    have g2 := hf 2 _ rfl
    simp [cells_ints, cells_Ev, cells_int] at g0 g1 g2
    obtain ⟨v0, l0, e0, a0, m0⟩ := opens_ints _ _ _ g0
    simp at e0
    subst e0
    obtain ⟨v1, v2, l1, e1, a1, m1⟩ := opens_Ev _ _ _ g1
    simp at e1
    obtain ⟨rfl, rfl⟩ := e1
    obtain ⟨n, e2⟩ := opens_int _ _ _ g2
    simp [IntRel] at e2
    subst e2
    exact ⟨_, _, _, ⟨l0, l1, n⟩, rfl, ⟨a0, a1⟩, ⟨m0, m1⟩⟩
end
end Go.Proofs.Ytkoelibclihekaa

namespace Go.Proofs.Ytkoelibclihekaa
open Go.RowKit

structure EvHeldK (k0 B : Nat) (w : World) (v0 v1 : Value) (n0 n1 : Nat) : Prop where
  o0 : w.ownsRow B 9 1 v0 n0 ((marks k0 n0).map S)
  o1 : w.ownsRow B 3 1 v1 n1 ((nMarks (k0 + n0) n1).map I64)
theorem EvHeldK.stays {k0 B : Nat} {w w' : World} {v0 v1 : Value} {n0 n1 : Nat} (h : EvHeldK k0 B w v0 v1 n0 n1) (hb : Below w.heap.size w w') : EvHeldK k0 B w' v0 v1 n0 n1 := ⟨ownsInts_stays h.o0 hb, ownsInts_stays h.o1 hb⟩

end Go.Proofs.Ytkoelibclihekaa
