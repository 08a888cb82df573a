/-
  A Model as the laws hand it about: nine cells; its size.
-/
import Derived.Test.YtkoelibclihekaaActR
import Derived.Test.YtkoelibclihekaaGatR
import Derived.Test.YtkoelibclihekaaEnvR
import Derived.Test.YtkoelibclihekaaEvtR
import Derived.Test.YtkoelibclihekaaFlP
namespace Go.Proofs.Ytkoelibclihekaa
open Go.RowKit

structure Md where
  prog : Pg
  acts : List Ac
  gates : List Gt
  vars : List Ev
  input : List Int
  events : List Vt
  stopped : Bool
structure MdAt (w : World) (v0 v1 v2 v3 v4 v5 v6 v7 : Value) (x : Md) : Prop where
  a0 : NdsAt w v0 x.prog.nodes
  a1 : MosAt w v1 x.prog.mons
  a2 : PrsAt w v2 x.prog.pros
  a3 : AcsAt w v3 x.acts
  a4 : GtsAt w v4 x.gates
  a5 : EvsAt w v5 x.vars
  a6 : IntsAt w v6 x.input
  a7 : VtsAt w v7 x.events
theorem MdAt.stays {w w' : World} {v0 v1 v2 v3 v4 v5 v6 v7 : Value} {x : Md} (h : MdAt w v0 v1 v2 v3 v4 v5 v6 v7 x) (hb : Below w.heap.size w w') : MdAt w' v0 v1 v2 v3 v4 v5 v6 v7 x :=
  ⟨h.a0.stays hb, h.a1.stays hb, h.a2.stays hb, h.a3.stays hb, h.a4.stays hb, h.a5.stays hb, h.a6.stays hb, h.a7.stays hb⟩
/-- A copy that toModel makes. -/
structure MdC (base : Nat) (w : World) (cs : List Value) (x : Md) : Prop where
  c : ∃ v0 v1 v2 v3 v4 v5 v6 v7, cs = [v0, v1, v2, v3, v4, v5, v6, v7, .bool x.stopped] ∧ (NdsIn base w v0 x.prog.nodes ∧ MosIn base w v1 x.prog.mons ∧ PrsIn base w v2 x.prog.pros) ∧ AcsIn base w v3 x.acts ∧ GtsIn base w v4 x.gates ∧ EvsIn base w v5 x.vars ∧ IntsIn base w v6 x.input ∧ VtsIn base w v7 x.events
theorem MdC.at {base : Nat} {w : World} {v0 v1 v2 v3 v4 v5 v6 v7 : Value} {x : Md} (h : MdC base w [v0, v1, v2, v3, v4, v5, v6, v7, .bool x.stopped] x) : MdAt w v0 v1 v2 v3 v4 v5 v6 v7 x := by
  obtain ⟨u0, u1, u2, u3, u4, u5, u6, u7, e, ⟨p0, p1, p2⟩, h3, h4, h5, h6, h7⟩ := h.c
  simp at e
  obtain ⟨rfl, rfl, rfl, rfl, rfl, rfl, rfl, rfl⟩ := e
  have hp := PgC.at (x := x.prog) ⟨⟨_, _, _, rfl, p0, p1, p2⟩⟩
  exact ⟨hp.nodes, hp.mons, hp.pros, h3.at, h4.at, h5.at, h6.at, h7.at⟩
theorem MdC.stays {base : Nat} {w w' : World} {cs : List Value} {x : Md} (h : MdC base w cs x) (hb : Below w.heap.size w w') : MdC base w' cs x := by
  obtain ⟨u0, u1, u2, u3, u4, u5, u6, u7, e, ⟨p0, p1, p2⟩, h3, h4, h5, h6, h7⟩ := h.c
  have k := fun (b : Nat) => KeptFrom.below (base := b) hb
  exact ⟨u0, u1, u2, u3, u4, u5, u6, u7, e, ⟨p0.kept (k _), p1.kept (k _), p2.kept (k _)⟩, h3.kept (k _), h4.kept (k _), h5.kept (k _), h6.kept (k _), h7.kept (k _)⟩
structure MdMax (x : Md) : Prop where
  p : PgMax x.prog
  m3 : AcsMax x.acts
  m4 : GtsMax x.gates
  m5 : EvsMax x.vars
  m6 : IntsMax x.input
  m7 : VtsMax x.events
structure MdLen (x : Md) : Prop where
  p : PgLen x.prog
  l3 : x.acts.length ≤ 1048576
  i3 : ∀ y ∈ x.acts, y.otodo.length ≤ 1048576 ∧ y.onames.length ≤ 1048576 ∧ y.ovals.length ≤ 1048576 ∧ y.itodo.length ≤ 1048576 ∧ y.inames.length ≤ 1048576 ∧ y.ivals.length ≤ 1048576
  l4 : x.gates.length ≤ 1048576
  i4 : ∀ y ∈ x.gates, y.waits.length ≤ 1048576 ∧ y.queues.length ≤ 1048576
  l5 : x.vars.length ≤ 1048576
  i5 : ∀ y ∈ x.vars, y.names.length ≤ 1048576 ∧ y.vals.length ≤ 1048576
  l6 : x.input.length ≤ 1048576
  l7 : x.events.length ≤ 1048576
def szMd (x : Md) : Nat := szPg x.prog + szAcs x.acts + szGts x.gates + szEvs x.vars + x.input.length + szVts x.events
theorem szMd_len {x : Md} (h : szMd x ≤ 1048576) : MdLen x := by
  unfold szMd at h
  have ha : szAcs x.acts ≤ 1048576 := by omega
  have hg : szGts x.gates ≤ 1048576 := by omega
  have he : szEvs x.vars ≤ 1048576 := by omega
  have hv : szVts x.events ≤ 1048576 := by omega
  have hp : szPg x.prog ≤ 1048576 := by omega
  have hi : x.input.length ≤ 1048576 := by omega
  clear h
  unfold szAcs at ha
  unfold szGts at hg
  unfold szEvs at he
  unfold szVts at hv
  refine ⟨szPg_len hp, by omega, fun y hy => ?_, by omega, fun y hy => ?_, by omega, fun y hy => ?_, hi, hv⟩
  · have h1 := le_sum szAc x.acts y hy
    have h2 : szAc y ≤ 1048576 := by omega
    unfold szAc at h2
    have h3 := szTr_len (x := ⟨y.otodo, y.onames, y.ovals, y.ofault⟩) (by omega)
    have h4 := szTr_len (x := ⟨y.itodo, y.inames, y.ivals, y.ifault⟩) (by omega)
    exact ⟨h3.l0, h3.l1, h3.l2, h4.l0, h4.l1, h4.l2⟩
  · have h1 := le_sum szGt x.gates y hy
    have h3 := szGt_len (x := y) (by omega)
    exact ⟨h3.l1, h3.l2⟩
  · have h1 := le_sum szEv x.vars y hy
    have h3 := szEv_len (x := y) (by omega)
    exact ⟨h3.l0, h3.l1⟩
set_option maxRecDepth 100000 in
set_option maxHeartbeats 4000000 in
theorem szModel_any (x : Md) (v0 v1 v2 v3 v4 v5 v6 v7 : Value) (l : Int) (w : World) (h0 : 0 ≤ l) (h1 : l ≤ 1048576) (k0 : NdsAt w v0 x.prog.nodes) (k1 : MosAt w v1 x.prog.mons) (k2 : PrsAt w v2 x.prog.pros) (k3 : AcsAt w v3 x.acts) (k4 : GtsAt w v4 x.gates) (k5 : EvsAt w v5 x.vars) (k6 : IntsAt w v6 x.input) (k7 : VtsAt w v7 x.events) (hm : MdMax x) :
    Calls Try.prog 5 #[.agg #[v0, v1, v2, v3, v4, v5, v6, v7, .bool x.stopped], .int .i64 l] w fun e w' => ∃ r : Int, e = .returned (.int .i64 r) ∧ (r < 0 ∨ (0 ≤ r ∧ r + (szMd x : Nat) = l)) ∧ Below w.heap.size w w' := by
  have HU : Hid (szMd x = szPg x.prog + szAcs x.acts + szGts x.gates + szEvs x.vars + x.input.length + szVts x.events) := hide rfl
  have C2 := fun l w h0 h1 a b c => hide (szProgram_any x.prog v0 v1 v2 l w h0 h1 a b c hm.p)
  have C3 := fun l w h0 h1 a => hide (szActorS_any v3 x.acts l w h0 h1 a hm.m3)
  have C4 := fun l w h0 h1 a => hide (szGateS_any v4 x.gates l w h0 h1 a hm.m4)
  have C5 := fun l w h0 h1 a => hide (szEnvS_any v5 x.vars l w h0 h1 a hm.m5)
  have C6 := fun l w h0 h1 a => hide (szIntS_any v6 x.input l w h0 h1 a hm.m6)
  have C7 := fun l w h0 h1 a => hide (szEventS_any v7 x.events l w h0 h1 a hm.m7)
  have B0 := hide (Box.made w #[v0, v1, v2, v3, v4, v5, v6, v7, .bool x.stopped] 33)
  have BB : Hid (Below w.heap.size w (w.alloc (.cells #[v0, v1, v2, v3, v4, v5, v6, v7, .bool x.stopped] 33))) := hide ((Below.refl _ _).alloc (Nat.le_refl _) _)
  have K0 := hide k0
  obtain ⟨o0, c0, rfl, _⟩ := k0
  have K1 := hide k1
  obtain ⟨o1, c1, rfl, _⟩ := k1
  have K2 := hide k2
  obtain ⟨o2, c2, rfl, _⟩ := k2
  have K3 := hide k3
  obtain ⟨o3, c3, rfl, _⟩ := k3
  have K4 := hide k4
  obtain ⟨o4, c4, rfl, _⟩ := k4
  have K5 := hide k5
  obtain ⟨o5, c5, rfl, _⟩ := k5
  have K6 := hide k6
  obtain ⟨o6, c6, rfl, _⟩ := k6
  have K7 := hide k7
  obtain ⟨o7, c7, rfl, _⟩ := k7
  clear hm
  obtain ⟨s2, es2⟩ : ∃ s, szPg x.prog = s := ⟨_, rfl⟩
  obtain ⟨s3, es3⟩ : ∃ s, szAcs x.acts = s := ⟨_, rfl⟩
  obtain ⟨s4, es4⟩ : ∃ s, szGts x.gates = s := ⟨_, rfl⟩
  obtain ⟨s5, es5⟩ : ∃ s, szEvs x.vars = s := ⟨_, rfl⟩
  obtain ⟨s6, es6⟩ : ∃ s, x.input.length = s := ⟨_, rfl⟩
  obtain ⟨s7, es7⟩ : ∃ s, szVts x.events = s := ⟨_, rfl⟩
  obtain ⟨n0, en0⟩ : ∃ n, x.prog.nodes.length = n := ⟨_, rfl⟩
  obtain ⟨n1, en1⟩ : ∃ n, x.prog.mons.length = n := ⟨_, rfl⟩
  obtain ⟨n2, en2⟩ : ∃ n, x.prog.pros.length = n := ⟨_, rfl⟩
  obtain ⟨n3, en3⟩ : ∃ n, x.acts.length = n := ⟨_, rfl⟩
  obtain ⟨n4, en4⟩ : ∃ n, x.gates.length = n := ⟨_, rfl⟩
  obtain ⟨n5, en5⟩ : ∃ n, x.vars.length = n := ⟨_, rfl⟩
  obtain ⟨n7, en7⟩ : ∃ n, x.events.length = n := ⟨_, rfl⟩
  simp only [es2, es3, es4, es5, es7] at C2 C3 C4 C5 C7 HU
  rw [es6] at HU
  simp only [en0, en1, en2, en3, en4, en5, es6, en7] at C2 C3 C4 C5 C6 C7 B0 BB K0 K1 K2 K3 K4 K5 K6 K7 ⊢
  obtain ⟨W1, hW⟩ : ∃ W1, w.alloc (.cells #[.slice o0 n0 c0, .slice o1 n1 c1, .slice o2 n2 c2, .slice o3 n3 c3, .slice o4 n4 c4, .slice o5 n5 c5, .slice o6 s6 c6, .slice o7 n7 c7, .bool x.stopped] 33) = W1 := ⟨_, rfl⟩
  have HW := hide hW
  rw [hW] at B0 BB
  clear hW es2 es3 es4 es5 es6 es7 en0 en1 en2 en3 en4 en5 en7
  have p0 := Lib.cell_of_heap B0.out 0
  have p1 := Lib.cell_of_heap B0.out 1
  have p2 := Lib.cell_of_heap B0.out 2
  have p3 := Lib.cell_of_heap B0.out 3
  have p4 := Lib.cell_of_heap B0.out 4
  have p5 := Lib.cell_of_heap B0.out 5
  have p6 := Lib.cell_of_heap B0.out 6
  have p7 := Lib.cell_of_heap B0.out 7
  have p8 := Lib.cell_of_heap B0.out 8
  simp at p0 p1 p2 p3 p4 p5 p6 p7 p8
  rw [← HW.out] at p0 p1 p2 p3 p4 p5 p6 p7 p8
  go_enter Try.func5, Try.ntmps5
  go_wp2_with fail
  rw [HW.out]
  clear p0 p1 p2 p3 p4 p5 p6 p7 p8
  refine (unhide (C2 _ _ h0 h1 (K0.out.stays BB.out) (K1.out.stays BB.out) (K2.out.stays BB.out))).mono ?_
  rintro e z2 ⟨r2, rfl, hr, hb⟩
  replace B0 := hide (B0.out.stays hb)
  replace BB := hide (BB.out.trans (hb.mono BB.out.size))
  clear hb
  have p0 := Lib.cell_of_heap B0.out 0
  have p1 := Lib.cell_of_heap B0.out 1
  have p2 := Lib.cell_of_heap B0.out 2
  have p3 := Lib.cell_of_heap B0.out 3
  have p4 := Lib.cell_of_heap B0.out 4
  have p5 := Lib.cell_of_heap B0.out 5
  have p6 := Lib.cell_of_heap B0.out 6
  have p7 := Lib.cell_of_heap B0.out 7
  have p8 := Lib.cell_of_heap B0.out 8
  simp at p0 p1 p2 p3 p4 p5 p6 p7 p8
  by_cases q : r2 < 0
  · clear hr
    go_wp2
    go_ret
    exact ⟨-1, rfl, .inl (by omega), BB.out⟩
  obtain ⟨e2, f2⟩ := hr.resolve_left q
  have F2 := hide f2
  have x2 : r2 ≤ 1048576 := by omega
  clear f2 hr h0 h1
  have h0 := e2
  have h1 := x2
  clear e2 x2
  go_wp2_with fail
  clear q p0 p1 p2 p3 p4 p5 p6 p7 p8
  refine (unhide (C3 _ _ h0 h1 (K3.out.stays BB.out))).mono ?_
  rintro e z3 ⟨r3, rfl, hr, hb⟩
  replace B0 := hide (B0.out.stays hb)
  replace BB := hide (BB.out.trans (hb.mono BB.out.size))
  clear hb
  have p0 := Lib.cell_of_heap B0.out 0
  have p1 := Lib.cell_of_heap B0.out 1
  have p2 := Lib.cell_of_heap B0.out 2
  have p3 := Lib.cell_of_heap B0.out 3
  have p4 := Lib.cell_of_heap B0.out 4
  have p5 := Lib.cell_of_heap B0.out 5
  have p6 := Lib.cell_of_heap B0.out 6
  have p7 := Lib.cell_of_heap B0.out 7
  have p8 := Lib.cell_of_heap B0.out 8
  simp at p0 p1 p2 p3 p4 p5 p6 p7 p8
  by_cases q : r3 < 0
  · clear hr
    go_wp2
    go_ret
    exact ⟨-1, rfl, .inl (by omega), BB.out⟩
  obtain ⟨e3, f3⟩ := hr.resolve_left q
  have F3 := hide f3
  have x3 : r3 ≤ 1048576 := by omega
  clear f3 hr h0 h1
  have h0 := e3
  have h1 := x3
  clear e3 x3
  go_wp2_with fail
  clear q p0 p1 p2 p3 p4 p5 p6 p7 p8
  refine (unhide (C4 _ _ h0 h1 (K4.out.stays BB.out))).mono ?_
  rintro e z4 ⟨r4, rfl, hr, hb⟩
  replace B0 := hide (B0.out.stays hb)
  replace BB := hide (BB.out.trans (hb.mono BB.out.size))
  clear hb
  have p0 := Lib.cell_of_heap B0.out 0
  have p1 := Lib.cell_of_heap B0.out 1
  have p2 := Lib.cell_of_heap B0.out 2
  have p3 := Lib.cell_of_heap B0.out 3
  have p4 := Lib.cell_of_heap B0.out 4
  have p5 := Lib.cell_of_heap B0.out 5
  have p6 := Lib.cell_of_heap B0.out 6
  have p7 := Lib.cell_of_heap B0.out 7
  have p8 := Lib.cell_of_heap B0.out 8
  simp at p0 p1 p2 p3 p4 p5 p6 p7 p8
  by_cases q : r4 < 0
  · clear hr
    go_wp2
    go_ret
    exact ⟨-1, rfl, .inl (by omega), BB.out⟩
  obtain ⟨e4, f4⟩ := hr.resolve_left q
  have F4 := hide f4
  have x4 : r4 ≤ 1048576 := by omega
  clear f4 hr h0 h1
  have h0 := e4
  have h1 := x4
  clear e4 x4
  go_wp2_with fail
  clear q p0 p1 p2 p3 p4 p5 p6 p7 p8
  refine (unhide (C5 _ _ h0 h1 (K5.out.stays BB.out))).mono ?_
  rintro e z5 ⟨r5, rfl, hr, hb⟩
  replace B0 := hide (B0.out.stays hb)
  replace BB := hide (BB.out.trans (hb.mono BB.out.size))
  clear hb
  have p0 := Lib.cell_of_heap B0.out 0
  have p1 := Lib.cell_of_heap B0.out 1
  have p2 := Lib.cell_of_heap B0.out 2
  have p3 := Lib.cell_of_heap B0.out 3
  have p4 := Lib.cell_of_heap B0.out 4
  have p5 := Lib.cell_of_heap B0.out 5
  have p6 := Lib.cell_of_heap B0.out 6
  have p7 := Lib.cell_of_heap B0.out 7
  have p8 := Lib.cell_of_heap B0.out 8
  simp at p0 p1 p2 p3 p4 p5 p6 p7 p8
  by_cases q : r5 < 0
  · clear hr
    go_wp2
    go_ret
    exact ⟨-1, rfl, .inl (by omega), BB.out⟩
  obtain ⟨e5, f5⟩ := hr.resolve_left q
  have F5 := hide f5
  have x5 : r5 ≤ 1048576 := by omega
  clear f5 hr h0 h1
  have h0 := e5
  have h1 := x5
  clear e5 x5
  go_wp2_with fail
  clear q p0 p1 p2 p3 p4 p5 p6 p7 p8
  refine (unhide (C6 _ _ h0 h1 (K6.out.stays BB.out))).mono ?_
  rintro e z6 ⟨r6, rfl, hr, hb⟩
  replace B0 := hide (B0.out.stays hb)
  replace BB := hide (BB.out.trans (hb.mono BB.out.size))
  clear hb
  have p0 := Lib.cell_of_heap B0.out 0
  have p1 := Lib.cell_of_heap B0.out 1
  have p2 := Lib.cell_of_heap B0.out 2
  have p3 := Lib.cell_of_heap B0.out 3
  have p4 := Lib.cell_of_heap B0.out 4
  have p5 := Lib.cell_of_heap B0.out 5
  have p6 := Lib.cell_of_heap B0.out 6
  have p7 := Lib.cell_of_heap B0.out 7
  have p8 := Lib.cell_of_heap B0.out 8
  simp at p0 p1 p2 p3 p4 p5 p6 p7 p8
  by_cases q : r6 < 0
  · clear hr
    go_wp2
    go_ret
    exact ⟨-1, rfl, .inl (by omega), BB.out⟩
  obtain ⟨e6, f6⟩ := hr.resolve_left q
  have F6 := hide f6
  have x6 : r6 ≤ 1048576 := by omega
  clear f6 hr h0 h1
  have h0 := e6
  have h1 := x6
  clear e6 x6
  go_wp2_with fail
  clear q p0 p1 p2 p3 p4 p5 p6 p7 p8
  refine (unhide (C7 _ _ h0 h1 (K7.out.stays BB.out))).mono ?_
  rintro e z7 ⟨r7, rfl, hr, hb⟩
  replace B0 := hide (B0.out.stays hb)
  replace BB := hide (BB.out.trans (hb.mono BB.out.size))
  clear hb
  have p0 := Lib.cell_of_heap B0.out 0
  have p1 := Lib.cell_of_heap B0.out 1
  have p2 := Lib.cell_of_heap B0.out 2
  have p3 := Lib.cell_of_heap B0.out 3
  have p4 := Lib.cell_of_heap B0.out 4
  have p5 := Lib.cell_of_heap B0.out 5
  have p6 := Lib.cell_of_heap B0.out 6
  have p7 := Lib.cell_of_heap B0.out 7
  have p8 := Lib.cell_of_heap B0.out 8
  simp at p0 p1 p2 p3 p4 p5 p6 p7 p8
  by_cases q : r7 < 0
  · clear hr
    go_wp2
    go_ret
    exact ⟨-1, rfl, .inl (by omega), BB.out⟩
  obtain ⟨e7, f7⟩ := hr.resolve_left q
  have F7 := hide f7
  have x7 : r7 ≤ 1048576 := by omega
  clear f7 hr h0 h1
  have h0 := e7
  have h1 := x7
  clear e7 x7
  go_wp2
  go_ret
  exact ⟨r7, rfl, .inr ⟨h0, by rw [HU.out]; have := F2.out; have := F3.out; have := F4.out; have := F5.out; have := F6.out; have := F7.out; omega⟩, BB.out⟩
end Go.Proofs.Ytkoelibclihekaa
