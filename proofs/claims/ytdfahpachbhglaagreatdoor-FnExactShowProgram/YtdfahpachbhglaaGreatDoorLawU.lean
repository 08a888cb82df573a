/-
  Walks: a program that came in, copied, by the laws' own helpers: rows of nodes, entries.
-/
import Derived.Test.YtdfahpachbhglaaGreatDoorTreeW
namespace Go.Proofs.YtdfahpachbhglaaGreatDoor
open Go.RowKit

theorem Tryz.infoNode : (Tryz.prog.info? 78).map (fun i => (i.zero, i.size, i.bytes)) = some (some (.agg #[.int .i64 0, .int .i64 0, .string ⟨#[]⟩, .string ⟨#[]⟩, .string ⟨#[]⟩, .slice none 0 0]), 6, 88) := by kernel_rfl

set_option maxRecDepth 100000 in
set_option maxHeartbeats 2000000 in
theorem toNodeS_any (v : Value) (xs : List Nd) (w : World) (h : NdsAt w v xs) (hlen : xs.length ≤ 1048576) (hin : ∀ x ∈ xs, x.kids.length ≤ 1048576) :
    Calls Tryz.prog 16 #[v] w fun e w' => ∃ v', e = .returned v' ∧ NdsIn w.heap.size w' v' xs ∧ Below w.heap.size w w' := by
  obtain ⟨i0, hi, hz0, hz1, hz2⟩ := info_parts (Tryz.infoNode)
  obtain ⟨wm, hmk, hown, hgr⟩ := run_make_full (P := Tryz.prog) w w.heap.size 30 78 i0 _ 6 Tryz.underlying30 hi hz0 hz1 .i64 .i64 xs.length (by rw [hz2]; omega) (by unfold maxLen; omega) (Nat.le_refl _)
  have HS : Hid (Filled NodeC 6 78 w xs 0 wm) := Filled.start NodeC xs [.int .i64 0, .int .i64 0, .string ⟨#[]⟩, .string ⟨#[]⟩, .string ⟨#[]⟩, .slice none 0 0] (by decide) hown hgr
  have HC := hide h
  have HI := hide hin
  obtain ⟨ao, c, rfl, _⟩ := h
  clear hown hgr hi hz0 hz1 hz2 hin
  obtain ⟨n, en⟩ : ∃ n, xs.length = n := ⟨_, rfl⟩
  have EN := hide en
  rw [en] at hmk hlen HC ⊢
  clear en
  go_enter Tryz.func16, Tryz.ntmps16
  go_wp2
  go_loopw [4] (FillR NodeC 6 78 w xs) (fun iv _ => n - (intOf iv).toNat)
  case atStart => exact ⟨0, Nat.zero_le _, rfl, HS.out⟩
  case round =>
    obtain ⟨k, hk, rfl, HF⟩ := hrel
    rw [EN.out] at hk
    by_cases hlt : k < n
    · have hlt' : (k : Int) < (n : Int) := by omega
      have hi0 : (0 : Int) ≤ (k : Int) := by omega
      have hkx : k < xs.length := by rw [EN.out]; exact hlt
      obtain ⟨a', c', p, kv, e5, hpa, hpb, hnode⟩ := (HC.out.stays HF.out.below).node k hkx
      injection e5 with e6 e7 e8
      subst e6
      have hkl := HI.out _ (List.getElem_mem hkx)
      obtain ⟨d0, d1, d2, d3, d4, d5, hkids⟩ := hnode
      have C := hide (toNode_any xs[k] kv wr hkids hkl)
      have HX : Hid (∀ y wz, y.length = 6 → NodeC (w.heap.size + 1) wz y xs[k] → Filled NodeC 6 78 w xs k wz → Filled NodeC 6 78 w xs (k + 1) (wz.setCells w.heap.size (k * 6) y)) := fun y wz hy hR hf => hf.next hkx hy hR
      have HT : Hid (∀ wz, Filled NodeC 6 78 w xs k wz → ∀ j, j < 6 → (∃ u, wz.cell? ⟨w.heap.size, k * 6 + j, none⟩ = some u) ∧ wz.frozen? ⟨w.heap.size, k * 6 + j, none⟩ = false) := fun wz hf j hj => hf.there hkx j hj
      obtain ⟨ko, kc, rfl, _⟩ := hkids
      obtain ⟨x, ex⟩ : ∃ x, xs[k] = x := ⟨_, rfl⟩
      rw [ex] at d0 d1 d2 d3 d4 d5 C HX
      clear ex e7 e8 hkl
      go_wp2_with (go_at_call 34; refine (unhide C).mono ?_; rintro e w1 ⟨o2, n2, c2, rfl, hv2, hb2⟩; have HF1 := hide (HF.out.stays hb2); have HV : Hid (NodeC (w.heap.size + 1) w1 [.int .i64 x.kind, .int .i64 x.num, .string x.name, .string x.more, .string x.into, .slice o2 n2 c2] x) := Told.mono hv2 HF.out.lt; obtain ⟨⟨u0, y0⟩, z0⟩ := HT.out _ HF1.out 0 (by decide); obtain ⟨⟨u1, y1⟩, z1⟩ := HT.out _ HF1.out 1 (by decide); obtain ⟨⟨u2, y2⟩, z2⟩ := HT.out _ HF1.out 2 (by decide); obtain ⟨⟨u3, y3⟩, z3⟩ := HT.out _ HF1.out 3 (by decide); obtain ⟨⟨u4, y4⟩, z4⟩ := HT.out _ HF1.out 4 (by decide); obtain ⟨⟨u5, y5⟩, z5⟩ := HT.out _ HF1.out 5 (by decide); rw [Nat.add_zero] at y0 z0; clear hb2 hv2)
      have HR := hide (HX.out _ _ rfl HV.out HF1.out)
      go_roundw
      case rel => exact ⟨k + 1, by rw [EN.out]; omega, by go_num, HR.out⟩
      case measure => simp [intOf]; omega
    · have hlt' : ¬ (k : Int) < (n : Int) := by omega
      go_wp2
      go_ret
      exact ⟨_, rfl, by
        have := HF.out.done (by rw [EN.out]; omega)
        rwa [EN.out] at this, HF.out.below⟩
end Go.Proofs.YtdfahpachbhglaaGreatDoor

namespace Go.Proofs.YtdfahpachbhglaaGreatDoor
open Go.RowKit

/-- The boxes of a copy: what came in, the result, what is made. -/
structure ThreeB (w : World) (A Z O : Array Value) (tA t : TypeId) (z : World) : Prop where
  bA : Box z w.heap.size A tA
  bZ : Box z (w.heap.size + 1) Z t
  bO : Box z (w.heap.size + 1 + 1) O t
  bel : Below w.heap.size w z
  lt : w.heap.size + 3 ≤ z.heap.size
theorem ThreeB.start (w : World) (A Z O : Array Value) (tA t : TypeId) : ThreeB w A Z O tA t (((w.alloc (.cells A tA)).alloc (.cells Z t)).alloc (.cells O t)) :=
  ⟨((Box.made w _ _).stays ((Below.refl _ _).alloc (Nat.le_refl _) _)).stays ((Below.refl _ _).alloc (Nat.le_refl _) _), (Box.madeAt (by simp) _ _).stays ((Below.refl _ _).alloc (Nat.le_refl _) _), Box.madeAt (by simp) _ _, by go_grown, by simp⟩
theorem ThreeB.stays {w : World} {A Z O : Array Value} {tA t : TypeId} {z z' : World} (h : ThreeB w A Z O tA t z) (hb : Below z.heap.size z z') : ThreeB w A Z O tA t z' :=
  ⟨h.bA.stays hb, h.bZ.stays hb, h.bO.stays hb, h.bel.trans (hb.mono h.bel.size), Nat.le_trans h.lt hb.size⟩
theorem ThreeB.put {w : World} {A Z O : Array Value} {tA t : TypeId} {z : World} (h : ThreeB w A Z O tA t z) (i : Nat) (v : Value) : ThreeB w A Z (O.setIfInBounds i v) tA t (z.setCell ⟨w.heap.size + 1 + 1, i, none⟩ v) :=
  ⟨h.bA.other _ _ (by dsimp only; omega), h.bZ.other _ _ (by dsimp only; omega), h.bO.set i v, h.bel.setCell (by dsimp only; omega) _, by
    have := h.lt
    simpa [World.setCell] using this⟩
theorem ThreeB.kept {w : World} {z : World} (i : Nat) (v : Value) : KeptFrom (w.heap.size + 3) z (z.setCell ⟨w.heap.size + 1 + 1, i, none⟩ v) := KeptFrom.setCell (by omega) _ _ _
theorem ThreeB.keptR {w : World} {z : World} (i : Nat) (v : Value) : KeptFrom (w.heap.size + 3) z (z.setCell ⟨w.heap.size + 1, i, none⟩ v) := KeptFrom.setCell (by omega) _ _ _

theorem CellsIn.form {base : Nat} {w : World} {v : Value} {vs : List Value} (h : CellsIn base w v vs) : ∃ o n c, v = .slice o n c := by
  obtain ⟨o, c, rfl, _⟩ := h; exact ⟨_, _, _, rfl⟩
theorem ObjsIn.form {α : Type} {R : Nat → World → List Value → α → Prop} {s base : Nat} {w : World} {v : Value} {xs : List α} (h : ObjsIn R s base w v xs) : ∃ o n c, v = .slice o n c := by
  obtain ⟨css, ⟨o, c, rfl, _⟩, _⟩ := h; exact ⟨_, _, _, rfl⟩
theorem Tryz.infoEntry : (Tryz.prog.info? 48).map (fun i => (i.zero, i.size, i.bytes)) = some (some (.agg #[.string ⟨#[]⟩, .string ⟨#[]⟩, .int .i64 0]), 3, 40) := by kernel_rfl
set_option maxHeartbeats 1000000 in
theorem toEntry_any (x : En) (w : World) :
    Calls Tryz.prog 78 #[.agg #[.string x.name, .string x.param, .int .i64 x.body]] w fun e w' => e = .returned (.agg #[.string x.name, .string x.param, .int .i64 x.body]) ∧ Below w.heap.size w w' := by
  go_enter Tryz.func78, Tryz.ntmps78
  go_wp2
  go_returns
  exact ⟨rfl, by go_grown⟩

set_option maxRecDepth 100000 in
set_option maxHeartbeats 2000000 in
theorem toEntryS_any (v : Value) (xs : List En) (w : World) (h : EnsAt w v xs) (hlen : xs.length ≤ 1048576) :
    Calls Tryz.prog 57 #[v] w fun e w' => ∃ v', e = .returned v' ∧ EnsIn w.heap.size w' v' xs ∧ Below w.heap.size w w' := by
  obtain ⟨i0, hi, hz0, hz1, hz2⟩ := info_parts (Tryz.infoEntry)
  obtain ⟨wm, hmk, hown, hgr⟩ := run_make_full (P := Tryz.prog) w w.heap.size 43 48 i0 _ 3 Tryz.underlying43 hi hz0 hz1 .i64 .i64 xs.length (by rw [hz2]; omega) (by unfold maxLen; omega) (Nat.le_refl _)
  have HS : Hid (Filled EntC 3 48 w xs 0 wm) := Filled.start EntC xs [.string ⟨#[]⟩, .string ⟨#[]⟩, .int .i64 0] (by decide) hown hgr
  have HC := hide h
  obtain ⟨ao, c, rfl, _⟩ := h
  clear hown hgr hi hz0 hz1 hz2
  obtain ⟨n, en⟩ : ∃ n, xs.length = n := ⟨_, rfl⟩
  have EN := hide en
  rw [en] at hmk hlen HC ⊢
  clear en
  go_enter Tryz.func57, Tryz.ntmps57
  go_wp2
  go_loopw [4] (FillR EntC 3 48 w xs) (fun iv _ => n - (intOf iv).toNat)
  case atStart => exact ⟨0, Nat.zero_le _, rfl, HS.out⟩
  case round =>
    obtain ⟨k, hk, rfl, HF⟩ := hrel
    rw [EN.out] at hk
    by_cases hlt : k < n
    · have hlt' : (k : Int) < (n : Int) := by omega
      have hi0 : (0 : Int) ≤ (k : Int) := by omega
      have hkx : k < xs.length := by rw [EN.out]; exact hlt
      obtain ⟨ao', cc, e5, hc⟩ := HC.out.stays HF.out.below
      injection e5 with e6 e7 e8
      subst e6
      obtain ⟨a, rfl, hab, hcell⟩ := hc k hkx
      obtain ⟨p, hpa⟩ : ∃ p, a.add (k * 3) = p := ⟨_, rfl⟩
      rw [hpa] at hcell
      obtain ⟨d0, d1, d2⟩ := hcell
      have C := hide (toEntry_any xs[k] wr)
      have HX : Hid (∀ y wz, y.length = 3 → EntC (w.heap.size + 1) wz y xs[k] → Filled EntC 3 48 w xs k wz → Filled EntC 3 48 w xs (k + 1) (wz.setCells w.heap.size (k * 3) y)) := fun y wz hy hR hf => hf.next hkx hy hR
      have HT : Hid (∀ wz, Filled EntC 3 48 w xs k wz → ∀ j, j < 3 → (∃ u, wz.cell? ⟨w.heap.size, k * 3 + j, none⟩ = some u) ∧ wz.frozen? ⟨w.heap.size, k * 3 + j, none⟩ = false) := fun wz hf j hj => hf.there hkx j hj
      obtain ⟨x, ex⟩ : ∃ x, xs[k] = x := ⟨_, rfl⟩
      rw [ex] at d0 d1 d2 C HX
      clear ex e7 e8 hc
      go_wp2_with (go_at_call 78; refine (unhide C).mono ?_; rintro e w1 ⟨rfl, hb2⟩; have HF1 := hide (HF.out.stays hb2); have HV : Hid (EntC (w.heap.size + 1) w1 [.string x.name, .string x.param, .int .i64 x.body] x) := rfl; obtain ⟨⟨u0, y0⟩, z0⟩ := HT.out _ HF1.out 0 (by decide); obtain ⟨⟨u1, y1⟩, z1⟩ := HT.out _ HF1.out 1 (by decide); obtain ⟨⟨u2, y2⟩, z2⟩ := HT.out _ HF1.out 2 (by decide); rw [Nat.add_zero] at y0 z0; clear hb2)
      have HR := hide (HX.out _ _ rfl HV.out HF1.out)
      go_roundw
      case rel => exact ⟨k + 1, by rw [EN.out]; omega, by go_num, HR.out⟩
      case measure => simp [intOf]; omega
    · have hlt' : ¬ (k : Int) < (n : Int) := by omega
      go_wp2
      go_ret
      exact ⟨_, rfl, by
        have := HF.out.done (by rw [EN.out]; omega)
        rwa [EN.out] at this, HF.out.below⟩
set_option maxRecDepth 100000 in
set_option maxHeartbeats 2000000 in
theorem toMonitor_any (x : Mo) (vv qv ev : Value) (w : World) (h1 : StrsAt w vv x.vars) (h2 : StrsAt w qv x.queues) (h3 : EnsAt w ev x.ents) (l1 : x.vars.length ≤ 1048576) (l2 : x.queues.length ≤ 1048576) (l3 : x.ents.length ≤ 1048576) :
    Calls Tryz.prog 35 #[.agg #[.string x.name, vv, qv, ev]] w fun e w' => ∃ o1 n1 c1 o2 n2 c2 o3 n3 c3, e = .returned (.agg #[.string x.name, .slice o1 n1 c1, .slice o2 n2 c2, .slice o3 n3 c3]) ∧ MonC w.heap.size w' [.string x.name, .slice o1 n1 c1, .slice o2 n2 c2, .slice o3 n3 c3] x ∧ Below w.heap.size w w' := by
  have C1 := fun w h => hide (toStringS_any vv x.vars w h l1)
  have H1 := hide h1
  have C2 := fun w h => hide (toStringS_any qv x.queues w h l2)
  have H2 := hide h2
  have C3 := fun w h => hide (toEntryS_any ev x.ents w h l3)
  have H3 := hide h3
  have T := hide (ThreeB.start w #[.string x.name, vv, qv, ev] #[.string ⟨#[]⟩, .slice none 0 0, .slice none 0 0, .slice none 0 0] #[.string x.name, .slice none 0 0, .slice none 0 0, .slice none 0 0] 73 45)
  obtain ⟨a1, b1, rfl, _⟩ := h1
  obtain ⟨a2, b2, rfl, _⟩ := h2
  obtain ⟨a3, b3, rfl, _⟩ := h3
  go_enter Tryz.func35, Tryz.ntmps35
  go_wp2_with fail
  refine (unhide (C1 _ (H1.out.stays T.out.bel))).mono ?_
  rintro e z1 ⟨v1, rfl, hv1, hb1⟩
  have S1 := hide (T.out.stays hb1)
  have V1 : Hid (StrsIn (w.heap.size + 3) z1 v1 x.vars) := hv1.mono T.out.lt
  obtain ⟨o1, n1, c1, rfl⟩ := hv1.form
  have p0 := Lib.cell_of_heap S1.out.bA 0
  have q0 := Lib.cell_of_heap S1.out.bZ 0
  have r0 := Lib.cell_of_heap S1.out.bO 0
  have s0 := Lib.frozen_of_heap S1.out.bZ 0
  have t0 := Lib.frozen_of_heap S1.out.bO 0
  have p1 := Lib.cell_of_heap S1.out.bA 1
  have q1 := Lib.cell_of_heap S1.out.bZ 1
  have r1 := Lib.cell_of_heap S1.out.bO 1
  have s1 := Lib.frozen_of_heap S1.out.bZ 1
  have t1 := Lib.frozen_of_heap S1.out.bO 1
  have p2 := Lib.cell_of_heap S1.out.bA 2
  have q2 := Lib.cell_of_heap S1.out.bZ 2
  have r2 := Lib.cell_of_heap S1.out.bO 2
  have s2 := Lib.frozen_of_heap S1.out.bZ 2
  have t2 := Lib.frozen_of_heap S1.out.bO 2
  have p3 := Lib.cell_of_heap S1.out.bA 3
  have q3 := Lib.cell_of_heap S1.out.bZ 3
  have r3 := Lib.cell_of_heap S1.out.bO 3
  have s3 := Lib.frozen_of_heap S1.out.bZ 3
  have t3 := Lib.frozen_of_heap S1.out.bO 3
  simp at p0 q0 r0 p1 q1 r1 p2 q2 r2 p3 q3 r3
  clear hb1 hv1 T C1 H1
  have T1 := hide (S1.out.put 1 (.slice o1 n1 c1))
  have V1 := hide (V1.out.kept (ThreeB.kept 1 (.slice o1 n1 c1)))
  go_wp2_with fail
  clear p0 q0 r0 s0 t0 p1 q1 r1 s1 t1 p2 q2 r2 s2 t2 p3 q3 r3 s3 t3
  refine (unhide (C2 _ (H2.out.stays T1.out.bel))).mono ?_
  rintro e z2 ⟨v2, rfl, hv2, hb2⟩
  have S2 := hide (T1.out.stays hb2)
  have V1 := hide (V1.out.kept (KeptFrom.below hb2))
  have V2 : Hid (StrsIn (w.heap.size + 3) z2 v2 x.queues) := hv2.mono T1.out.lt
  obtain ⟨o2, n2, c2, rfl⟩ := hv2.form
  have p0 := Lib.cell_of_heap S2.out.bA 0
  have q0 := Lib.cell_of_heap S2.out.bZ 0
  have r0 := Lib.cell_of_heap S2.out.bO 0
  have s0 := Lib.frozen_of_heap S2.out.bZ 0
  have t0 := Lib.frozen_of_heap S2.out.bO 0
  have p1 := Lib.cell_of_heap S2.out.bA 1
  have q1 := Lib.cell_of_heap S2.out.bZ 1
  have r1 := Lib.cell_of_heap S2.out.bO 1
  have s1 := Lib.frozen_of_heap S2.out.bZ 1
  have t1 := Lib.frozen_of_heap S2.out.bO 1
  have p2 := Lib.cell_of_heap S2.out.bA 2
  have q2 := Lib.cell_of_heap S2.out.bZ 2
  have r2 := Lib.cell_of_heap S2.out.bO 2
  have s2 := Lib.frozen_of_heap S2.out.bZ 2
  have t2 := Lib.frozen_of_heap S2.out.bO 2
  have p3 := Lib.cell_of_heap S2.out.bA 3
  have q3 := Lib.cell_of_heap S2.out.bZ 3
  have r3 := Lib.cell_of_heap S2.out.bO 3
  have s3 := Lib.frozen_of_heap S2.out.bZ 3
  have t3 := Lib.frozen_of_heap S2.out.bO 3
  simp at p0 q0 r0 p1 q1 r1 p2 q2 r2 p3 q3 r3
  clear hb2 hv2 T1 C2 H2
  have T2 := hide (S2.out.put 2 (.slice o2 n2 c2))
  have V1 := hide (V1.out.kept (ThreeB.kept 2 (.slice o2 n2 c2)))
  have V2 := hide (V2.out.kept (ThreeB.kept 2 (.slice o2 n2 c2)))
  go_wp2_with fail
  clear p0 q0 r0 s0 t0 p1 q1 r1 s1 t1 p2 q2 r2 s2 t2 p3 q3 r3 s3 t3
  refine (unhide (C3 _ (H3.out.stays T2.out.bel))).mono ?_
  rintro e z3 ⟨v3, rfl, hv3, hb3⟩
  have S3 := hide (T2.out.stays hb3)
  have V1 := hide (V1.out.kept (KeptFrom.below hb3))
  have V2 := hide (V2.out.kept (KeptFrom.below hb3))
  have V3 : Hid (EnsIn (w.heap.size + 3) z3 v3 x.ents) := hv3.mono T2.out.lt
  obtain ⟨o3, n3, c3, rfl⟩ := hv3.form
  have p0 := Lib.cell_of_heap S3.out.bA 0
  have q0 := Lib.cell_of_heap S3.out.bZ 0
  have r0 := Lib.cell_of_heap S3.out.bO 0
  have s0 := Lib.frozen_of_heap S3.out.bZ 0
  have t0 := Lib.frozen_of_heap S3.out.bO 0
  have p1 := Lib.cell_of_heap S3.out.bA 1
  have q1 := Lib.cell_of_heap S3.out.bZ 1
  have r1 := Lib.cell_of_heap S3.out.bO 1
  have s1 := Lib.frozen_of_heap S3.out.bZ 1
  have t1 := Lib.frozen_of_heap S3.out.bO 1
  have p2 := Lib.cell_of_heap S3.out.bA 2
  have q2 := Lib.cell_of_heap S3.out.bZ 2
  have r2 := Lib.cell_of_heap S3.out.bO 2
  have s2 := Lib.frozen_of_heap S3.out.bZ 2
  have t2 := Lib.frozen_of_heap S3.out.bO 2
  have p3 := Lib.cell_of_heap S3.out.bA 3
  have q3 := Lib.cell_of_heap S3.out.bZ 3
  have r3 := Lib.cell_of_heap S3.out.bO 3
  have s3 := Lib.frozen_of_heap S3.out.bZ 3
  have t3 := Lib.frozen_of_heap S3.out.bO 3
  simp at p0 q0 r0 p1 q1 r1 p2 q2 r2 p3 q3 r3
  clear hb3 hv3 T2 C3 H3
  have T3 := hide (S3.out.put 3 (.slice o3 n3 c3))
  have V1 := hide (V1.out.kept (ThreeB.kept 3 (.slice o3 n3 c3)))
  have V2 := hide (V2.out.kept (ThreeB.kept 3 (.slice o3 n3 c3)))
  have V3 := hide (V3.out.kept (ThreeB.kept 3 (.slice o3 n3 c3)))
  go_wp2
  refine box_ret (g := w.heap.size + 1) (t := 45) (cs := #[.string x.name, .slice o1 n1 c1, .slice o2 n2 c2, .slice o3 n3 c3]) rfl rfl ?_ _ Tryz.underlying45 rfl (by kernel_rfl) rfl ?_
  · simpa using ((((T3.out.bZ.set 0 _).set 1 _).set 2 _).set 3 _)
  · refine ⟨_, _, _, _, _, _, _, _, _, rfl, ⟨_, _, _, rfl, ?_, ?_, ?_⟩, ?_⟩
    · refine CellsIn.mono (base := w.heap.size + 3) ?_ (by omega)
      iterate 4 refine CellsIn.kept ?_ (ThreeB.keptR _ _)
      exact V1.out
    · refine CellsIn.mono (base := w.heap.size + 3) ?_ (by omega)
      iterate 4 refine CellsIn.kept ?_ (ThreeB.keptR _ _)
      exact V2.out
    · refine ObjsIn.mono (base := w.heap.size + 3) ?_ (by omega)
      iterate 4 refine ObjsIn.kept ?_ (ThreeB.keptR _ _)
      exact V3.out
    · iterate 4 refine Below.setCell ?_ (by dsimp only; omega) _
      exact T3.out.bel
set_option maxRecDepth 100000 in
set_option maxHeartbeats 2000000 in
theorem toProcess_any (x : Pr) (uv vv : Value) (w : World) (h1 : StrsAt w uv x.uses) (h2 : StrsAt w vv x.vars) (l1 : x.uses.length ≤ 1048576) (l2 : x.vars.length ≤ 1048576) :
    Calls Tryz.prog 36 #[.agg #[.string x.name, uv, vv, .int .i64 x.body]] w fun e w' => ∃ o1 n1 c1 o2 n2 c2, e = .returned (.agg #[.string x.name, .slice o1 n1 c1, .slice o2 n2 c2, .int .i64 x.body]) ∧ ProC w.heap.size w' [.string x.name, .slice o1 n1 c1, .slice o2 n2 c2, .int .i64 x.body] x ∧ Below w.heap.size w w' := by
  have C1 := fun w h => hide (toStringS_any uv x.uses w h l1)
  have H1 := hide h1
  have C2 := fun w h => hide (toStringS_any vv x.vars w h l2)
  have H2 := hide h2
  have T := hide (ThreeB.start w #[.string x.name, uv, vv, .int .i64 x.body] #[.string ⟨#[]⟩, .slice none 0 0, .slice none 0 0, .int .i64 0] #[.string x.name, .slice none 0 0, .slice none 0 0, .int .i64 0] 75 51)
  obtain ⟨a1, b1, rfl, _⟩ := h1
  obtain ⟨a2, b2, rfl, _⟩ := h2
  go_enter Tryz.func36, Tryz.ntmps36
  go_wp2_with fail
  refine (unhide (C1 _ (H1.out.stays T.out.bel))).mono ?_
  rintro e z1 ⟨v1, rfl, hv1, hb1⟩
  have S1 := hide (T.out.stays hb1)
  have V1 : Hid (StrsIn (w.heap.size + 3) z1 v1 x.uses) := hv1.mono T.out.lt
  obtain ⟨o1, n1, c1, rfl⟩ := hv1.form
  have p0 := Lib.cell_of_heap S1.out.bA 0
  have q0 := Lib.cell_of_heap S1.out.bZ 0
  have r0 := Lib.cell_of_heap S1.out.bO 0
  have s0 := Lib.frozen_of_heap S1.out.bZ 0
  have t0 := Lib.frozen_of_heap S1.out.bO 0
  have p1 := Lib.cell_of_heap S1.out.bA 1
  have q1 := Lib.cell_of_heap S1.out.bZ 1
  have r1 := Lib.cell_of_heap S1.out.bO 1
  have s1 := Lib.frozen_of_heap S1.out.bZ 1
  have t1 := Lib.frozen_of_heap S1.out.bO 1
  have p2 := Lib.cell_of_heap S1.out.bA 2
  have q2 := Lib.cell_of_heap S1.out.bZ 2
  have r2 := Lib.cell_of_heap S1.out.bO 2
  have s2 := Lib.frozen_of_heap S1.out.bZ 2
  have t2 := Lib.frozen_of_heap S1.out.bO 2
  have p3 := Lib.cell_of_heap S1.out.bA 3
  have q3 := Lib.cell_of_heap S1.out.bZ 3
  have r3 := Lib.cell_of_heap S1.out.bO 3
  have s3 := Lib.frozen_of_heap S1.out.bZ 3
  have t3 := Lib.frozen_of_heap S1.out.bO 3
  simp at p0 q0 r0 p1 q1 r1 p2 q2 r2 p3 q3 r3
  clear hb1 hv1 T C1 H1
  have T1 := hide (S1.out.put 1 (.slice o1 n1 c1))
  have V1 := hide (V1.out.kept (ThreeB.kept 1 (.slice o1 n1 c1)))
  go_wp2_with fail
  clear p0 q0 r0 s0 t0 p1 q1 r1 s1 t1 p2 q2 r2 s2 t2 p3 q3 r3 s3 t3
  refine (unhide (C2 _ (H2.out.stays T1.out.bel))).mono ?_
  rintro e z2 ⟨v2, rfl, hv2, hb2⟩
  have S2 := hide (T1.out.stays hb2)
  have V1 := hide (V1.out.kept (KeptFrom.below hb2))
  have V2 : Hid (StrsIn (w.heap.size + 3) z2 v2 x.vars) := hv2.mono T1.out.lt
  obtain ⟨o2, n2, c2, rfl⟩ := hv2.form
  have p0 := Lib.cell_of_heap S2.out.bA 0
  have q0 := Lib.cell_of_heap S2.out.bZ 0
  have r0 := Lib.cell_of_heap S2.out.bO 0
  have s0 := Lib.frozen_of_heap S2.out.bZ 0
  have t0 := Lib.frozen_of_heap S2.out.bO 0
  have p1 := Lib.cell_of_heap S2.out.bA 1
  have q1 := Lib.cell_of_heap S2.out.bZ 1
  have r1 := Lib.cell_of_heap S2.out.bO 1
  have s1 := Lib.frozen_of_heap S2.out.bZ 1
  have t1 := Lib.frozen_of_heap S2.out.bO 1
  have p2 := Lib.cell_of_heap S2.out.bA 2
  have q2 := Lib.cell_of_heap S2.out.bZ 2
  have r2 := Lib.cell_of_heap S2.out.bO 2
  have s2 := Lib.frozen_of_heap S2.out.bZ 2
  have t2 := Lib.frozen_of_heap S2.out.bO 2
  have p3 := Lib.cell_of_heap S2.out.bA 3
  have q3 := Lib.cell_of_heap S2.out.bZ 3
  have r3 := Lib.cell_of_heap S2.out.bO 3
  have s3 := Lib.frozen_of_heap S2.out.bZ 3
  have t3 := Lib.frozen_of_heap S2.out.bO 3
  simp at p0 q0 r0 p1 q1 r1 p2 q2 r2 p3 q3 r3
  clear hb2 hv2 T1 C2 H2
  have T2 := hide (S2.out.put 2 (.slice o2 n2 c2))
  have V1 := hide (V1.out.kept (ThreeB.kept 2 (.slice o2 n2 c2)))
  have V2 := hide (V2.out.kept (ThreeB.kept 2 (.slice o2 n2 c2)))
  have U3 := hide (T2.out.put 3 (.int .i64 x.body))
  have V1 := hide (V1.out.kept (ThreeB.kept 3 (.int .i64 x.body)))
  have V2 := hide (V2.out.kept (ThreeB.kept 3 (.int .i64 x.body)))
  go_wp2
  refine box_ret (g := w.heap.size + 1) (t := 51) (cs := #[.string x.name, .slice o1 n1 c1, .slice o2 n2 c2, .int .i64 x.body]) rfl rfl ?_ _ Tryz.underlying51 rfl (by kernel_rfl) rfl ?_
  · simpa using ((((U3.out.bZ.set 0 _).set 1 _).set 2 _).set 3 _)
  · refine ⟨_, _, _, _, _, _, rfl, ⟨_, _, rfl, ?_, ?_⟩, ?_⟩
    · refine CellsIn.mono (base := w.heap.size + 3) ?_ (by omega)
      iterate 4 refine CellsIn.kept ?_ (ThreeB.keptR _ _)
      exact V1.out
    · refine CellsIn.mono (base := w.heap.size + 3) ?_ (by omega)
      iterate 4 refine CellsIn.kept ?_ (ThreeB.keptR _ _)
      exact V2.out
    · iterate 4 refine Below.setCell ?_ (by dsimp only; omega) _
      exact U3.out.bel
theorem Tryz.infoMon : (Tryz.prog.info? 45).map (fun i => (i.zero, i.size, i.bytes)) = some (some (.agg #[.string ⟨#[]⟩, .slice none 0 0, .slice none 0 0, .slice none 0 0]), 4, 88) := by kernel_rfl
theorem Tryz.infoPro : (Tryz.prog.info? 51).map (fun i => (i.zero, i.size, i.bytes)) = some (some (.agg #[.string ⟨#[]⟩, .slice none 0 0, .slice none 0 0, .int .i64 0]), 4, 72) := by kernel_rfl
set_option maxRecDepth 100000 in
set_option maxHeartbeats 2000000 in
theorem toMonitorS_any (v : Value) (xs : List Mo) (w : World) (h : MosAt w v xs) (hlen : xs.length ≤ 1048576) (hin : ∀ x ∈ xs, x.vars.length ≤ 1048576 ∧ x.queues.length ≤ 1048576 ∧ x.ents.length ≤ 1048576) :
    Calls Tryz.prog 17 #[v] w fun e w' => ∃ v', e = .returned v' ∧ MosIn w.heap.size w' v' xs ∧ Below w.heap.size w w' := by
  obtain ⟨i0, hi, hz0, hz1, hz2⟩ := info_parts (Tryz.infoMon)
  obtain ⟨wm, hmk, hown, hgr⟩ := run_make_full (P := Tryz.prog) w w.heap.size 31 45 i0 _ 4 Tryz.underlying31 hi hz0 hz1 .i64 .i64 xs.length (by rw [hz2]; omega) (by unfold maxLen; omega) (Nat.le_refl _)
  have HS : Hid (Filled MonC 4 45 w xs 0 wm) := Filled.start MonC xs [.string ⟨#[]⟩, .slice none 0 0, .slice none 0 0, .slice none 0 0] (by decide) hown hgr
  have HC := hide h
  obtain ⟨ao, c, rfl, _⟩ := h
  clear hown hgr hi hz0 hz1 hz2
  obtain ⟨n, en⟩ : ∃ n, xs.length = n := ⟨_, rfl⟩
  have EN := hide en
  rw [en] at hmk hlen HC ⊢
  clear en
  go_enter Tryz.func17, Tryz.ntmps17
  go_wp2
  go_loopw [4] (FillR MonC 4 45 w xs) (fun iv _ => n - (intOf iv).toNat)
  case atStart => exact ⟨0, Nat.zero_le _, rfl, HS.out⟩
  case round =>
    obtain ⟨k, hk, rfl, HF⟩ := hrel
    rw [EN.out] at hk
    by_cases hlt : k < n
    · have hlt' : (k : Int) < (n : Int) := by omega
      have hi0 : (0 : Int) ≤ (k : Int) := by omega
      have hkx : k < xs.length := by rw [EN.out]; exact hlt
      obtain ⟨ao', cc, e5, hc⟩ := HC.out.stays HF.out.below
      injection e5 with e6 e7 e8
      subst e6
      obtain ⟨a, q1, q2, q3, rfl, hab, hcell⟩ := hc k hkx
      obtain ⟨p, hpa⟩ : ∃ p, a.add (k * 4) = p := ⟨_, rfl⟩
      rw [hpa] at hcell
      obtain ⟨d0, d1, d2, d3, g1, g2, g3⟩ := hcell
      have C := hide (toMonitor_any xs[k] q1 q2 q3 wr g1 g2 g3 (hin _ (List.getElem_mem hkx)).1 (hin _ (List.getElem_mem hkx)).2.1 (hin _ (List.getElem_mem hkx)).2.2)
      have HX : Hid (∀ y wz, y.length = 4 → MonC (w.heap.size + 1) wz y xs[k] → Filled MonC 4 45 w xs k wz → Filled MonC 4 45 w xs (k + 1) (wz.setCells w.heap.size (k * 4) y)) := fun y wz hy hR hf => hf.next hkx hy hR
      have HT : Hid (∀ wz, Filled MonC 4 45 w xs k wz → ∀ j, j < 4 → (∃ u, wz.cell? ⟨w.heap.size, k * 4 + j, none⟩ = some u) ∧ wz.frozen? ⟨w.heap.size, k * 4 + j, none⟩ = false) := fun wz hf j hj => hf.there hkx j hj
      obtain ⟨qo1, qc1, rfl, _⟩ := g1
      obtain ⟨qo2, qc2, rfl, _⟩ := g2
      obtain ⟨qo3, qc3, rfl, _⟩ := g3
      obtain ⟨x, ex⟩ : ∃ x, xs[k] = x := ⟨_, rfl⟩
      rw [ex] at d0 d1 d2 d3 C HX
      clear ex e7 e8 hc
      go_wp2_with (go_at_call 35; refine (unhide C).mono ?_; rintro e w1 ⟨o1, n1, c1, o2, n2, c2, o3, n3, c3, rfl, hv2, hb2⟩; have HF1 := hide (HF.out.stays hb2); have HV : Hid (MonC (w.heap.size + 1) w1 [.string x.name, .slice o1 n1 c1, .slice o2 n2 c2, .slice o3 n3 c3] x) := Told.mono hv2 HF.out.lt; obtain ⟨⟨u0, y0⟩, z0⟩ := HT.out _ HF1.out 0 (by decide); obtain ⟨⟨u1, y1⟩, z1⟩ := HT.out _ HF1.out 1 (by decide); obtain ⟨⟨u2, y2⟩, z2⟩ := HT.out _ HF1.out 2 (by decide); obtain ⟨⟨u3, y3⟩, z3⟩ := HT.out _ HF1.out 3 (by decide); rw [Nat.add_zero] at y0 z0; clear hb2 hv2)
      have HR := hide (HX.out _ _ rfl HV.out HF1.out)
      go_roundw
      case rel => exact ⟨k + 1, by rw [EN.out]; omega, by go_num, HR.out⟩
      case measure => simp [intOf]; omega
    · have hlt' : ¬ (k : Int) < (n : Int) := by omega
      go_wp2
      go_ret
      exact ⟨_, rfl, by
        have := HF.out.done (by rw [EN.out]; omega)
        rwa [EN.out] at this, HF.out.below⟩
set_option maxRecDepth 100000 in
set_option maxHeartbeats 2000000 in
theorem toProcessS_any (v : Value) (xs : List Pr) (w : World) (h : PrsAt w v xs) (hlen : xs.length ≤ 1048576) (hin : ∀ x ∈ xs, x.uses.length ≤ 1048576 ∧ x.vars.length ≤ 1048576) :
    Calls Tryz.prog 18 #[v] w fun e w' => ∃ v', e = .returned v' ∧ PrsIn w.heap.size w' v' xs ∧ Below w.heap.size w w' := by
  obtain ⟨i0, hi, hz0, hz1, hz2⟩ := info_parts (Tryz.infoPro)
  obtain ⟨wm, hmk, hown, hgr⟩ := run_make_full (P := Tryz.prog) w w.heap.size 32 51 i0 _ 4 Tryz.underlying32 hi hz0 hz1 .i64 .i64 xs.length (by rw [hz2]; omega) (by unfold maxLen; omega) (Nat.le_refl _)
  have HS : Hid (Filled ProC 4 51 w xs 0 wm) := Filled.start ProC xs [.string ⟨#[]⟩, .slice none 0 0, .slice none 0 0, .int .i64 0] (by decide) hown hgr
  have HC := hide h
  obtain ⟨ao, c, rfl, _⟩ := h
  clear hown hgr hi hz0 hz1 hz2
  obtain ⟨n, en⟩ : ∃ n, xs.length = n := ⟨_, rfl⟩
  have EN := hide en
  rw [en] at hmk hlen HC ⊢
  clear en
  go_enter Tryz.func18, Tryz.ntmps18
  go_wp2
  go_loopw [4] (FillR ProC 4 51 w xs) (fun iv _ => n - (intOf iv).toNat)
  case atStart => exact ⟨0, Nat.zero_le _, rfl, HS.out⟩
  case round =>
    obtain ⟨k, hk, rfl, HF⟩ := hrel
    rw [EN.out] at hk
    by_cases hlt : k < n
    · have hlt' : (k : Int) < (n : Int) := by omega
      have hi0 : (0 : Int) ≤ (k : Int) := by omega
      have hkx : k < xs.length := by rw [EN.out]; exact hlt
      obtain ⟨ao', cc, e5, hc⟩ := HC.out.stays HF.out.below
      injection e5 with e6 e7 e8
      subst e6
      obtain ⟨a, q1, q2, rfl, hab, hcell⟩ := hc k hkx
      obtain ⟨p, hpa⟩ : ∃ p, a.add (k * 4) = p := ⟨_, rfl⟩
      rw [hpa] at hcell
      obtain ⟨d0, d1, d2, d3, g1, g2⟩ := hcell
      have C := hide (toProcess_any xs[k] q1 q2 wr g1 g2 (hin _ (List.getElem_mem hkx)).1 (hin _ (List.getElem_mem hkx)).2)
      have HX : Hid (∀ y wz, y.length = 4 → ProC (w.heap.size + 1) wz y xs[k] → Filled ProC 4 51 w xs k wz → Filled ProC 4 51 w xs (k + 1) (wz.setCells w.heap.size (k * 4) y)) := fun y wz hy hR hf => hf.next hkx hy hR
      have HT : Hid (∀ wz, Filled ProC 4 51 w xs k wz → ∀ j, j < 4 → (∃ u, wz.cell? ⟨w.heap.size, k * 4 + j, none⟩ = some u) ∧ wz.frozen? ⟨w.heap.size, k * 4 + j, none⟩ = false) := fun wz hf j hj => hf.there hkx j hj
      obtain ⟨qo1, qc1, rfl, _⟩ := g1
      obtain ⟨qo2, qc2, rfl, _⟩ := g2
      obtain ⟨x, ex⟩ : ∃ x, xs[k] = x := ⟨_, rfl⟩
      rw [ex] at d0 d1 d2 d3 C HX
      clear ex e7 e8 hc
      go_wp2_with (go_at_call 36; refine (unhide C).mono ?_; rintro e w1 ⟨o1, n1, c1, o2, n2, c2, rfl, hv2, hb2⟩; have HF1 := hide (HF.out.stays hb2); have HV : Hid (ProC (w.heap.size + 1) w1 [.string x.name, .slice o1 n1 c1, .slice o2 n2 c2, .int .i64 x.body] x) := Told.mono hv2 HF.out.lt; obtain ⟨⟨u0, y0⟩, z0⟩ := HT.out _ HF1.out 0 (by decide); obtain ⟨⟨u1, y1⟩, z1⟩ := HT.out _ HF1.out 1 (by decide); obtain ⟨⟨u2, y2⟩, z2⟩ := HT.out _ HF1.out 2 (by decide); obtain ⟨⟨u3, y3⟩, z3⟩ := HT.out _ HF1.out 3 (by decide); rw [Nat.add_zero] at y0 z0; clear hb2 hv2)
      have HR := hide (HX.out _ _ rfl HV.out HF1.out)
      go_roundw
      case rel => exact ⟨k + 1, by rw [EN.out]; omega, by go_num, HR.out⟩
      case measure => simp [intOf]; omega
    · have hlt' : ¬ (k : Int) < (n : Int) := by omega
      go_wp2
      go_ret
      exact ⟨_, rfl, by
        have := HF.out.done (by rw [EN.out]; omega)
        rwa [EN.out] at this, HF.out.below⟩
end Go.Proofs.YtdfahpachbhglaaGreatDoor
