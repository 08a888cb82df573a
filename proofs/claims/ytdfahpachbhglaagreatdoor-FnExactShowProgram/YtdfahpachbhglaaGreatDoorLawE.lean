/-
  Walks: two programs that are the same, held against each other by the laws' own helpers.
-/
import Derived.Test.YtdfahpachbhglaaGreatDoorLawW
import Derived.Deep.RegionHeld3
namespace Go.Proofs.YtdfahpachbhglaaGreatDoor
open Go.RowKit

def SameR (w : World) (n : Nat) (iv : Value) (wr : World) : Prop := ∃ i : Nat, i ≤ n ∧ iv = .int .i64 i ∧ Hid (Below w.heap.size w wr)
/-- The boxes of two things of one type. -/
structure TwoB (w : World) (A B : Array Value) (t : TypeId) (z : World) : Prop where
  bA : Box z w.heap.size A t
  bB : Box z (w.heap.size + 1) B t
  bel : Below w.heap.size w z
theorem TwoB.start (w : World) (A B : Array Value) (t : TypeId) : TwoB w A B t ((w.alloc (.cells A t)).alloc (.cells B t)) :=
  ⟨(Box.made w _ _).stays ((Below.refl _ _).alloc (Nat.le_refl _) _), Box.madeAt (by simp) _ _, by go_grown⟩
theorem TwoB.stays {w : World} {A B : Array Value} {t : TypeId} {z z' : World} (h : TwoB w A B t z) (hb : Below z.heap.size z z') : TwoB w A B t z' :=
  ⟨h.bA.stays hb, h.bB.stays hb, h.bel.trans (hb.mono h.bel.size)⟩

set_option maxHeartbeats 1000000 in
theorem eqIntS_same (v1 v2 : Value) (xs : List Int) (w : World) (h1 : IntsAt w v1 xs) (h2 : IntsAt w v2 xs) (hl : xs.length ≤ 1048576) :
    Calls Tryz.prog 68 #[v1, v2] w fun e w' => e = .returned (.bool true) ∧ Below w.heap.size w w' := by
  have H1 := hide h1
  have H2 := hide h2
  obtain ⟨ao, c, rfl, _⟩ := h1
  obtain ⟨bo, d, rfl, _⟩ := h2
  obtain ⟨n, en⟩ : ∃ n, xs.length = n := ⟨_, rfl⟩
  have EN := hide en
  rw [en] at H1 H2 hl ⊢
  clear en
  go_enter Tryz.func68, Tryz.ntmps68
  go_wp2
  go_loopw [5] (SameR w n) (fun iv _ => n - (intOf iv).toNat)
  case atStart => exact ⟨0, by omega, rfl, Below.refl _ _⟩
  case round =>
    obtain ⟨i, hi, rfl, HB2⟩ := hrel
    by_cases hlt : i < n
    · have hlt' : (i : Int) < (n : Int) := by omega
      have hi0 : (0 : Int) ≤ (i : Int) := by omega
      have hix : i < xs.length := by rw [EN.out]; exact hlt
      obtain ⟨ao', c', e1, hc1⟩ := H1.out.stays HB2.out
      injection e1 with e2 e3 e4
      subst e2
      obtain ⟨bo', d', e1, hc2⟩ := H2.out.stays HB2.out
      injection e1 with e2 e5 e6
      subst e2
      obtain ⟨a, rfl, _, hx⟩ := hc1 i hix
      obtain ⟨b, rfl, _, hy⟩ := hc2 i hix
      obtain ⟨x, ex⟩ : ∃ x, xs[i] = x := ⟨_, rfl⟩
      rw [ex] at hx hy
      clear ex hc1 hc2 e3 e4 e5 e6
      go_wp2
      go_region
      all_goals go_wp2
      go_roundw
      case rel => exact ⟨i + 1, by omega, by go_num, HB2.out.drew⟩
      case measure => simp [intOf]; omega
    · have hlt' : ¬ (i : Int) < (n : Int) := by omega
      go_wp2
      go_ret
      exact ⟨rfl, HB2.out⟩
set_option maxHeartbeats 1000000 in
theorem eqStringS_same (v1 v2 : Value) (xs : List ByteArray) (w : World) (h1 : StrsAt w v1 xs) (h2 : StrsAt w v2 xs) (hl : xs.length ≤ 1048576) :
    Calls Tryz.prog 69 #[v1, v2] w fun e w' => e = .returned (.bool true) ∧ Below w.heap.size w w' := by
  have H1 := hide h1
  have H2 := hide h2
  obtain ⟨ao, c, rfl, _⟩ := h1
  obtain ⟨bo, d, rfl, _⟩ := h2
  obtain ⟨n, en⟩ : ∃ n, xs.length = n := ⟨_, rfl⟩
  have EN := hide en
  rw [en] at H1 H2 hl ⊢
  clear en
  go_enter Tryz.func69, Tryz.ntmps69
  go_wp2
  go_loopw [5] (SameR w n) (fun iv _ => n - (intOf iv).toNat)
  case atStart => exact ⟨0, by omega, rfl, Below.refl _ _⟩
  case round =>
    obtain ⟨i, hi, rfl, HB2⟩ := hrel
    by_cases hlt : i < n
    · have hlt' : (i : Int) < (n : Int) := by omega
      have hi0 : (0 : Int) ≤ (i : Int) := by omega
      have hix : i < xs.length := by rw [EN.out]; exact hlt
      obtain ⟨ao', c', e1, hc1⟩ := H1.out.stays HB2.out
      injection e1 with e2 e3 e4
      subst e2
      obtain ⟨bo', d', e1, hc2⟩ := H2.out.stays HB2.out
      injection e1 with e2 e5 e6
      subst e2
      obtain ⟨a, rfl, _, hx⟩ := hc1 i hix
      obtain ⟨b, rfl, _, hy⟩ := hc2 i hix
      obtain ⟨x, ex⟩ : ∃ x, xs[i] = x := ⟨_, rfl⟩
      rw [ex] at hx hy
      clear ex hc1 hc2 e3 e4 e5 e6
      go_wp2
      go_region
      all_goals go_wp2
      go_roundw
      case rel => exact ⟨i + 1, by omega, by go_num, HB2.out.drew⟩
      case measure => simp [intOf]; omega
    · have hlt' : ¬ (i : Int) < (n : Int) := by omega
      go_wp2
      go_ret
      exact ⟨rfl, HB2.out⟩
set_option maxRecDepth 100000 in
set_option maxHeartbeats 1000000 in
theorem eqNode_same (x : Nd) (p5 q5 : Value) (w : World) (h5 : IntsAt w p5 x.kids) (k5 : IntsAt w q5 x.kids) (l5 : x.kids.length ≤ 1048576) :
    Calls Tryz.prog 45 #[.agg #[.int .i64 x.kind, .int .i64 x.num, .string x.name, .string x.more, .string x.into, p5], .agg #[.int .i64 x.kind, .int .i64 x.num, .string x.name, .string x.more, .string x.into, q5]] w fun e w' => e = .returned (.bool true) ∧ Below w.heap.size w w' := by
  have C5 := fun w h k => hide (eqIntS_same p5 q5 x.kids w h k l5)
  have H5 := hide h5
  have K5 := hide k5
  have T := hide (TwoB.start w #[.int .i64 x.kind, .int .i64 x.num, .string x.name, .string x.more, .string x.into, p5] #[.int .i64 x.kind, .int .i64 x.num, .string x.name, .string x.more, .string x.into, q5] 78)
  obtain ⟨ao5, ac5, rfl, _⟩ := h5
  obtain ⟨bo5, bc5, rfl, _⟩ := k5
  go_enter Tryz.func45, Tryz.ntmps45
  go_wp2_with fail
  refine (unhide (C5 _ (H5.out.stays T.out.bel) (K5.out.stays T.out.bel))).mono ?_
  rintro e z5 ⟨rfl, hb5⟩
  have T5 := hide (T.out.stays hb5)
  have r0 := Lib.cell_of_heap T5.out.bA 0
  have s0 := Lib.cell_of_heap T5.out.bB 0
  have r1 := Lib.cell_of_heap T5.out.bA 1
  have s1 := Lib.cell_of_heap T5.out.bB 1
  have r2 := Lib.cell_of_heap T5.out.bA 2
  have s2 := Lib.cell_of_heap T5.out.bB 2
  have r3 := Lib.cell_of_heap T5.out.bA 3
  have s3 := Lib.cell_of_heap T5.out.bB 3
  have r4 := Lib.cell_of_heap T5.out.bA 4
  have s4 := Lib.cell_of_heap T5.out.bB 4
  have r5 := Lib.cell_of_heap T5.out.bA 5
  have s5 := Lib.cell_of_heap T5.out.bB 5
  simp at r0 s0 r1 s1 r2 s2 r3 s3 r4 s4 r5 s5
  clear hb5
  go_wp2
  go_ret
  exact ⟨rfl, T5.out.bel⟩
set_option maxRecDepth 100000 in
set_option maxHeartbeats 2000000 in
theorem eqNodeS_same (v1 v2 : Value) (xs : List Nd) (w : World) (h1 : NdsAt w v1 xs) (h2 : NdsAt w v2 xs) (hl : xs.length ≤ 1048576) (hin : ∀ x ∈ xs, x.kids.length ≤ 1048576) :
    Calls Tryz.prog 22 #[v1, v2] w fun e w' => e = .returned (.bool true) ∧ Below w.heap.size w w' := by
  have H1 := hide h1
  have H2 := hide h2
  obtain ⟨ao, c, rfl, _⟩ := h1
  obtain ⟨bo, d, rfl, _⟩ := h2
  obtain ⟨n, en⟩ : ∃ n, xs.length = n := ⟨_, rfl⟩
  have EN := hide en
  rw [en] at H1 H2 hl ⊢
  clear en
  go_enter Tryz.func22, Tryz.ntmps22
  go_wp2
  go_loopw [5] (SameR w n) (fun iv _ => n - (intOf iv).toNat)
  case atStart => exact ⟨0, by omega, rfl, Below.refl _ _⟩
  case round =>
    obtain ⟨i, hi, rfl, HB2⟩ := hrel
    by_cases hlt : i < n
    · have hlt' : (i : Int) < (n : Int) := by omega
      have hi0 : (0 : Int) ≤ (i : Int) := by omega
      have hix : i < xs.length := by rw [EN.out]; exact hlt
      obtain ⟨ao', c', e1, hc1⟩ := H1.out.stays HB2.out
      injection e1 with e2 e3 e4
      subst e2
      obtain ⟨bo', d', e1, hc2⟩ := H2.out.stays HB2.out
      injection e1 with e2 e5 e6
      subst e2
      obtain ⟨a, p5, rfl, hpb, hx⟩ := hc1 i hix
      obtain ⟨b, q5, rfl, hqb, hy⟩ := hc2 i hix
      obtain ⟨p, hpa⟩ : ∃ p, a.add (i * 6) = p := ⟨_, rfl⟩
      obtain ⟨q, hqa⟩ : ∃ q, b.add (i * 6) = q := ⟨_, rfl⟩
      rw [← block_add a (i * 6), hpa] at hpb
      rw [← block_add b (i * 6), hqa] at hqb
      rw [hpa] at hx
      rw [hqa] at hy
      obtain ⟨c0, c1, c2, c3, c4, c5, g5⟩ := hx
      obtain ⟨d0, d1, d2, d3, d4, d5, k5⟩ := hy
      have C := hide (eqNode_same xs[i] p5 q5 wr.drew (g5.stays (Below.refl _ _).drew) (k5.stays (Below.refl _ _).drew) (hin _ (List.getElem_mem hix)))
      obtain ⟨ro5, rc5, rfl, _⟩ := g5
      obtain ⟨so5, sc5, rfl, _⟩ := k5
      obtain ⟨x, ex⟩ : ∃ x, xs[i] = x := ⟨_, rfl⟩
      rw [ex] at C c0 d0 c1 d1 c2 d2 c3 d3 c4 d4 c5 d5
      clear ex hc1 hc2 e3 e4 e5 e6
      go_wp2
      go_region_held3 (fun w' => w'.cell? p = some (.int .i64 x.kind) ∧ w'.cell? { block := p.block, off := p.off + 1 } = some (.int .i64 x.num) ∧ w'.cell? { block := p.block, off := p.off + 2 } = some (.string x.name) ∧ w'.cell? { block := p.block, off := p.off + 3 } = some (.string x.more) ∧ w'.cell? { block := p.block, off := p.off + 4 } = some (.string x.into) ∧ w'.cell? { block := p.block, off := p.off + 5 } = some (.slice ro5 x.kids.length rc5) ∧ w'.cell? q = some (.int .i64 x.kind) ∧ w'.cell? { block := q.block, off := q.off + 1 } = some (.int .i64 x.num) ∧ w'.cell? { block := q.block, off := q.off + 2 } = some (.string x.name) ∧ w'.cell? { block := q.block, off := q.off + 3 } = some (.string x.more) ∧ w'.cell? { block := q.block, off := q.off + 4 } = some (.string x.into) ∧ w'.cell? { block := q.block, off := q.off + 5 } = some (.slice so5 x.kids.length sc5)) (first | go_keep | exact ⟨(hb1.cell (p := p) hpb).trans c0, (hb1.cell (p := { block := p.block, off := p.off + 1 }) hpb).trans c1, (hb1.cell (p := { block := p.block, off := p.off + 2 }) hpb).trans c2, (hb1.cell (p := { block := p.block, off := p.off + 3 }) hpb).trans c3, (hb1.cell (p := { block := p.block, off := p.off + 4 }) hpb).trans c4, (hb1.cell (p := { block := p.block, off := p.off + 5 }) hpb).trans c5, (hb1.cell (p := q) hqb).trans d0, (hb1.cell (p := { block := q.block, off := q.off + 1 }) hqb).trans d1, (hb1.cell (p := { block := q.block, off := q.off + 2 }) hqb).trans d2, (hb1.cell (p := { block := q.block, off := q.off + 3 }) hqb).trans d3, (hb1.cell (p := { block := q.block, off := q.off + 4 }) hqb).trans d4, (hb1.cell (p := { block := q.block, off := q.off + 5 }) hqb).trans d5⟩) ((go_at_call 45; refine (unhide C).mono ?_; rintro e w1 ⟨rfl, hb1⟩))
      all_goals go_wp2
      go_roundw
      case rel => exact ⟨i + 1, by omega, by go_num, HB2.out.drew.trans (hb1.mono HB2.out.drew.size)⟩
      case measure => simp [intOf]; omega
    · have hlt' : ¬ (i : Int) < (n : Int) := by omega
      go_wp2
      go_ret
      exact ⟨rfl, HB2.out⟩
set_option maxRecDepth 100000 in
set_option maxHeartbeats 1000000 in
theorem eqEntry_same (x : En) (w : World) :
    Calls Tryz.prog 91 #[.agg #[.string x.name, .string x.param, .int .i64 x.body], .agg #[.string x.name, .string x.param, .int .i64 x.body]] w fun e w' => e = .returned (.bool true) ∧ Below w.heap.size w w' := by
  go_enter Tryz.func91, Tryz.ntmps91
  go_wp2
  go_ret
  exact ⟨rfl, by go_grown⟩
set_option maxRecDepth 100000 in
set_option maxHeartbeats 2000000 in
theorem eqEntryS_same (v1 v2 : Value) (xs : List En) (w : World) (h1 : EnsAt w v1 xs) (h2 : EnsAt w v2 xs) (hl : xs.length ≤ 1048576) :
    Calls Tryz.prog 70 #[v1, v2] w fun e w' => e = .returned (.bool true) ∧ Below w.heap.size w w' := by
  have H1 := hide h1
  have H2 := hide h2
  obtain ⟨ao, c, rfl, _⟩ := h1
  obtain ⟨bo, d, rfl, _⟩ := h2
  obtain ⟨n, en⟩ : ∃ n, xs.length = n := ⟨_, rfl⟩
  have EN := hide en
  rw [en] at H1 H2 hl ⊢
  clear en
  go_enter Tryz.func70, Tryz.ntmps70
  go_wp2
  go_loopw [5] (SameR w n) (fun iv _ => n - (intOf iv).toNat)
  case atStart => exact ⟨0, by omega, rfl, Below.refl _ _⟩
  case round =>
    obtain ⟨i, hi, rfl, HB2⟩ := hrel
    by_cases hlt : i < n
    · have hlt' : (i : Int) < (n : Int) := by omega
      have hi0 : (0 : Int) ≤ (i : Int) := by omega
      have hix : i < xs.length := by rw [EN.out]; exact hlt
      obtain ⟨ao', c', e1, hc1⟩ := H1.out.stays HB2.out
      injection e1 with e2 e3 e4
      subst e2
      obtain ⟨bo', d', e1, hc2⟩ := H2.out.stays HB2.out
      injection e1 with e2 e5 e6
      subst e2
      obtain ⟨a, rfl, hpb, hx⟩ := hc1 i hix
      obtain ⟨b, rfl, hqb, hy⟩ := hc2 i hix
      obtain ⟨p, hpa⟩ : ∃ p, a.add (i * 3) = p := ⟨_, rfl⟩
      obtain ⟨q, hqa⟩ : ∃ q, b.add (i * 3) = q := ⟨_, rfl⟩
      rw [← block_add a (i * 3), hpa] at hpb
      rw [← block_add b (i * 3), hqa] at hqb
      rw [hpa] at hx
      rw [hqa] at hy
      obtain ⟨c0, c1, c2⟩ := hx
      obtain ⟨d0, d1, d2⟩ := hy
      have C := hide (eqEntry_same xs[i] wr.drew)
      obtain ⟨x, ex⟩ : ∃ x, xs[i] = x := ⟨_, rfl⟩
      rw [ex] at C c0 d0 c1 d1 c2 d2
      clear ex hc1 hc2 e3 e4 e5 e6
      go_wp2
      go_region_held3 (fun w' => w'.cell? p = some (.string x.name) ∧ w'.cell? { block := p.block, off := p.off + 1 } = some (.string x.param) ∧ w'.cell? { block := p.block, off := p.off + 2 } = some (.int .i64 x.body) ∧ w'.cell? q = some (.string x.name) ∧ w'.cell? { block := q.block, off := q.off + 1 } = some (.string x.param) ∧ w'.cell? { block := q.block, off := q.off + 2 } = some (.int .i64 x.body)) (first | go_keep | exact ⟨(hb1.cell (p := p) hpb).trans c0, (hb1.cell (p := { block := p.block, off := p.off + 1 }) hpb).trans c1, (hb1.cell (p := { block := p.block, off := p.off + 2 }) hpb).trans c2, (hb1.cell (p := q) hqb).trans d0, (hb1.cell (p := { block := q.block, off := q.off + 1 }) hqb).trans d1, (hb1.cell (p := { block := q.block, off := q.off + 2 }) hqb).trans d2⟩) ((go_at_call 91; refine (unhide C).mono ?_; rintro e w1 ⟨rfl, hb1⟩))
      all_goals go_wp2
      go_roundw
      case rel => exact ⟨i + 1, by omega, by go_num, HB2.out.drew.trans (hb1.mono HB2.out.drew.size)⟩
      case measure => simp [intOf]; omega
    · have hlt' : ¬ (i : Int) < (n : Int) := by omega
      go_wp2
      go_ret
      exact ⟨rfl, HB2.out⟩
set_option maxRecDepth 100000 in
set_option maxHeartbeats 1000000 in
theorem eqMonitor_same (x : Mo) (p1 q1 p2 q2 p3 q3 : Value) (w : World) (h1 : StrsAt w p1 x.vars) (k1 : StrsAt w q1 x.vars) (h2 : StrsAt w p2 x.queues) (k2 : StrsAt w q2 x.queues) (h3 : EnsAt w p3 x.ents) (k3 : EnsAt w q3 x.ents) (l1 : x.vars.length ≤ 1048576) (l2 : x.queues.length ≤ 1048576) (l3 : x.ents.length ≤ 1048576) :
    Calls Tryz.prog 46 #[.agg #[.string x.name, p1, p2, p3], .agg #[.string x.name, q1, q2, q3]] w fun e w' => e = .returned (.bool true) ∧ Below w.heap.size w w' := by
  have C1 := fun w h k => hide (eqStringS_same p1 q1 x.vars w h k l1)
  have H1 := hide h1
  have K1 := hide k1
  have C2 := fun w h k => hide (eqStringS_same p2 q2 x.queues w h k l2)
  have H2 := hide h2
  have K2 := hide k2
  have C3 := fun w h k => hide (eqEntryS_same p3 q3 x.ents w h k l3)
  have H3 := hide h3
  have K3 := hide k3
  have T := hide (TwoB.start w #[.string x.name, p1, p2, p3] #[.string x.name, q1, q2, q3] 45)
  obtain ⟨ao1, ac1, rfl, _⟩ := h1
  obtain ⟨bo1, bc1, rfl, _⟩ := k1
  obtain ⟨ao2, ac2, rfl, _⟩ := h2
  obtain ⟨bo2, bc2, rfl, _⟩ := k2
  obtain ⟨ao3, ac3, rfl, _⟩ := h3
  obtain ⟨bo3, bc3, rfl, _⟩ := k3
  go_enter Tryz.func46, Tryz.ntmps46
  go_wp2_with fail
  refine (unhide (C1 _ (H1.out.stays T.out.bel) (K1.out.stays T.out.bel))).mono ?_
  rintro e z1 ⟨rfl, hb1⟩
  have T1 := hide (T.out.stays hb1)
  have r0 := Lib.cell_of_heap T1.out.bA 0
  have s0 := Lib.cell_of_heap T1.out.bB 0
  have r1 := Lib.cell_of_heap T1.out.bA 1
  have s1 := Lib.cell_of_heap T1.out.bB 1
  have r2 := Lib.cell_of_heap T1.out.bA 2
  have s2 := Lib.cell_of_heap T1.out.bB 2
  have r3 := Lib.cell_of_heap T1.out.bA 3
  have s3 := Lib.cell_of_heap T1.out.bB 3
  simp at r0 s0 r1 s1 r2 s2 r3 s3
  clear hb1
  go_wp2_with fail
  clear r0 s0 r1 s1 r2 s2 r3 s3
  refine (unhide (C2 _ (H2.out.stays T1.out.bel) (K2.out.stays T1.out.bel))).mono ?_
  rintro e z2 ⟨rfl, hb2⟩
  have T2 := hide (T1.out.stays hb2)
  have r0 := Lib.cell_of_heap T2.out.bA 0
  have s0 := Lib.cell_of_heap T2.out.bB 0
  have r1 := Lib.cell_of_heap T2.out.bA 1
  have s1 := Lib.cell_of_heap T2.out.bB 1
  have r2 := Lib.cell_of_heap T2.out.bA 2
  have s2 := Lib.cell_of_heap T2.out.bB 2
  have r3 := Lib.cell_of_heap T2.out.bA 3
  have s3 := Lib.cell_of_heap T2.out.bB 3
  simp at r0 s0 r1 s1 r2 s2 r3 s3
  clear hb2
  go_wp2_with fail
  clear r0 s0 r1 s1 r2 s2 r3 s3
  refine (unhide (C3 _ (H3.out.stays T2.out.bel) (K3.out.stays T2.out.bel))).mono ?_
  rintro e z3 ⟨rfl, hb3⟩
  have T3 := hide (T2.out.stays hb3)
  have r0 := Lib.cell_of_heap T3.out.bA 0
  have s0 := Lib.cell_of_heap T3.out.bB 0
  have r1 := Lib.cell_of_heap T3.out.bA 1
  have s1 := Lib.cell_of_heap T3.out.bB 1
  have r2 := Lib.cell_of_heap T3.out.bA 2
  have s2 := Lib.cell_of_heap T3.out.bB 2
  have r3 := Lib.cell_of_heap T3.out.bA 3
  have s3 := Lib.cell_of_heap T3.out.bB 3
  simp at r0 s0 r1 s1 r2 s2 r3 s3
  clear hb3
  go_wp2
  go_ret
  exact ⟨rfl, T3.out.bel⟩
set_option maxRecDepth 100000 in
set_option maxHeartbeats 2000000 in
theorem eqMonitorS_same (v1 v2 : Value) (xs : List Mo) (w : World) (h1 : MosAt w v1 xs) (h2 : MosAt w v2 xs) (hl : xs.length ≤ 1048576) (hin : ∀ x ∈ xs, x.vars.length ≤ 1048576 ∧ x.queues.length ≤ 1048576 ∧ x.ents.length ≤ 1048576) :
    Calls Tryz.prog 23 #[v1, v2] w fun e w' => e = .returned (.bool true) ∧ Below w.heap.size w w' := by
  have H1 := hide h1
  have H2 := hide h2
  obtain ⟨ao, c, rfl, _⟩ := h1
  obtain ⟨bo, d, rfl, _⟩ := h2
  obtain ⟨n, en⟩ : ∃ n, xs.length = n := ⟨_, rfl⟩
  have EN := hide en
  rw [en] at H1 H2 hl ⊢
  clear en
  go_enter Tryz.func23, Tryz.ntmps23
  go_wp2
  go_loopw [5] (SameR w n) (fun iv _ => n - (intOf iv).toNat)
  case atStart => exact ⟨0, by omega, rfl, Below.refl _ _⟩
  case round =>
    obtain ⟨i, hi, rfl, HB2⟩ := hrel
    by_cases hlt : i < n
    · have hlt' : (i : Int) < (n : Int) := by omega
      have hi0 : (0 : Int) ≤ (i : Int) := by omega
      have hix : i < xs.length := by rw [EN.out]; exact hlt
      obtain ⟨ao', c', e1, hc1⟩ := H1.out.stays HB2.out
      injection e1 with e2 e3 e4
      subst e2
      obtain ⟨bo', d', e1, hc2⟩ := H2.out.stays HB2.out
      injection e1 with e2 e5 e6
      subst e2
      obtain ⟨a, p1, p2, p3, rfl, hpb, hx⟩ := hc1 i hix
      obtain ⟨b, q1, q2, q3, rfl, hqb, hy⟩ := hc2 i hix
      obtain ⟨p, hpa⟩ : ∃ p, a.add (i * 4) = p := ⟨_, rfl⟩
      obtain ⟨q, hqa⟩ : ∃ q, b.add (i * 4) = q := ⟨_, rfl⟩
      rw [← block_add a (i * 4), hpa] at hpb
      rw [← block_add b (i * 4), hqa] at hqb
      rw [hpa] at hx
      rw [hqa] at hy
      obtain ⟨c0, c1, c2, c3, g1, g2, g3⟩ := hx
      obtain ⟨d0, d1, d2, d3, k1, k2, k3⟩ := hy
      have C := hide (eqMonitor_same xs[i] p1 q1 p2 q2 p3 q3 wr.drew (g1.stays (Below.refl _ _).drew) (k1.stays (Below.refl _ _).drew) (g2.stays (Below.refl _ _).drew) (k2.stays (Below.refl _ _).drew) (g3.stays (Below.refl _ _).drew) (k3.stays (Below.refl _ _).drew) (hin _ (List.getElem_mem hix)).1 (hin _ (List.getElem_mem hix)).2.1 (hin _ (List.getElem_mem hix)).2.2)
      obtain ⟨ro1, rc1, rfl, _⟩ := g1
      obtain ⟨so1, sc1, rfl, _⟩ := k1
      obtain ⟨ro2, rc2, rfl, _⟩ := g2
      obtain ⟨so2, sc2, rfl, _⟩ := k2
      obtain ⟨ro3, rc3, rfl, _⟩ := g3
      obtain ⟨so3, sc3, rfl, _⟩ := k3
      obtain ⟨x, ex⟩ : ∃ x, xs[i] = x := ⟨_, rfl⟩
      rw [ex] at C c0 d0 c1 d1 c2 d2 c3 d3
      clear ex hc1 hc2 e3 e4 e5 e6
      go_wp2
      go_region_held3 (fun w' => w'.cell? p = some (.string x.name) ∧ w'.cell? { block := p.block, off := p.off + 1 } = some (.slice ro1 x.vars.length rc1) ∧ w'.cell? { block := p.block, off := p.off + 2 } = some (.slice ro2 x.queues.length rc2) ∧ w'.cell? { block := p.block, off := p.off + 3 } = some (.slice ro3 x.ents.length rc3) ∧ w'.cell? q = some (.string x.name) ∧ w'.cell? { block := q.block, off := q.off + 1 } = some (.slice so1 x.vars.length sc1) ∧ w'.cell? { block := q.block, off := q.off + 2 } = some (.slice so2 x.queues.length sc2) ∧ w'.cell? { block := q.block, off := q.off + 3 } = some (.slice so3 x.ents.length sc3)) (first | go_keep | exact ⟨(hb1.cell (p := p) hpb).trans c0, (hb1.cell (p := { block := p.block, off := p.off + 1 }) hpb).trans c1, (hb1.cell (p := { block := p.block, off := p.off + 2 }) hpb).trans c2, (hb1.cell (p := { block := p.block, off := p.off + 3 }) hpb).trans c3, (hb1.cell (p := q) hqb).trans d0, (hb1.cell (p := { block := q.block, off := q.off + 1 }) hqb).trans d1, (hb1.cell (p := { block := q.block, off := q.off + 2 }) hqb).trans d2, (hb1.cell (p := { block := q.block, off := q.off + 3 }) hqb).trans d3⟩) ((go_at_call 46; refine (unhide C).mono ?_; rintro e w1 ⟨rfl, hb1⟩))
      all_goals go_wp2
      go_roundw
      case rel => exact ⟨i + 1, by omega, by go_num, HB2.out.drew.trans (hb1.mono HB2.out.drew.size)⟩
      case measure => simp [intOf]; omega
    · have hlt' : ¬ (i : Int) < (n : Int) := by omega
      go_wp2
      go_ret
      exact ⟨rfl, HB2.out⟩
set_option maxRecDepth 100000 in
set_option maxHeartbeats 1000000 in
theorem eqProcess_same (x : Pr) (p1 q1 p2 q2 : Value) (w : World) (h1 : StrsAt w p1 x.uses) (k1 : StrsAt w q1 x.uses) (h2 : StrsAt w p2 x.vars) (k2 : StrsAt w q2 x.vars) (l1 : x.uses.length ≤ 1048576) (l2 : x.vars.length ≤ 1048576) :
    Calls Tryz.prog 47 #[.agg #[.string x.name, p1, p2, .int .i64 x.body], .agg #[.string x.name, q1, q2, .int .i64 x.body]] w fun e w' => e = .returned (.bool true) ∧ Below w.heap.size w w' := by
  have C1 := fun w h k => hide (eqStringS_same p1 q1 x.uses w h k l1)
  have H1 := hide h1
  have K1 := hide k1
  have C2 := fun w h k => hide (eqStringS_same p2 q2 x.vars w h k l2)
  have H2 := hide h2
  have K2 := hide k2
  have T := hide (TwoB.start w #[.string x.name, p1, p2, .int .i64 x.body] #[.string x.name, q1, q2, .int .i64 x.body] 51)
  obtain ⟨ao1, ac1, rfl, _⟩ := h1
  obtain ⟨bo1, bc1, rfl, _⟩ := k1
  obtain ⟨ao2, ac2, rfl, _⟩ := h2
  obtain ⟨bo2, bc2, rfl, _⟩ := k2
  go_enter Tryz.func47, Tryz.ntmps47
  go_wp2_with fail
  refine (unhide (C1 _ (H1.out.stays T.out.bel) (K1.out.stays T.out.bel))).mono ?_
  rintro e z1 ⟨rfl, hb1⟩
  have T1 := hide (T.out.stays hb1)
  have r0 := Lib.cell_of_heap T1.out.bA 0
  have s0 := Lib.cell_of_heap T1.out.bB 0
  have r1 := Lib.cell_of_heap T1.out.bA 1
  have s1 := Lib.cell_of_heap T1.out.bB 1
  have r2 := Lib.cell_of_heap T1.out.bA 2
  have s2 := Lib.cell_of_heap T1.out.bB 2
  have r3 := Lib.cell_of_heap T1.out.bA 3
  have s3 := Lib.cell_of_heap T1.out.bB 3
  simp at r0 s0 r1 s1 r2 s2 r3 s3
  clear hb1
  go_wp2_with fail
  clear r0 s0 r1 s1 r2 s2 r3 s3
  refine (unhide (C2 _ (H2.out.stays T1.out.bel) (K2.out.stays T1.out.bel))).mono ?_
  rintro e z2 ⟨rfl, hb2⟩
  have T2 := hide (T1.out.stays hb2)
  have r0 := Lib.cell_of_heap T2.out.bA 0
  have s0 := Lib.cell_of_heap T2.out.bB 0
  have r1 := Lib.cell_of_heap T2.out.bA 1
  have s1 := Lib.cell_of_heap T2.out.bB 1
  have r2 := Lib.cell_of_heap T2.out.bA 2
  have s2 := Lib.cell_of_heap T2.out.bB 2
  have r3 := Lib.cell_of_heap T2.out.bA 3
  have s3 := Lib.cell_of_heap T2.out.bB 3
  simp at r0 s0 r1 s1 r2 s2 r3 s3
  clear hb2
  go_wp2
  go_ret
  exact ⟨rfl, T2.out.bel⟩
set_option maxRecDepth 100000 in
set_option maxHeartbeats 2000000 in
theorem eqProcessS_same (v1 v2 : Value) (xs : List Pr) (w : World) (h1 : PrsAt w v1 xs) (h2 : PrsAt w v2 xs) (hl : xs.length ≤ 1048576) (hin : ∀ x ∈ xs, x.uses.length ≤ 1048576 ∧ x.vars.length ≤ 1048576) :
    Calls Tryz.prog 24 #[v1, v2] w fun e w' => e = .returned (.bool true) ∧ Below w.heap.size w w' := by
  have H1 := hide h1
  have H2 := hide h2
  obtain ⟨ao, c, rfl, _⟩ := h1
  obtain ⟨bo, d, rfl, _⟩ := h2
  obtain ⟨n, en⟩ : ∃ n, xs.length = n := ⟨_, rfl⟩
  have EN := hide en
  rw [en] at H1 H2 hl ⊢
  clear en
  go_enter Tryz.func24, Tryz.ntmps24
  go_wp2
  go_loopw [5] (SameR w n) (fun iv _ => n - (intOf iv).toNat)
  case atStart => exact ⟨0, by omega, rfl, Below.refl _ _⟩
  case round =>
    obtain ⟨i, hi, rfl, HB2⟩ := hrel
    by_cases hlt : i < n
    · have hlt' : (i : Int) < (n : Int) := by omega
      have hi0 : (0 : Int) ≤ (i : Int) := by omega
      have hix : i < xs.length := by rw [EN.out]; exact hlt
      obtain ⟨ao', c', e1, hc1⟩ := H1.out.stays HB2.out
      injection e1 with e2 e3 e4
      subst e2
      obtain ⟨bo', d', e1, hc2⟩ := H2.out.stays HB2.out
      injection e1 with e2 e5 e6
      subst e2
      obtain ⟨a, p1, p2, rfl, hpb, hx⟩ := hc1 i hix
      obtain ⟨b, q1, q2, rfl, hqb, hy⟩ := hc2 i hix
      obtain ⟨p, hpa⟩ : ∃ p, a.add (i * 4) = p := ⟨_, rfl⟩
      obtain ⟨q, hqa⟩ : ∃ q, b.add (i * 4) = q := ⟨_, rfl⟩
      rw [← block_add a (i * 4), hpa] at hpb
      rw [← block_add b (i * 4), hqa] at hqb
      rw [hpa] at hx
      rw [hqa] at hy
      obtain ⟨c0, c1, c2, c3, g1, g2⟩ := hx
      obtain ⟨d0, d1, d2, d3, k1, k2⟩ := hy
      have C := hide (eqProcess_same xs[i] p1 q1 p2 q2 wr.drew (g1.stays (Below.refl _ _).drew) (k1.stays (Below.refl _ _).drew) (g2.stays (Below.refl _ _).drew) (k2.stays (Below.refl _ _).drew) (hin _ (List.getElem_mem hix)).1 (hin _ (List.getElem_mem hix)).2)
      obtain ⟨ro1, rc1, rfl, _⟩ := g1
      obtain ⟨so1, sc1, rfl, _⟩ := k1
      obtain ⟨ro2, rc2, rfl, _⟩ := g2
      obtain ⟨so2, sc2, rfl, _⟩ := k2
      obtain ⟨x, ex⟩ : ∃ x, xs[i] = x := ⟨_, rfl⟩
      rw [ex] at C c0 d0 c1 d1 c2 d2 c3 d3
      clear ex hc1 hc2 e3 e4 e5 e6
      go_wp2
      go_region_held3 (fun w' => w'.cell? p = some (.string x.name) ∧ w'.cell? { block := p.block, off := p.off + 1 } = some (.slice ro1 x.uses.length rc1) ∧ w'.cell? { block := p.block, off := p.off + 2 } = some (.slice ro2 x.vars.length rc2) ∧ w'.cell? { block := p.block, off := p.off + 3 } = some (.int .i64 x.body) ∧ w'.cell? q = some (.string x.name) ∧ w'.cell? { block := q.block, off := q.off + 1 } = some (.slice so1 x.uses.length sc1) ∧ w'.cell? { block := q.block, off := q.off + 2 } = some (.slice so2 x.vars.length sc2) ∧ w'.cell? { block := q.block, off := q.off + 3 } = some (.int .i64 x.body)) (first | go_keep | exact ⟨(hb1.cell (p := p) hpb).trans c0, (hb1.cell (p := { block := p.block, off := p.off + 1 }) hpb).trans c1, (hb1.cell (p := { block := p.block, off := p.off + 2 }) hpb).trans c2, (hb1.cell (p := { block := p.block, off := p.off + 3 }) hpb).trans c3, (hb1.cell (p := q) hqb).trans d0, (hb1.cell (p := { block := q.block, off := q.off + 1 }) hqb).trans d1, (hb1.cell (p := { block := q.block, off := q.off + 2 }) hqb).trans d2, (hb1.cell (p := { block := q.block, off := q.off + 3 }) hqb).trans d3⟩) ((go_at_call 47; refine (unhide C).mono ?_; rintro e w1 ⟨rfl, hb1⟩))
      all_goals go_wp2
      go_roundw
      case rel => exact ⟨i + 1, by omega, by go_num, HB2.out.drew.trans (hb1.mono HB2.out.drew.size)⟩
      case measure => simp [intOf]; omega
    · have hlt' : ¬ (i : Int) < (n : Int) := by omega
      go_wp2
      go_ret
      exact ⟨rfl, HB2.out⟩
set_option maxRecDepth 100000 in
set_option maxHeartbeats 1000000 in
theorem eqProgram_same (x : Pg) (p0 q0 p1 q1 p2 q2 : Value) (w : World) (h0 : NdsAt w p0 x.nodes) (k0 : NdsAt w q0 x.nodes) (h1 : MosAt w p1 x.mons) (k1 : MosAt w q1 x.mons) (h2 : PrsAt w p2 x.pros) (k2 : PrsAt w q2 x.pros) (hL : PgLen x) :
    Calls Tryz.prog 8 #[.agg #[p0, p1, p2], .agg #[q0, q1, q2]] w fun e w' => e = .returned (.bool true) ∧ Below w.heap.size w w' := by
  have C0 := fun w h k => hide (eqNodeS_same p0 q0 x.nodes w h k hL.nl hL.kids)
  have H0 := hide h0
  have K0 := hide k0
  have C1 := fun w h k => hide (eqMonitorS_same p1 q1 x.mons w h k hL.ml hL.mon)
  have H1 := hide h1
  have K1 := hide k1
  have C2 := fun w h k => hide (eqProcessS_same p2 q2 x.pros w h k hL.pl hL.pro)
  have H2 := hide h2
  have K2 := hide k2
  have T := hide (TwoB.start w #[p0, p1, p2] #[q0, q1, q2] 34)
  obtain ⟨ao0, ac0, rfl, _⟩ := h0
  obtain ⟨bo0, bc0, rfl, _⟩ := k0
  obtain ⟨ao1, ac1, rfl, _⟩ := h1
  obtain ⟨bo1, bc1, rfl, _⟩ := k1
  obtain ⟨ao2, ac2, rfl, _⟩ := h2
  obtain ⟨bo2, bc2, rfl, _⟩ := k2
  go_enter Tryz.func8, Tryz.ntmps8
  go_wp2_with fail
  refine (unhide (C0 _ (H0.out.stays T.out.bel) (K0.out.stays T.out.bel))).mono ?_
  rintro e z0 ⟨rfl, hb0⟩
  have T0 := hide (T.out.stays hb0)
  have r0 := Lib.cell_of_heap T0.out.bA 0
  have s0 := Lib.cell_of_heap T0.out.bB 0
  have r1 := Lib.cell_of_heap T0.out.bA 1
  have s1 := Lib.cell_of_heap T0.out.bB 1
  have r2 := Lib.cell_of_heap T0.out.bA 2
  have s2 := Lib.cell_of_heap T0.out.bB 2
  simp at r0 s0 r1 s1 r2 s2
  clear hb0
  go_wp2_with fail
  clear r0 s0 r1 s1 r2 s2
  refine (unhide (C1 _ (H1.out.stays T0.out.bel) (K1.out.stays T0.out.bel))).mono ?_
  rintro e z1 ⟨rfl, hb1⟩
  have T1 := hide (T0.out.stays hb1)
  have r0 := Lib.cell_of_heap T1.out.bA 0
  have s0 := Lib.cell_of_heap T1.out.bB 0
  have r1 := Lib.cell_of_heap T1.out.bA 1
  have s1 := Lib.cell_of_heap T1.out.bB 1
  have r2 := Lib.cell_of_heap T1.out.bA 2
  have s2 := Lib.cell_of_heap T1.out.bB 2
  simp at r0 s0 r1 s1 r2 s2
  clear hb1
  go_wp2_with fail
  clear r0 s0 r1 s1 r2 s2
  refine (unhide (C2 _ (H2.out.stays T1.out.bel) (K2.out.stays T1.out.bel))).mono ?_
  rintro e z2 ⟨rfl, hb2⟩
  have T2 := hide (T1.out.stays hb2)
  have r0 := Lib.cell_of_heap T2.out.bA 0
  have s0 := Lib.cell_of_heap T2.out.bB 0
  have r1 := Lib.cell_of_heap T2.out.bA 1
  have s1 := Lib.cell_of_heap T2.out.bB 1
  have r2 := Lib.cell_of_heap T2.out.bA 2
  have s2 := Lib.cell_of_heap T2.out.bB 2
  simp at r0 s0 r1 s1 r2 s2
  clear hb2
  go_wp2
  go_ret
  exact ⟨rfl, T2.out.bel⟩
end Go.Proofs.YtdfahpachbhglaaGreatDoor
