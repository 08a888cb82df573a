/-
  Rows of the type Actor, as the laws' own helpers take them.
-/
import Derived.Test.YtkoelibclihekaaLawV
import Derived.Test.YtkoelibclihekaaLawE
import Derived.Test.YtkoelibclihekaaLawZ
import Derived.Test.YtkoelibclihekaaLawJ
import Derived.Test.YtkoelibclihekaaTurnW
import Derived.Test.YtkoelibclihekaaFlR
import Derived.Test.YtkoelibclihekaaFlA
namespace Go.Proofs.Ytkoelibclihekaa
open Go.RowKit
open Go.ChangeShapes Go.WideShapes Go.ChangeAt Go.Deep

instance : Inhabited Ac := ⟨⟨[], [], [], 0, [], [], [], 0, 0, 0, false, false⟩⟩
structure AcCell (w : World) (a : Addr) (x : Ac) (v0 v1 v2 v4 v5 v6 : Value) : Prop where
  c0 : w.cell? a = some (v0)
  c1 : w.cell? { block := a.block, off := a.off + 1 } = some (v1)
  c2 : w.cell? { block := a.block, off := a.off + 2 } = some (v2)
  c3 : w.cell? { block := a.block, off := a.off + 3 } = some (.int .i64 x.ofault)
  c4 : w.cell? { block := a.block, off := a.off + 4 } = some (v4)
  c5 : w.cell? { block := a.block, off := a.off + 5 } = some (v5)
  c6 : w.cell? { block := a.block, off := a.off + 6 } = some (v6)
  c7 : w.cell? { block := a.block, off := a.off + 7 } = some (.int .i64 x.ifault)
  c8 : w.cell? { block := a.block, off := a.off + 8 } = some (.int .i64 x.monitor)
  c9 : w.cell? { block := a.block, off := a.off + 9 } = some (.int .i64 x.entry)
  c10 : w.cell? { block := a.block, off := a.off + 10 } = some (.bool x.ready)
  c11 : w.cell? { block := a.block, off := a.off + 11 } = some (.bool x.over)
  r0 : IntsAt w v0 x.otodo
  r1 : StrsAt w v1 x.onames
  r2 : IntsAt w v2 x.ovals
  r4 : IntsAt w v4 x.itodo
  r5 : StrsAt w v5 x.inames
  r6 : IntsAt w v6 x.ivals
theorem AcCell.stays {w w' : World} {a : Addr} {x : Ac} {v0 v1 v2 v4 v5 v6 : Value} (h : AcCell w a x v0 v1 v2 v4 v5 v6) (hb : Below w.heap.size w w') (ha : a.block < w.heap.size) : AcCell w' a x v0 v1 v2 v4 v5 v6 :=
  ⟨(hb.cell ha).trans h.c0, (hb.cell (p := { block := a.block, off := a.off + 1 }) ha).trans h.c1, (hb.cell (p := { block := a.block, off := a.off + 2 }) ha).trans h.c2, (hb.cell (p := { block := a.block, off := a.off + 3 }) ha).trans h.c3, (hb.cell (p := { block := a.block, off := a.off + 4 }) ha).trans h.c4, (hb.cell (p := { block := a.block, off := a.off + 5 }) ha).trans h.c5, (hb.cell (p := { block := a.block, off := a.off + 6 }) ha).trans h.c6, (hb.cell (p := { block := a.block, off := a.off + 7 }) ha).trans h.c7, (hb.cell (p := { block := a.block, off := a.off + 8 }) ha).trans h.c8, (hb.cell (p := { block := a.block, off := a.off + 9 }) ha).trans h.c9, (hb.cell (p := { block := a.block, off := a.off + 10 }) ha).trans h.c10, (hb.cell (p := { block := a.block, off := a.off + 11 }) ha).trans h.c11, h.r0.stays hb, h.r1.stays hb, h.r2.stays hb, h.r4.stays hb, h.r5.stays hb, h.r6.stays hb⟩
def AcsAt (w : World) (v : Value) (xs : List Ac) : Prop :=
  ∃ ao c, v = .slice ao xs.length c ∧ ∀ j (h : j < xs.length), ∃ a v0 v1 v2 v4 v5 v6, ao = some a ∧ a.block < w.heap.size ∧ AcCell w (a.add (j * 12)) xs[j] v0 v1 v2 v4 v5 v6
theorem AcsAt.stays {w w' : World} {v : Value} {xs : List Ac} (h : AcsAt w v xs) (hb : Below w.heap.size w w') : AcsAt w' v xs := by
  obtain ⟨ao, c, rfl, hc⟩ := h
  refine ⟨ao, c, rfl, fun j hj => ?_⟩
  obtain ⟨a, v0, v1, v2, v4, v5, v6, rfl, ha, hx⟩ := hc j hj
  exact ⟨a, v0, v1, v2, v4, v5, v6, rfl, Nat.lt_of_lt_of_le ha hb.size, hx.stays hb (by rw [block_add]; exact ha)⟩
instance : Told AcC where
  kept := fun ⟨v0, v1, v2, v4, v5, v6, e, h0, h1, h2, h4, h5, h6⟩ k => ⟨v0, v1, v2, v4, v5, v6, e, h0.kept k, h1.kept k, h2.kept k, h4.kept k, h5.kept k, h6.kept k⟩
  mono := fun ⟨v0, v1, v2, v4, v5, v6, e, h0, h1, h2, h4, h5, h6⟩ k => ⟨v0, v1, v2, v4, v5, v6, e, h0.mono k, h1.mono k, h2.mono k, h4.mono k, h5.mono k, h6.mono k⟩
abbrev AcsIn (base : Nat) (w : World) (v : Value) (xs : List Ac) : Prop := ObjsIn AcC 12 base w v xs
theorem AcsIn.at {base : Nat} {w : World} {v : Value} {xs : List Ac} (h : AcsIn base w v xs) : AcsAt w v xs := by
  obtain ⟨css, ⟨ao, c, rfl, _, hc⟩, hl, hr⟩ := h
  refine ⟨ao, c, by rw [hl], fun j hj => ?_⟩
  have hj2 : j < css.length := by omega
  obtain ⟨_, a, rfl, _, h2, h3⟩ := hc j css[j] (List.getElem?_eq_getElem hj2)
  obtain ⟨v0, v1, v2, v4, v5, v6, e, k0, k1, k2, k4, k5, k6⟩ := hr j css[j] xs[j] (List.getElem?_eq_getElem hj2) (List.getElem?_eq_getElem hj)
  rw [e] at h3
  refine ⟨a, v0, v1, v2, v4, v5, v6, rfl, h2, h3 0 _ rfl, ?_, ?_, ?_, ?_, ?_, ?_, ?_, ?_, ?_, ?_, ?_, k0.at, k1.at, k2.at, k4.at, k5.at, k6.at⟩
  · rw [← add_add_off a _ 1 (by omega)]; exact h3 1 _ rfl
  · rw [← add_add_off a _ 2 (by omega)]; exact h3 2 _ rfl
  · rw [← add_add_off a _ 3 (by omega)]; exact h3 3 _ rfl
  · rw [← add_add_off a _ 4 (by omega)]; exact h3 4 _ rfl
  · rw [← add_add_off a _ 5 (by omega)]; exact h3 5 _ rfl
  · rw [← add_add_off a _ 6 (by omega)]; exact h3 6 _ rfl
  · rw [← add_add_off a _ 7 (by omega)]; exact h3 7 _ rfl
  · rw [← add_add_off a _ 8 (by omega)]; exact h3 8 _ rfl
  · rw [← add_add_off a _ 9 (by omega)]; exact h3 9 _ rfl
  · rw [← add_add_off a _ 10 (by omega)]; exact h3 10 _ rfl
  · rw [← add_add_off a _ 11 (by omega)]; exact h3 11 _ rfl
def AcsMax (xs : List Ac) : Prop := xs.length ≤ maxLen ∧ ∀ x ∈ xs, AcMax x
def szAcs (xs : List Ac) : Nat := xs.length + (xs.map szAc).sum
def AcRel (W : World) (cs : List Value) (x : Ac) : Prop := ∃ v0 v1 v2 v4 v5 v6, cs = [v0, v1, v2, .int .i64 x.ofault, v4, v5, v6, .int .i64 x.ifault, .int .i64 x.monitor, .int .i64 x.entry, .bool x.ready, .bool x.over] ∧ IntsAt W v0 x.otodo ∧ StrsAt W v1 x.onames ∧ IntsAt W v2 x.ovals ∧ IntsAt W v4 x.itodo ∧ StrsAt W v5 x.inames ∧ IntsAt W v6 x.ivals ∧ AcMax x
theorem RowOf.acs {W : World} {v : Value} {xs : List Ac} (h : RowOf 12 W v (AcRel W) xs) : AcsAt W v xs ∧ AcsMax xs := by
  obtain ⟨h0, ao, c, rfl, hc⟩ := h
  refine ⟨⟨ao, c, rfl, fun j hj => ?_⟩, h0, fun x hx => ?_⟩
  · obtain ⟨a, cs, rfl, h1, _, e', h3⟩ := hc j hj
    obtain ⟨v0, v1, v2, v4, v5, v6, e, k0, k1, k2, k4, k5, k6, hm⟩ := e'
    rw [e] at h3
    refine ⟨a, v0, v1, v2, v4, v5, v6, rfl, h1, ?_, ?_, ?_, ?_, ?_, ?_, ?_, ?_, ?_, ?_, ?_, ?_, k0, k1, k2, k4, k5, k6⟩
    · have := h3 0 _ rfl
      rwa [add_nil] at this
    · have := h3 1 _ rfl
      rwa [add_some _ 1 (by omega)] at this
    · have := h3 2 _ rfl
      rwa [add_some _ 2 (by omega)] at this
    · have := h3 3 _ rfl
      rwa [add_some _ 3 (by omega)] at this
    · have := h3 4 _ rfl
      rwa [add_some _ 4 (by omega)] at this
    · have := h3 5 _ rfl
      rwa [add_some _ 5 (by omega)] at this
    · have := h3 6 _ rfl
      rwa [add_some _ 6 (by omega)] at this
    · have := h3 7 _ rfl
      rwa [add_some _ 7 (by omega)] at this
    · have := h3 8 _ rfl
      rwa [add_some _ 8 (by omega)] at this
    · have := h3 9 _ rfl
      rwa [add_some _ 9 (by omega)] at this
    · have := h3 10 _ rfl
      rwa [add_some _ 10 (by omega)] at this
    · have := h3 11 _ rfl
      rwa [add_some _ 11 (by omega)] at this
  · obtain ⟨j, hj, rfl⟩ := List.getElem_of_mem hx
    obtain ⟨a, cs, _, _, _, e', _⟩ := hc j hj
    obtain ⟨v0, v1, v2, v4, v5, v6, e, k0, k1, k2, k4, k5, k6, hm⟩ := e'
    exact hm
section
variable {H : Type} {enc : TypeId × Value → H} {W : World}
theorem opens_Acs (fuel : Nat) (cs : List Value) (x : DataW H × List MemPlace) (h : DataW.trod enc Try.prog W 0 (fun _ => true) true fuel 27 cs = some x) : ∃ v ys, cs = [v] ∧ AcsAt W v ys ∧ AcsMax ys := by
  obtain ⟨v, ys, e, hr⟩ := opens_row (Rel := AcRel W) Try.underlying27 cells_Ac (by omega) (fun fuel cs x h => by
    obtain ⟨v0, v1, v2, v4, v5, v6, y, e, ha, hm⟩ := opens_Ac fuel cs x h
    exact ⟨y, v0, v1, v2, v4, v5, v6, e, ha.a0, ha.a1, ha.a2, ha.a4, ha.a5, ha.a6, hm⟩) h
  exact ⟨v, ys, e, hr.acs⟩
end
theorem Try.infoAcR : (Try.prog.info? 65).map (fun i => (i.zero, i.size, i.bytes)) = some (some (.agg #[.slice none 0 0, .slice none 0 0, .slice none 0 0, .int .i64 0, .slice none 0 0, .slice none 0 0, .slice none 0 0, .int .i64 0, .int .i64 0, .int .i64 0, .bool false, .bool false]), 12, 184) := by kernel_rfl
set_option maxRecDepth 100000 in
set_option maxHeartbeats 2000000 in
theorem toActorS_any (v : Value) (xs : List Ac) (w : World) (h : AcsAt w v xs) (hlen : xs.length ≤ 1048576) (hin : ∀ x ∈ xs, x.otodo.length ≤ 1048576 ∧ x.onames.length ≤ 1048576 ∧ x.ovals.length ≤ 1048576 ∧ x.itodo.length ≤ 1048576 ∧ x.inames.length ≤ 1048576 ∧ x.ivals.length ≤ 1048576) :
    Calls Try.prog 23 #[v] w fun e w' => ∃ v', e = .returned v' ∧ AcsIn w.heap.size w' v' xs ∧ Below w.heap.size w w' := by
  obtain ⟨i0, hi, hz0, hz1, hz2⟩ := info_parts (Try.infoAcR)
  obtain ⟨wm, hmk, hown, hgr⟩ := run_make_full (P := Try.prog) w w.heap.size 41 65 i0 _ 12 Try.underlying41 hi hz0 hz1 .i64 .i64 xs.length (by rw [hz2]; omega) (by unfold maxLen; omega) (Nat.le_refl _)
  have HS : Hid (Filled AcC 12 65 w xs 0 wm) := Filled.start AcC xs [.slice none 0 0, .slice none 0 0, .slice none 0 0, .int .i64 0, .slice none 0 0, .slice none 0 0, .slice none 0 0, .int .i64 0, .int .i64 0, .int .i64 0, .bool false, .bool false] (by decide) hown hgr
  have HC := hide h
  obtain ⟨ao, c, rfl, _⟩ := h
  clear hown hgr hi hz0 hz1 hz2
  obtain ⟨n, en⟩ : ∃ n, xs.length = n := ⟨_, rfl⟩
  have EN := hide en
  rw [en] at hmk hlen HC ⊢
  clear en
  go_enter Try.func23, Try.ntmps23
  go_wp2
  go_loopw [4] (FillR AcC 12 65 w xs) (fun iv _ => n - (intOf iv).toNat)
  case atStart => exact ⟨0, Nat.zero_le _, rfl, HS.out⟩
  case round =>
    obtain ⟨k, hk, rfl, HF⟩ := hrel
    rw [EN.out] at hk
    by_cases hlt : k < n
    · have hlt' : (k : Int) < (n : Int) := by omega
      have hi0 : (0 : Int) ≤ (k : Int) := by omega
      have hkx : k < xs.length := by rw [EN.out]; exact hlt
      obtain ⟨ao', cc, e5, hc⟩ := HC.out.stays HF.out.below
      injection e5 with e6 e7 e8
      subst e6
      obtain ⟨a, q0, q1, q2, q4, q5, q6, rfl, hab, hcell⟩ := hc k hkx
      obtain ⟨p, hpa⟩ : ∃ p, a.add (k * 12) = p := ⟨_, rfl⟩
      rw [hpa] at hcell
      obtain ⟨d0, d1, d2, d3, d4, d5, d6, d7, d8, d9, d10, d11, g0, g1, g2, g4, g5, g6⟩ := hcell
      have C := hide (toActor_any xs[k] q0 q1 q2 q4 q5 q6 wr g0 g1 g2 g4 g5 g6 (hin _ (List.getElem_mem hkx)).1 (hin _ (List.getElem_mem hkx)).2.1 (hin _ (List.getElem_mem hkx)).2.2.1 (hin _ (List.getElem_mem hkx)).2.2.2.1 (hin _ (List.getElem_mem hkx)).2.2.2.2.1 (hin _ (List.getElem_mem hkx)).2.2.2.2.2)
      have HX : Hid (∀ y wz, y.length = 12 → AcC (w.heap.size + 1) wz y xs[k] → Filled AcC 12 65 w xs k wz → Filled AcC 12 65 w xs (k + 1) (wz.setCells w.heap.size (k * 12) y)) := fun y wz hy hR hf => hf.next hkx hy hR
      have HT : Hid (∀ wz, Filled AcC 12 65 w xs k wz → ∀ j, j < 12 → (∃ u, wz.cell? ⟨w.heap.size, k * 12 + j, none⟩ = some u) ∧ wz.frozen? ⟨w.heap.size, k * 12 + j, none⟩ = false) := fun wz hf j hj => hf.there hkx j hj
      obtain ⟨qo0, qc0, rfl, _⟩ := g0
      obtain ⟨qo1, qc1, rfl, _⟩ := g1
      obtain ⟨qo2, qc2, rfl, _⟩ := g2
      obtain ⟨qo4, qc4, rfl, _⟩ := g4
      obtain ⟨qo5, qc5, rfl, _⟩ := g5
      obtain ⟨qo6, qc6, rfl, _⟩ := g6
      obtain ⟨x, ex⟩ : ∃ x, xs[k] = x := ⟨_, rfl⟩
      rw [ex] at d0 d1 d2 d3 d4 d5 d6 d7 d8 d9 d10 d11 C HX
      clear ex e7 e8 hc
      go_wp2_with (go_at_call 49; refine (unhide C).mono ?_; rintro e w1 ⟨o0, n0, c0, o1, n1, c1, o2, n2, c2, o4, n4, c4, o5, n5, c5, o6, n6, c6, rfl, hv2, hb2⟩; have HF1 := hide (HF.out.stays hb2); have HV : Hid (AcC (w.heap.size + 1) w1 [.slice o0 n0 c0, .slice o1 n1 c1, .slice o2 n2 c2, .int .i64 x.ofault, .slice o4 n4 c4, .slice o5 n5 c5, .slice o6 n6 c6, .int .i64 x.ifault, .int .i64 x.monitor, .int .i64 x.entry, .bool x.ready, .bool x.over] x) := Told.mono hv2 HF.out.lt; obtain ⟨⟨u0, y0⟩, z0⟩ := HT.out _ HF1.out 0 (by decide); obtain ⟨⟨u1, y1⟩, z1⟩ := HT.out _ HF1.out 1 (by decide); obtain ⟨⟨u2, y2⟩, z2⟩ := HT.out _ HF1.out 2 (by decide); obtain ⟨⟨u3, y3⟩, z3⟩ := HT.out _ HF1.out 3 (by decide); obtain ⟨⟨u4, y4⟩, z4⟩ := HT.out _ HF1.out 4 (by decide); obtain ⟨⟨u5, y5⟩, z5⟩ := HT.out _ HF1.out 5 (by decide); obtain ⟨⟨u6, y6⟩, z6⟩ := HT.out _ HF1.out 6 (by decide); obtain ⟨⟨u7, y7⟩, z7⟩ := HT.out _ HF1.out 7 (by decide); obtain ⟨⟨u8, y8⟩, z8⟩ := HT.out _ HF1.out 8 (by decide); obtain ⟨⟨u9, y9⟩, z9⟩ := HT.out _ HF1.out 9 (by decide); obtain ⟨⟨u10, y10⟩, z10⟩ := HT.out _ HF1.out 10 (by decide); obtain ⟨⟨u11, y11⟩, z11⟩ := HT.out _ HF1.out 11 (by decide); rw [Nat.add_zero] at y0 z0; clear hb2 hv2)
      have HR := hide (HX.out _ _ rfl HV.out HF1.out)
      go_roundw
      case rel => exact ⟨k + 1, by rw [EN.out]; omega, by go_num, HR.out⟩
      case measure => simp [intOf]; omega
    · have hlt' : ¬ (k : Int) < (n : Int) := by omega
      go_wp2
      go_ret
      exact ⟨_, rfl, by
        have := HF.out.done (by rw [EN.out]; omega)
        rwa [EN.out] at this, HF.out.below⟩
set_option maxRecDepth 100000 in
set_option maxHeartbeats 2000000 in
theorem eqActorS_same (v1 v2 : Value) (xs : List Ac) (w : World) (h1 : AcsAt w v1 xs) (h2 : AcsAt w v2 xs) (hl : xs.length ≤ 1048576) (hin : ∀ x ∈ xs, x.otodo.length ≤ 1048576 ∧ x.onames.length ≤ 1048576 ∧ x.ovals.length ≤ 1048576 ∧ x.itodo.length ≤ 1048576 ∧ x.inames.length ≤ 1048576 ∧ x.ivals.length ≤ 1048576) :
    Calls Try.prog 29 #[v1, v2] w fun e w' => e = .returned (.bool true) ∧ Below w.heap.size w w' := by
  have H1 := hide h1
  have H2 := hide h2
  obtain ⟨ao, c, rfl, _⟩ := h1
  obtain ⟨bo, d, rfl, _⟩ := h2
  obtain ⟨n, en⟩ : ∃ n, xs.length = n := ⟨_, rfl⟩
  have EN := hide en
  rw [en] at H1 H2 hl ⊢
  clear en
  go_enter Try.func29, Try.ntmps29
  go_wp2
  go_loopw [5] (SameR w n) (fun iv _ => n - (intOf iv).toNat)
  case atStart => exact ⟨0, by omega, rfl, Below.refl _ _⟩
  case round =>
    obtain ⟨i, hi, rfl, HB2⟩ := hrel
    by_cases hlt : i < n
    · have hlt' : (i : Int) < (n : Int) := by omega
      have hi0 : (0 : Int) ≤ (i : Int) := by omega
      have hix : i < xs.length := by rw [EN.out]; exact hlt
      obtain ⟨ao', c', e1, hc1⟩ := H1.out.stays HB2.out
      injection e1 with e2 e3 e4
      subst e2
      obtain ⟨bo', d', e1, hc2⟩ := H2.out.stays HB2.out
      injection e1 with e2 e5 e6
      subst e2
      obtain ⟨a, p0, p1, p2, p4, p5, p6, rfl, hpb, hx⟩ := hc1 i hix
      obtain ⟨b, q0, q1, q2, q4, q5, q6, rfl, hqb, hy⟩ := hc2 i hix
      obtain ⟨p, hpa⟩ : ∃ p, a.add (i * 12) = p := ⟨_, rfl⟩
      obtain ⟨q, hqa⟩ : ∃ q, b.add (i * 12) = q := ⟨_, rfl⟩
      rw [← block_add a (i * 12), hpa] at hpb
      rw [← block_add b (i * 12), hqa] at hqb
      rw [hpa] at hx
      rw [hqa] at hy
      obtain ⟨c0, c1, c2, c3, c4, c5, c6, c7, c8, c9, c10, c11, g0, g1, g2, g4, g5, g6⟩ := hx
      obtain ⟨d0, d1, d2, d3, d4, d5, d6, d7, d8, d9, d10, d11, k0, k1, k2, k4, k5, k6⟩ := hy
      have C := hide (eqActor_same xs[i] p0 q0 p1 q1 p2 q2 p4 q4 p5 q5 p6 q6 wr.drew (g0.stays (Below.refl _ _).drew) (k0.stays (Below.refl _ _).drew) (g1.stays (Below.refl _ _).drew) (k1.stays (Below.refl _ _).drew) (g2.stays (Below.refl _ _).drew) (k2.stays (Below.refl _ _).drew) (g4.stays (Below.refl _ _).drew) (k4.stays (Below.refl _ _).drew) (g5.stays (Below.refl _ _).drew) (k5.stays (Below.refl _ _).drew) (g6.stays (Below.refl _ _).drew) (k6.stays (Below.refl _ _).drew) (hin _ (List.getElem_mem hix)).1 (hin _ (List.getElem_mem hix)).2.1 (hin _ (List.getElem_mem hix)).2.2.1 (hin _ (List.getElem_mem hix)).2.2.2.1 (hin _ (List.getElem_mem hix)).2.2.2.2.1 (hin _ (List.getElem_mem hix)).2.2.2.2.2)
      obtain ⟨ro0, rc0, rfl, _⟩ := g0
      obtain ⟨so0, sc0, rfl, _⟩ := k0
      obtain ⟨ro1, rc1, rfl, _⟩ := g1
      obtain ⟨so1, sc1, rfl, _⟩ := k1
      obtain ⟨ro2, rc2, rfl, _⟩ := g2
      obtain ⟨so2, sc2, rfl, _⟩ := k2
      obtain ⟨ro4, rc4, rfl, _⟩ := g4
      obtain ⟨so4, sc4, rfl, _⟩ := k4
      obtain ⟨ro5, rc5, rfl, _⟩ := g5
      obtain ⟨so5, sc5, rfl, _⟩ := k5
      obtain ⟨ro6, rc6, rfl, _⟩ := g6
      obtain ⟨so6, sc6, rfl, _⟩ := k6
      obtain ⟨x, ex⟩ : ∃ x, xs[i] = x := ⟨_, rfl⟩
      rw [ex] at C c0 d0 c1 d1 c2 d2 c3 d3 c4 d4 c5 d5 c6 d6 c7 d7 c8 d8 c9 d9 c10 d10 c11 d11
      clear ex hc1 hc2 e3 e4 e5 e6
      go_wp2
      go_region_held3 (fun w' => w'.cell? p = some (.slice ro0 x.otodo.length rc0) ∧ w'.cell? { block := p.block, off := p.off + 1 } = some (.slice ro1 x.onames.length rc1) ∧ w'.cell? { block := p.block, off := p.off + 2 } = some (.slice ro2 x.ovals.length rc2) ∧ w'.cell? { block := p.block, off := p.off + 3 } = some (.int .i64 x.ofault) ∧ w'.cell? { block := p.block, off := p.off + 4 } = some (.slice ro4 x.itodo.length rc4) ∧ w'.cell? { block := p.block, off := p.off + 5 } = some (.slice ro5 x.inames.length rc5) ∧ w'.cell? { block := p.block, off := p.off + 6 } = some (.slice ro6 x.ivals.length rc6) ∧ w'.cell? { block := p.block, off := p.off + 7 } = some (.int .i64 x.ifault) ∧ w'.cell? { block := p.block, off := p.off + 8 } = some (.int .i64 x.monitor) ∧ w'.cell? { block := p.block, off := p.off + 9 } = some (.int .i64 x.entry) ∧ w'.cell? { block := p.block, off := p.off + 10 } = some (.bool x.ready) ∧ w'.cell? { block := p.block, off := p.off + 11 } = some (.bool x.over) ∧ w'.cell? q = some (.slice so0 x.otodo.length sc0) ∧ w'.cell? { block := q.block, off := q.off + 1 } = some (.slice so1 x.onames.length sc1) ∧ w'.cell? { block := q.block, off := q.off + 2 } = some (.slice so2 x.ovals.length sc2) ∧ w'.cell? { block := q.block, off := q.off + 3 } = some (.int .i64 x.ofault) ∧ w'.cell? { block := q.block, off := q.off + 4 } = some (.slice so4 x.itodo.length sc4) ∧ w'.cell? { block := q.block, off := q.off + 5 } = some (.slice so5 x.inames.length sc5) ∧ w'.cell? { block := q.block, off := q.off + 6 } = some (.slice so6 x.ivals.length sc6) ∧ w'.cell? { block := q.block, off := q.off + 7 } = some (.int .i64 x.ifault) ∧ w'.cell? { block := q.block, off := q.off + 8 } = some (.int .i64 x.monitor) ∧ w'.cell? { block := q.block, off := q.off + 9 } = some (.int .i64 x.entry) ∧ w'.cell? { block := q.block, off := q.off + 10 } = some (.bool x.ready) ∧ w'.cell? { block := q.block, off := q.off + 11 } = some (.bool x.over)) (first | go_keep | exact ⟨(hb1.cell (p := p) hpb).trans c0, (hb1.cell (p := { block := p.block, off := p.off + 1 }) hpb).trans c1, (hb1.cell (p := { block := p.block, off := p.off + 2 }) hpb).trans c2, (hb1.cell (p := { block := p.block, off := p.off + 3 }) hpb).trans c3, (hb1.cell (p := { block := p.block, off := p.off + 4 }) hpb).trans c4, (hb1.cell (p := { block := p.block, off := p.off + 5 }) hpb).trans c5, (hb1.cell (p := { block := p.block, off := p.off + 6 }) hpb).trans c6, (hb1.cell (p := { block := p.block, off := p.off + 7 }) hpb).trans c7, (hb1.cell (p := { block := p.block, off := p.off + 8 }) hpb).trans c8, (hb1.cell (p := { block := p.block, off := p.off + 9 }) hpb).trans c9, (hb1.cell (p := { block := p.block, off := p.off + 10 }) hpb).trans c10, (hb1.cell (p := { block := p.block, off := p.off + 11 }) hpb).trans c11, (hb1.cell (p := q) hqb).trans d0, (hb1.cell (p := { block := q.block, off := q.off + 1 }) hqb).trans d1, (hb1.cell (p := { block := q.block, off := q.off + 2 }) hqb).trans d2, (hb1.cell (p := { block := q.block, off := q.off + 3 }) hqb).trans d3, (hb1.cell (p := { block := q.block, off := q.off + 4 }) hqb).trans d4, (hb1.cell (p := { block := q.block, off := q.off + 5 }) hqb).trans d5, (hb1.cell (p := { block := q.block, off := q.off + 6 }) hqb).trans d6, (hb1.cell (p := { block := q.block, off := q.off + 7 }) hqb).trans d7, (hb1.cell (p := { block := q.block, off := q.off + 8 }) hqb).trans d8, (hb1.cell (p := { block := q.block, off := q.off + 9 }) hqb).trans d9, (hb1.cell (p := { block := q.block, off := q.off + 10 }) hqb).trans d10, (hb1.cell (p := { block := q.block, off := q.off + 11 }) hqb).trans d11⟩) ((go_at_call 56; refine (unhide C).mono ?_; rintro e w1 ⟨rfl, hb1⟩))
      all_goals go_wp2
      go_roundw
      case rel => exact ⟨i + 1, by omega, by go_num, HB2.out.drew.trans (hb1.mono HB2.out.drew.size)⟩
      case measure => simp [intOf]; omega
    · have hlt' : ¬ (i : Int) < (n : Int) := by omega
      go_wp2
      go_ret
      exact ⟨rfl, HB2.out⟩
set_option maxRecDepth 100000 in
set_option maxHeartbeats 2000000 in
theorem szActorS_any (v : Value) (xs : List Ac) (l : Int) (w : World) (h0 : 0 ≤ l) (h1 : l ≤ 1048576) (h : AcsAt w v xs) (hm : AcsMax xs) :
    Calls Try.prog 17 #[v, .int .i64 l] w fun e w' => ∃ r : Int, e = .returned (.int .i64 r) ∧ (r < 0 ∨ (0 ≤ r ∧ r + (szAcs xs : Nat) = l)) ∧ Below w.heap.size w w' := by
  have HC := hide h
  have HM := hide hm.2
  have hlen : xs.length ≤ 9223372036854775807 := hm.1
  obtain ⟨ao, c, rfl, _⟩ := h
  clear hm
  obtain ⟨n, en⟩ : ∃ n, xs.length = n := ⟨_, rfl⟩
  have EN := hide en
  rw [en] at HC hlen ⊢
  clear en
  have hw : wrap64 (l - (n : Int)) = l - (n : Int) := IntWalk.wrap64_in _ (by omega)
  by_cases hn : l < (n : Int)
  · have hn' : l - (n : Int) < 0 := by omega
    go_enter Try.func17, Try.ntmps17
    go_wp2
    go_ret
    exact ⟨-1, rfl, .inl (by omega), Below.refl _ _⟩
  · have hn' : ¬ (l - (n : Int) < 0) := by omega
    go_enter Try.func17, Try.ntmps17
    go_wp2
    go_loopw [5, 1] (SzR w n l (fun k => ((xs.take k).map szAc).sum)) (fun iv _ _ => n - (intOf iv).toNat)
    case atStart => exact ⟨0, _, Nat.zero_le _, rfl, rfl, by omega, by omega, by show _ = _; simp, Below.refl _ _⟩
    case round =>
      obtain ⟨k, l', hk, rfl, rfl, hl0, hl1, HS, HB⟩ := hrel
      by_cases hlt : k < n
      · have hlt' : (k : Int) < (n : Int) := by omega
        have hi0 : (0 : Int) ≤ (k : Int) := by omega
        have hkx : k < xs.length := by rw [EN.out]; exact hlt
        obtain ⟨ao', cc, e5, hc⟩ := HC.out.stays HB.out
        injection e5 with e6 e7 e8
        subst e6
        obtain ⟨a, q0, q1, q2, q4, q5, q6, rfl, hab, hcell⟩ := hc k hkx
        obtain ⟨p, hpa⟩ : ∃ p, a.add (k * 12) = p := ⟨_, rfl⟩
        rw [hpa] at hcell
        obtain ⟨d0, d1, d2, d3, d4, d5, d6, d7, d8, d9, d10, d11, g0, g1, g2, g4, g5, g6⟩ := hcell
        have C := hide (szActor_any xs[k] q0 q1 q2 q4 q5 q6 l' wr hl0 hl1 g0 g1 g2 g4 g5 g6 (HM.out _ (List.getElem_mem hkx)))
        have HT : Hid (((xs.take (k + 1)).map szAc).sum = ((xs.take k).map szAc).sum + szAc xs[k]) := by
          show _ = _
          rw [List.take_succ_eq_append_getElem hkx, List.map_append, List.sum_append]
          simp
        obtain ⟨qo0, qc0, rfl, _⟩ := g0
        obtain ⟨qo1, qc1, rfl, _⟩ := g1
        obtain ⟨qo2, qc2, rfl, _⟩ := g2
        obtain ⟨qo4, qc4, rfl, _⟩ := g4
        obtain ⟨qo5, qc5, rfl, _⟩ := g5
        obtain ⟨qo6, qc6, rfl, _⟩ := g6
        obtain ⟨x, ex⟩ : ∃ x, xs[k] = x := ⟨_, rfl⟩
        rw [ex] at C HT d0 d1 d2 d3 d4 d5 d6 d7 d8 d9 d10 d11
        clear ex e7 e8 hc
        go_wp2_with fail
        refine (unhide C).mono ?_
        rintro e w1 ⟨r, rfl, hr, hb1⟩
        have HB1 := hide (HB.out.trans (hb1.mono HB.out.size))
        clear hb1
        by_cases hr0 : r < 0
        · clear hr
          go_wp2
          go_ret
          exact ⟨-1, rfl, .inl (by omega), HB1.out⟩
        · obtain ⟨e0, e1⟩ := hr.resolve_left hr0
          have E1 := hide e1
          have hr1 : r ≤ 1048576 := by omega
          clear hr e1
          go_wp2
          go_roundw
          case rel => exact ⟨k + 1, r, by omega, by go_num, rfl, by omega, by omega, by
            have h1 := HS.out
            (try dsimp only at h1)
            have h2 := HT.out
            have h3 := E1.out
            show _ = _
            (try dsimp only)
            omega, HB1.out⟩
          case measure => simp [intOf]; omega
      · have hlt' : ¬ (k : Int) < (n : Int) := by omega
        go_wp2
        go_ret
        exact ⟨l', rfl, .inr ⟨hl0, by
          have h1 := HS.out
          (try dsimp only at h1)
          rw [List.take_of_length_le (by rw [EN.out]; omega)] at h1
          rw [szAcs, EN.out]
          omega⟩, HB.out⟩
def fAc (B T : Nat) (i : Nat) : World → Value → Prop := if i = 0 then IsR B T 1 fInt else if i = 1 then IsR B T 1 fStr else if i = 2 then IsR B T 1 fInt else if i = 3 then IsN else if i = 4 then IsR B T 1 fInt else if i = 5 then IsR B T 1 fStr else if i = 6 then IsR B T 1 fInt else if i = 7 then IsN else if i = 8 then IsN else if i = 9 then IsN else if i = 10 then IsB else IsB
theorem fAc_s (B T i : Nat) : Stab (fAc B T i) := by
  unfold fAc
  repeat (first | infer_instance | exact IsR.stab fun i _ => fInt_s i | exact IsR.stab fun i _ => fStr_s i | split)
theorem AcsIn.sh {base T : Nat} {w : World} {v : Value} {xs : List Ac} (h : AcsIn base w v xs) (hT : w.heap.size ≤ T) (hk : ∀ x ∈ xs, x.otodo.length ≤ 1048576 ∧ x.onames.length ≤ 1048576 ∧ x.ovals.length ≤ 1048576 ∧ x.itodo.length ≤ 1048576 ∧ x.inames.length ≤ 1048576 ∧ x.ivals.length ≤ 1048576) : ShR base T 12 (fAc base T) xs.length w v :=
  ObjsIn.sh h hT fun x hx cs hc i u hu => by
    obtain ⟨v0, v1, v2, v4, v5, v6, e, h0, h1, h2, h4, h5, h6⟩ := hc
    subst e
    match i, hu with
    | 0, hu => simp at hu; subst hu; exact ⟨_, (hk x hx).1, CellsIn.shI h0 hT⟩
    | 1, hu => simp at hu; subst hu; exact ⟨_, (hk x hx).2.1, CellsIn.shT h1 hT⟩
    | 2, hu => simp at hu; subst hu; exact ⟨_, (hk x hx).2.2.1, CellsIn.shI h2 hT⟩
    | 3, hu => simp at hu; subst hu; exact ⟨_, rfl⟩
    | 4, hu => simp at hu; subst hu; exact ⟨_, (hk x hx).2.2.2.1, CellsIn.shI h4 hT⟩
    | 5, hu => simp at hu; subst hu; exact ⟨_, (hk x hx).2.2.2.2.1, CellsIn.shT h5 hT⟩
    | 6, hu => simp at hu; subst hu; exact ⟨_, (hk x hx).2.2.2.2.2, CellsIn.shI h6 hT⟩
    | 7, hu => simp at hu; subst hu; exact ⟨_, rfl⟩
    | 8, hu => simp at hu; subst hu; exact ⟨_, rfl⟩
    | 9, hu => simp at hu; subst hu; exact ⟨_, rfl⟩
    | 10, hu => simp at hu; subst hu; exact ⟨_, rfl⟩
    | 11, hu => simp at hu; subst hu; exact ⟨_, rfl⟩
    | k + 12, hu => simp at hu
end Go.Proofs.Ytkoelibclihekaa
