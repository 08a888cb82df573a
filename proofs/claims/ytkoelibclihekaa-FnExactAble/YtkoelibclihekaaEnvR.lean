/-
  Rows of the type Env, as the laws' own helpers take them.
-/
import Derived.Test.YtkoelibclihekaaLawV
import Derived.Test.YtkoelibclihekaaLawE
import Derived.Test.YtkoelibclihekaaLawZ
import Derived.Test.YtkoelibclihekaaLawJ
import Derived.Test.YtkoelibclihekaaTurnW
import Derived.Test.YtkoelibclihekaaFlR
import Derived.Test.YtkoelibclihekaaFlE
namespace Go.Proofs.Ytkoelibclihekaa
open Go.RowKit
open Go.ChangeShapes Go.WideShapes Go.ChangeAt Go.Deep

instance : Inhabited Ev := ⟨⟨[], []⟩⟩
structure EvCell (w : World) (a : Addr) (x : Ev) (v0 v1 : Value) : Prop where
  c0 : w.cell? a = some (v0)
  c1 : w.cell? { block := a.block, off := a.off + 1 } = some (v1)
  r0 : StrsAt w v0 x.names
  r1 : IntsAt w v1 x.vals
theorem EvCell.stays {w w' : World} {a : Addr} {x : Ev} {v0 v1 : Value} (h : EvCell w a x v0 v1) (hb : Below w.heap.size w w') (ha : a.block < w.heap.size) : EvCell w' a x v0 v1 :=
  ⟨(hb.cell ha).trans h.c0, (hb.cell (p := { block := a.block, off := a.off + 1 }) ha).trans h.c1, h.r0.stays hb, h.r1.stays hb⟩
def EvsAt (w : World) (v : Value) (xs : List Ev) : Prop :=
  ∃ ao c, v = .slice ao xs.length c ∧ ∀ j (h : j < xs.length), ∃ a v0 v1, ao = some a ∧ a.block < w.heap.size ∧ EvCell w (a.add (j * 2)) xs[j] v0 v1
theorem EvsAt.stays {w w' : World} {v : Value} {xs : List Ev} (h : EvsAt w v xs) (hb : Below w.heap.size w w') : EvsAt w' v xs := by
  obtain ⟨ao, c, rfl, hc⟩ := h
  refine ⟨ao, c, rfl, fun j hj => ?_⟩
  obtain ⟨a, v0, v1, rfl, ha, hx⟩ := hc j hj
  exact ⟨a, v0, v1, rfl, Nat.lt_of_lt_of_le ha hb.size, hx.stays hb (by rw [block_add]; exact ha)⟩
instance : Told EvC where
  kept := fun ⟨v0, v1, e, h0, h1⟩ k => ⟨v0, v1, e, h0.kept k, h1.kept k⟩
  mono := fun ⟨v0, v1, e, h0, h1⟩ k => ⟨v0, v1, e, h0.mono k, h1.mono k⟩
abbrev EvsIn (base : Nat) (w : World) (v : Value) (xs : List Ev) : Prop := ObjsIn EvC 2 base w v xs
theorem EvsIn.at {base : Nat} {w : World} {v : Value} {xs : List Ev} (h : EvsIn base w v xs) : EvsAt w v xs := by
  obtain ⟨css, ⟨ao, c, rfl, _, hc⟩, hl, hr⟩ := h
  refine ⟨ao, c, by rw [hl], fun j hj => ?_⟩
  have hj2 : j < css.length := by omega
  obtain ⟨_, a, rfl, _, h2, h3⟩ := hc j css[j] (List.getElem?_eq_getElem hj2)
  obtain ⟨v0, v1, e, k0, k1⟩ := hr j css[j] xs[j] (List.getElem?_eq_getElem hj2) (List.getElem?_eq_getElem hj)
  rw [e] at h3
  refine ⟨a, v0, v1, rfl, h2, h3 0 _ rfl, ?_, k0.at, k1.at⟩
  · rw [← add_add_off a _ 1 (by omega)]; exact h3 1 _ rfl
def EvsMax (xs : List Ev) : Prop := xs.length ≤ maxLen ∧ ∀ x ∈ xs, EvMax x
def szEvs (xs : List Ev) : Nat := xs.length + (xs.map szEv).sum
def EvRel (W : World) (cs : List Value) (x : Ev) : Prop := ∃ v0 v1, cs = [v0, v1] ∧ StrsAt W v0 x.names ∧ IntsAt W v1 x.vals ∧ EvMax x
theorem RowOf.evs {W : World} {v : Value} {xs : List Ev} (h : RowOf 2 W v (EvRel W) xs) : EvsAt W v xs ∧ EvsMax xs := by
  obtain ⟨h0, ao, c, rfl, hc⟩ := h
  refine ⟨⟨ao, c, rfl, fun j hj => ?_⟩, h0, fun x hx => ?_⟩
  · obtain ⟨a, cs, rfl, h1, _, e', h3⟩ := hc j hj
    obtain ⟨v0, v1, e, k0, k1, hm⟩ := e'
    rw [e] at h3
    refine ⟨a, v0, v1, rfl, h1, ?_, ?_, k0, k1⟩
    · have := h3 0 _ rfl
      rwa [add_nil] at this
    · have := h3 1 _ rfl
      rwa [add_some _ 1 (by omega)] at this
  · obtain ⟨j, hj, rfl⟩ := List.getElem_of_mem hx
    obtain ⟨a, cs, _, _, _, e', _⟩ := hc j hj
    obtain ⟨v0, v1, e, k0, k1, hm⟩ := e'
    exact hm
section
variable {H : Type} {enc : TypeId × Value → H} {W : World}
theorem opens_Evs (fuel : Nat) (cs : List Value) (x : DataW H × List MemPlace) (h : DataW.trod enc Try.prog W 0 (fun _ => true) true fuel 29 cs = some x) : ∃ v ys, cs = [v] ∧ EvsAt W v ys ∧ EvsMax ys := by
  obtain ⟨v, ys, e, hr⟩ := opens_row (Rel := EvRel W) Try.underlying29 cells_Ev (by omega) (fun fuel cs x h => by
    obtain ⟨v0, v1, y, e, ha, hm⟩ := opens_Ev fuel cs x h
    exact ⟨y, v0, v1, e, ha.a0, ha.a1, hm⟩) h
  exact ⟨v, ys, e, hr.evs⟩
end
theorem Try.infoEvR : (Try.prog.info? 61).map (fun i => (i.zero, i.size, i.bytes)) = some (some (.agg #[.slice none 0 0, .slice none 0 0]), 2, 48) := by kernel_rfl
set_option maxRecDepth 100000 in
set_option maxHeartbeats 2000000 in
theorem toEnvS_any (v : Value) (xs : List Ev) (w : World) (h : EvsAt w v xs) (hlen : xs.length ≤ 1048576) (hin : ∀ x ∈ xs, x.names.length ≤ 1048576 ∧ x.vals.length ≤ 1048576) :
    Calls Try.prog 25 #[v] w fun e w' => ∃ v', e = .returned v' ∧ EvsIn w.heap.size w' v' xs ∧ Below w.heap.size w w' := by
  obtain ⟨i0, hi, hz0, hz1, hz2⟩ := info_parts (Try.infoEvR)
  obtain ⟨wm, hmk, hown, hgr⟩ := run_make_full (P := Try.prog) w w.heap.size 43 61 i0 _ 2 Try.underlying43 hi hz0 hz1 .i64 .i64 xs.length (by rw [hz2]; omega) (by unfold maxLen; omega) (Nat.le_refl _)
  have HS : Hid (Filled EvC 2 61 w xs 0 wm) := Filled.start EvC xs [.slice none 0 0, .slice none 0 0] (by decide) hown hgr
  have HC := hide h
  obtain ⟨ao, c, rfl, _⟩ := h
  clear hown hgr hi hz0 hz1 hz2
  obtain ⟨n, en⟩ : ∃ n, xs.length = n := ⟨_, rfl⟩
  have EN := hide en
  rw [en] at hmk hlen HC ⊢
  clear en
  go_enter Try.func25, Try.ntmps25
  go_wp2
  go_loopw [4] (FillR EvC 2 61 w xs) (fun iv _ => n - (intOf iv).toNat)
  case atStart => exact ⟨0, Nat.zero_le _, rfl, HS.out⟩
  case round =>
    obtain ⟨k, hk, rfl, HF⟩ := hrel
    rw [EN.out] at hk
    by_cases hlt : k < n
    · have hlt' : (k : Int) < (n : Int) := by omega
      have hi0 : (0 : Int) ≤ (k : Int) := by omega
      have hkx : k < xs.length := by rw [EN.out]; exact hlt
      obtain ⟨ao', cc, e5, hc⟩ := HC.out.stays HF.out.below
      injection e5 with e6 e7 e8
      subst e6
      obtain ⟨a, q0, q1, rfl, hab, hcell⟩ := hc k hkx
      obtain ⟨p, hpa⟩ : ∃ p, a.add (k * 2) = p := ⟨_, rfl⟩
      rw [hpa] at hcell
      obtain ⟨d0, d1, g0, g1⟩ := hcell
      have C := hide (toEnv_any xs[k] q0 q1 wr g0 g1 (hin _ (List.getElem_mem hkx)).1 (hin _ (List.getElem_mem hkx)).2)
      have HX : Hid (∀ y wz, y.length = 2 → EvC (w.heap.size + 1) wz y xs[k] → Filled EvC 2 61 w xs k wz → Filled EvC 2 61 w xs (k + 1) (wz.setCells w.heap.size (k * 2) y)) := fun y wz hy hR hf => hf.next hkx hy hR
      have HT : Hid (∀ wz, Filled EvC 2 61 w xs k wz → ∀ j, j < 2 → (∃ u, wz.cell? ⟨w.heap.size, k * 2 + j, none⟩ = some u) ∧ wz.frozen? ⟨w.heap.size, k * 2 + j, none⟩ = false) := fun wz hf j hj => hf.there hkx j hj
      obtain ⟨qo0, qc0, rfl, _⟩ := g0
      obtain ⟨qo1, qc1, rfl, _⟩ := g1
      obtain ⟨x, ex⟩ : ∃ x, xs[k] = x := ⟨_, rfl⟩
      rw [ex] at d0 d1 C HX
      clear ex e7 e8 hc
      go_wp2_with (go_at_call 51; refine (unhide C).mono ?_; rintro e w1 ⟨o0, n0, c0, o1, n1, c1, rfl, hv2, hb2⟩; have HF1 := hide (HF.out.stays hb2); have HV : Hid (EvC (w.heap.size + 1) w1 [.slice o0 n0 c0, .slice o1 n1 c1] x) := Told.mono hv2 HF.out.lt; obtain ⟨⟨u0, y0⟩, z0⟩ := HT.out _ HF1.out 0 (by decide); obtain ⟨⟨u1, y1⟩, z1⟩ := HT.out _ HF1.out 1 (by decide); rw [Nat.add_zero] at y0 z0; clear hb2 hv2)
      have HR := hide (HX.out _ _ rfl HV.out HF1.out)
      go_roundw
      case rel => exact ⟨k + 1, by rw [EN.out]; omega, by go_num, HR.out⟩
      case measure => simp [intOf]; omega
    · have hlt' : ¬ (k : Int) < (n : Int) := by omega
      go_wp2
      go_ret
      exact ⟨_, rfl, by
        have := HF.out.done (by rw [EN.out]; omega)
        rwa [EN.out] at this, HF.out.below⟩
set_option maxRecDepth 100000 in
set_option maxHeartbeats 2000000 in
theorem eqEnvS_same (v1 v2 : Value) (xs : List Ev) (w : World) (h1 : EvsAt w v1 xs) (h2 : EvsAt w v2 xs) (hl : xs.length ≤ 1048576) (hin : ∀ x ∈ xs, x.names.length ≤ 1048576 ∧ x.vals.length ≤ 1048576) :
    Calls Try.prog 31 #[v1, v2] w fun e w' => e = .returned (.bool true) ∧ Below w.heap.size w w' := by
  have H1 := hide h1
  have H2 := hide h2
  obtain ⟨ao, c, rfl, _⟩ := h1
  obtain ⟨bo, d, rfl, _⟩ := h2
  obtain ⟨n, en⟩ : ∃ n, xs.length = n := ⟨_, rfl⟩
  have EN := hide en
  rw [en] at H1 H2 hl ⊢
  clear en
  go_enter Try.func31, Try.ntmps31
  go_wp2
  go_loopw [5] (SameR w n) (fun iv _ => n - (intOf iv).toNat)
  case atStart => exact ⟨0, by omega, rfl, Below.refl _ _⟩
  case round =>
    obtain ⟨i, hi, rfl, HB2⟩ := hrel
    by_cases hlt : i < n
    · have hlt' : (i : Int) < (n : Int) := by omega
      have hi0 : (0 : Int) ≤ (i : Int) := by omega
      have hix : i < xs.length := by rw [EN.out]; exact hlt
      obtain ⟨ao', c', e1, hc1⟩ := H1.out.stays HB2.out
      injection e1 with e2 e3 e4
      subst e2
      obtain ⟨bo', d', e1, hc2⟩ := H2.out.stays HB2.out
      injection e1 with e2 e5 e6
      subst e2
      obtain ⟨a, p0, p1, rfl, hpb, hx⟩ := hc1 i hix
      obtain ⟨b, q0, q1, rfl, hqb, hy⟩ := hc2 i hix
      obtain ⟨p, hpa⟩ : ∃ p, a.add (i * 2) = p := ⟨_, rfl⟩
      obtain ⟨q, hqa⟩ : ∃ q, b.add (i * 2) = q := ⟨_, rfl⟩
      rw [← block_add a (i * 2), hpa] at hpb
      rw [← block_add b (i * 2), hqa] at hqb
      rw [hpa] at hx
      rw [hqa] at hy
      obtain ⟨c0, c1, g0, g1⟩ := hx
      obtain ⟨d0, d1, k0, k1⟩ := hy
      have C := hide (eqEnv_same xs[i] p0 q0 p1 q1 wr.drew (g0.stays (Below.refl _ _).drew) (k0.stays (Below.refl _ _).drew) (g1.stays (Below.refl _ _).drew) (k1.stays (Below.refl _ _).drew) (hin _ (List.getElem_mem hix)).1 (hin _ (List.getElem_mem hix)).2)
      obtain ⟨ro0, rc0, rfl, _⟩ := g0
      obtain ⟨so0, sc0, rfl, _⟩ := k0
      obtain ⟨ro1, rc1, rfl, _⟩ := g1
      obtain ⟨so1, sc1, rfl, _⟩ := k1
      obtain ⟨x, ex⟩ : ∃ x, xs[i] = x := ⟨_, rfl⟩
      rw [ex] at C c0 d0 c1 d1
      clear ex hc1 hc2 e3 e4 e5 e6
      go_wp2
      go_region_held3 (fun w' => w'.cell? p = some (.slice ro0 x.names.length rc0) ∧ w'.cell? { block := p.block, off := p.off + 1 } = some (.slice ro1 x.vals.length rc1) ∧ w'.cell? q = some (.slice so0 x.names.length sc0) ∧ w'.cell? { block := q.block, off := q.off + 1 } = some (.slice so1 x.vals.length sc1)) (first | go_keep | exact ⟨(hb1.cell (p := p) hpb).trans c0, (hb1.cell (p := { block := p.block, off := p.off + 1 }) hpb).trans c1, (hb1.cell (p := q) hqb).trans d0, (hb1.cell (p := { block := q.block, off := q.off + 1 }) hqb).trans d1⟩) ((go_at_call 58; refine (unhide C).mono ?_; rintro e w1 ⟨rfl, hb1⟩))
      all_goals go_wp2
      go_roundw
      case rel => exact ⟨i + 1, by omega, by go_num, HB2.out.drew.trans (hb1.mono HB2.out.drew.size)⟩
      case measure => simp [intOf]; omega
    · have hlt' : ¬ (i : Int) < (n : Int) := by omega
      go_wp2
      go_ret
      exact ⟨rfl, HB2.out⟩
set_option maxRecDepth 100000 in
set_option maxHeartbeats 2000000 in
theorem szEnvS_any (v : Value) (xs : List Ev) (l : Int) (w : World) (h0 : 0 ≤ l) (h1 : l ≤ 1048576) (h : EvsAt w v xs) (hm : EvsMax xs) :
    Calls Try.prog 19 #[v, .int .i64 l] w fun e w' => ∃ r : Int, e = .returned (.int .i64 r) ∧ (r < 0 ∨ (0 ≤ r ∧ r + (szEvs xs : Nat) = l)) ∧ Below w.heap.size w w' := by
  have HC := hide h
  have HM := hide hm.2
  have hlen : xs.length ≤ 9223372036854775807 := hm.1
  obtain ⟨ao, c, rfl, _⟩ := h
  clear hm
  obtain ⟨n, en⟩ : ∃ n, xs.length = n := ⟨_, rfl⟩
  have EN := hide en
  rw [en] at HC hlen ⊢
  clear en
  have hw : wrap64 (l - (n : Int)) = l - (n : Int) := IntWalk.wrap64_in _ (by omega)
  by_cases hn : l < (n : Int)
  · have hn' : l - (n : Int) < 0 := by omega
    go_enter Try.func19, Try.ntmps19
    go_wp2
    go_ret
    exact ⟨-1, rfl, .inl (by omega), Below.refl _ _⟩
  · have hn' : ¬ (l - (n : Int) < 0) := by omega
    go_enter Try.func19, Try.ntmps19
    go_wp2
    go_loopw [5, 1] (SzR w n l (fun k => ((xs.take k).map szEv).sum)) (fun iv _ _ => n - (intOf iv).toNat)
    case atStart => exact ⟨0, _, Nat.zero_le _, rfl, rfl, by omega, by omega, by show _ = _; simp, Below.refl _ _⟩
    case round =>
      obtain ⟨k, l', hk, rfl, rfl, hl0, hl1, HS, HB⟩ := hrel
      by_cases hlt : k < n
      · have hlt' : (k : Int) < (n : Int) := by omega
        have hi0 : (0 : Int) ≤ (k : Int) := by omega
        have hkx : k < xs.length := by rw [EN.out]; exact hlt
        obtain ⟨ao', cc, e5, hc⟩ := HC.out.stays HB.out
        injection e5 with e6 e7 e8
        subst e6
        obtain ⟨a, q0, q1, rfl, hab, hcell⟩ := hc k hkx
        obtain ⟨p, hpa⟩ : ∃ p, a.add (k * 2) = p := ⟨_, rfl⟩
        rw [hpa] at hcell
        obtain ⟨d0, d1, g0, g1⟩ := hcell
        have C := hide (szEnv_any xs[k] q0 q1 l' wr hl0 hl1 g0 g1 (HM.out _ (List.getElem_mem hkx)))
        have HT : Hid (((xs.take (k + 1)).map szEv).sum = ((xs.take k).map szEv).sum + szEv xs[k]) := by
          show _ = _
          rw [List.take_succ_eq_append_getElem hkx, List.map_append, List.sum_append]
          simp
        obtain ⟨qo0, qc0, rfl, _⟩ := g0
        obtain ⟨qo1, qc1, rfl, _⟩ := g1
        obtain ⟨x, ex⟩ : ∃ x, xs[k] = x := ⟨_, rfl⟩
        rw [ex] at C HT d0 d1
        clear ex e7 e8 hc
        go_wp2_with fail
        refine (unhide C).mono ?_
        rintro e w1 ⟨r, rfl, hr, hb1⟩
        have HB1 := hide (HB.out.trans (hb1.mono HB.out.size))
        clear hb1
        by_cases hr0 : r < 0
        · clear hr
          go_wp2
          go_ret
          exact ⟨-1, rfl, .inl (by omega), HB1.out⟩
        · obtain ⟨e0, e1⟩ := hr.resolve_left hr0
          have E1 := hide e1
          have hr1 : r ≤ 1048576 := by omega
          clear hr e1
          go_wp2
          go_roundw
          case rel => exact ⟨k + 1, r, by omega, by go_num, rfl, by omega, by omega, by
            have h1 := HS.out
            (try dsimp only at h1)
            have h2 := HT.out
            have h3 := E1.out
            show _ = _
            (try dsimp only)
            omega, HB1.out⟩
          case measure => simp [intOf]; omega
      · have hlt' : ¬ (k : Int) < (n : Int) := by omega
        go_wp2
        go_ret
        exact ⟨l', rfl, .inr ⟨hl0, by
          have h1 := HS.out
          (try dsimp only at h1)
          rw [List.take_of_length_le (by rw [EN.out]; omega)] at h1
          rw [szEvs, EN.out]
          omega⟩, HB.out⟩
def fEv (B T : Nat) (i : Nat) : World → Value → Prop := if i = 0 then IsR B T 1 fStr else IsR B T 1 fInt
theorem fEv_s (B T i : Nat) : Stab (fEv B T i) := by
  unfold fEv
  repeat (first | infer_instance | exact IsR.stab fun i _ => fInt_s i | exact IsR.stab fun i _ => fStr_s i | split)
theorem EvsIn.sh {base T : Nat} {w : World} {v : Value} {xs : List Ev} (h : EvsIn base w v xs) (hT : w.heap.size ≤ T) (hk : ∀ x ∈ xs, x.names.length ≤ 1048576 ∧ x.vals.length ≤ 1048576) : ShR base T 2 (fEv base T) xs.length w v :=
  ObjsIn.sh h hT fun x hx cs hc i u hu => by
    obtain ⟨v0, v1, e, h0, h1⟩ := hc
    subst e
    match i, hu with
    | 0, hu => simp at hu; subst hu; exact ⟨_, (hk x hx).1, CellsIn.shT h0 hT⟩
    | 1, hu => simp at hu; subst hu; exact ⟨_, (hk x hx).2, CellsIn.shI h1 hT⟩
    | k + 2, hu => simp at hu

set_option maxRecDepth 100000 in
set_option maxHeartbeats 4000000 in
theorem turnEnvT_any {B T n : Nat} (v : Value) (k0 : Int) (w : World) (h : ShR B T 2 (fEv B T) n w v) (hn : n ≤ 1048576) (hB : B ≤ w.heap.size) (hk0 : 0 < k0) (hk1 : k0 ≤ 1000000000000000) :
    Calls Try.prog 36 #[v, .int .i64 k0] w fun e w' => ∃ k, e = .returned (.int .i64 k) ∧ k0 ≤ k ∧ k ≤ k0 + (n : Int) * 2097152 ∧ Turn B T w w' := by
  have H := hide h
  obtain ⟨ao, c, rfl, _⟩ := h
  have HB := hide hB
  go_enter Try.func36, Try.ntmps36
  go_wp2
  go_loopw [5, 1] (fun iv kv wr => TuR B T 2 2097152 (fEv B T) n (.slice ao n c) k0 w iv kv wr) (fun iv _ _ => n - (intOf iv).toNat)
  case atStart => exact ⟨0, k0, Nat.zero_le _, rfl, rfl, Int.le_refl _, by omega, Turn.refl _ _ _, H.out⟩
  case round =>
    clear H
    obtain ⟨j, k, hj, rfl, rfl, hka, hkb, TU0, SH0⟩ := hrel
    by_cases hlt : j < n
    · have hi0 : (0 : Int) ≤ (j : Int) := by omega
      have hi1 : (j : Int) < (n : Int) := by omega
      have hkc : k ≤ 10000000000000000 := by omega
      have hkd : 0 < k := by omega
      obtain ⟨g, rfl⟩ : ∃ g, ao = some ⟨g, 0, none⟩ := by
        obtain ⟨ao2, c2, e, hc⟩ := SH0.out
        injection e with e1 _ _
        obtain ⟨g, e2, _⟩ := hc j hlt
        exact ⟨g, by rw [e1, e2]⟩
      have HLT := hide hlt
      obtain ⟨⟨u1, hc1, hu1⟩, hf1⟩ := SH0.out.look (i := 0) (o := j * 2) hlt (by decide) (rfl)
      obtain ⟨l1, hl1, hs1⟩ : IsR B T 1 fStr _ u1 := hu1
      have RS1 := hide hs1
      obtain ⟨ro1, rc1, rfl, _⟩ := hs1
      clear hf1
      go_wp2_with fail
      refine (turnT_any _ _ _ RS1.out hl1 (Nat.le_trans HB.out TU0.out.bel.size) (by omega) (by omega)).mono ?_
      rintro e z1 ⟨k1, rfl, ha1, hb1, ht1⟩
      have TV1 : Hid (Turn B T _ z1) := ht1
      have TUz1 := hide (TU0.out.trans TV1.out)
      have SHz1 := hide (SH0.out.turn TV1.out (fun i _ => fEv_s B T i))
      clear ht1 TU0 SH0 TV1 RS1 hc1
      obtain ⟨⟨u2, hc2, hu2⟩, hf2⟩ := SHz1.out.look (i := 1) (o := j * 2 + 1) hlt (by decide) (rfl)
      obtain ⟨l2, hl2, hs2⟩ : IsR B T 1 fInt _ u2 := hu2
      have RS2 := hide hs2
      obtain ⟨ro2, rc2, rfl, _⟩ := hs2
      clear hf2
      go_wp2_with fail
      refine (turnI_any _ _ _ RS2.out hl2 (Nat.le_trans HB.out TUz1.out.bel.size) (by omega) (by omega)).mono ?_
      rintro e z2 ⟨k2, rfl, ha2, hb2, ht2⟩
      have TV2 : Hid (Turn B T _ z2) := ht2
      have TUz2 := hide (TUz1.out.trans TV2.out)
      have SHz2 := hide (SHz1.out.turn TV2.out (fun i _ => fEv_s B T i))
      clear ht2 TUz1 SHz1 TV2 RS2 hc2
      go_wp2
      go_roundw
      case rel => exact ⟨j + 1, _, by omega, by go_num, by first | rfl | go_num, by omega, by omega, TUz2.out, SHz2.out⟩
      case measure => simp [intOf]; omega
    · have hi1 : ¬ (j : Int) < (n : Int) := by omega
      have e : j = n := by omega
      subst e
      go_wp2
      go_ret
      exact ⟨_, rfl, hka, by omega, TU0.out⟩
end Go.Proofs.Ytkoelibclihekaa
