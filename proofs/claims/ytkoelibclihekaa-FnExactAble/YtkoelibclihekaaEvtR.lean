/-
  Rows of the type Event, as the laws' own helpers take them.
-/
import Derived.Test.YtkoelibclihekaaLawV
import Derived.Test.YtkoelibclihekaaLawE
import Derived.Test.YtkoelibclihekaaLawZ
import Derived.Test.YtkoelibclihekaaLawJ
import Derived.Test.YtkoelibclihekaaTurnW
import Derived.Test.YtkoelibclihekaaFlR
namespace Go.Proofs.Ytkoelibclihekaa
open Go.RowKit
open Go.ChangeShapes Go.WideShapes Go.ChangeAt Go.Deep

structure Vt where
  process : Int
  kind : Int
  num : Int
instance : Inhabited Vt := ⟨⟨0, 0, 0⟩⟩
structure VtCell (w : World) (a : Addr) (x : Vt) : Prop where
  c0 : w.cell? a = some (.int .i64 x.process)
  c1 : w.cell? { block := a.block, off := a.off + 1 } = some (.int .i64 x.kind)
  c2 : w.cell? { block := a.block, off := a.off + 2 } = some (.int .i64 x.num)
theorem VtCell.stays {w w' : World} {a : Addr} {x : Vt} (h : VtCell w a x) (hb : Below w.heap.size w w') (ha : a.block < w.heap.size) : VtCell w' a x :=
  ⟨(hb.cell ha).trans h.c0, (hb.cell (p := { block := a.block, off := a.off + 1 }) ha).trans h.c1, (hb.cell (p := { block := a.block, off := a.off + 2 }) ha).trans h.c2⟩
def VtsAt (w : World) (v : Value) (xs : List Vt) : Prop :=
  ∃ ao c, v = .slice ao xs.length c ∧ ∀ j (h : j < xs.length), ∃ a, ao = some a ∧ a.block < w.heap.size ∧ VtCell w (a.add (j * 3)) xs[j]
theorem VtsAt.stays {w w' : World} {v : Value} {xs : List Vt} (h : VtsAt w v xs) (hb : Below w.heap.size w w') : VtsAt w' v xs := by
  obtain ⟨ao, c, rfl, hc⟩ := h
  refine ⟨ao, c, rfl, fun j hj => ?_⟩
  obtain ⟨a, rfl, ha, hx⟩ := hc j hj
  exact ⟨a, rfl, Nat.lt_of_lt_of_le ha hb.size, hx.stays hb (by rw [block_add]; exact ha)⟩
def VtC (_base : Nat) (_w : World) (cs : List Value) (x : Vt) : Prop := cs = [.int .i64 x.process, .int .i64 x.kind, .int .i64 x.num]
instance : Told VtC where
  kept := fun h _ => h
  mono := fun h _ => h
abbrev VtsIn (base : Nat) (w : World) (v : Value) (xs : List Vt) : Prop := ObjsIn VtC 3 base w v xs
theorem VtsIn.at {base : Nat} {w : World} {v : Value} {xs : List Vt} (h : VtsIn base w v xs) : VtsAt w v xs := by
  obtain ⟨css, ⟨ao, c, rfl, _, hc⟩, hl, hr⟩ := h
  refine ⟨ao, c, by rw [hl], fun j hj => ?_⟩
  have hj2 : j < css.length := by omega
  obtain ⟨_, a, rfl, _, h2, h3⟩ := hc j css[j] (List.getElem?_eq_getElem hj2)
  have e : css[j] = _ := hr j css[j] xs[j] (List.getElem?_eq_getElem hj2) (List.getElem?_eq_getElem hj)
  rw [e] at h3
  refine ⟨a, rfl, h2, h3 0 _ rfl, ?_, ?_⟩
  · rw [← add_add_off a _ 1 (by omega)]; exact h3 1 _ rfl
  · rw [← add_add_off a _ 2 (by omega)]; exact h3 2 _ rfl
def VtMax (_x : Vt) : Prop := True
def VtsMax (xs : List Vt) : Prop := xs.length ≤ maxLen ∧ ∀ x ∈ xs, VtMax x
def szVts (xs : List Vt) : Nat := xs.length
def VtRel (_W : World) (cs : List Value) (x : Vt) : Prop := cs = [.int .i64 x.process, .int .i64 x.kind, .int .i64 x.num] ∧ VtMax x
theorem RowOf.vt {W : World} {v : Value} {xs : List Vt} (h : RowOf 3 W v (VtRel W) xs) : VtsAt W v xs ∧ VtsMax xs := by
  obtain ⟨h0, ao, c, rfl, hc⟩ := h
  refine ⟨⟨ao, c, rfl, fun j hj => ?_⟩, h0, fun x hx => ?_⟩
  · obtain ⟨a, cs, rfl, h1, _, e', h3⟩ := hc j hj
    obtain ⟨e, hm⟩ := e'
    rw [e] at h3
    refine ⟨a, rfl, h1, ?_, ?_, ?_⟩
    · have := h3 0 _ rfl
      rwa [add_nil] at this
    · have := h3 1 _ rfl
      rwa [add_some _ 1 (by omega)] at this
    · have := h3 2 _ rfl
      rwa [add_some _ 2 (by omega)] at this
  · obtain ⟨j, hj, rfl⟩ := List.getElem_of_mem hx
    obtain ⟨a, cs, _, _, _, e', _⟩ := hc j hj
    obtain ⟨e, hm⟩ := e'
    exact hm
theorem cells_vt : Try.prog.cellsOf 107 = 3 := by kernel_rfl
section
variable {H : Type} {enc : TypeId × Value → H} {W : World}
set_option maxRecDepth 100000 in
theorem opens_vt (fuel : Nat) (cs : List Value) (x : DataW H × List MemPlace) (h : DataW.trod enc Try.prog W 0 (fun _ => true) true fuel 107 cs = some x) : ∃ y, VtRel W cs y := by
  obtain ⟨ys, k, _, _, hcl, hyl, hf⟩ := DataW.trod_struct Try.underlying107 h
  rw [cells_vt] at hcl
  match ys, hyl, cs, hcl with
  | [y0, y1, y2], _, [v0, v1, v2], _ =>
    have g0 := hf 0 _ rfl
    have g1 := hf 1 _ rfl
    have g2 := hf 2 _ rfl
    simp [cells_int] at g0 g1 g2
    obtain ⟨k0, e0⟩ := opens_int _ _ _ g0
    simp [IntRel] at e0
    subst e0
    obtain ⟨k1, e1⟩ := opens_int _ _ _ g1
    simp [IntRel] at e1
    subst e1
    obtain ⟨k2, e2⟩ := opens_int _ _ _ g2
    simp [IntRel] at e2
    subst e2
    exact ⟨⟨k0, k1, k2⟩, rfl, trivial⟩
theorem opens_vts (fuel : Nat) (cs : List Value) (x : DataW H × List MemPlace) (h : DataW.trod enc Try.prog W 0 (fun _ => true) true fuel 31 cs = some x) : ∃ v ys, cs = [v] ∧ VtsAt W v ys ∧ VtsMax ys := by
  obtain ⟨v, ys, e, hr⟩ := opens_row Try.underlying31 cells_vt (by omega) opens_vt h
  exact ⟨v, ys, e, hr.vt⟩
end
theorem vtsR_of {H : Type} {enc : TypeId × Value → H} {W : World} {v : Value} {d : DataW H} {ps : List MemPlace}
    (h : DataW.Trod enc Try.prog W 0 (fun _ => true) true 31 v d ps) (hv : ∃ a len cap, v = .slice a len cap) : ∃ xs, VtsAt W v xs ∧ VtsMax xs := by
  obtain ⟨a, len, cap, rfl⟩ := hv
  obtain ⟨fuel, hf⟩ := h
  obtain ⟨v, ys, e, h1, h2⟩ := opens_vts _ _ _ hf
  simp [Value.cells] at e
  subst e
  exact ⟨ys, h1, h2⟩
theorem Try.infoVt : (Try.prog.info? 105).map (fun i => (i.zero, i.size, i.bytes)) = some (some (.agg #[.int .i64 0, .int .i64 0, .int .i64 0]), 3, 24) := by kernel_rfl
set_option maxHeartbeats 1000000 in
theorem toEvent_any (x : Vt) (w : World) :
    Calls Try.prog 52 #[.agg #[.int .i64 x.process, .int .i64 x.kind, .int .i64 x.num]] w fun e w' => e = .returned (.agg #[.int .i64 x.process, .int .i64 x.kind, .int .i64 x.num]) ∧ Below w.heap.size w w' := by
  go_enter Try.func52, Try.ntmps52
  go_wp2
  go_returns
  exact ⟨rfl, by go_grown⟩

set_option maxRecDepth 100000 in
set_option maxHeartbeats 2000000 in
theorem toEventS_any (v : Value) (xs : List Vt) (w : World) (h : VtsAt w v xs) (hlen : xs.length ≤ 1048576) :
    Calls Try.prog 27 #[v] w fun e w' => ∃ v', e = .returned v' ∧ VtsIn w.heap.size w' v' xs ∧ Below w.heap.size w w' := by
  obtain ⟨i0, hi, hz0, hz1, hz2⟩ := info_parts (Try.infoVt)
  obtain ⟨wm, hmk, hown, hgr⟩ := run_make_full (P := Try.prog) w w.heap.size 44 105 i0 _ 3 Try.underlying44 hi hz0 hz1 .i64 .i64 xs.length (by rw [hz2]; omega) (by unfold maxLen; omega) (Nat.le_refl _)
  have HS : Hid (Filled VtC 3 105 w xs 0 wm) := Filled.start VtC xs [.int .i64 0, .int .i64 0, .int .i64 0] (by decide) hown hgr
  have HC := hide h
  obtain ⟨ao, c, rfl, _⟩ := h
  clear hown hgr hi hz0 hz1 hz2
  obtain ⟨n, en⟩ : ∃ n, xs.length = n := ⟨_, rfl⟩
  have EN := hide en
  rw [en] at hmk hlen HC ⊢
  clear en
  go_enter Try.func27, Try.ntmps27
  go_wp2
  go_loopw [4] (FillR VtC 3 105 w xs) (fun iv _ => n - (intOf iv).toNat)
  case atStart => exact ⟨0, Nat.zero_le _, rfl, HS.out⟩
  case round =>
    obtain ⟨k, hk, rfl, HF⟩ := hrel
    rw [EN.out] at hk
    by_cases hlt : k < n
    · have hlt' : (k : Int) < (n : Int) := by omega
      have hi0 : (0 : Int) ≤ (k : Int) := by omega
      have hkx : k < xs.length := by rw [EN.out]; exact hlt
      obtain ⟨ao', cc, e5, hc⟩ := HC.out.stays HF.out.below
      injection e5 with e6 e7 e8
      subst e6
      obtain ⟨a, rfl, hab, hcell⟩ := hc k hkx
      obtain ⟨p, hpa⟩ : ∃ p, a.add (k * 3) = p := ⟨_, rfl⟩
      rw [hpa] at hcell
      obtain ⟨d0, d1, d2⟩ := hcell
      have C := hide (toEvent_any xs[k] wr)
      have HX : Hid (∀ y wz, y.length = 3 → VtC (w.heap.size + 1) wz y xs[k] → Filled VtC 3 105 w xs k wz → Filled VtC 3 105 w xs (k + 1) (wz.setCells w.heap.size (k * 3) y)) := fun y wz hy hR hf => hf.next hkx hy hR
      have HT : Hid (∀ wz, Filled VtC 3 105 w xs k wz → ∀ j, j < 3 → (∃ u, wz.cell? ⟨w.heap.size, k * 3 + j, none⟩ = some u) ∧ wz.frozen? ⟨w.heap.size, k * 3 + j, none⟩ = false) := fun wz hf j hj => hf.there hkx j hj
      obtain ⟨x, ex⟩ : ∃ x, xs[k] = x := ⟨_, rfl⟩
      rw [ex] at d0 d1 d2 C HX
      clear ex e7 e8 hc
      go_wp2_with (go_at_call 52; refine (unhide C).mono ?_; rintro e w1 ⟨rfl, hb2⟩; have HF1 := hide (HF.out.stays hb2); have HV : Hid (VtC (w.heap.size + 1) w1 [.int .i64 x.process, .int .i64 x.kind, .int .i64 x.num] x) := rfl; obtain ⟨⟨u0, y0⟩, z0⟩ := HT.out _ HF1.out 0 (by decide); obtain ⟨⟨u1, y1⟩, z1⟩ := HT.out _ HF1.out 1 (by decide); obtain ⟨⟨u2, y2⟩, z2⟩ := HT.out _ HF1.out 2 (by decide); rw [Nat.add_zero] at y0 z0; clear hb2)
      have HR := hide (HX.out _ _ rfl HV.out HF1.out)
      go_roundw
      case rel => exact ⟨k + 1, by rw [EN.out]; omega, by go_num, HR.out⟩
      case measure => simp [intOf]; omega
    · have hlt' : ¬ (k : Int) < (n : Int) := by omega
      go_wp2
      go_ret
      exact ⟨_, rfl, by
        have := HF.out.done (by rw [EN.out]; omega)
        rwa [EN.out] at this, HF.out.below⟩
set_option maxRecDepth 100000 in
set_option maxHeartbeats 1000000 in
theorem eqEvent_same (x : Vt) (w : World) :
    Calls Try.prog 59 #[.agg #[.int .i64 x.process, .int .i64 x.kind, .int .i64 x.num], .agg #[.int .i64 x.process, .int .i64 x.kind, .int .i64 x.num]] w fun e w' => e = .returned (.bool true) ∧ Below w.heap.size w w' := by
  go_enter Try.func59, Try.ntmps59
  go_wp2
  go_ret
  exact ⟨rfl, by go_grown⟩
set_option maxRecDepth 100000 in
set_option maxHeartbeats 2000000 in
theorem eqEventS_same (v1 v2 : Value) (xs : List Vt) (w : World) (h1 : VtsAt w v1 xs) (h2 : VtsAt w v2 xs) (hl : xs.length ≤ 1048576) :
    Calls Try.prog 32 #[v1, v2] w fun e w' => e = .returned (.bool true) ∧ Below w.heap.size w w' := by
  have H1 := hide h1
  have H2 := hide h2
  obtain ⟨ao, c, rfl, _⟩ := h1
  obtain ⟨bo, d, rfl, _⟩ := h2
  obtain ⟨n, en⟩ : ∃ n, xs.length = n := ⟨_, rfl⟩
  have EN := hide en
  rw [en] at H1 H2 hl ⊢
  clear en
  go_enter Try.func32, Try.ntmps32
  go_wp2
  go_loopw [5] (SameR w n) (fun iv _ => n - (intOf iv).toNat)
  case atStart => exact ⟨0, by omega, rfl, Below.refl _ _⟩
  case round =>
    obtain ⟨i, hi, rfl, HB2⟩ := hrel
    by_cases hlt : i < n
    · have hlt' : (i : Int) < (n : Int) := by omega
      have hi0 : (0 : Int) ≤ (i : Int) := by omega
      have hix : i < xs.length := by rw [EN.out]; exact hlt
      obtain ⟨ao', c', e1, hc1⟩ := H1.out.stays HB2.out
      injection e1 with e2 e3 e4
      subst e2
      obtain ⟨bo', d', e1, hc2⟩ := H2.out.stays HB2.out
      injection e1 with e2 e5 e6
      subst e2
      obtain ⟨a, rfl, hpb, hx⟩ := hc1 i hix
      obtain ⟨b, rfl, hqb, hy⟩ := hc2 i hix
      obtain ⟨p, hpa⟩ : ∃ p, a.add (i * 3) = p := ⟨_, rfl⟩
      obtain ⟨q, hqa⟩ : ∃ q, b.add (i * 3) = q := ⟨_, rfl⟩
      rw [← block_add a (i * 3), hpa] at hpb
      rw [← block_add b (i * 3), hqa] at hqb
      rw [hpa] at hx
      rw [hqa] at hy
      obtain ⟨c0, c1, c2⟩ := hx
      obtain ⟨d0, d1, d2⟩ := hy
      have C := hide (eqEvent_same xs[i] wr.drew)
      obtain ⟨x, ex⟩ : ∃ x, xs[i] = x := ⟨_, rfl⟩
      rw [ex] at C c0 d0 c1 d1 c2 d2
      clear ex hc1 hc2 e3 e4 e5 e6
      go_wp2
      go_region_held3 (fun w' => w'.cell? p = some (.int .i64 x.process) ∧ w'.cell? { block := p.block, off := p.off + 1 } = some (.int .i64 x.kind) ∧ w'.cell? { block := p.block, off := p.off + 2 } = some (.int .i64 x.num) ∧ w'.cell? q = some (.int .i64 x.process) ∧ w'.cell? { block := q.block, off := q.off + 1 } = some (.int .i64 x.kind) ∧ w'.cell? { block := q.block, off := q.off + 2 } = some (.int .i64 x.num)) (first | go_keep | exact ⟨(hb1.cell (p := p) hpb).trans c0, (hb1.cell (p := { block := p.block, off := p.off + 1 }) hpb).trans c1, (hb1.cell (p := { block := p.block, off := p.off + 2 }) hpb).trans c2, (hb1.cell (p := q) hqb).trans d0, (hb1.cell (p := { block := q.block, off := q.off + 1 }) hqb).trans d1, (hb1.cell (p := { block := q.block, off := q.off + 2 }) hqb).trans d2⟩) ((go_at_call 59; refine (unhide C).mono ?_; rintro e w1 ⟨rfl, hb1⟩))
      all_goals go_wp2
      go_roundw
      case rel => exact ⟨i + 1, by omega, by go_num, HB2.out.drew.trans (hb1.mono HB2.out.drew.size)⟩
      case measure => simp [intOf]; omega
    · have hlt' : ¬ (i : Int) < (n : Int) := by omega
      go_wp2
      go_ret
      exact ⟨rfl, HB2.out⟩
set_option maxHeartbeats 1000000 in
theorem szEventS_any (v : Value) (xs : List Vt) (l : Int) (w : World) (h0 : 0 ≤ l) (h1 : l ≤ 1048576) (h : VtsAt w v xs) (hm : VtsMax xs) :
    Calls Try.prog 21 #[v, .int .i64 l] w fun e w' => ∃ r : Int, e = .returned (.int .i64 r) ∧ (r < 0 ∨ (0 ≤ r ∧ r + (szVts xs : Nat) = l)) ∧ Below w.heap.size w w' := by
  have hml := hm.1
  unfold maxLen at hml
  have HU : Hid (szVts xs = xs.length) := hide rfl
  obtain ⟨ao, c, rfl, _⟩ := h
  obtain ⟨n, en⟩ : ∃ n, xs.length = n := ⟨_, rfl⟩
  rw [en] at HU hml ⊢
  clear en hm
  have hw : wrap64 (l - (n : Int)) = l - (n : Int) := IntWalk.wrap64_in _ (by omega)
  by_cases hn : l - (n : Int) < 0
  · go_enter Try.func21, Try.ntmps21
    go_wp2
    go_ret
    exact ⟨-1, rfl, .inl (by omega), Below.refl _ _⟩
  · go_enter Try.func21, Try.ntmps21
    go_wp2
    go_ret
    exact ⟨l - (n : Int), rfl, .inr ⟨by omega, by rw [HU.out]; omega⟩, Below.refl _ _⟩
def fVt (i : Nat) : World → Value → Prop := (fun _ => IsN) i
theorem fVt_s (i : Nat) : Stab (fVt i) := by unfold fVt; infer_instance
theorem VtsIn.sh {base T : Nat} {w : World} {v : Value} {xs : List Vt} (h : VtsIn base w v xs) (hT : w.heap.size ≤ T) : ShR base T 3 fVt xs.length w v :=
  ObjsIn.sh h hT fun x _ cs e i u hu => by
    have e : cs = _ := e
    subst e
    match i, hu with
    | 0, hu => simp at hu; subst hu; exact ⟨_, rfl⟩
    | 1, hu => simp at hu; subst hu; exact ⟨_, rfl⟩
    | 2, hu => simp at hu; subst hu; exact ⟨_, rfl⟩
    | k + 3, hu => simp at hu

set_option maxRecDepth 100000 in
set_option maxHeartbeats 4000000 in
theorem turnEventT_any {B T n : Nat} (v : Value) (k0 : Int) (w : World) (h : ShR B T 3 fVt n w v) (hn : n ≤ 1048576) (hB : B ≤ w.heap.size) (hk0 : 0 < k0) (hk1 : k0 ≤ 1000000000000000) :
    Calls Try.prog 37 #[v, .int .i64 k0] w fun e w' => ∃ k, e = .returned (.int .i64 k) ∧ k0 ≤ k ∧ k ≤ k0 + (n : Int) * 3 ∧ Turn B T w w' := by
  have H := hide h
  obtain ⟨ao, c, rfl, _⟩ := h
  have HB := hide hB
  go_enter Try.func37, Try.ntmps37
  go_wp2
  go_loopw [5, 1] (fun iv kv wr => TuR B T 3 3 fVt n (.slice ao n c) k0 w iv kv wr) (fun iv _ _ => n - (intOf iv).toNat)
  case atStart => exact ⟨0, k0, Nat.zero_le _, rfl, rfl, Int.le_refl _, by omega, Turn.refl _ _ _, H.out⟩
  case round =>
    clear H
    obtain ⟨j, k, hj, rfl, rfl, hka, hkb, TU0, SH0⟩ := hrel
    by_cases hlt : j < n
    · have hi0 : (0 : Int) ≤ (j : Int) := by omega
      have hi1 : (j : Int) < (n : Int) := by omega
      have hkc : k ≤ 10000000000000000 := by omega
      have hkd : 0 < k := by omega
      obtain ⟨g, rfl⟩ : ∃ g, ao = some ⟨g, 0, none⟩ := by
        obtain ⟨ao2, c2, e, hc⟩ := SH0.out
        injection e with e1 _ _
        obtain ⟨g, e2, _⟩ := hc j hlt
        exact ⟨g, by rw [e1, e2]⟩
      have HLT := hide hlt
      obtain ⟨⟨u1, hc1, hu1⟩, hf1⟩ := SH0.out.look (i := 0) (o := j * 3) hlt (by decide) (rfl)
      clear hu1
      obtain ⟨⟨u2, hc2, hu2⟩, hf2⟩ := SH0.out.look (i := 1) (o := j * 3 + 1) hlt (by decide) (rfl)
      clear hu2
      obtain ⟨⟨u3, hc3, hu3⟩, hf3⟩ := SH0.out.look (i := 2) (o := j * 3 + 2) hlt (by decide) (rfl)
      clear hu3
      have TZ1 := hide (SH0.out.num (i := 0) (o := j * 3) hlt (by decide) (rfl) rfl (k))
      have TZ2 := hide (TZ1.out.trans ((SH0.out.turn TZ1.out (fun i _ => fVt_s i)).num (i := 1) (o := j * 3 + 1) hlt (by decide) (rfl) rfl (k + 1)))
      have TZ3 := hide (TZ2.out.trans ((SH0.out.turn TZ2.out (fun i _ => fVt_s i)).num (i := 2) (o := j * 3 + 2) hlt (by decide) (rfl) rfl (k + 1 + 1)))
      go_wp2
      go_roundw
      case rel => exact ⟨j + 1, _, by omega, by go_num, by first | rfl | go_num, by omega, by omega, TU0.out.trans TZ3.out, SH0.out.turn TZ3.out (fun i _ => fVt_s i)⟩
      case measure => simp [intOf]; omega
    · have hi1 : ¬ (j : Int) < (n : Int) := by omega
      have e : j = n := by omega
      subst e
      go_wp2
      go_ret
      exact ⟨_, rfl, hka, by omega, TU0.out⟩
/-- A row of them. -/
structure Rvt where
  row : List Vt
structure RvtAt (w : World) (v0 : Value) (x : Rvt) : Prop where
  a0 : VtsAt w v0 x.row
theorem RvtAt.stays {w w' : World} {v0 : Value} {x : Rvt} (h : RvtAt w v0 x) (hb : Below w.heap.size w w') : RvtAt w' v0 x := ⟨h.a0.stays hb⟩
structure RvtC (base : Nat) (w : World) (cs : List Value) (x : Rvt) : Prop where
  c : ∃ v0, cs = [v0] ∧ VtsIn base w v0 x.row
theorem RvtC.stays {base : Nat} {w w' : World} {cs : List Value} {x : Rvt} (h : RvtC base w cs x) (hb : Below w.heap.size w w') : RvtC base w' cs x := by
  obtain ⟨v0, e, h0⟩ := h.c
  exact ⟨v0, e, h0.kept (KeptFrom.below hb)⟩
theorem RvtC.at {base : Nat} {w : World} {v0 : Value} {x : Rvt} (h : RvtC base w [v0] x) : RvtAt w v0 x := by
  obtain ⟨v0', e, h0⟩ := h.c
  injection e with e0 _
  subst e0
  exact ⟨h0.at⟩
structure RvtMax (x : Rvt) : Prop where
  m0 : VtsMax x.row
structure RvtLen (x : Rvt) : Prop where
  l0 : x.row.length ≤ 1048576
def szRvt (x : Rvt) : Nat := szVts x.row
theorem szRvt_len {x : Rvt} (h : szRvt x ≤ 1048576) : RvtLen x := by
  unfold szRvt szVts at h
  exact ⟨by omega⟩
theorem szEventSR_any (x : Rvt) (v0 : Value) (l : Int) (w : World) (h0 : 0 ≤ l) (h1 : l ≤ 1048576) (k0 : VtsAt w v0 x.row) (hm : RvtMax x) :
    Calls Try.prog 21 #[v0, .int .i64 l] w fun e w' => ∃ r : Int, e = .returned (.int .i64 r) ∧ (r < 0 ∨ (0 ≤ r ∧ r + (szRvt x : Nat) = l)) ∧ Below w.heap.size w w' := szEventS_any v0 x.row l w h0 h1 k0 hm.m0
theorem toEventSR_any (x : Rvt) (v0 : Value) (w : World) (h0 : VtsAt w v0 x.row) (l0 : x.row.length ≤ 1048576) :
    Calls Try.prog 27 #[v0] w fun e w' => ∃ o0 n0 c0, e = .returned (.slice o0 n0 c0) ∧ RvtC w.heap.size w' [.slice o0 n0 c0] x ∧ Below w.heap.size w w' := by
  refine (toEventS_any v0 x.row w h0 l0).mono ?_
  rintro e w' ⟨v', rfl, hc, hb⟩
  obtain ⟨o, n, c, rfl⟩ := hc.form
  exact ⟨o, n, c, rfl, ⟨_, rfl, hc⟩, hb⟩
theorem eqEventSR_same (x : Rvt) (p0 q0 : Value) (w : World) (h0 : VtsAt w p0 x.row) (k0 : VtsAt w q0 x.row) (l0 : x.row.length ≤ 1048576) :
    Calls Try.prog 32 #[p0, q0] w fun e w' => e = .returned (.bool true) ∧ Below w.heap.size w w' := eqEventS_same p0 q0 x.row w h0 k0 l0
structure RvtSh (B T : Nat) (w : World) (v0 : Value) (x : Rvt) : Prop where
  s0 : ShR B T 3 fVt x.row.length w v0
theorem RvtSh.turn {B T B' T' : Nat} {w w' : World} {v0 : Value} {x : Rvt} (h : RvtSh B T w v0 x) (ht : Turn B' T' w w') : RvtSh B T w' v0 x := ⟨h.s0.turn ht fun i _ => fVt_s i⟩
theorem RvtSh.stays {B T : Nat} {w w' : World} {v0 : Value} {x : Rvt} (h : RvtSh B T w v0 x) (hb : Below w.heap.size w w') : RvtSh B T w' v0 x := h.turn (T' := 0) (Turn.below hb (Nat.le_refl _))
theorem RvtC.sh {base T : Nat} {w : World} {v0 : Value} {x : Rvt} (h : RvtC base w [v0] x) (hT : w.heap.size ≤ T) : RvtSh base T w v0 x := by
  obtain ⟨v0', e, h0⟩ := h.c
  injection e with e0 _
  subst e0
  exact ⟨VtsIn.sh h0 hT⟩
theorem turnEventSR_any {B T n0 : Nat} (v0 : Value) (k0 : Int) (w : World) (h0 : ShR B T 3 fVt n0 w v0) (l0 : n0 ≤ 1048576) (hB : B ≤ w.heap.size) (_hT : T ≤ w.heap.size) (hk0 : 0 < k0) (hk1 : k0 ≤ 100000000000000) :
    Calls Try.prog 37 #[v0, .int .i64 k0] w fun e w' => ∃ k, e = .returned (.int .i64 k) ∧ k0 ≤ k ∧ k ≤ k0 + 4194304 ∧ Turn B T w w' := by
  refine (turnEventT_any v0 k0 w h0 l0 hB hk0 (by omega)).mono ?_
  rintro e w' ⟨k, rfl, h1, h2, h3⟩
  exact ⟨k, rfl, h1, by omega, h3⟩
end Go.Proofs.Ytkoelibclihekaa
