/-
  Rows of the type Line, as the laws' own helpers take them.
-/
import Derived.Test.YtgmihgnbhjgghaaLawV
import Derived.Test.YtgmihgnbhjgghaaLawZ
import Derived.Test.YtgmihgnbhjgghaaLawJ
import Derived.Test.YtgmihgnbhjgghaaAidRow
import Derived.Test.YtgmihgnbhjgghaaFlR
import Derived.Test.YtgmihgnbhjgghaaInsX
namespace Go.Proofs.Ytgmihgnbhjgghaa
open Go.RowKit
open Go.ChangeShapes Go.WideShapes Go.ChangeAt Go.Deep

structure Ln where
  label : ByteArray
  op : Int
  a : Int
  b : Int
  c : Int
  target : ByteArray
instance : Inhabited Ln := ⟨⟨ByteArray.empty, 0, 0, 0, 0, ByteArray.empty⟩⟩
structure LnCell (w : World) (a : Addr) (x : Ln) : Prop where
  c0 : w.cell? a = some (.string x.label)
  c1 : w.cell? { block := a.block, off := a.off + 1 } = some (.int .i64 x.op)
  c2 : w.cell? { block := a.block, off := a.off + 2 } = some (.int .i64 x.a)
  c3 : w.cell? { block := a.block, off := a.off + 3 } = some (.int .i64 x.b)
  c4 : w.cell? { block := a.block, off := a.off + 4 } = some (.int .i64 x.c)
  c5 : w.cell? { block := a.block, off := a.off + 5 } = some (.string x.target)
theorem LnCell.stays {w w' : World} {a : Addr} {x : Ln} (h : LnCell w a x) (hb : Below w.heap.size w w') (ha : a.block < w.heap.size) : LnCell w' a x :=
  ⟨(hb.cell ha).trans h.c0, (hb.cell (p := { block := a.block, off := a.off + 1 }) ha).trans h.c1, (hb.cell (p := { block := a.block, off := a.off + 2 }) ha).trans h.c2, (hb.cell (p := { block := a.block, off := a.off + 3 }) ha).trans h.c3, (hb.cell (p := { block := a.block, off := a.off + 4 }) ha).trans h.c4, (hb.cell (p := { block := a.block, off := a.off + 5 }) ha).trans h.c5⟩
def LnsAt (w : World) (v : Value) (xs : List Ln) : Prop :=
  ∃ ao c, v = .slice ao xs.length c ∧ ∀ j (h : j < xs.length), ∃ a, ao = some a ∧ a.block < w.heap.size ∧ LnCell w (a.add (j * 6)) xs[j]
theorem LnsAt.stays {w w' : World} {v : Value} {xs : List Ln} (h : LnsAt w v xs) (hb : Below w.heap.size w w') : LnsAt w' v xs := by
  obtain ⟨ao, c, rfl, hc⟩ := h
  refine ⟨ao, c, rfl, fun j hj => ?_⟩
  obtain ⟨a, rfl, ha, hx⟩ := hc j hj
  exact ⟨a, rfl, Nat.lt_of_lt_of_le ha hb.size, hx.stays hb (by rw [block_add]; exact ha)⟩
def LnC (_base : Nat) (_w : World) (cs : List Value) (x : Ln) : Prop := cs = [.string x.label, .int .i64 x.op, .int .i64 x.a, .int .i64 x.b, .int .i64 x.c, .string x.target]
instance : Told LnC where
  kept := fun h _ => h
  mono := fun h _ => h
abbrev LnsIn (base : Nat) (w : World) (v : Value) (xs : List Ln) : Prop := ObjsIn LnC 6 base w v xs
theorem LnsIn.at {base : Nat} {w : World} {v : Value} {xs : List Ln} (h : LnsIn base w v xs) : LnsAt w v xs := by
  obtain ⟨css, ⟨ao, c, rfl, _, hc⟩, hl, hr⟩ := h
  refine ⟨ao, c, by rw [hl], fun j hj => ?_⟩
  have hj2 : j < css.length := by omega
  obtain ⟨_, a, rfl, _, h2, h3⟩ := hc j css[j] (List.getElem?_eq_getElem hj2)
  have e : css[j] = _ := hr j css[j] xs[j] (List.getElem?_eq_getElem hj2) (List.getElem?_eq_getElem hj)
  rw [e] at h3
  refine ⟨a, rfl, h2, h3 0 _ rfl, ?_, ?_, ?_, ?_, ?_⟩
  · rw [← add_add_off a _ 1 (by omega)]; exact h3 1 _ rfl
  · rw [← add_add_off a _ 2 (by omega)]; exact h3 2 _ rfl
  · rw [← add_add_off a _ 3 (by omega)]; exact h3 3 _ rfl
  · rw [← add_add_off a _ 4 (by omega)]; exact h3 4 _ rfl
  · rw [← add_add_off a _ 5 (by omega)]; exact h3 5 _ rfl
def LnMax (x : Ln) : Prop := x.label.size ≤ maxLen ∧ x.target.size ≤ maxLen
def LnsMax (xs : List Ln) : Prop := xs.length ≤ maxLen ∧ ∀ x ∈ xs, LnMax x
def szLn (x : Ln) : Nat := x.label.size + x.target.size
def szLns (xs : List Ln) : Nat := xs.length + (xs.map szLn).sum
def LnRel (_W : World) (cs : List Value) (x : Ln) : Prop := cs = [.string x.label, .int .i64 x.op, .int .i64 x.a, .int .i64 x.b, .int .i64 x.c, .string x.target] ∧ LnMax x
theorem RowOf.ln {W : World} {v : Value} {xs : List Ln} (h : RowOf 6 W v (LnRel W) xs) : LnsAt W v xs ∧ LnsMax xs := by
  obtain ⟨h0, ao, c, rfl, hc⟩ := h
  refine ⟨⟨ao, c, rfl, fun j hj => ?_⟩, h0, fun x hx => ?_⟩
  · obtain ⟨a, cs, rfl, h1, _, e', h3⟩ := hc j hj
    obtain ⟨e, hm⟩ := e'
    rw [e] at h3
    refine ⟨a, rfl, h1, ?_, ?_, ?_, ?_, ?_, ?_⟩
    · have := h3 0 _ rfl
      rwa [add_nil] at this
    · have := h3 1 _ rfl
      rwa [add_some _ 1 (by omega)] at this
    · have := h3 2 _ rfl
      rwa [add_some _ 2 (by omega)] at this
    · have := h3 3 _ rfl
      rwa [add_some _ 3 (by omega)] at this
    · have := h3 4 _ rfl
      rwa [add_some _ 4 (by omega)] at this
    · have := h3 5 _ rfl
      rwa [add_some _ 5 (by omega)] at this
  · obtain ⟨j, hj, rfl⟩ := List.getElem_of_mem hx
    obtain ⟨a, cs, _, _, _, e', _⟩ := hc j hj
    obtain ⟨e, hm⟩ := e'
    exact hm
theorem cells_ln : Try.prog.cellsOf 36 = 6 := by kernel_rfl
section
variable {H : Type} {enc : TypeId × Value → H} {W : World}
set_option maxRecDepth 100000 in
theorem opens_ln (fuel : Nat) (cs : List Value) (x : DataW H × List MemPlace) (h : DataW.trod enc Try.prog W 0 (fun _ => true) true fuel 36 cs = some x) : ∃ y, LnRel W cs y := by
  obtain ⟨ys, k, _, _, hcl, hyl, hf⟩ := DataW.trod_struct Try.underlying36 h
  rw [cells_ln] at hcl
  match ys, hyl, cs, hcl with
  | [y0, y1, y2], _, [v0, v1, v2, v3, v4, v5], _ =>
    have g0 := hf 0 _ rfl
    have g1 := hf 1 _ rfl
    have g2 := hf 2 _ rfl
    simp [cells_In, cells_str] at g0 g1 g2
    obtain ⟨k0, e0, b0⟩ := opens_str _ _ _ g0
    simp at e0
    subst e0
    obtain ⟨y, e1⟩ := opens_In _ _ _ g1
    simp at e1
    obtain ⟨rfl, rfl, rfl, rfl⟩ := e1
    obtain ⟨k5, e5, b5⟩ := opens_str _ _ _ g2
    simp at e5
    subst e5
    exact ⟨⟨k0, y.op, y.a, y.b, y.c, k5⟩, rfl, b0, b5⟩
theorem opens_lns (fuel : Nat) (cs : List Value) (x : DataW H × List MemPlace) (h : DataW.trod enc Try.prog W 0 (fun _ => true) true fuel 22 cs = some x) : ∃ v ys, cs = [v] ∧ LnsAt W v ys ∧ LnsMax ys := by
  obtain ⟨v, ys, e, hr⟩ := opens_row Try.underlying22 cells_ln (by omega) opens_ln h
  exact ⟨v, ys, e, hr.ln⟩
end
theorem lnsR_of {H : Type} {enc : TypeId × Value → H} {W : World} {v : Value} {d : DataW H} {ps : List MemPlace}
    (h : DataW.Trod enc Try.prog W 0 (fun _ => true) true 22 v d ps) (hv : ∃ a len cap, v = .slice a len cap) : ∃ xs, LnsAt W v xs ∧ LnsMax xs := by
  obtain ⟨a, len, cap, rfl⟩ := hv
  obtain ⟨fuel, hf⟩ := h
  obtain ⟨v, ys, e, h1, h2⟩ := opens_lns _ _ _ hf
  simp [Value.cells] at e
  subst e
  exact ⟨ys, h1, h2⟩
theorem Try.infoLn : (Try.prog.info? 39).map (fun i => (i.zero, i.size, i.bytes)) = some (some (.agg #[.string ⟨#[]⟩, .int .i64 0, .int .i64 0, .int .i64 0, .int .i64 0, .string ⟨#[]⟩]), 6, 64) := by kernel_rfl
set_option maxHeartbeats 1000000 in
theorem toLine_any (x : Ln) (w : World) :
    Calls Try.prog 19 #[.agg #[.string x.label, .int .i64 x.op, .int .i64 x.a, .int .i64 x.b, .int .i64 x.c, .string x.target]] w fun e w' => e = .returned (.agg #[.string x.label, .int .i64 x.op, .int .i64 x.a, .int .i64 x.b, .int .i64 x.c, .string x.target]) ∧ Below w.heap.size w w' := by
  go_enter Try.func19, Try.ntmps19
  go_wp2
  go_returns
  exact ⟨rfl, by go_grown⟩

set_option maxRecDepth 100000 in
set_option maxHeartbeats 2000000 in
theorem toLineS_any (v : Value) (xs : List Ln) (w : World) (h : LnsAt w v xs) (hlen : xs.length ≤ 1048576) :
    Calls Try.prog 8 #[v] w fun e w' => ∃ v', e = .returned v' ∧ LnsIn w.heap.size w' v' xs ∧ Below w.heap.size w w' := by
  obtain ⟨i0, hi, hz0, hz1, hz2⟩ := info_parts (Try.infoLn)
  obtain ⟨wm, hmk, hown, hgr⟩ := run_make_full (P := Try.prog) w w.heap.size 25 39 i0 _ 6 Try.underlying25 hi hz0 hz1 .i64 .i64 xs.length (by rw [hz2]; omega) (by unfold maxLen; omega) (Nat.le_refl _)
  have HS : Hid (Filled LnC 6 39 w xs 0 wm) := Filled.start LnC xs [.string ⟨#[]⟩, .int .i64 0, .int .i64 0, .int .i64 0, .int .i64 0, .string ⟨#[]⟩] (by decide) hown hgr
  have HC := hide h
  obtain ⟨ao, c, rfl, _⟩ := h
  clear hown hgr hi hz0 hz1 hz2
  obtain ⟨n, en⟩ : ∃ n, xs.length = n := ⟨_, rfl⟩
  have EN := hide en
  rw [en] at hmk hlen HC ⊢
  clear en
  go_enter Try.func8, Try.ntmps8
  go_wp2
  go_loopw [4] (FillR LnC 6 39 w xs) (fun iv _ => n - (intOf iv).toNat)
  case atStart => exact ⟨0, Nat.zero_le _, rfl, HS.out⟩
  case round =>
    obtain ⟨k, hk, rfl, HF⟩ := hrel
    rw [EN.out] at hk
    by_cases hlt : k < n
    · have hlt' : (k : Int) < (n : Int) := by omega
      have hi0 : (0 : Int) ≤ (k : Int) := by omega
      have hkx : k < xs.length := by rw [EN.out]; exact hlt
      obtain ⟨ao', cc, e5, hc⟩ := HC.out.stays HF.out.below
      injection e5 with e6 e7 e8
      subst e6
      obtain ⟨a, rfl, hab, hcell⟩ := hc k hkx
      obtain ⟨p, hpa⟩ : ∃ p, a.add (k * 6) = p := ⟨_, rfl⟩
      rw [hpa] at hcell
      obtain ⟨d0, d1, d2, d3, d4, d5⟩ := hcell
      have C := hide (toLine_any xs[k] wr)
      have HX : Hid (∀ y wz, y.length = 6 → LnC (w.heap.size + 1) wz y xs[k] → Filled LnC 6 39 w xs k wz → Filled LnC 6 39 w xs (k + 1) (wz.setCells w.heap.size (k * 6) y)) := fun y wz hy hR hf => hf.next hkx hy hR
      have HT : Hid (∀ wz, Filled LnC 6 39 w xs k wz → ∀ j, j < 6 → (∃ u, wz.cell? ⟨w.heap.size, k * 6 + j, none⟩ = some u) ∧ wz.frozen? ⟨w.heap.size, k * 6 + j, none⟩ = false) := fun wz hf j hj => hf.there hkx j hj
      obtain ⟨x, ex⟩ : ∃ x, xs[k] = x := ⟨_, rfl⟩
      rw [ex] at d0 d1 d2 d3 d4 d5 C HX
      clear ex e7 e8 hc
      go_wp2_with (go_at_call 19; refine (unhide C).mono ?_; rintro e w1 ⟨rfl, hb2⟩; have HF1 := hide (HF.out.stays hb2); have HV : Hid (LnC (w.heap.size + 1) w1 [.string x.label, .int .i64 x.op, .int .i64 x.a, .int .i64 x.b, .int .i64 x.c, .string x.target] x) := rfl; obtain ⟨⟨u0, y0⟩, z0⟩ := HT.out _ HF1.out 0 (by decide); obtain ⟨⟨u1, y1⟩, z1⟩ := HT.out _ HF1.out 1 (by decide); obtain ⟨⟨u2, y2⟩, z2⟩ := HT.out _ HF1.out 2 (by decide); obtain ⟨⟨u3, y3⟩, z3⟩ := HT.out _ HF1.out 3 (by decide); obtain ⟨⟨u4, y4⟩, z4⟩ := HT.out _ HF1.out 4 (by decide); obtain ⟨⟨u5, y5⟩, z5⟩ := HT.out _ HF1.out 5 (by decide); rw [Nat.add_zero] at y0 z0; clear hb2)
      have HR := hide (HX.out _ _ rfl HV.out HF1.out)
      go_roundw
      case rel => exact ⟨k + 1, by rw [EN.out]; omega, by go_num, HR.out⟩
      case measure => simp [intOf]; omega
    · have hlt' : ¬ (k : Int) < (n : Int) := by omega
      go_wp2
      go_ret
      exact ⟨_, rfl, by
        have := HF.out.done (by rw [EN.out]; omega)
        rwa [EN.out] at this, HF.out.below⟩
set_option maxRecDepth 100000 in
set_option maxHeartbeats 1000000 in
theorem eqLine_same (x : Ln) (w : World) :
    Calls Try.prog 22 #[.agg #[.string x.label, .int .i64 x.op, .int .i64 x.a, .int .i64 x.b, .int .i64 x.c, .string x.target], .agg #[.string x.label, .int .i64 x.op, .int .i64 x.a, .int .i64 x.b, .int .i64 x.c, .string x.target]] w fun e w' => e = .returned (.bool true) ∧ Below w.heap.size w w' := by
  go_enter Try.func22, Try.ntmps22
  go_wp2
  go_ret
  exact ⟨rfl, by go_grown⟩
set_option maxRecDepth 100000 in
set_option maxHeartbeats 2000000 in
theorem eqLineS_same (v1 v2 : Value) (xs : List Ln) (w : World) (h1 : LnsAt w v1 xs) (h2 : LnsAt w v2 xs) (hl : xs.length ≤ 1048576) :
    Calls Try.prog 10 #[v1, v2] w fun e w' => e = .returned (.bool true) ∧ Below w.heap.size w w' := by
  have H1 := hide h1
  have H2 := hide h2
  obtain ⟨ao, c, rfl, _⟩ := h1
  obtain ⟨bo, d, rfl, _⟩ := h2
  obtain ⟨n, en⟩ : ∃ n, xs.length = n := ⟨_, rfl⟩
  have EN := hide en
  rw [en] at H1 H2 hl ⊢
  clear en
  go_enter Try.func10, Try.ntmps10
  go_wp2
  go_loopw [5] (SameR w n) (fun iv _ => n - (intOf iv).toNat)
  case atStart => exact ⟨0, by omega, rfl, Below.refl _ _⟩
  case round =>
    obtain ⟨i, hi, rfl, HB2⟩ := hrel
    by_cases hlt : i < n
    · have hlt' : (i : Int) < (n : Int) := by omega
      have hi0 : (0 : Int) ≤ (i : Int) := by omega
      have hix : i < xs.length := by rw [EN.out]; exact hlt
      obtain ⟨ao', c', e1, hc1⟩ := H1.out.stays HB2.out
      injection e1 with e2 e3 e4
      subst e2
      obtain ⟨bo', d', e1, hc2⟩ := H2.out.stays HB2.out
      injection e1 with e2 e5 e6
      subst e2
      obtain ⟨a, rfl, hpb, hx⟩ := hc1 i hix
      obtain ⟨b, rfl, hqb, hy⟩ := hc2 i hix
      obtain ⟨p, hpa⟩ : ∃ p, a.add (i * 6) = p := ⟨_, rfl⟩
      obtain ⟨q, hqa⟩ : ∃ q, b.add (i * 6) = q := ⟨_, rfl⟩
      rw [← block_add a (i * 6), hpa] at hpb
      rw [← block_add b (i * 6), hqa] at hqb
      rw [hpa] at hx
      rw [hqa] at hy
      obtain ⟨c0, c1, c2, c3, c4, c5⟩ := hx
      obtain ⟨d0, d1, d2, d3, d4, d5⟩ := hy
      have C := hide (eqLine_same xs[i] wr.drew)
      obtain ⟨x, ex⟩ : ∃ x, xs[i] = x := ⟨_, rfl⟩
      rw [ex] at C c0 d0 c1 d1 c2 d2 c3 d3 c4 d4 c5 d5
      clear ex hc1 hc2 e3 e4 e5 e6
      go_wp2
      go_region_held3 (fun w' => w'.cell? p = some (.string x.label) ∧ w'.cell? { block := p.block, off := p.off + 1 } = some (.int .i64 x.op) ∧ w'.cell? { block := p.block, off := p.off + 2 } = some (.int .i64 x.a) ∧ w'.cell? { block := p.block, off := p.off + 3 } = some (.int .i64 x.b) ∧ w'.cell? { block := p.block, off := p.off + 4 } = some (.int .i64 x.c) ∧ w'.cell? { block := p.block, off := p.off + 5 } = some (.string x.target) ∧ w'.cell? q = some (.string x.label) ∧ w'.cell? { block := q.block, off := q.off + 1 } = some (.int .i64 x.op) ∧ w'.cell? { block := q.block, off := q.off + 2 } = some (.int .i64 x.a) ∧ w'.cell? { block := q.block, off := q.off + 3 } = some (.int .i64 x.b) ∧ w'.cell? { block := q.block, off := q.off + 4 } = some (.int .i64 x.c) ∧ w'.cell? { block := q.block, off := q.off + 5 } = some (.string x.target)) (first | go_keep | exact ⟨(hb1.cell (p := p) hpb).trans c0, (hb1.cell (p := { block := p.block, off := p.off + 1 }) hpb).trans c1, (hb1.cell (p := { block := p.block, off := p.off + 2 }) hpb).trans c2, (hb1.cell (p := { block := p.block, off := p.off + 3 }) hpb).trans c3, (hb1.cell (p := { block := p.block, off := p.off + 4 }) hpb).trans c4, (hb1.cell (p := { block := p.block, off := p.off + 5 }) hpb).trans c5, (hb1.cell (p := q) hqb).trans d0, (hb1.cell (p := { block := q.block, off := q.off + 1 }) hqb).trans d1, (hb1.cell (p := { block := q.block, off := q.off + 2 }) hqb).trans d2, (hb1.cell (p := { block := q.block, off := q.off + 3 }) hqb).trans d3, (hb1.cell (p := { block := q.block, off := q.off + 4 }) hqb).trans d4, (hb1.cell (p := { block := q.block, off := q.off + 5 }) hqb).trans d5⟩) ((go_at_call 22; refine (unhide C).mono ?_; rintro e w1 ⟨rfl, hb1⟩))
      all_goals go_wp2
      go_roundw
      case rel => exact ⟨i + 1, by omega, by go_num, HB2.out.drew.trans (hb1.mono HB2.out.drew.size)⟩
      case measure => simp [intOf]; omega
    · have hlt' : ¬ (i : Int) < (n : Int) := by omega
      go_wp2
      go_ret
      exact ⟨rfl, HB2.out⟩
set_option maxRecDepth 100000 in
set_option maxHeartbeats 1000000 in
theorem szLine_any (x : Ln) (l : Int) (w : World) (h0 : 0 ≤ l) (h1 : l ≤ 1048576) (hm : LnMax x) :
    Calls Try.prog 15 #[.agg #[.string x.label, .int .i64 x.op, .int .i64 x.a, .int .i64 x.b, .int .i64 x.c, .string x.target], .int .i64 l] w fun e w' => ∃ r : Int, e = .returned (.int .i64 r) ∧ (r < 0 ∨ (0 ≤ r ∧ r + (szLn x : Nat) = l)) ∧ Below w.heap.size w w' := by
  have HM := hide hm
  have HU : Hid (szLn x = x.label.size + x.target.size) := rfl
  have B0 := hide (Box.made w #[.string x.label, .int .i64 x.op, .int .i64 x.a, .int .i64 x.b, .int .i64 x.c, .string x.target] 36)
  have BB : Hid (Below w.heap.size w (w.alloc (.cells #[.string x.label, .int .i64 x.op, .int .i64 x.a, .int .i64 x.b, .int .i64 x.c, .string x.target] 36))) := (Below.refl _ _).alloc (Nat.le_refl _) _
  have m0 : x.label.size ≤ 9223372036854775807 := hm.1
  have m1 : x.target.size ≤ 9223372036854775807 := hm.2
  clear hm
  have w0 : wrap64 (l - ((x.label.size : Nat) : Int)) = l - ((x.label.size : Nat) : Int) := IntWalk.wrap64_in _ (by omega)
  by_cases g0 : l < ((x.label.size : Nat) : Int)
  · have n0 : l - ((x.label.size : Nat) : Int) < 0 := by omega
    go_enter Try.func15, Try.ntmps15
    go_wp2
    go_ret
    exact ⟨-1, rfl, .inl (by omega), BB.out⟩
  have n0 : ¬ (l - ((x.label.size : Nat) : Int) < 0) := by omega
  have w1 : wrap64 (l - ((x.label.size : Nat) : Int) - ((x.target.size : Nat) : Int)) = l - ((x.label.size : Nat) : Int) - ((x.target.size : Nat) : Int) := IntWalk.wrap64_in _ (by omega)
  by_cases g1 : l - ((x.label.size : Nat) : Int) < ((x.target.size : Nat) : Int)
  · have n1 : l - ((x.label.size : Nat) : Int) - ((x.target.size : Nat) : Int) < 0 := by omega
    go_enter Try.func15, Try.ntmps15
    go_wp2
    go_ret
    exact ⟨-1, rfl, .inl (by omega), BB.out⟩
  have n1 : ¬ (l - ((x.label.size : Nat) : Int) - ((x.target.size : Nat) : Int) < 0) := by omega
  go_enter Try.func15, Try.ntmps15
  go_wp2
  go_ret
  exact ⟨l - ((x.label.size : Nat) : Int) - ((x.target.size : Nat) : Int), rfl, .inr ⟨by omega, by rw [HU.out]; omega⟩, BB.out⟩
set_option maxRecDepth 100000 in
set_option maxHeartbeats 2000000 in
theorem szLineS_any (v : Value) (xs : List Ln) (l : Int) (w : World) (h0 : 0 ≤ l) (h1 : l ≤ 1048576) (h : LnsAt w v xs) (hm : LnsMax xs) :
    Calls Try.prog 6 #[v, .int .i64 l] w fun e w' => ∃ r : Int, e = .returned (.int .i64 r) ∧ (r < 0 ∨ (0 ≤ r ∧ r + (szLns xs : Nat) = l)) ∧ Below w.heap.size w w' := by
  have HC := hide h
  have HM := hide hm.2
  have hlen : xs.length ≤ 9223372036854775807 := hm.1
  obtain ⟨ao, c, rfl, _⟩ := h
  clear hm
  obtain ⟨n, en⟩ : ∃ n, xs.length = n := ⟨_, rfl⟩
  have EN := hide en
  rw [en] at HC hlen ⊢
  clear en
  have hw : wrap64 (l - (n : Int)) = l - (n : Int) := IntWalk.wrap64_in _ (by omega)
  by_cases hn : l < (n : Int)
  · have hn' : l - (n : Int) < 0 := by omega
    go_enter Try.func6, Try.ntmps6
    go_wp2
    go_ret
    exact ⟨-1, rfl, .inl (by omega), Below.refl _ _⟩
  · have hn' : ¬ (l - (n : Int) < 0) := by omega
    go_enter Try.func6, Try.ntmps6
    go_wp2
    go_loopw [5, 1] (SzR w n l (fun k => ((xs.take k).map szLn).sum)) (fun iv _ _ => n - (intOf iv).toNat)
    case atStart => exact ⟨0, _, Nat.zero_le _, rfl, rfl, by omega, by omega, by show _ = _; simp, Below.refl _ _⟩
    case round =>
      obtain ⟨k, l', hk, rfl, rfl, hl0, hl1, HS, HB⟩ := hrel
      by_cases hlt : k < n
      · have hlt' : (k : Int) < (n : Int) := by omega
        have hi0 : (0 : Int) ≤ (k : Int) := by omega
        have hkx : k < xs.length := by rw [EN.out]; exact hlt
        obtain ⟨ao', cc, e5, hc⟩ := HC.out.stays HB.out
        injection e5 with e6 e7 e8
        subst e6
        obtain ⟨a, rfl, hab, hcell⟩ := hc k hkx
        obtain ⟨p, hpa⟩ : ∃ p, a.add (k * 6) = p := ⟨_, rfl⟩
        rw [hpa] at hcell
        obtain ⟨d0, d1, d2, d3, d4, d5⟩ := hcell
        have C := hide (szLine_any xs[k] l' wr hl0 hl1 (HM.out _ (List.getElem_mem hkx)))
        have HT : Hid (((xs.take (k + 1)).map szLn).sum = ((xs.take k).map szLn).sum + szLn xs[k]) := by
          show _ = _
          rw [List.take_succ_eq_append_getElem hkx, List.map_append, List.sum_append]
          simp
        obtain ⟨x, ex⟩ : ∃ x, xs[k] = x := ⟨_, rfl⟩
        rw [ex] at C HT d0 d1 d2 d3 d4 d5
        clear ex e7 e8 hc
        go_wp2_with fail
        refine (unhide C).mono ?_
        rintro e w1 ⟨r, rfl, hr, hb1⟩
        have HB1 := hide (HB.out.trans (hb1.mono HB.out.size))
        clear hb1
        by_cases hr0 : r < 0
        · clear hr
          go_wp2
          go_ret
          exact ⟨-1, rfl, .inl (by omega), HB1.out⟩
        · obtain ⟨e0, e1⟩ := hr.resolve_left hr0
          have E1 := hide e1
          have hr1 : r ≤ 1048576 := by omega
          clear hr e1
          go_wp2
          go_roundw
          case rel => exact ⟨k + 1, r, by omega, by go_num, rfl, by omega, by omega, by
            have h1 := HS.out
            (try dsimp only at h1)
            have h2 := HT.out
            have h3 := E1.out
            show _ = _
            (try dsimp only)
            omega, HB1.out⟩
          case measure => simp [intOf]; omega
      · have hlt' : ¬ (k : Int) < (n : Int) := by omega
        go_wp2
        go_ret
        exact ⟨l', rfl, .inr ⟨hl0, by
          have h1 := HS.out
          (try dsimp only at h1)
          rw [List.take_of_length_le (by rw [EN.out]; omega)] at h1
          rw [szLns, EN.out]
          omega⟩, HB.out⟩
def fLn (i : Nat) : World → Value → Prop := if i = 0 then IsS else if i = 5 then IsS else IsN
theorem fLn_s (i : Nat) : Stab (fLn i) := by unfold fLn; repeat (first | infer_instance | split)
theorem LnsIn.sh {base T : Nat} {w : World} {v : Value} {xs : List Ln} (h : LnsIn base w v xs) (hT : w.heap.size ≤ T) : ShR base T 6 fLn xs.length w v :=
  ObjsIn.sh h hT fun x _ cs e i u hu => by
    have e : cs = _ := e
    subst e
    match i, hu with
    | 0, hu => simp at hu; subst hu; exact ⟨_, rfl⟩
    | 1, hu => simp at hu; subst hu; exact ⟨_, rfl⟩
    | 2, hu => simp at hu; subst hu; exact ⟨_, rfl⟩
    | 3, hu => simp at hu; subst hu; exact ⟨_, rfl⟩
    | 4, hu => simp at hu; subst hu; exact ⟨_, rfl⟩
    | 5, hu => simp at hu; subst hu; exact ⟨_, rfl⟩
    | k + 6, hu => simp at hu

/-- A row of them. -/
structure Rln where
  row : List Ln
structure RlnAt (w : World) (v0 : Value) (x : Rln) : Prop where
  a0 : LnsAt w v0 x.row
theorem RlnAt.stays {w w' : World} {v0 : Value} {x : Rln} (h : RlnAt w v0 x) (hb : Below w.heap.size w w') : RlnAt w' v0 x := ⟨h.a0.stays hb⟩
structure RlnC (base : Nat) (w : World) (cs : List Value) (x : Rln) : Prop where
  c : ∃ v0, cs = [v0] ∧ LnsIn base w v0 x.row
theorem RlnC.stays {base : Nat} {w w' : World} {cs : List Value} {x : Rln} (h : RlnC base w cs x) (hb : Below w.heap.size w w') : RlnC base w' cs x := by
  obtain ⟨v0, e, h0⟩ := h.c
  exact ⟨v0, e, h0.kept (KeptFrom.below hb)⟩
theorem RlnC.at {base : Nat} {w : World} {v0 : Value} {x : Rln} (h : RlnC base w [v0] x) : RlnAt w v0 x := by
  obtain ⟨v0', e, h0⟩ := h.c
  injection e with e0 _
  subst e0
  exact ⟨h0.at⟩
structure RlnMax (x : Rln) : Prop where
  m0 : LnsMax x.row
structure RlnLen (x : Rln) : Prop where
  l0 : x.row.length ≤ 1048576
def szRln (x : Rln) : Nat := szLns x.row
theorem szRln_len {x : Rln} (h : szRln x ≤ 1048576) : RlnLen x := by
  unfold szRln szLns at h
  exact ⟨by omega⟩
theorem szLineSR_any (x : Rln) (v0 : Value) (l : Int) (w : World) (h0 : 0 ≤ l) (h1 : l ≤ 1048576) (k0 : LnsAt w v0 x.row) (hm : RlnMax x) :
    Calls Try.prog 6 #[v0, .int .i64 l] w fun e w' => ∃ r : Int, e = .returned (.int .i64 r) ∧ (r < 0 ∨ (0 ≤ r ∧ r + (szRln x : Nat) = l)) ∧ Below w.heap.size w w' := szLineS_any v0 x.row l w h0 h1 k0 hm.m0
theorem toLineSR_any (x : Rln) (v0 : Value) (w : World) (h0 : LnsAt w v0 x.row) (l0 : x.row.length ≤ 1048576) :
    Calls Try.prog 8 #[v0] w fun e w' => ∃ o0 n0 c0, e = .returned (.slice o0 n0 c0) ∧ RlnC w.heap.size w' [.slice o0 n0 c0] x ∧ Below w.heap.size w w' := by
  refine (toLineS_any v0 x.row w h0 l0).mono ?_
  rintro e w' ⟨v', rfl, hc, hb⟩
  obtain ⟨o, n, c, rfl⟩ := hc.form
  exact ⟨o, n, c, rfl, ⟨_, rfl, hc⟩, hb⟩
theorem eqLineSR_same (x : Rln) (p0 q0 : Value) (w : World) (h0 : LnsAt w p0 x.row) (k0 : LnsAt w q0 x.row) (l0 : x.row.length ≤ 1048576) :
    Calls Try.prog 10 #[p0, q0] w fun e w' => e = .returned (.bool true) ∧ Below w.heap.size w w' := eqLineS_same p0 q0 x.row w h0 k0 l0
structure RlnSh (B T : Nat) (w : World) (v0 : Value) (x : Rln) : Prop where
  s0 : ShR B T 6 fLn x.row.length w v0
theorem RlnSh.turn {B T B' T' : Nat} {w w' : World} {v0 : Value} {x : Rln} (h : RlnSh B T w v0 x) (ht : Turn B' T' w w') : RlnSh B T w' v0 x := ⟨h.s0.turn ht fun i _ => fLn_s i⟩
theorem RlnSh.stays {B T : Nat} {w w' : World} {v0 : Value} {x : Rln} (h : RlnSh B T w v0 x) (hb : Below w.heap.size w w') : RlnSh B T w' v0 x := h.turn (T' := 0) (Turn.below hb (Nat.le_refl _))
theorem RlnC.sh {base T : Nat} {w : World} {v0 : Value} {x : Rln} (h : RlnC base w [v0] x) (hT : w.heap.size ≤ T) : RlnSh base T w v0 x := by
  obtain ⟨v0', e, h0⟩ := h.c
  injection e with e0 _
  subst e0
  exact ⟨LnsIn.sh h0 hT⟩
end Go.Proofs.Ytgmihgnbhjgghaa
