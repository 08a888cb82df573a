/-
  A program that comes in: its reading.
-/
import Derived.Test.YtkoelibclihekaaLawJ
import Derived.Deep.Slices
import Derived.ProofKit
import Derived.OpenShut
import Derived.ChangeArms
import Derived.Test.YtkoelibclihekaaLawE
namespace Go.Proofs.Ytkoelibclihekaa
open Go.RowKit
open Go.ChangeShapes Go.WideShapes Go.ChangeAt Go.Deep

def NdRel (W : World) (cs : List Value) (x : Nd) : Prop := ∃ kv, cs = [.int .i64 x.kind, .int .i64 x.num, .string x.name, .string x.more, .string x.into, kv] ∧ IntsAt W kv x.kids ∧ NdMax x
theorem RowOf.nodes {W : World} {v : Value} {xs : List Nd} (h : RowOf 6 W v (NdRel W) xs) : NdsAt W v xs ∧ NdsMax xs := by
  obtain ⟨h0, ao, c, rfl, hc⟩ := h
  refine ⟨⟨ao, c, rfl, fun j hj => ?_⟩, h0, fun x hx => ?_⟩
  · obtain ⟨a, cs, rfl, h1, _, e', h3⟩ := hc j hj
    obtain ⟨kv, e, k_kv, hm⟩ := e'
    rw [e] at h3
    refine ⟨a, kv, rfl, h1, ?_, ?_, ?_, ?_, ?_, ?_, k_kv⟩
    · have := h3 0 _ rfl
      rwa [add_nil] at this
    · have := h3 1 _ rfl
      rwa [add_some _ 1 (by omega)] at this
    · have := h3 2 _ rfl
      rwa [add_some _ 2 (by omega)] at this
    · have := h3 3 _ rfl
      rwa [add_some _ 3 (by omega)] at this
    · have := h3 4 _ rfl
      rwa [add_some _ 4 (by omega)] at this
    · have := h3 5 _ rfl
      rwa [add_some _ 5 (by omega)] at this
  · obtain ⟨j, hj, rfl⟩ := List.getElem_of_mem hx
    obtain ⟨a, cs, _, _, _, e', _⟩ := hc j hj
    obtain ⟨kv, e, k_kv, hm⟩ := e'
    exact hm
def EnRel (_W : World) (cs : List Value) (x : En) : Prop := cs = [.string x.name, .string x.param, .int .i64 x.body] ∧ EnMax x
theorem RowOf.ents {W : World} {v : Value} {xs : List En} (h : RowOf 3 W v (EnRel W) xs) : EnsAt W v xs ∧ EnsMax xs := by
  obtain ⟨h0, ao, c, rfl, hc⟩ := h
  refine ⟨⟨ao, c, rfl, fun j hj => ?_⟩, h0, fun x hx => ?_⟩
  · obtain ⟨a, cs, rfl, h1, _, e', h3⟩ := hc j hj
    obtain ⟨e, hm⟩ := e'
    rw [e] at h3
    refine ⟨a, rfl, h1, ?_, ?_, ?_⟩
    · have := h3 0 _ rfl
      rwa [add_nil] at this
    · have := h3 1 _ rfl
      rwa [add_some _ 1 (by omega)] at this
    · have := h3 2 _ rfl
      rwa [add_some _ 2 (by omega)] at this
  · obtain ⟨j, hj, rfl⟩ := List.getElem_of_mem hx
    obtain ⟨a, cs, _, _, _, e', _⟩ := hc j hj
    obtain ⟨e, hm⟩ := e'
    exact hm
def MoRel (W : World) (cs : List Value) (x : Mo) : Prop := ∃ vv qv ev, cs = [.string x.name, vv, qv, ev] ∧ StrsAt W vv x.vars ∧ StrsAt W qv x.queues ∧ EnsAt W ev x.ents ∧ MoMax x
theorem RowOf.mons {W : World} {v : Value} {xs : List Mo} (h : RowOf 4 W v (MoRel W) xs) : MosAt W v xs ∧ MosMax xs := by
  obtain ⟨h0, ao, c, rfl, hc⟩ := h
  refine ⟨⟨ao, c, rfl, fun j hj => ?_⟩, h0, fun x hx => ?_⟩
  · obtain ⟨a, cs, rfl, h1, _, e', h3⟩ := hc j hj
    obtain ⟨vv, qv, ev, e, k_vv, k_qv, k_ev, hm⟩ := e'
    rw [e] at h3
    refine ⟨a, vv, qv, ev, rfl, h1, ?_, ?_, ?_, ?_, k_vv, k_qv, k_ev⟩
    · have := h3 0 _ rfl
      rwa [add_nil] at this
    · have := h3 1 _ rfl
      rwa [add_some _ 1 (by omega)] at this
    · have := h3 2 _ rfl
      rwa [add_some _ 2 (by omega)] at this
    · have := h3 3 _ rfl
      rwa [add_some _ 3 (by omega)] at this
  · obtain ⟨j, hj, rfl⟩ := List.getElem_of_mem hx
    obtain ⟨a, cs, _, _, _, e', _⟩ := hc j hj
    obtain ⟨vv, qv, ev, e, k_vv, k_qv, k_ev, hm⟩ := e'
    exact hm
def PrRel (W : World) (cs : List Value) (x : Pr) : Prop := ∃ uv vv, cs = [.string x.name, uv, vv, .int .i64 x.body] ∧ StrsAt W uv x.uses ∧ StrsAt W vv x.vars ∧ PrMax x
theorem RowOf.pros {W : World} {v : Value} {xs : List Pr} (h : RowOf 4 W v (PrRel W) xs) : PrsAt W v xs ∧ PrsMax xs := by
  obtain ⟨h0, ao, c, rfl, hc⟩ := h
  refine ⟨⟨ao, c, rfl, fun j hj => ?_⟩, h0, fun x hx => ?_⟩
  · obtain ⟨a, cs, rfl, h1, _, e', h3⟩ := hc j hj
    obtain ⟨uv, vv, e, k_uv, k_vv, hm⟩ := e'
    rw [e] at h3
    refine ⟨a, uv, vv, rfl, h1, ?_, ?_, ?_, ?_, k_uv, k_vv⟩
    · have := h3 0 _ rfl
      rwa [add_nil] at this
    · have := h3 1 _ rfl
      rwa [add_some _ 1 (by omega)] at this
    · have := h3 2 _ rfl
      rwa [add_some _ 2 (by omega)] at this
    · have := h3 3 _ rfl
      rwa [add_some _ 3 (by omega)] at this
  · obtain ⟨j, hj, rfl⟩ := List.getElem_of_mem hx
    obtain ⟨a, cs, _, _, _, e', _⟩ := hc j hj
    obtain ⟨uv, vv, e, k_uv, k_vv, hm⟩ := e'
    exact hm

theorem cells_nds : Try.prog.cellsOf 22 = 1 := by kernel_rfl
theorem cells_mos : Try.prog.cellsOf 23 = 1 := by kernel_rfl
theorem cells_prs : Try.prog.cellsOf 24 = 1 := by kernel_rfl
theorem cells_ens : Try.prog.cellsOf 124 = 1 := by kernel_rfl
theorem cells_nd : Try.prog.cellsOf 122 = 6 := by kernel_rfl
theorem cells_en : Try.prog.cellsOf 155 = 3 := by kernel_rfl
theorem cells_mo : Try.prog.cellsOf 126 = 4 := by kernel_rfl
theorem cells_pr : Try.prog.cellsOf 129 = 4 := by kernel_rfl
theorem cells_pg : Try.prog.cellsOf 26 = 3 := by kernel_rfl

section
variable {H : Type} {enc : TypeId × Value → H} {W : World}
set_option maxRecDepth 100000 in
theorem opens_nd (fuel : Nat) (cs : List Value) (x : DataW H × List MemPlace) (h : DataW.trod enc Try.prog W 0 (fun _ => true) true fuel 122 cs = some x) : ∃ y, NdRel W cs y := by
  obtain ⟨ys, k, _, _, hcl, hyl, hf⟩ := DataW.trod_struct Try.underlying122 h
  rw [cells_nd] at hcl
  match ys, hyl, cs, hcl with
  | [y0, y1, y2, y3, y4, y5], _, [v0, v1, v2, v3, v4, v5], _ =>
    have g0 := hf 0 _ rfl
    have g1 := hf 1 _ rfl
    have g2 := hf 2 _ rfl
    have g3 := hf 3 _ rfl
    have g4 := hf 4 _ rfl
    have g5 := hf 5 _ rfl
    simp [cells_int, cells_str, cells_ints] at g0 g1 g2 g3 g4 g5
    obtain ⟨k0, e0⟩ := opens_int _ _ _ g0
    simp [IntRel] at e0
    subst e0
    obtain ⟨k1, e1⟩ := opens_int _ _ _ g1
    simp [IntRel] at e1
    subst e1
    obtain ⟨k2, e2, b2⟩ := opens_str _ _ _ g2
    simp at e2
    subst e2
    obtain ⟨k3, e3, b3⟩ := opens_str _ _ _ g3
    simp at e3
    subst e3
    obtain ⟨k4, e4, b4⟩ := opens_str _ _ _ g4
    simp at e4
    subst e4
    obtain ⟨r5, k5, e5, a5, m5⟩ := opens_ints _ _ _ g5
    simp at e5
    subst e5
    exact ⟨⟨k0, k1, k2, k3, k4, k5⟩, _, rfl, a5, b2, b3, b4, m5⟩
set_option maxRecDepth 100000 in
theorem opens_en (fuel : Nat) (cs : List Value) (x : DataW H × List MemPlace) (h : DataW.trod enc Try.prog W 0 (fun _ => true) true fuel 155 cs = some x) : ∃ y, EnRel W cs y := by
  obtain ⟨ys, k, _, _, hcl, hyl, hf⟩ := DataW.trod_struct Try.underlying155 h
  rw [cells_en] at hcl
  match ys, hyl, cs, hcl with
  | [y0, y1, y2], _, [v0, v1, v2], _ =>
    have g0 := hf 0 _ rfl
    have g1 := hf 1 _ rfl
    have g2 := hf 2 _ rfl
    simp [cells_int, cells_str] at g0 g1 g2
    obtain ⟨k0, e0, b0⟩ := opens_str _ _ _ g0
    simp at e0
    subst e0
    obtain ⟨k1, e1, b1⟩ := opens_str _ _ _ g1
    simp at e1
    subst e1
    obtain ⟨k2, e2⟩ := opens_int _ _ _ g2
    simp [IntRel] at e2
    subst e2
    exact ⟨⟨k0, k1, k2⟩, rfl, b0, b1⟩
theorem opens_nds (fuel : Nat) (cs : List Value) (x : DataW H × List MemPlace) (h : DataW.trod enc Try.prog W 0 (fun _ => true) true fuel 22 cs = some x) : ∃ v ys, cs = [v] ∧ NdsAt W v ys ∧ NdsMax ys := by
  obtain ⟨v, ys, e, hr⟩ := opens_row Try.underlying22 cells_nd (by omega) opens_nd h
  exact ⟨v, ys, e, hr.nodes⟩
theorem opens_ens (fuel : Nat) (cs : List Value) (x : DataW H × List MemPlace) (h : DataW.trod enc Try.prog W 0 (fun _ => true) true fuel 124 cs = some x) : ∃ v ys, cs = [v] ∧ EnsAt W v ys ∧ EnsMax ys := by
  obtain ⟨v, ys, e, hr⟩ := opens_row Try.underlying124 cells_en (by omega) opens_en h
  exact ⟨v, ys, e, hr.ents⟩
set_option maxRecDepth 100000 in
theorem opens_mo (fuel : Nat) (cs : List Value) (x : DataW H × List MemPlace) (h : DataW.trod enc Try.prog W 0 (fun _ => true) true fuel 126 cs = some x) : ∃ y, MoRel W cs y := by
  obtain ⟨ys, k, _, _, hcl, hyl, hf⟩ := DataW.trod_struct Try.underlying126 h
  rw [cells_mo] at hcl
  match ys, hyl, cs, hcl with
  | [y0, y1, y2, y3], _, [v0, v1, v2, v3], _ =>
    have g0 := hf 0 _ rfl
    have g1 := hf 1 _ rfl
    have g2 := hf 2 _ rfl
    have g3 := hf 3 _ rfl
    simp [cells_str, cells_strs, cells_ens] at g0 g1 g2 g3
    obtain ⟨k0, e0, b0⟩ := opens_str _ _ _ g0
    simp at e0
    subst e0
    obtain ⟨r1, k1, e1, a1, m1⟩ := opens_strs _ _ _ g1
    simp at e1
    subst e1
    obtain ⟨r2, k2, e2, a2, m2⟩ := opens_strs _ _ _ g2
    simp at e2
    subst e2
    obtain ⟨r3, k3, e3, a3, m3⟩ := opens_ens _ _ _ g3
    simp at e3
    subst e3
    exact ⟨⟨k0, k1, k2, k3⟩, _, _, _, rfl, a1, a2, a3, b0, m1, m2, m3⟩
set_option maxRecDepth 100000 in
theorem opens_pr (fuel : Nat) (cs : List Value) (x : DataW H × List MemPlace) (h : DataW.trod enc Try.prog W 0 (fun _ => true) true fuel 129 cs = some x) : ∃ y, PrRel W cs y := by
  obtain ⟨ys, k, _, _, hcl, hyl, hf⟩ := DataW.trod_struct Try.underlying129 h
  rw [cells_pr] at hcl
  match ys, hyl, cs, hcl with
  | [y0, y1, y2, y3], _, [v0, v1, v2, v3], _ =>
    have g0 := hf 0 _ rfl
    have g1 := hf 1 _ rfl
    have g2 := hf 2 _ rfl
    have g3 := hf 3 _ rfl
    simp [cells_int, cells_str, cells_strs] at g0 g1 g2 g3
    obtain ⟨k0, e0, b0⟩ := opens_str _ _ _ g0
    simp at e0
    subst e0
    obtain ⟨r1, k1, e1, a1, m1⟩ := opens_strs _ _ _ g1
    simp at e1
    subst e1
    obtain ⟨r2, k2, e2, a2, m2⟩ := opens_strs _ _ _ g2
    simp at e2
    subst e2
    obtain ⟨k3, e3⟩ := opens_int _ _ _ g3
    simp [IntRel] at e3
    subst e3
    exact ⟨⟨k0, k1, k2, k3⟩, _, _, rfl, a1, a2, b0, m1, m2⟩
theorem opens_mos (fuel : Nat) (cs : List Value) (x : DataW H × List MemPlace) (h : DataW.trod enc Try.prog W 0 (fun _ => true) true fuel 23 cs = some x) : ∃ v ys, cs = [v] ∧ MosAt W v ys ∧ MosMax ys := by
  obtain ⟨v, ys, e, hr⟩ := opens_row Try.underlying23 cells_mo (by omega) opens_mo h
  exact ⟨v, ys, e, hr.mons⟩
theorem opens_prs (fuel : Nat) (cs : List Value) (x : DataW H × List MemPlace) (h : DataW.trod enc Try.prog W 0 (fun _ => true) true fuel 24 cs = some x) : ∃ v ys, cs = [v] ∧ PrsAt W v ys ∧ PrsMax ys := by
  obtain ⟨v, ys, e, hr⟩ := opens_row Try.underlying24 cells_pr (by omega) opens_pr h
  exact ⟨v, ys, e, hr.pros⟩
/-- A program as its cells. -/
def PgRel (W : World) (cs : List Value) (x : Pg) : Prop := ∃ nv mv pv, cs = [nv, mv, pv] ∧ NdsAt W nv x.nodes ∧ MosAt W mv x.mons ∧ PrsAt W pv x.pros ∧ PgMax x
set_option maxRecDepth 100000 in
theorem opens_pg (fuel : Nat) (cs : List Value) (x : DataW H × List MemPlace) (h : DataW.trod enc Try.prog W 0 (fun _ => true) true fuel 26 cs = some x) : ∃ y, PgRel W cs y := by
  obtain ⟨ys, k, _, _, hcl, hyl, hf⟩ := DataW.trod_struct Try.underlying26 h
  rw [cells_pg] at hcl
  match ys, hyl, cs, hcl with
  | [y0, y1, y2], _, [v0, v1, v2], _ =>
    have g0 := hf 0 _ rfl
    have g1 := hf 1 _ rfl
    have g2 := hf 2 _ rfl
    simp [cells_nds, cells_mos, cells_prs] at g0 g1 g2
    obtain ⟨r0, k0, e0, a0, m0⟩ := opens_nds _ _ _ g0
    simp at e0
    subst e0
    obtain ⟨r1, k1, e1, a1, m1⟩ := opens_mos _ _ _ g1
    simp at e1
    subst e1
    obtain ⟨r2, k2, e2, a2, m2⟩ := opens_prs _ _ _ g2
    simp at e2
    subst e2
    exact ⟨⟨k0, k1, k2⟩, _, _, _, rfl, a0, a1, a2, m0, m1, m2⟩
end
set_option maxRecDepth 100000 in
/-- A program that comes in as an argument. -/
theorem program_of {H : Type} {enc : TypeId × Value → H} {W : World} {base : Nat} {v : Value} {d : DataW H} {ps : List MemPlace}
    (ho : Value.okWide Try.prog W .any base 26 v) (h : DataW.Trod enc Try.prog W 0 (fun _ => true) true 26 v d ps) : ∃ nv mv pv x, v = .agg #[nv, mv, pv] ∧ NdsAt W nv x.nodes ∧ MosAt W mv x.mons ∧ PrsAt W pv x.pros ∧ PgMax x := by
  obtain ⟨cs, rfl, _⟩ := okWide_struct Try.underlying26 ho
  obtain ⟨fuel, hf⟩ := h
  obtain ⟨x, nv, mv, pv, e, h1⟩ := opens_pg _ _ _ hf
  have e2 : cs = #[nv, mv, pv] := by
    have : cs.toList = [nv, mv, pv] := e
    rw [← Array.toList_inj]
    exact this
  subst e2
  exact ⟨nv, mv, pv, x, rfl, h1⟩
end Go.Proofs.Ytkoelibclihekaa

namespace Go.Proofs.Ytkoelibclihekaa
open Go.RowKit

theorem le_sum {α : Type} (f : α → Nat) : ∀ (xs : List α) (x : α), x ∈ xs → f x ≤ (xs.map f).sum
  | y :: xs, x, h => by
    rw [List.map_cons, List.sum_cons]
    rcases List.mem_cons.1 h with h | h
    · subst h; omega
    · have := le_sum f xs x h; omega
theorem szStrs_len {xs : List ByteArray} (h : szStrs xs ≤ 1048576) : xs.length ≤ 1048576 := by
  unfold szStrs at h
  omega
theorem szPg_len {x : Pg} (h : szPg x ≤ 1048576) : PgLen x := by
  unfold szPg szNds szMos szPrs at h
  have hn : ∀ y ∈ x.nodes, szNd y ≤ 1048576 := fun y hy => by have := le_sum szNd x.nodes y hy; omega
  have hm : ∀ y ∈ x.mons, szMo y ≤ 1048576 := fun y hy => by have := le_sum szMo x.mons y hy; omega
  have hp : ∀ y ∈ x.pros, szPr y ≤ 1048576 := fun y hy => by have := le_sum szPr x.pros y hy; omega
  refine ⟨by omega, by omega, by omega, fun y hy => ?_, fun y hy => ?_, fun y hy => ?_⟩
  · have h1 := hn y hy
    unfold szNd at h1
    omega
  · have h1 := hm y hy
    unfold szMo at h1
    have h2 : szEns y.ents ≤ 1048576 := by omega
    unfold szEns at h2
    exact ⟨szStrs_len (by omega), szStrs_len (by omega), by omega⟩
  · have h1 := hp y hy
    unfold szPr at h1
    exact ⟨szStrs_len (by omega), szStrs_len (by omega)⟩

/-- A program at three values. -/
structure PgAt (w : World) (nv mv pv : Value) (x : Pg) : Prop where
  nodes : NdsAt w nv x.nodes
  mons : MosAt w mv x.mons
  pros : PrsAt w pv x.pros
theorem PgAt.stays {w w' : World} {nv mv pv : Value} {x : Pg} (h : PgAt w nv mv pv x) (hb : Below w.heap.size w w') : PgAt w' nv mv pv x := ⟨h.nodes.stays hb, h.mons.stays hb, h.pros.stays hb⟩
theorem ProgC.at {base : Nat} {w : World} {a b c : Value} {x : Pg} (h : ProgC base w [a, b, c] x) : PgAt w a b c x ∧ NdsRoom w a x.nodes.length := by
  obtain ⟨nv, mv, pv, e, h1, h2, h3⟩ := h
  injection e with e1 e2
  injection e2 with e2 e3
  injection e3 with e3 _
  subst e1 e2 e3
  exact ⟨⟨h1.at, h2.at, h3.at⟩, h1.room⟩

theorem eqProgram_at {w : World} {a b c a' b' c' : Value} {x : Pg} (h : PgAt w a b c x) (k : PgAt w a' b' c' x) (hL : PgLen x) :
    Calls Try.prog 28 #[.agg #[a, b, c], .agg #[a', b', c']] w fun e w' => e = .returned (.bool true) ∧ Below w.heap.size w w' :=
  eqProgram_same x a a' b b' c c' w h.nodes k.nodes h.mons k.mons h.pros k.pros hL
theorem toProgram_at {w : World} {nv mv pv : Value} {x : Pg} (h : PgAt w nv mv pv x) (hL : PgLen x) :
    Calls Try.prog 22 #[.agg #[nv, mv, pv]] w fun e w' => ∃ o0 n0 c0 o1 n1 c1 o2 n2 c2, e = .returned (.agg #[.slice o0 n0 c0, .slice o1 n1 c1, .slice o2 n2 c2]) ∧ ProgC w.heap.size w' [.slice o0 n0 c0, .slice o1 n1 c1, .slice o2 n2 c2] x ∧ Below w.heap.size w w' :=
  toProgram_any x nv mv pv w h.nodes h.mons h.pros hL

end Go.Proofs.Ytkoelibclihekaa
