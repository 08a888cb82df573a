/-
  Rows of numbers and of texts that come in: their reading.
-/
import Derived.Test.YtdfahpachbhglaaGreatDoorLawZ
import Derived.Deep.Slices
import Derived.ProofKit
import Derived.OpenShut
import Derived.ChangeArms
namespace Go.Proofs.YtdfahpachbhglaaGreatDoor
open Go.RowKit
open Go.ChangeShapes Go.WideShapes Go.ChangeAt Go.Deep

/-- A row of things of s cells each, each told by a relation on its cells. -/
def RowOf {α : Type} (s : Nat) (W : World) (v : Value) (Rel : List Value → α → Prop) (ys : List α) : Prop :=
  ys.length ≤ maxLen ∧ ∃ ao c, v = .slice ao ys.length c ∧ ∀ j (h : j < ys.length), ∃ a cs', ao = some a ∧ a.block < W.heap.size ∧ cs'.length = s ∧ Rel cs' ys[j] ∧ ∀ i u, cs'[i]? = some u → W.cell? ((a.add (j * s)).add i) = some u

theorem opens_row {H : Type} {enc : TypeId × Value → H} {P : Program} {W : World} {α : Type} [Inhabited α] {Rel : List Value → α → Prop} {t e : TypeId} {s fuel : Nat} {cs : List Value} {x : DataW H × List MemPlace}
    (ht : P.underlying t = some (.slice e)) (hs : P.cellsOf e = s) (hpos : 0 < s) (hop : ∀ fuel cs x, DataW.trod enc P W 0 (fun _ => true) true fuel e cs = some x → ∃ y, Rel cs y)
    (h : DataW.trod enc P W 0 (fun _ => true) true fuel t cs = some x) : ∃ v ys, cs = [v] ∧ RowOf s W v Rel ys := by
  rcases open_slice ht h with ⟨rfl, _⟩ | ⟨a, len, c, m, n, D, Pl, rfl, _, hl, hm, hmm, _, hx⟩
  · exact ⟨_, [], rfl, by simp, none, 0, rfl, fun j hj => by simp at hj⟩
  · have hlm : len ≤ m := by rw [hmm]; simp; exact hl
    have hone : ∀ i, i < len → ∃ y : α, ∃ cs', a.block < W.heap.size ∧ cs'.length = s ∧ Rel cs' y ∧ ∀ i' u, cs'[i']? = some u → W.cell? ((a.add (i * s)).add i') = some u := by
      intro i hi
      obtain ⟨cs', h1, h2⟩ := hx i (by omega)
      rw [hs] at h1
      obtain ⟨_, hcl, hcell⟩ := World.cells?_some h1
      obtain ⟨y, hy⟩ := hop _ _ _ h2
      have hall : ∀ i' u, cs'[i']? = some u → W.cell? ((a.add (i * s)).add i') = some u := fun i' u hu => by
        have hi' := (List.getElem?_eq_some_iff.1 hu).1
        rw [hcell i' (by omega)]
        exact hu
      refine ⟨y, cs', ?_, hcl, hy, hall⟩
      have h0 : 0 < cs'.length := by omega
      have h3 := World.block_lt_of_cell? _ _ (hall 0 cs'[0] (List.getElem?_eq_getElem h0))
      rwa [block_add, block_add] at h3
    obtain ⟨f, hfx⟩ := choose_lt (α := α) hone
    refine ⟨_, (List.range len).map f, rfl, by simp; omega, some a, c, by simp, fun j hj => ?_⟩
    obtain ⟨cs', q1, q2, q3, q4⟩ := hfx j (by simpa using hj)
    exact ⟨a, cs', rfl, q1, q2, by simpa using q3, q4⟩
def IntRel (cs : List Value) (x : Int) : Prop := cs = [.int .i64 x]
def StrRel (cs : List Value) (x : ByteArray) : Prop := cs = [.string x] ∧ x.size ≤ maxLen
theorem add_nil (a : Addr) : a.add 0 = a := by simp [Addr.add]
theorem add_some (a : Addr) (n : Nat) (hn : 0 < n) : a.add n = { block := a.block, off := a.off + n } := by
  simp only [Addr.add]
  rw [if_neg (by omega)]
theorem RowOf.ints {W : World} {v : Value} {xs : List Int} (h : RowOf 1 W v IntRel xs) : IntsAt W v xs ∧ IntsMax xs := by
  obtain ⟨h0, ao, c, rfl, hc⟩ := h
  refine ⟨⟨ao, c, rfl, fun j hj => ?_⟩, h0⟩
  obtain ⟨a, cs, rfl, h1, _, e, h3⟩ := hc j hj
  rw [e] at h3
  exact ⟨a, rfl, h1, by have := h3 0 _ rfl; rwa [add_nil, Nat.mul_one] at this⟩
theorem RowOf.strs {W : World} {v : Value} {xs : List ByteArray} (h : RowOf 1 W v StrRel xs) : StrsAt W v xs ∧ StrsMax xs := by
  obtain ⟨h0, ao, c, rfl, hc⟩ := h
  refine ⟨⟨ao, c, rfl, fun j hj => ?_⟩, h0, fun x hx => ?_⟩
  · obtain ⟨a, cs, rfl, h1, _, e, h3⟩ := hc j hj
    rw [e.1] at h3
    exact ⟨a, rfl, h1, by have := h3 0 _ rfl; rwa [add_nil, Nat.mul_one] at this⟩
  · obtain ⟨j, hj, rfl⟩ := List.getElem_of_mem hx
    obtain ⟨a, cs, _, _, _, e, _⟩ := hc j hj
    exact e.2
theorem cells_int : Tryz.prog.cellsOf 3 = 1 := by kernel_rfl
theorem cells_str : Tryz.prog.cellsOf 9 = 1 := by kernel_rfl
theorem cells_ints : Tryz.prog.cellsOf 67 = 1 := by kernel_rfl
theorem cells_strs : Tryz.prog.cellsOf 42 = 1 := by kernel_rfl
section
variable {H : Type} {enc : TypeId × Value → H} {W : World}
theorem opens_int (fuel : Nat) (cs : List Value) (x : DataW H × List MemPlace) (h : DataW.trod enc Tryz.prog W 0 (fun _ => true) true fuel 3 cs = some x) : ∃ y, IntRel cs y := by
  obtain ⟨k, e, _⟩ := DataW.trod_int Tryz.underlying3 h
  exact ⟨k, e⟩
theorem opens_str (fuel : Nat) (cs : List Value) (x : DataW H × List MemPlace) (h : DataW.trod enc Tryz.prog W 0 (fun _ => true) true fuel 9 cs = some x) : ∃ y, StrRel cs y := by
  obtain ⟨k, e, _, hb⟩ := DataW.trod_string Tryz.underlying9 h
  exact ⟨k, e, hb⟩
instance : Inhabited ByteArray := ⟨ByteArray.empty⟩
theorem opens_ints (fuel : Nat) (cs : List Value) (x : DataW H × List MemPlace) (h : DataW.trod enc Tryz.prog W 0 (fun _ => true) true fuel 67 cs = some x) : ∃ v ys, cs = [v] ∧ IntsAt W v ys ∧ IntsMax ys := by
  obtain ⟨v, ys, e, hr⟩ := opens_row Tryz.underlying67 cells_int (by omega) opens_int h
  exact ⟨v, ys, e, hr.ints⟩
theorem opens_strs (fuel : Nat) (cs : List Value) (x : DataW H × List MemPlace) (h : DataW.trod enc Tryz.prog W 0 (fun _ => true) true fuel 42 cs = some x) : ∃ v ys, cs = [v] ∧ StrsAt W v ys ∧ StrsMax ys := by
  obtain ⟨v, ys, e, hr⟩ := opens_row Tryz.underlying42 cells_str (by omega) opens_str h
  exact ⟨v, ys, e, hr.strs⟩
end
end Go.Proofs.YtdfahpachbhglaaGreatDoor

namespace Go.Proofs.YtdfahpachbhglaaGreatDoor
open Go.RowKit
open Go.ChangeShapes Go.WideShapes Go.ChangeAt Go.Deep

def NdRel (W : World) (cs : List Value) (x : Nd) : Prop := ∃ kv, cs = [.int .i64 x.kind, .int .i64 x.num, .string x.name, .string x.more, .string x.into, kv] ∧ IntsAt W kv x.kids ∧ NdMax x
theorem RowOf.nodes {W : World} {v : Value} {xs : List Nd} (h : RowOf 6 W v (NdRel W) xs) : NdsAt W v xs ∧ NdsMax xs := by
  obtain ⟨h0, ao, c, rfl, hc⟩ := h
  refine ⟨⟨ao, c, rfl, fun j hj => ?_⟩, h0, fun x hx => ?_⟩
  · obtain ⟨a, cs, rfl, h1, _, e', h3⟩ := hc j hj
    obtain ⟨kv, e, k_kv, hm⟩ := e'
    rw [e] at h3
    refine ⟨a, kv, rfl, h1, ?_, ?_, ?_, ?_, ?_, ?_, k_kv⟩
    · have := h3 0 _ rfl
      rwa [add_nil] at this
    · have := h3 1 _ rfl
      rwa [add_some _ 1 (by omega)] at this
    · have := h3 2 _ rfl
      rwa [add_some _ 2 (by omega)] at this
    · have := h3 3 _ rfl
      rwa [add_some _ 3 (by omega)] at this
    · have := h3 4 _ rfl
      rwa [add_some _ 4 (by omega)] at this
    · have := h3 5 _ rfl
      rwa [add_some _ 5 (by omega)] at this
  · obtain ⟨j, hj, rfl⟩ := List.getElem_of_mem hx
    obtain ⟨a, cs, _, _, _, e', _⟩ := hc j hj
    obtain ⟨kv, e, k_kv, hm⟩ := e'
    exact hm
def EnRel (_W : World) (cs : List Value) (x : En) : Prop := cs = [.string x.name, .string x.param, .int .i64 x.body] ∧ EnMax x
theorem RowOf.ents {W : World} {v : Value} {xs : List En} (h : RowOf 3 W v (EnRel W) xs) : EnsAt W v xs ∧ EnsMax xs := by
  obtain ⟨h0, ao, c, rfl, hc⟩ := h
  refine ⟨⟨ao, c, rfl, fun j hj => ?_⟩, h0, fun x hx => ?_⟩
  · obtain ⟨a, cs, rfl, h1, _, e', h3⟩ := hc j hj
    obtain ⟨e, hm⟩ := e'
    rw [e] at h3
    refine ⟨a, rfl, h1, ?_, ?_, ?_⟩
    · have := h3 0 _ rfl
      rwa [add_nil] at this
    · have := h3 1 _ rfl
      rwa [add_some _ 1 (by omega)] at this
    · have := h3 2 _ rfl
      rwa [add_some _ 2 (by omega)] at this
  · obtain ⟨j, hj, rfl⟩ := List.getElem_of_mem hx
    obtain ⟨a, cs, _, _, _, e', _⟩ := hc j hj
    obtain ⟨e, hm⟩ := e'
    exact hm
def MoRel (W : World) (cs : List Value) (x : Mo) : Prop := ∃ vv qv ev, cs = [.string x.name, vv, qv, ev] ∧ StrsAt W vv x.vars ∧ StrsAt W qv x.queues ∧ EnsAt W ev x.ents ∧ MoMax x
theorem RowOf.mons {W : World} {v : Value} {xs : List Mo} (h : RowOf 4 W v (MoRel W) xs) : MosAt W v xs ∧ MosMax xs := by
  obtain ⟨h0, ao, c, rfl, hc⟩ := h
  refine ⟨⟨ao, c, rfl, fun j hj => ?_⟩, h0, fun x hx => ?_⟩
  · obtain ⟨a, cs, rfl, h1, _, e', h3⟩ := hc j hj
    obtain ⟨vv, qv, ev, e, k_vv, k_qv, k_ev, hm⟩ := e'
    rw [e] at h3
    refine ⟨a, vv, qv, ev, rfl, h1, ?_, ?_, ?_, ?_, k_vv, k_qv, k_ev⟩
    · have := h3 0 _ rfl
      rwa [add_nil] at this
    · have := h3 1 _ rfl
      rwa [add_some _ 1 (by omega)] at this
    · have := h3 2 _ rfl
      rwa [add_some _ 2 (by omega)] at this
    · have := h3 3 _ rfl
      rwa [add_some _ 3 (by omega)] at this
  · obtain ⟨j, hj, rfl⟩ := List.getElem_of_mem hx
    obtain ⟨a, cs, _, _, _, e', _⟩ := hc j hj
    obtain ⟨vv, qv, ev, e, k_vv, k_qv, k_ev, hm⟩ := e'
    exact hm
def PrRel (W : World) (cs : List Value) (x : Pr) : Prop := ∃ uv vv, cs = [.string x.name, uv, vv, .int .i64 x.body] ∧ StrsAt W uv x.uses ∧ StrsAt W vv x.vars ∧ PrMax x
theorem RowOf.pros {W : World} {v : Value} {xs : List Pr} (h : RowOf 4 W v (PrRel W) xs) : PrsAt W v xs ∧ PrsMax xs := by
  obtain ⟨h0, ao, c, rfl, hc⟩ := h
  refine ⟨⟨ao, c, rfl, fun j hj => ?_⟩, h0, fun x hx => ?_⟩
  · obtain ⟨a, cs, rfl, h1, _, e', h3⟩ := hc j hj
    obtain ⟨uv, vv, e, k_uv, k_vv, hm⟩ := e'
    rw [e] at h3
    refine ⟨a, uv, vv, rfl, h1, ?_, ?_, ?_, ?_, k_uv, k_vv⟩
    · have := h3 0 _ rfl
      rwa [add_nil] at this
    · have := h3 1 _ rfl
      rwa [add_some _ 1 (by omega)] at this
    · have := h3 2 _ rfl
      rwa [add_some _ 2 (by omega)] at this
    · have := h3 3 _ rfl
      rwa [add_some _ 3 (by omega)] at this
  · obtain ⟨j, hj, rfl⟩ := List.getElem_of_mem hx
    obtain ⟨a, cs, _, _, _, e', _⟩ := hc j hj
    obtain ⟨uv, vv, e, k_uv, k_vv, hm⟩ := e'
    exact hm

theorem cells_nds : Tryz.prog.cellsOf 22 = 1 := by kernel_rfl
theorem cells_mos : Tryz.prog.cellsOf 23 = 1 := by kernel_rfl
theorem cells_prs : Tryz.prog.cellsOf 24 = 1 := by kernel_rfl
theorem cells_ens : Tryz.prog.cellsOf 71 = 1 := by kernel_rfl
theorem cells_nd : Tryz.prog.cellsOf 69 = 6 := by kernel_rfl
theorem cells_en : Tryz.prog.cellsOf 115 = 3 := by kernel_rfl
theorem cells_mo : Tryz.prog.cellsOf 73 = 4 := by kernel_rfl
theorem cells_pr : Tryz.prog.cellsOf 75 = 4 := by kernel_rfl
theorem cells_pg : Tryz.prog.cellsOf 26 = 3 := by kernel_rfl

section
variable {H : Type} {enc : TypeId × Value → H} {W : World}
set_option maxRecDepth 100000 in
theorem opens_nd (fuel : Nat) (cs : List Value) (x : DataW H × List MemPlace) (h : DataW.trod enc Tryz.prog W 0 (fun _ => true) true fuel 69 cs = some x) : ∃ y, NdRel W cs y := by
  obtain ⟨ys, k, _, _, hcl, hyl, hf⟩ := DataW.trod_struct Tryz.underlying69 h
  rw [cells_nd] at hcl
  match ys, hyl, cs, hcl with
  | [y0, y1, y2, y3, y4, y5], _, [v0, v1, v2, v3, v4, v5], _ =>
    have g0 := hf 0 _ rfl
    have g1 := hf 1 _ rfl
    have g2 := hf 2 _ rfl
    have g3 := hf 3 _ rfl
    have g4 := hf 4 _ rfl
    have g5 := hf 5 _ rfl
    simp [cells_int, cells_str, cells_ints] at g0 g1 g2 g3 g4 g5
    obtain ⟨k0, e0⟩ := opens_int _ _ _ g0
    simp [IntRel] at e0
    subst e0
    obtain ⟨k1, e1⟩ := opens_int _ _ _ g1
    simp [IntRel] at e1
    subst e1
    obtain ⟨k2, e2, b2⟩ := opens_str _ _ _ g2
    simp at e2
    subst e2
    obtain ⟨k3, e3, b3⟩ := opens_str _ _ _ g3
    simp at e3
    subst e3
    obtain ⟨k4, e4, b4⟩ := opens_str _ _ _ g4
    simp at e4
    subst e4
    obtain ⟨r5, k5, e5, a5, m5⟩ := opens_ints _ _ _ g5
    simp at e5
    subst e5
    exact ⟨⟨k0, k1, k2, k3, k4, k5⟩, _, rfl, a5, b2, b3, b4, m5⟩
set_option maxRecDepth 100000 in
theorem opens_en (fuel : Nat) (cs : List Value) (x : DataW H × List MemPlace) (h : DataW.trod enc Tryz.prog W 0 (fun _ => true) true fuel 115 cs = some x) : ∃ y, EnRel W cs y := by
  obtain ⟨ys, k, _, _, hcl, hyl, hf⟩ := DataW.trod_struct Tryz.underlying115 h
  rw [cells_en] at hcl
  match ys, hyl, cs, hcl with
  | [y0, y1, y2], _, [v0, v1, v2], _ =>
    have g0 := hf 0 _ rfl
    have g1 := hf 1 _ rfl
    have g2 := hf 2 _ rfl
    simp [cells_int, cells_str] at g0 g1 g2
    obtain ⟨k0, e0, b0⟩ := opens_str _ _ _ g0
    simp at e0
    subst e0
    obtain ⟨k1, e1, b1⟩ := opens_str _ _ _ g1
    simp at e1
    subst e1
    obtain ⟨k2, e2⟩ := opens_int _ _ _ g2
    simp [IntRel] at e2
    subst e2
    exact ⟨⟨k0, k1, k2⟩, rfl, b0, b1⟩
theorem opens_nds (fuel : Nat) (cs : List Value) (x : DataW H × List MemPlace) (h : DataW.trod enc Tryz.prog W 0 (fun _ => true) true fuel 22 cs = some x) : ∃ v ys, cs = [v] ∧ NdsAt W v ys ∧ NdsMax ys := by
  obtain ⟨v, ys, e, hr⟩ := opens_row Tryz.underlying22 cells_nd (by omega) opens_nd h
  exact ⟨v, ys, e, hr.nodes⟩
theorem opens_ens (fuel : Nat) (cs : List Value) (x : DataW H × List MemPlace) (h : DataW.trod enc Tryz.prog W 0 (fun _ => true) true fuel 71 cs = some x) : ∃ v ys, cs = [v] ∧ EnsAt W v ys ∧ EnsMax ys := by
  obtain ⟨v, ys, e, hr⟩ := opens_row Tryz.underlying71 cells_en (by omega) opens_en h
  exact ⟨v, ys, e, hr.ents⟩
set_option maxRecDepth 100000 in
theorem opens_mo (fuel : Nat) (cs : List Value) (x : DataW H × List MemPlace) (h : DataW.trod enc Tryz.prog W 0 (fun _ => true) true fuel 73 cs = some x) : ∃ y, MoRel W cs y := by
  obtain ⟨ys, k, _, _, hcl, hyl, hf⟩ := DataW.trod_struct Tryz.underlying73 h
  rw [cells_mo] at hcl
  match ys, hyl, cs, hcl with
  | [y0, y1, y2, y3], _, [v0, v1, v2, v3], _ =>
    have g0 := hf 0 _ rfl
    have g1 := hf 1 _ rfl
    have g2 := hf 2 _ rfl
    have g3 := hf 3 _ rfl
    simp [cells_str, cells_strs, cells_ens] at g0 g1 g2 g3
    obtain ⟨k0, e0, b0⟩ := opens_str _ _ _ g0
    simp at e0
    subst e0
    obtain ⟨r1, k1, e1, a1, m1⟩ := opens_strs _ _ _ g1
    simp at e1
    subst e1
    obtain ⟨r2, k2, e2, a2, m2⟩ := opens_strs _ _ _ g2
    simp at e2
    subst e2
    obtain ⟨r3, k3, e3, a3, m3⟩ := opens_ens _ _ _ g3
    simp at e3
    subst e3
    exact ⟨⟨k0, k1, k2, k3⟩, _, _, _, rfl, a1, a2, a3, b0, m1, m2, m3⟩
set_option maxRecDepth 100000 in
theorem opens_pr (fuel : Nat) (cs : List Value) (x : DataW H × List MemPlace) (h : DataW.trod enc Tryz.prog W 0 (fun _ => true) true fuel 75 cs = some x) : ∃ y, PrRel W cs y := by
  obtain ⟨ys, k, _, _, hcl, hyl, hf⟩ := DataW.trod_struct Tryz.underlying75 h
  rw [cells_pr] at hcl
  match ys, hyl, cs, hcl with
  | [y0, y1, y2, y3], _, [v0, v1, v2, v3], _ =>
    have g0 := hf 0 _ rfl
    have g1 := hf 1 _ rfl
    have g2 := hf 2 _ rfl
    have g3 := hf 3 _ rfl
    simp [cells_int, cells_str, cells_strs] at g0 g1 g2 g3
    obtain ⟨k0, e0, b0⟩ := opens_str _ _ _ g0
    simp at e0
    subst e0
    obtain ⟨r1, k1, e1, a1, m1⟩ := opens_strs _ _ _ g1
    simp at e1
    subst e1
    obtain ⟨r2, k2, e2, a2, m2⟩ := opens_strs _ _ _ g2
    simp at e2
    subst e2
    obtain ⟨k3, e3⟩ := opens_int _ _ _ g3
    simp [IntRel] at e3
    subst e3
    exact ⟨⟨k0, k1, k2, k3⟩, _, _, rfl, a1, a2, b0, m1, m2⟩
theorem opens_mos (fuel : Nat) (cs : List Value) (x : DataW H × List MemPlace) (h : DataW.trod enc Tryz.prog W 0 (fun _ => true) true fuel 23 cs = some x) : ∃ v ys, cs = [v] ∧ MosAt W v ys ∧ MosMax ys := by
  obtain ⟨v, ys, e, hr⟩ := opens_row Tryz.underlying23 cells_mo (by omega) opens_mo h
  exact ⟨v, ys, e, hr.mons⟩
theorem opens_prs (fuel : Nat) (cs : List Value) (x : DataW H × List MemPlace) (h : DataW.trod enc Tryz.prog W 0 (fun _ => true) true fuel 24 cs = some x) : ∃ v ys, cs = [v] ∧ PrsAt W v ys ∧ PrsMax ys := by
  obtain ⟨v, ys, e, hr⟩ := opens_row Tryz.underlying24 cells_pr (by omega) opens_pr h
  exact ⟨v, ys, e, hr.pros⟩
/-- A program as its cells. -/
def PgRel (W : World) (cs : List Value) (x : Pg) : Prop := ∃ nv mv pv, cs = [nv, mv, pv] ∧ NdsAt W nv x.nodes ∧ MosAt W mv x.mons ∧ PrsAt W pv x.pros ∧ PgMax x
set_option maxRecDepth 100000 in
theorem opens_pg (fuel : Nat) (cs : List Value) (x : DataW H × List MemPlace) (h : DataW.trod enc Tryz.prog W 0 (fun _ => true) true fuel 26 cs = some x) : ∃ y, PgRel W cs y := by
  obtain ⟨ys, k, _, _, hcl, hyl, hf⟩ := DataW.trod_struct Tryz.underlying26 h
  rw [cells_pg] at hcl
  match ys, hyl, cs, hcl with
  | [y0, y1, y2], _, [v0, v1, v2], _ =>
    have g0 := hf 0 _ rfl
    have g1 := hf 1 _ rfl
    have g2 := hf 2 _ rfl
    simp [cells_nds, cells_mos, cells_prs] at g0 g1 g2
    obtain ⟨r0, k0, e0, a0, m0⟩ := opens_nds _ _ _ g0
    simp at e0
    subst e0
    obtain ⟨r1, k1, e1, a1, m1⟩ := opens_mos _ _ _ g1
    simp at e1
    subst e1
    obtain ⟨r2, k2, e2, a2, m2⟩ := opens_prs _ _ _ g2
    simp at e2
    subst e2
    exact ⟨⟨k0, k1, k2⟩, _, _, _, rfl, a0, a1, a2, m0, m1, m2⟩
end
set_option maxRecDepth 100000 in
/-- A program that comes in as an argument. -/
theorem program_of {H : Type} {enc : TypeId × Value → H} {W : World} {base : Nat} {v : Value} {d : DataW H} {ps : List MemPlace}
    (ho : Value.okWide Tryz.prog W .any base 26 v) (h : DataW.Trod enc Tryz.prog W 0 (fun _ => true) true 26 v d ps) : ∃ nv mv pv x, v = .agg #[nv, mv, pv] ∧ NdsAt W nv x.nodes ∧ MosAt W mv x.mons ∧ PrsAt W pv x.pros ∧ PgMax x := by
  obtain ⟨cs, rfl, _⟩ := okWide_struct Tryz.underlying26 ho
  obtain ⟨fuel, hf⟩ := h
  obtain ⟨x, nv, mv, pv, e, h1⟩ := opens_pg _ _ _ hf
  have e2 : cs = #[nv, mv, pv] := by
    have : cs.toList = [nv, mv, pv] := e
    rw [← Array.toList_inj]
    exact this
  subst e2
  exact ⟨nv, mv, pv, x, rfl, h1⟩
end Go.Proofs.YtdfahpachbhglaaGreatDoor
