/-
  A program that comes in: its reading.
-/
import Derived.Test.YtgeomgghecmkbaaLawJ
import Derived.Deep.Slices
import Derived.ProofKit
import Derived.OpenShut
import Derived.ChangeArms
namespace Go.Proofs.Ytgeomgghecmkbaa
open Go.RowKit
open Go.ChangeShapes Go.WideShapes Go.ChangeAt Go.Deep

def NdRel (W : World) (cs : List Value) (x : Nd) : Prop := ∃ kv, cs = [.int .i64 x.kind, .int .i64 x.num, .string x.name, .string x.more, .string x.into, kv] ∧ IntsAt W kv x.kids ∧ NdMax x
theorem RowOf.nodes {W : World} {v : Value} {xs : List Nd} (h : RowOf 6 W v (NdRel W) xs) : NdsAt W v xs ∧ NdsMax xs := by
  obtain ⟨h0, ao, c, rfl, hc⟩ := h
  refine ⟨⟨ao, c, rfl, fun j hj => ?_⟩, h0, fun x hx => ?_⟩
  · obtain ⟨a, cs, rfl, h1, _, e', h3⟩ := hc j hj
    obtain ⟨kv, e, k_kv, hm⟩ := e'
    rw [e] at h3
    refine ⟨a, kv, rfl, h1, ?_, ?_, ?_, ?_, ?_, ?_, k_kv⟩
    · have := h3 0 _ rfl
      rwa [add_nil] at this
    · have := h3 1 _ rfl
      rwa [add_some _ 1 (by omega)] at this
    · have := h3 2 _ rfl
      rwa [add_some _ 2 (by omega)] at this
    · have := h3 3 _ rfl
      rwa [add_some _ 3 (by omega)] at this
    · have := h3 4 _ rfl
      rwa [add_some _ 4 (by omega)] at this
    · have := h3 5 _ rfl
      rwa [add_some _ 5 (by omega)] at this
  · obtain ⟨j, hj, rfl⟩ := List.getElem_of_mem hx
    obtain ⟨a, cs, _, _, _, e', _⟩ := hc j hj
    obtain ⟨kv, e, k_kv, hm⟩ := e'
    exact hm
def EnRel (_W : World) (cs : List Value) (x : En) : Prop := cs = [.string x.name, .string x.param, .int .i64 x.body] ∧ EnMax x
theorem RowOf.ents {W : World} {v : Value} {xs : List En} (h : RowOf 3 W v (EnRel W) xs) : EnsAt W v xs ∧ EnsMax xs := by
  obtain ⟨h0, ao, c, rfl, hc⟩ := h
  refine ⟨⟨ao, c, rfl, fun j hj => ?_⟩, h0, fun x hx => ?_⟩
  · obtain ⟨a, cs, rfl, h1, _, e', h3⟩ := hc j hj
    obtain ⟨e, hm⟩ := e'
    rw [e] at h3
    refine ⟨a, rfl, h1, ?_, ?_, ?_⟩
    · have := h3 0 _ rfl
      rwa [add_nil] at this
    · have := h3 1 _ rfl
      rwa [add_some _ 1 (by omega)] at this
    · have := h3 2 _ rfl
      rwa [add_some _ 2 (by omega)] at this
  · obtain ⟨j, hj, rfl⟩ := List.getElem_of_mem hx
    obtain ⟨a, cs, _, _, _, e', _⟩ := hc j hj
    obtain ⟨e, hm⟩ := e'
    exact hm
def MoRel (W : World) (cs : List Value) (x : Mo) : Prop := ∃ vv qv ev, cs = [.string x.name, vv, qv, ev] ∧ StrsAt W vv x.vars ∧ StrsAt W qv x.queues ∧ EnsAt W ev x.ents ∧ MoMax x
theorem RowOf.mons {W : World} {v : Value} {xs : List Mo} (h : RowOf 4 W v (MoRel W) xs) : MosAt W v xs ∧ MosMax xs := by
  obtain ⟨h0, ao, c, rfl, hc⟩ := h
  refine ⟨⟨ao, c, rfl, fun j hj => ?_⟩, h0, fun x hx => ?_⟩
  · obtain ⟨a, cs, rfl, h1, _, e', h3⟩ := hc j hj
    obtain ⟨vv, qv, ev, e, k_vv, k_qv, k_ev, hm⟩ := e'
    rw [e] at h3
    refine ⟨a, vv, qv, ev, rfl, h1, ?_, ?_, ?_, ?_, k_vv, k_qv, k_ev⟩
    · have := h3 0 _ rfl
      rwa [add_nil] at this
    · have := h3 1 _ rfl
      rwa [add_some _ 1 (by omega)] at this
    · have := h3 2 _ rfl
      rwa [add_some _ 2 (by omega)] at this
    · have := h3 3 _ rfl
      rwa [add_some _ 3 (by omega)] at this
  · obtain ⟨j, hj, rfl⟩ := List.getElem_of_mem hx
    obtain ⟨a, cs, _, _, _, e', _⟩ := hc j hj
    obtain ⟨vv, qv, ev, e, k_vv, k_qv, k_ev, hm⟩ := e'
    exact hm
def PrRel (W : World) (cs : List Value) (x : Pr) : Prop := ∃ uv vv, cs = [.string x.name, uv, vv, .int .i64 x.body] ∧ StrsAt W uv x.uses ∧ StrsAt W vv x.vars ∧ PrMax x
theorem RowOf.pros {W : World} {v : Value} {xs : List Pr} (h : RowOf 4 W v (PrRel W) xs) : PrsAt W v xs ∧ PrsMax xs := by
  obtain ⟨h0, ao, c, rfl, hc⟩ := h
  refine ⟨⟨ao, c, rfl, fun j hj => ?_⟩, h0, fun x hx => ?_⟩
  · obtain ⟨a, cs, rfl, h1, _, e', h3⟩ := hc j hj
    obtain ⟨uv, vv, e, k_uv, k_vv, hm⟩ := e'
    rw [e] at h3
    refine ⟨a, uv, vv, rfl, h1, ?_, ?_, ?_, ?_, k_uv, k_vv⟩
    · have := h3 0 _ rfl
      rwa [add_nil] at this
    · have := h3 1 _ rfl
      rwa [add_some _ 1 (by omega)] at this
    · have := h3 2 _ rfl
      rwa [add_some _ 2 (by omega)] at this
    · have := h3 3 _ rfl
      rwa [add_some _ 3 (by omega)] at this
  · obtain ⟨j, hj, rfl⟩ := List.getElem_of_mem hx
    obtain ⟨a, cs, _, _, _, e', _⟩ := hc j hj
    obtain ⟨uv, vv, e, k_uv, k_vv, hm⟩ := e'
    exact hm

section
variable {H : Type} {enc : TypeId × Value → H} {W : World}
/-- A program as its cells. -/
def PgRel (W : World) (cs : List Value) (x : Pg) : Prop := ∃ nv mv pv, cs = [nv, mv, pv] ∧ NdsAt W nv x.nodes ∧ MosAt W mv x.mons ∧ PrsAt W pv x.pros ∧ PgMax x
end
end Go.Proofs.Ytgeomgghecmkbaa
