/-
  Walks: two Envs put together, by the specification.
-/
import Derived.Test.YtdfncefjdeagdaaEnvT
import Derived.Deep.CutRange
import Derived.BigQuiet
import Derived.Deep.RegionLaw
namespace Go.Proofs.Ytdfncefjdeagdaa
open Go.RowKit

theorem selE_yes {a b : Ev} {i : Nat} (h0 : i < b.names.length) (h1 : i < b.vals.length) (h : memB a.names b.names[i] = false) : selE a b (i + 1) = selE a b i ++ [(b.names[i], b.vals[i])] := by
  unfold selE
  have hl : i < (b.names.zip b.vals).length := by rw [List.length_zip]; omega
  rw [List.take_succ_eq_append_getElem hl, List.filter_append, List.getElem_zip, List.filter_cons, if_pos (by rw [h]; rfl)]
  rfl
theorem selE_no {a b : Ev} {i : Nat} (h0 : i < b.names.length) (h1 : i < b.vals.length) (h : memB a.names b.names[i] = true) : selE a b (i + 1) = selE a b i := by
  unfold selE
  have hl : i < (b.names.zip b.vals).length := by rw [List.length_zip]; omega
  rw [List.take_succ_eq_append_getElem hl, List.filter_append, List.getElem_zip, List.filter_cons, if_neg (by rw [h]; decide)]
  simp
def ToR (w : World) (va0 va1 vb0 vb1 : Value) (G : Nat) (a b : Ev) (iv : Value) (wr : World) : Prop :=
  ∃ (i : Nat) (r0 r1 : Value), i ≤ min b.names.length b.vals.length ∧ iv = .int .i64 i ∧ Hid (ToZ w va0 va1 vb0 vb1 G r0 r1 (togTo a b i) wr)

end Go.Proofs.Ytdfncefjdeagdaa
