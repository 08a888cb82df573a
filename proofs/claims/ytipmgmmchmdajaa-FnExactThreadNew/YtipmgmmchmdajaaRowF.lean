/-
  Rows of texts and of numbers that come in.
-/
import Derived.Test.YtipmgmmchmdajaaLawJ
namespace Go.Proofs.Ytipmgmmchmdajaa
open Go.RowKit
open Go.ChangeShapes Go.WideShapes Go.ChangeAt Go.Deep

theorem strsR_of {H : Type} {enc : TypeId × Value → H} {W : World} {v : Value} {d : DataW H} {ps : List MemPlace}
    (h : DataW.Trod enc Try.prog W 0 (fun _ => true) true 27 v d ps) (hv : ∃ a len cap, v = .slice a len cap) : ∃ xs, StrsAt W v xs ∧ StrsMax xs := by
  obtain ⟨a, len, cap, rfl⟩ := hv
  obtain ⟨fuel, hf⟩ := h
  obtain ⟨v, ys, e, h1, h2⟩ := opens_strs _ _ _ hf
  simp [Value.cells] at e
  subst e
  exact ⟨ys, h1, h2⟩
theorem intsR_of {H : Type} {enc : TypeId × Value → H} {W : World} {v : Value} {d : DataW H} {ps : List MemPlace}
    (h : DataW.Trod enc Try.prog W 0 (fun _ => true) true 30 v d ps) (hv : ∃ a len cap, v = .slice a len cap) : ∃ xs, IntsAt W v xs ∧ IntsMax xs := by
  obtain ⟨a, len, cap, rfl⟩ := hv
  obtain ⟨fuel, hf⟩ := h
  obtain ⟨v, ys, e, h1, h2⟩ := opens_ints _ _ _ hf
  simp [Value.cells] at e
  subst e
  exact ⟨ys, h1, h2⟩
end Go.Proofs.Ytipmgmmchmdajaa
