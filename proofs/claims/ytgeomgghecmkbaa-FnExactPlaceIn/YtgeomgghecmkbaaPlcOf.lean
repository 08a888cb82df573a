/-
  Places that come in.
-/
import Derived.Test.YtgeomgghecmkbaaFlQ
import Derived.Test.YtgeomgghecmkbaaTreeQ
import Derived.Test.YtgeomgghecmkbaaAid
namespace Go.Proofs.Ytgeomgghecmkbaa
open Go.RowKit
open Go.ChangeShapes Go.WideShapes Go.ChangeAt Go.Deep

set_option maxRecDepth 100000 in
theorem plc_of {H : Type} {enc : TypeId × Value → H} {W : World} {base : Nat} {v : Value} {d : DataW H} {ps : List MemPlace}
    (ho : Value.okWide Try.prog W .any base 25 v) (h : DataW.Trod enc Try.prog W 0 (fun _ => true) true 25 v d ps) : ∃ v0 v1 x, v = .agg #[v0, v1] ∧ PlcAt W v0 v1 x ∧ PlcMax x := by
  obtain ⟨cs, rfl, _⟩ := okWide_struct Try.underlying25 ho
  obtain ⟨fuel, hf⟩ := h
  obtain ⟨v0, v1, x, e, h1⟩ := opens_Plc _ _ _ hf
  have e2 : cs = #[v0, v1] := by
    have : cs.toList = [v0, v1] := e
    rw [← Array.toList_inj]
    exact this
  subst e2
  exact ⟨v0, v1, x, rfl, h1⟩
end Go.Proofs.Ytgeomgghecmkbaa

namespace Go.Proofs.Ytgeomgghecmkbaa
open Go.RowKit

/-- The word that stands for what comes out of an entry. -/
def resultN : ByteArray := ⟨#[114, 101, 115, 117, 108, 116]⟩
/-- No two are the same, and none is that word. -/
noncomputable def unlikeB (xs : List ByteArray) : Bool := @decide (xs.Nodup ∧ resultN ∉ xs) (Classical.propDecidable _)
theorem unlike_nil : unlikeB [] = true := by simp [unlikeB]
theorem unlike_snoc (ys : List ByteArray) (x : ByteArray) : unlikeB (ys ++ [x]) = true ↔ unlikeB ys = true ∧ x ≠ resultN ∧ x ∉ ys := by
  simp only [unlikeB, decide_eq_true_eq, List.nodup_append, List.mem_append, List.mem_singleton]
  constructor
  · rintro ⟨⟨h1, _, h3⟩, h4⟩
    exact ⟨⟨h1, fun h => h4 (Or.inl h)⟩, fun e => h4 (Or.inr e.symm), fun h => h3 x h x rfl rfl⟩
  · rintro ⟨⟨h1, h2⟩, h3, h4⟩
    refine ⟨⟨h1, by simp, fun a ha b hb e => ?_⟩, fun h => ?_⟩
    · subst hb; subst e; exact h4 ha
    · rcases h with h | h
      · exact h2 h
      · exact h3 h.symm
theorem unlike_perm {xs ys : List ByteArray} (h : xs.Perm ys) : unlikeB xs = unlikeB ys := by
  unfold unlikeB
  exact decide_eq_decide.2 (and_congr h.nodup_iff (not_congr h.mem_iff))
theorem unlike_take {xs : List ByteArray} {i : Nat} (h : unlikeB (xs.take i) = false) : unlikeB xs = false := by
  rw [Bool.eq_false_iff] at h ⊢
  intro h2
  apply h
  simp only [unlikeB, decide_eq_true_eq] at h2 ⊢
  exact ⟨h2.1.sublist (List.take_sublist i xs), fun q => h2.2 (List.mem_of_mem_take q)⟩
theorem unlike_step {xs : List ByteArray} {i : Nat} (hi : i < xs.length) (h : unlikeB (xs.take i) = true) (h1 : xs[i] ≠ resultN) (h2 : xs[i] ∉ xs.take i) : unlikeB (xs.take (i + 1)) = true := by
  rw [List.take_succ_eq_append_getElem hi]
  exact (unlike_snoc _ _).2 ⟨h, h1, h2⟩
theorem unlike_stop {xs : List ByteArray} {i : Nat} (hi : i < xs.length) (h : xs[i] = resultN ∨ xs[i] ∈ xs.take i) : unlikeB xs = false := by
  apply unlike_take (i := i + 1)
  rw [List.take_succ_eq_append_getElem hi, Bool.eq_false_iff]
  intro q
  obtain ⟨_, q1, q2⟩ := (unlike_snoc _ _).1 q
  rcases h with h | h
  · exact q1 h
  · exact q2 h
theorem mem_take_of {xs : List ByteArray} {i k : Nat} (hk : k < i) (hx : k < xs.length) : xs[k] ∈ xs.take i :=
  List.mem_take_iff_getElem.2 ⟨k, by omega, rfl⟩
theorem not_mem_take {xs : List ByteArray} {i : Nat} {x : ByteArray} (h : ∀ j, j < i → xs[j]? ≠ some x) : x ∉ xs.take i := by
  intro q
  obtain ⟨j, hj, e⟩ := List.mem_take_iff_getElem.1 q
  exact h j (by omega) (by rw [List.getElem?_eq_getElem (by omega), e])
/-- Is the name among these? -/
def memB (ks : List ByteArray) (s : ByteArray) : Bool := ks.any fun x => decide (x = s)
theorem memB_iff {ks : List ByteArray} {s : ByteArray} : memB ks s = true ↔ s ∈ ks := by
  rw [memB, List.any_eq_true]
  exact ⟨fun ⟨x, h, e⟩ => of_decide_eq_true e ▸ h, fun h => ⟨s, h, decide_eq_true rfl⟩⟩
theorem memB_no {ks : List ByteArray} {s : ByteArray} : memB ks s = false ↔ s ∉ ks := by
  rw [Bool.eq_false_iff]
  exact not_congr memB_iff
theorem memB_congr {ks ls : List ByteArray} {s t : ByteArray} (h : s ∈ ks ↔ t ∈ ls) : memB ks s = memB ls t := Bool.eq_iff_iff.2 (memB_iff.trans (h.trans memB_iff.symm))
end Go.Proofs.Ytgeomgghecmkbaa
