/-
  An Env that comes in; the specification's contracts as the laws' walks ask for them.
-/
import Derived.Test.YtdfncefjdeagdaaEnvK
import Derived.Test.YtdfncefjdeagdaaEnvU
namespace Go.Proofs.Ytdfncefjdeagdaa
open Go.RowKit
open Go.ChangeShapes Go.WideShapes Go.ChangeAt Go.Deep

set_option maxRecDepth 100000 in
theorem ev_of {H : Type} {enc : TypeId × Value → H} {W : World} {base : Nat} {v : Value} {d : DataW H} {ps : List MemPlace}
    (ho : Value.okWide Try.prog W .any base 25 v) (h : DataW.Trod enc Try.prog W 0 (fun _ => true) true 25 v d ps) : ∃ v0 v1 x, v = .agg #[v0, v1] ∧ EvAt W v0 v1 x ∧ EvMax x := by
  obtain ⟨cs, rfl, _⟩ := okWide_struct Try.underlying25 ho
  obtain ⟨fuel, hf⟩ := h
  obtain ⟨v0, v1, x, e, h1⟩ := opens_Ev _ _ _ hf
  have e2 : cs = #[v0, v1] := by
    have : cs.toList = [v0, v1] := e
    rw [← Array.toList_inj]
    exact this
  subst e2
  exact ⟨v0, v1, x, rfl, h1⟩
theorem szStrs_mem {xs : List ByteArray} {y : ByteArray} (h : y ∈ xs) : y.size ≤ szStrs xs := by
  unfold szStrs
  have h2 : ∀ l : List ByteArray, y ∈ l → y.size ≤ (l.map ByteArray.size).sum := fun l => by
    induction l with
    | nil => intro h; cases h
    | cons a l ih =>
      intro h
      rcases List.mem_cons.1 h with rfl | h
      · simp
      · have := ih h
        simp
        omega
  have := h2 _ h
  omega
theorem spEnvOk (x0 : Ev) (hl : szEv x0 ≤ 1048576) (v0 v1 : Value) (z : World) (b0 : Nat) (h : EvC b0 z [v0, v1] x0) : Calls Try.prog 7 #[.agg #[v0, v1]] z fun e w' => e = .returned (.bool (envOkB x0)) ∧ Below z.heap.size z w' :=
  specEnvOk_any v0 v1 x0 b0 z h (szEv_len hl) fun y hy => by
    have := szStrs_mem hy
    unfold szEv at hl
    omega
theorem spGetIn (x0 : Ev) (s1 : ByteArray) (hl : szEv x0 ≤ 1048576) (_ : s1.size ≤ 1048576) (v0 v1 : Value) (z : World) (b0 : Nat) (h : EvC b0 z [v0, v1] x0) : Calls Try.prog 11 #[.agg #[v0, v1], .string s1] z fun e w' => e = .returned (.int .i64 (getE x0 s1)) ∧ Below z.heap.size z w' :=
  specGetIn_any v0 v1 x0 s1 z h.at (szEv_len hl)
theorem spPutIn (x0 : Ev) (s1 : ByteArray) (n2 : Int) (hl : szEv x0 ≤ 1048576) (_ : s1.size ≤ 1048576) (v0 v1 : Value) (z : World) (b0 : Nat) (h : EvC b0 z [v0, v1] x0) : Calls Try.prog 13 #[.agg #[v0, v1], .string s1, .int .i64 n2] z fun e w' => ∃ r0 r1, e = .returned (.agg #[r0, r1]) ∧ EvOwn z.heap.size w' r0 r1 (putE x0 s1 n2) ∧ Below z.heap.size z w' :=
  specPutIn_any v0 v1 x0 s1 n2 z h.at (szEv_len hl)
end Go.Proofs.Ytdfncefjdeagdaa
