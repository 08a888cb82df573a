/-
  An Env that comes in; the specification's contracts as the laws' walks ask for them.
-/
import Derived.Test.YtmckcbgdkjbpfaaEnvK
import Derived.Test.YtmckcbgdkjbpfaaEnvU
namespace Go.Proofs.Ytmckcbgdkjbpfaa
open Go.RowKit
open Go.ChangeShapes Go.WideShapes Go.ChangeAt Go.Deep

set_option maxRecDepth 100000 in
theorem ev_of {H : Type} {enc : TypeId × Value → H} {W : World} {base : Nat} {v : Value} {d : DataW H} {ps : List MemPlace}
    (ho : Value.okWide Try.prog W .any base 25 v) (h : DataW.Trod enc Try.prog W 0 (fun _ => true) true 25 v d ps) : ∃ v0 v1 x, v = .agg #[v0, v1] ∧ EvAt W v0 v1 x ∧ EvMax x := by
  obtain ⟨cs, rfl, _⟩ := okWide_struct Try.underlying25 ho
  obtain ⟨fuel, hf⟩ := h
  obtain ⟨v0, v1, x, e, h1⟩ := opens_Ev _ _ _ hf
  have e2 : cs = #[v0, v1] := by
    have : cs.toList = [v0, v1] := e
    rw [← Array.toList_inj]
    exact this
  subst e2
  exact ⟨v0, v1, x, rfl, h1⟩
theorem szStrs_mem {xs : List ByteArray} {y : ByteArray} (h : y ∈ xs) : y.size ≤ szStrs xs := by
  unfold szStrs
  have h2 : ∀ l : List ByteArray, y ∈ l → y.size ≤ (l.map ByteArray.size).sum := fun l => by
    induction l with
    | nil => intro h; cases h
    | cons a l ih =>
      intro h
      rcases List.mem_cons.1 h with rfl | h
      · simp
      · have := ih h
        simp
        omega
  have := h2 _ h
  omega
theorem spEnvOk (x0 : Ev) (hl : szEv x0 ≤ 1048576) (v0 v1 : Value) (z : World) (b0 : Nat) (h : EvC b0 z [v0, v1] x0) : Calls Try.prog 23 #[.agg #[v0, v1]] z fun e w' => e = .returned (.bool (envOkB x0)) ∧ Below z.heap.size z w' :=
  specEnvOk_any v0 v1 x0 b0 z h (szEv_len hl) fun y hy => by
    have := szStrs_mem hy
    unfold szEv at hl
    omega
theorem spPutIn (x0 : Ev) (s1 : ByteArray) (n2 : Int) (hl : szEv x0 ≤ 1048576) (_ : s1.size ≤ 1048576) (v0 v1 : Value) (z : World) (b0 : Nat) (h : EvC b0 z [v0, v1] x0) : Calls Try.prog 6 #[.agg #[v0, v1], .string s1, .int .i64 n2] z fun e w' => ∃ r0 r1, e = .returned (.agg #[r0, r1]) ∧ EvOwn z.heap.size w' r0 r1 (putE x0 s1 n2) ∧ Below z.heap.size z w' :=
  specPutIn_any v0 v1 x0 s1 n2 z h.at (szEv_len hl)
theorem spTogether (x0 x1 : Ev) (hl : szEv x0 + szEv x1 ≤ 1048576) (v0 v1 u0 u1 : Value) (z : World) (b0 b1 : Nat) (h : EvC b0 z [v0, v1] x0) (k : EvC b1 z [u0, u1] x1) : Calls Try.prog 22 #[.agg #[v0, v1], .agg #[u0, u1]] z fun e w' => ∃ r0 r1, e = .returned (.agg #[r0, r1]) ∧ EvOwn z.heap.size w' r0 r1 (togE x0 x1) ∧ Below z.heap.size z w' :=
  specTogether_any v0 v1 u0 u1 x0 x1 z h.at k.at hl
end Go.Proofs.Ytmckcbgdkjbpfaa
