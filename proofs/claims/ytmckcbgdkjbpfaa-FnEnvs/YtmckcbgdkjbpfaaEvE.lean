/-
  The law of drawn Envs, with the program's Together.
-/
import Derived.Test.YtmckcbgdkjbpfaaEniT
import Derived.Test.YtmckcbgdkjbpfaaLwEn
import Derived.Test.YtmckcbgdkjbpfaaCurT
import Derived.Test.YtmckcbgdkjbpfaaChecked
import Derived.ProofKit
import Derived.OpenShut
namespace Go.Proofs.Ytmckcbgdkjbpfaa
open Go.RowKit

theorem lawEnvs_whole (w : World) (v : Value) (n : Nat) (H : CodeAt w w.heap.size v n) :
    Calls Try.prog 4 #[v] w fun e w' => e = .returned (.bool true) ∧ Below w.heap.size w w' :=
  lawEnvs (fun x0 x1 hl v0 v1 u0 u1 z _ _ h k => implTogether_any v0 v1 u0 u1 x0 x1 z h.at k.at hl) w v n H
end Go.Proofs.Ytmckcbgdkjbpfaa

namespace Go.Proofs.Ytmckcbgdkjbpfaa
open Go.ChangeShapes Go.WideShapes Go.ChangeAt Go.RowKit

theorem code_of {H : Type} {enc : TypeId × Value → H} {W : World} {a : Option Addr} {len cap : Nat} {d : DataW H} {ps : List MemPlace}
    (h : DataW.Trod enc Try.prog W 0 (fun _ => true) true 33 (.slice a len cap) d ps) : CodeAt W W.heap.size (.slice a len cap) len := by
  obtain ⟨fuel, hf⟩ := h
  rcases open_ints Try.underlying33 Try.underlying5 (by kernel_rfl) hf with ⟨hcs, _⟩ | ⟨x, l, c, zs, hcs, _, hl, hm, hz, _, hcell, hwz⟩
  · simp [Value.cells] at hcs
    obtain ⟨rfl, rfl, rfl⟩ := hcs
    exact .inl ⟨rfl, rfl⟩
  · simp [Value.cells] at hcs
    obtain ⟨rfl, rfl, rfl⟩ := hcs
    refine .inr ⟨x, cap, zs.map Int.toNat, rfl, hl, fun j hj => ?_⟩
    have hz' : zs.length = cap := by simpa using hz
    have hj' : j < zs.length := by omega
    have hc := hcell j hj'
    have hw := hwz zs[j] (List.getElem_mem hj')
    have hb : 0 ≤ zs[j] ∧ zs[j] ≤ 255 := by simpa [Lit.wf, IntKind.min, IntKind.max, IntKind.signed, IntKind.bits] using hw
    have e1 : (zs.map Int.toNat).getD j 0 = zs[j].toNat := by simp [List.getD, hj']
    have e2 : zs.getD j 0 = zs[j] := by simp [List.getD, hj']
    have hblk : x.block < W.heap.size := by
      have h1 := World.block_lt_of_cell? _ _ hc
      have h2 : (x.add j).block = x.block := by simp only [Addr.add]; split <;> rfl
      rw [h2] at h1; exact h1
    refine ⟨hblk, by rw [e1]; omega, ?_⟩
    rw [hc, e1, e2]
    congr 2
    omega
end Go.Proofs.Ytmckcbgdkjbpfaa
