/-
  The law GatesTold, with the program's contracts.
-/
import Derived.Test.YtbikdpljhnhcaaaGmiI
import Derived.Test.YtbikdpljhnhcaaaGmiF
import Derived.Test.YtbikdpljhnhcaaaGmiG
import Derived.Test.YtbikdpljhnhcaaaGmiH
import Derived.Test.YtbikdpljhnhcaaaGmiC
import Derived.Test.YtbikdpljhnhcaaaGatW
import Derived.Test.YtbikdpljhnhcaaaLwGt
import Derived.Test.YtbikdpljhnhcaaaCurN
import Derived.Test.YtbikdpljhnhcaaaChecked
import Derived.ProofKit
import Derived.OpenShut
namespace Go.Proofs.Ytbikdpljhnhcaaa
open Go.RowKit

theorem lawGatesTold_whole (w : World) (v : Value) (n : Nat) (H : CodeAt w w.heap.size v n) :
    Calls Try.prog 5 #[v] w fun e w' => e = .returned (.bool true) ∧ Below w.heap.size w w' :=
  lawGatesTold (fun v1 v2 x p w h hl => implArrive_any v1 v2 x p w h hl) (fun v1 v2 x w h hl => implLeave_any v1 v2 x w h hl) (fun v1 v2 x p w h hl => implDelayIn_any v1 v2 x p w h hl) (fun v1 v2 x p w h hl => implContinueAt_any v1 v2 x p w h hl) (fun v1 v2 x w h hl => implGateOk_any v1 v2 x w h hl) (fun p w => implGateNew_any p w) w v n H
end Go.Proofs.Ytbikdpljhnhcaaa

namespace Go.Proofs.Ytbikdpljhnhcaaa
open Go.ChangeShapes Go.WideShapes Go.ChangeAt Go.RowKit

theorem code_of {H : Type} {enc : TypeId × Value → H} {W : World} {a : Option Addr} {len cap : Nat} {d : DataW H} {ps : List MemPlace}
    (h : DataW.Trod enc Try.prog W 0 (fun _ => true) true 22 (.slice a len cap) d ps) : CodeAt W W.heap.size (.slice a len cap) len := by
  obtain ⟨fuel, hf⟩ := h
  rcases open_ints Try.underlying22 Try.underlying5 (by kernel_rfl) hf with ⟨hcs, _⟩ | ⟨x, l, c, zs, hcs, _, hl, hm, hz, _, hcell, hwz⟩
  · simp [Value.cells] at hcs
    obtain ⟨rfl, rfl, rfl⟩ := hcs
    exact .inl ⟨rfl, rfl⟩
  · simp [Value.cells] at hcs
    obtain ⟨rfl, rfl, rfl⟩ := hcs
    refine .inr ⟨x, cap, zs.map Int.toNat, rfl, hl, fun j hj => ?_⟩
    have hz' : zs.length = cap := by simpa using hz
    have hj' : j < zs.length := by omega
    have hc := hcell j hj'
    have hw := hwz zs[j] (List.getElem_mem hj')
    have hb : 0 ≤ zs[j] ∧ zs[j] ≤ 255 := by simpa [Lit.wf, IntKind.min, IntKind.max, IntKind.signed, IntKind.bits] using hw
    have e1 : (zs.map Int.toNat).getD j 0 = zs[j].toNat := by simp [List.getD, hj']
    have e2 : zs.getD j 0 = zs[j] := by simp [List.getD, hj']
    have hblk : x.block < W.heap.size := by
      have h1 := World.block_lt_of_cell? _ _ hc
      have h2 : (x.add j).block = x.block := by simp only [Addr.add]; split <;> rfl
      rw [h2] at h1; exact h1
    refine ⟨hblk, by rw [e1]; omega, ?_⟩
    rw [hc, e1, e2]
    congr 2
    omega
end Go.Proofs.Ytbikdpljhnhcaaa
