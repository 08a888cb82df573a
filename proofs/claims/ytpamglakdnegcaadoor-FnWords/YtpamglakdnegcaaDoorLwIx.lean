/-
  The laws of words that are shown, and of drawn words, with both sides' contracts.
-/
import Derived.Test.YtpamglakdnegcaaDoorInsK
import Derived.Test.YtpamglakdnegcaaDoorLwWd
import Derived.Test.YtpamglakdnegcaaDoorShiI
import Derived.Lib.SmallJoins
import Derived.Test.YtpamglakdnegcaaDoorCurN
import Derived.Test.YtpamglakdnegcaaDoorChecked
import Derived.ProofKit
import Derived.OpenShut
import Derived.Test.YtpamglakdnegcaaDoorRows
import Derived.Test.YtpamglakdnegcaaDoorShelfItoa
import Derived.Lib.LaidTab
import Derived.Stop.LaidErr
import Derived.Deep.DeepHandedRow
namespace Go.Proofs.YtpamglakdnegcaaDoor
open Go.RowKit

theorem lawShowIns_whole (x : In4) (w : World) (htab : Lib.TabIs Tryd.prog w "internal/strconv.uint64pow10" .u64 Lib.pow10Tab) :
    Calls Tryd.prog 3 #[.agg #[.int .i64 x.op, .int .i64 x.a, .int .i64 x.b, .int .i64 x.c]] w fun e w' => e = .returned (.bool true) ∧ Below w.heap.size w w' :=
  lawShowIns x.op x.a x.b x.c w fun z hb => implShowIns_any x.op x.a x.b x.c z (Joins.tab_stays gPow htab hb (Nat.le_refl _))
theorem lawWords_whole (w : World) (v : Value) (n : Nat) (H : CodeAt w w.heap.size v n) (htab : Lib.TabIs Tryd.prog w "internal/strconv.uint64pow10" .u64 Lib.pow10Tab) :
    Calls Tryd.prog 4 #[v] w fun e w' => e = .returned (.bool true) ∧ Below w.heap.size w w' :=
  lawWords (fun op a b c z => implEncode_any op a b c z) (fun n z => implDecode_any n z) (fun op a b c z => implInsOk_below op a b c z) w v n H fun op a b c z hb => implShowIns_any op a b c z (Joins.tab_stays gPow htab hb (Nat.le_refl _))
end Go.Proofs.YtpamglakdnegcaaDoor

namespace Go.Proofs.YtpamglakdnegcaaDoor
open Go.ChangeShapes Go.WideShapes Go.ChangeAt Go.RowKit

theorem code_of {H : Type} {enc : TypeId × Value → H} {W : World} {a : Option Addr} {len cap : Nat} {d : DataW H} {ps : List MemPlace}
    (h : DataW.Trod enc Tryd.prog W 0 (fun _ => true) true 28 (.slice a len cap) d ps) : CodeAt W W.heap.size (.slice a len cap) len := by
  obtain ⟨fuel, hf⟩ := h
  rcases open_ints Tryd.underlying28 Tryd.underlying5 (by kernel_rfl) hf with ⟨hcs, _⟩ | ⟨x, l, c, zs, hcs, _, hl, hm, hz, _, hcell, hwz⟩
  · simp [Value.cells] at hcs
    obtain ⟨rfl, rfl, rfl⟩ := hcs
    exact .inl ⟨rfl, rfl⟩
  · simp [Value.cells] at hcs
    obtain ⟨rfl, rfl, rfl⟩ := hcs
    refine .inr ⟨x, cap, zs.map Int.toNat, rfl, hl, fun j hj => ?_⟩
    have hz' : zs.length = cap := by simpa using hz
    have hj' : j < zs.length := by omega
    have hc := hcell j hj'
    have hw := hwz zs[j] (List.getElem_mem hj')
    have hb : 0 ≤ zs[j] ∧ zs[j] ≤ 255 := by simpa [Lit.wf, IntKind.min, IntKind.max, IntKind.signed, IntKind.bits] using hw
    have e1 : (zs.map Int.toNat).getD j 0 = zs[j].toNat := by simp [List.getD, hj']
    have e2 : zs.getD j 0 = zs[j] := by simp [List.getD, hj']
    have hblk : x.block < W.heap.size := by
      have h1 := World.block_lt_of_cell? _ _ hc
      have h2 : (x.add j).block = x.block := by simp only [Addr.add]; split <;> rfl
      rw [h2] at h1; exact h1
    refine ⟨hblk, by rw [e1]; omega, ?_⟩
    rw [hc, e1, e2]
    congr 2
    omega
end Go.Proofs.YtpamglakdnegcaaDoor

namespace Go.Proofs.YtpamglakdnegcaaDoor
open Go.RowKit

theorem gPowType : (Tryd.prog.globals[1]?).map (·.type) = some 84 := by kernel_rfl
theorem cellsTab : Tryd.prog.cellsOf 84 = 20 := by kernel_rfl
theorem cellsU64 : Tryd.prog.cellsOf 77 = 1 := by kernel_rfl

/-- What the row's list gives: the table of powers of ten. -/
theorem pow_table {W : World} (h : laidMetH Tryd.prog Rows.fnWordsRow.laid W) : Lib.TabIs Tryd.prog W "internal/strconv.uint64pow10" .u64 Lib.pow10Tab :=
  Lib.tabIs_of_head (rest := []) gPow gPowType Tryd.underlying84 Tryd.underlying77 cellsU64 cellsTab (laidMet.tail (laidMet.tail h))
end Go.Proofs.YtpamglakdnegcaaDoor
