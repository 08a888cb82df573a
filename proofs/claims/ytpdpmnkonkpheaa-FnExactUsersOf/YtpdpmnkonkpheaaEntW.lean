/-
  Walks: the place of an entry by its name, by both sides.
-/
import Derived.Test.YtpdpmnkonkpheaaMatW
import Derived.Test.YtpdpmnkonkpheaaTreeY
namespace Go.Proofs.Ytpdpmnkonkpheaa
open Go.RowKit

/-- The place of the first entry of this name in that monitor. -/
def entAt (ms : List Mo) (m : Int) (s : ByteArray) : Int := if 0 ≤ m ∧ m < (ms.length : Int) then firstAt (entN s) (ms.getD m.toNat default).ents else -1
theorem entAt_in {ms : List Mo} {k : Nat} (hk : k < ms.length) (s : ByteArray) : entAt ms (k : Int) s = firstAt (entN s) ms[k].ents := by
  rw [entAt, if_pos ⟨by omega, by omega⟩, Int.toNat_natCast, List.getD_eq_getElem?_getD, List.getElem?_eq_getElem hk]
  rfl
theorem entAt_out {ms : List Mo} {m : Int} (h : ¬ (0 ≤ m ∧ m < (ms.length : Int))) (s : ByteArray) : entAt ms m s = -1 := by rw [entAt, if_neg h]
theorem EnsAt.sl {w : World} {v : Value} {xs : List En} (h : EnsAt w v xs) : SlV v := by obtain ⟨a, c, e, _⟩ := h; exact ⟨_, _, _, e⟩

end Go.Proofs.Ytpdpmnkonkpheaa
