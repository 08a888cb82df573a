/-
  Walks: a right node, by the specification, at every place.
-/
import Derived.Test.YthlbboppdmdceaaTreeE
namespace Go.Proofs.Ythlbboppdmdceaa
open Go.RowKit

/-- Is there a right node at a place? -/
def nodeAt (ns : List Nd) (k : Int) : Bool := inZ 0 ((ns.length : Int) - 1) k && nodeB (ns.getD k.toNat default) (kinds ns k.toNat)

set_option maxHeartbeats 1000000 in
theorem specNodeOk_any (nv mv pv : Value) (ns : List Nd) (k : Int) (w : World) (hN : NdsAt w nv ns) (hl : ns.length ≤ 1048576) (hin : NsIn ns) :
    Calls Try.prog 6 #[.agg #[nv, mv, pv], .int .i64 k] w fun e w' => e = .returned (.bool (nodeAt ns k)) ∧ Below w.heap.size w w' := by
  cases h : inZ 0 ((ns.length : Int) - 1) k with
  | true =>
    obtain ⟨h0, h1⟩ := inZ_yes.1 h
    obtain ⟨j, rfl⟩ : ∃ j : Nat, k = (j : Int) := ⟨k.toNat, by omega⟩
    have hj : j < ns.length := by omega
    have hi := hin _ (List.getElem_mem hj)
    have e : nodeAt ns (j : Int) = nodeB ns[j] (kinds ns j) := by
      rw [nodeAt, h, Int.toNat_natCast, getD_at hj]
      rfl
    rw [e]
    exact specNodeOk_in nv mv pv ns j w hN hj hl hi.1 hi.2.1 hi.2.2.1 hi.2.2.2
  | false =>
    have HF : Hid (nodeAt ns k = false) := by show _ = _; rw [nodeAt, h]; rfl
    have C := fun w => hide (l01In_gen k 0 ((ns.length : Int) - 1) w)
    rw [h] at C
    have HB : Hid (Below w.heap.size w (w.alloc (.cells #[nv, mv, pv] 33))) := (Below.refl _ _).alloc (Nat.le_refl _) _
    obtain ⟨ao, c, rfl, _⟩ := hN
    clear h hin
    go_enter Try.func6, Try.ntmps6
    go_wp2_with (go_at_call 15; refine (unhide (C _)).mono ?_; rintro e w1 ⟨rfl, rfl⟩)
    go_ret
    exact ⟨by rw [HF.out]; rfl, HB.out⟩
end Go.Proofs.Ythlbboppdmdceaa
