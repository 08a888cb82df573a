/-
  Walks: whether a program has a node, by the program.
-/
import Derived.Test.YtipmgmmchmdajaaTreeP
import Derived.Test.YtipmgmmchmdajaaTreeW
namespace Go.Proofs.Ytipmgmmchmdajaa
open Go.RowKit

set_option maxRecDepth 100000 in
set_option maxHeartbeats 1000000 in
theorem hasN_any (nv mv pv : Value) (ns : List Nd) (k : Int) (w : World) (hN : NdsAt w nv ns) :
    Calls Try.prog 78 #[.agg #[nv, mv, pv], .int .i64 k] w fun e w' => e = .returned (.bool (inZ 0 ((ns.length : Int) - 1) k)) ∧ Below w.heap.size w w' := by
  have HB : Hid (Below w.heap.size w (w.alloc (.cells #[nv, mv, pv] 40))) := (Below.refl _ _).alloc (Nat.le_refl _) _
  obtain ⟨ao, c, rfl, _⟩ := hN
  obtain ⟨n, hn⟩ : ∃ n, ns.length = n := ⟨_, rfl⟩
  rw [hn] at HB ⊢
  clear hn
  by_cases h1 : (0 : Int) ≤ k
  · by_cases h2 : k < (n : Int)
    · have e : inZ 0 ((n : Int) - 1) k = true := inZ_yes.2 (by omega)
      rw [e]
      clear e
      go_enter Try.func78, Try.ntmps78
      go_wp2
      go_ret
      exact ⟨rfl, HB.out⟩
    · have e : inZ 0 ((n : Int) - 1) k = false := inZ_no.2 (by omega)
      rw [e]
      clear e
      go_enter Try.func78, Try.ntmps78
      go_wp2
      go_ret
      exact ⟨rfl, HB.out⟩
  · have e : inZ 0 ((n : Int) - 1) k = false := inZ_no.2 (by omega)
    rw [e]
    clear e
    go_enter Try.func78, Try.ntmps78
    go_wp2
    go_ret
    exact ⟨rfl, HB.out⟩
end Go.Proofs.Ytipmgmmchmdajaa
