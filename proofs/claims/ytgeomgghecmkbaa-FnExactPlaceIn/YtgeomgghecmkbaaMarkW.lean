/-
  Walks: the law's own helpers: marks, and rows of texts held against each other.
-/
import Derived.Test.YtgeomgghecmkbaaAidRow
import Derived.BigQuiet
import Derived.WalkSmall
import Derived.Deep.RegionHeld3
import Derived.Test.YtgeomgghecmkbaaTurnP
namespace Go.Proofs.Ytgeomgghecmkbaa
open Go.RowKit

set_option maxHeartbeats 1000000 in
theorem eqStrings_same (va vb : Value) (n ba bb : Nat) (xs : List ByteArray) (w : World) (hn : n ≤ 1048576) (ha : w.ownsRow ba 9 1 va n (xs.map S)) (hb : w.ownsRow bb 9 1 vb n (xs.map S)) :
    Calls Try.prog 14 #[va, vb] w fun e w' => e = .returned (.bool true) ∧ Below w.heap.size w w' := by
  obtain ⟨hl, ha⟩ := ownsRow_form ha
  obtain ⟨_, hb⟩ := ownsRow_form hb
  rcases Nat.eq_zero_or_pos n with h0 | h0
  · subst h0
    obtain ⟨aa, ca, rfl⟩ : ∃ aa ca, va = .slice aa 0 ca := by
      rcases ha with ⟨rfl, _⟩ | ⟨g, cap, rfl, _⟩
      · exact ⟨_, _, rfl⟩
      · exact ⟨_, _, rfl⟩
    obtain ⟨ab, cb, rfl⟩ : ∃ ab cb, vb = .slice ab 0 cb := by
      rcases hb with ⟨rfl, _⟩ | ⟨g, cap, rfl, _⟩
      · exact ⟨_, _, rfl⟩
      · exact ⟨_, _, rfl⟩
    clear ha hb
    go_enter Try.func14, Try.ntmps14
    go_wp2
    refine wp_loop_rounds 1 ?_
    rw [rounds_succ]
    go_wp2
    go_ret
    exact ⟨rfl, Below.refl _ _⟩
  · rcases ha with ⟨_, h⟩ | ⟨g, cap, rfl, _, hg, hca, _⟩
    · omega
    · rcases hb with ⟨_, h⟩ | ⟨g', cap', rfl, _, hg', hcb, _⟩
      · omega
      · have HA := hide hca
        have HB := hide hcb
        clear hca hcb
        go_enter Try.func14, Try.ntmps14
        go_wp2
        go_loopw [5] (fun iv wr => ∃ (k q : Nat), k ≤ n ∧ iv = .int .i64 k ∧ wr = w.drewN q) (fun iv _ => n - (intOf iv).toNat)
        case atStart => exact ⟨0, 0, Nat.zero_le _, rfl, rfl⟩
        case round =>
          obtain ⟨k, q, hk, rfl, rfl⟩ := hrel
          by_cases hlt : k < n
          · have hc1 := HA.out k hlt
            have hc2 := HB.out k hlt
            have hi0 : (0 : Int) ≤ (k : Int) := by omega
            have hi1 : (k : Int) < (n : Int) := by omega
            obtain ⟨x, ex⟩ : ∃ x, x = xs.getD k ByteArray.empty := ⟨_, rfl⟩
            rw [← ex] at hc1 hc2
            clear ex
            go_wp2
            go_quiet (fail)
            go_wp2
            go_roundw
            case rel => exact ⟨k + 1, _, by omega, by go_num, rfl⟩
            case measure => simp [intOf]; omega
          · go_wp2
            go_ret
            exact ⟨rfl, below_drewN (Below.refl _ _) _⟩

/-- Marking: behind it the row holds the marks. -/
def MkRel (w : World) (base : Nat) (v : Value) (n k0 : Nat) (xs : List ByteArray) (iv kv : Value) (wr : World) : Prop :=
  ∃ j : Nat, j ≤ n ∧ iv = .int .i64 j ∧ kv = .int .i64 ((k0 + j : Nat) : Int) ∧ wr.ownsRow base 9 1 v n ((marked xs k0 j).map S) ∧ Below base w wr

end Go.Proofs.Ytgeomgghecmkbaa

namespace Go.Proofs.Ytgeomgghecmkbaa
open Go.RowKit

end Go.Proofs.Ytgeomgghecmkbaa
