/-
  Walks: the cursor's making.
-/
import Derived.Test.YtbikdpljhnhcaaaCurW
namespace Go.Proofs.Ytbikdpljhnhcaaa
open Go.RowKit

/-- What the loop over the drawn bytes keeps: nothing of the world turns. -/
def NewRel (w : World) (n : Nat) (h i : Value) (wr : World) : Prop := ∃ (k : Nat) (x : Int), k ≤ n ∧ h = .int .i64 x ∧ i = .int .i64 k ∧ w = wr

theorem cur_new (w : World) (base : Nat) (v : Value) (n : Nat) (x : Int) (hn : n ≤ 1048576) (H : CodeAt w base v n) (hb : base ≤ w.heap.size) :
    Cur (w.alloc (.cells #[v, .int .i64 0, .int .i64 x] 60)) base w.heap.size := by
  have e : (w.alloc (.cells #[v, .int .i64 0, .int .i64 x] 60)).heap[w.heap.size]? = some (.cells #[v, .int .i64 0, .int .i64 x] 60) := heap_alloc_new w _
  refine ⟨hb, (Array.getElem?_eq_some_iff.1 e).1, v, n, 0, x, hn, ?_, H.below ((Below.refl _ _).alloc hb _)⟩
  exact ⟨Nat.zero_le _, by unfold World.cell?; rw [e]; rfl, by unfold World.cell?; rw [e]; rfl, by unfold World.cell?; rw [e]; rfl, by unfold World.frozen?; rw [e]; rfl, by unfold World.frozen?; rw [e]; rfl⟩

theorem new_any (w : World) (base : Nat) (v : Value) (n : Nat) (hn : n ≤ 1048576) (H : CodeAt w base v n) (hb : base ≤ w.heap.size) :
    Calls Try.prog 26 #[v] w fun e w' => e = .returned (.pointer (some ⟨w.heap.size, 0, none⟩)) ∧ Below w.heap.size w w' ∧ Cur w' base w.heap.size := by
  obtain ⟨a, c, rfl⟩ := H.slice
  have HH := hide H
  clear H
  go_enter Try.func26, Try.ntmps26
  go_wp2
  go_loopw [3, 4] (fun h i wr => NewRel w n h i wr) (fun _ i _ => n - (intOf i).toNat)
  case atStart => exact ⟨0, _, Nat.zero_le _, rfl, rfl, rfl⟩
  case round =>
    obtain ⟨k, x, hk, rfl, rfl, rfl⟩ := hrel
    by_cases hlt : k < n
    · by_cases h4 : k < 4000
      · rcases HH.out with ⟨_, h0⟩ | ⟨ad, cap, xs, e, hcap, hx⟩
        · omega
        · injection e with e1 e2 e3
          subst e1 e3
          obtain ⟨h1, h2, h3⟩ := hx k hlt
          generalize xs.getD k 0 = y at *
          clear hx HH
          have b4 : decide ((k : Int) < 4000) = true := by rw [decide_eq_true_eq]; omega
          clear h4
          go_wp2
          go_roundw
          case rel => exact ⟨k + 1, _, hlt, rfl, by go_num, rfl⟩
          case measure => simp [intOf]; omega
      · have b4 : decide ((k : Int) < 4000) = false := by rw [decide_eq_false_iff_not]; omega
        clear h4
        go_wp2
        go_ret
        exact ⟨rfl, (Below.refl _ _).alloc (Nat.le_refl _) _, cur_new _ _ _ _ _ hn HH.out hb⟩
    · go_wp2
      go_ret
      exact ⟨rfl, (Below.refl _ _).alloc (Nat.le_refl _) _, cur_new _ _ _ _ _ hn HH.out hb⟩
end Go.Proofs.Ytbikdpljhnhcaaa
