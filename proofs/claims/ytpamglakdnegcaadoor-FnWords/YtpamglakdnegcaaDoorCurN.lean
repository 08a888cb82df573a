/-
  Walks: the cursor's making.
-/
import Derived.Test.YtpamglakdnegcaaDoorCurT
namespace Go.Proofs.YtpamglakdnegcaaDoor
open Go.RowKit

/-- What the loop over the drawn bytes keeps: nothing of the world turns. -/
def NewRel (w : World) (n : Nat) (h i : Value) (wr : World) : Prop := ∃ (k : Nat) (x : Int), k ≤ n ∧ h = .int .i64 x ∧ i = .int .i64 k ∧ w = wr

theorem cur_new (w : World) (base : Nat) (v : Value) (n : Nat) (x : Int) (hn : n ≤ 1048576) (H : CodeAt w base v n) (hb : base ≤ w.heap.size) :
    Cur (w.alloc (.cells #[v, .int .i64 0, .int .i64 x] 68)) base w.heap.size := by
  have e : (w.alloc (.cells #[v, .int .i64 0, .int .i64 x] 68)).heap[w.heap.size]? = some (.cells #[v, .int .i64 0, .int .i64 x] 68) := heap_alloc_new w _
  refine ⟨hb, (Array.getElem?_eq_some_iff.1 e).1, v, n, 0, x, hn, ?_, H.below ((Below.refl _ _).alloc hb _)⟩
  exact ⟨Nat.zero_le _, by unfold World.cell?; rw [e]; rfl, by unfold World.cell?; rw [e]; rfl, by unfold World.cell?; rw [e]; rfl, by unfold World.frozen?; rw [e]; rfl, by unfold World.frozen?; rw [e]; rfl⟩

theorem new_any (w : World) (base : Nat) (v : Value) (n : Nat) (hn : n ≤ 1048576) (H : CodeAt w base v n) (hb : base ≤ w.heap.size) :
    Calls Tryd.prog 21 #[v] w fun e w' => e = .returned (.pointer (some ⟨w.heap.size, 0, none⟩)) ∧ Below w.heap.size w w' ∧ Cur w' base w.heap.size := by
  obtain ⟨a, c, rfl⟩ := H.slice
  have HH := hide H
  clear H
  go_enter Tryd.func21, Tryd.ntmps21
  go_wp2
  go_loopw [3, 4] (fun h i wr => NewRel w n h i wr) (fun _ i _ => n - (intOf i).toNat)
  case atStart => exact ⟨0, _, Nat.zero_le _, rfl, rfl, rfl⟩
  case round =>
    obtain ⟨k, x, hk, rfl, rfl, rfl⟩ := hrel
    by_cases hlt : k < n
    · by_cases h4 : k < 4000
      · rcases HH.out with ⟨_, h0⟩ | ⟨ad, cap, xs, e, hcap, hx⟩
        · omega
        · injection e with e1 e2 e3
          subst e1 e3
          obtain ⟨h1, h2, h3⟩ := hx k hlt
          generalize xs.getD k 0 = y at *
          clear hx HH
          have b4 : decide ((k : Int) < 4000) = true := by rw [decide_eq_true_eq]; omega
          clear h4
          go_wp2
          go_roundw
          case rel => exact ⟨k + 1, _, hlt, rfl, by go_num, rfl⟩
          case measure => simp [intOf]; omega
      · have b4 : decide ((k : Int) < 4000) = false := by rw [decide_eq_false_iff_not]; omega
        clear h4
        go_wp2
        go_ret
        exact ⟨rfl, (Below.refl _ _).alloc (Nat.le_refl _) _, cur_new _ _ _ _ _ hn HH.out hb⟩
    · go_wp2
      go_ret
      exact ⟨rfl, (Below.refl _ _).alloc (Nat.le_refl _) _, cur_new _ _ _ _ _ hn HH.out hb⟩
end Go.Proofs.YtpamglakdnegcaaDoor

namespace Go.Proofs.YtpamglakdnegcaaDoor
open Go.RowKit

/-- One of a row of numbers is drawn; the row lies in another block than the cursor. -/
theorem pickInt_any (w : World) (base g q n c : Nat) (f : Nat → Int) (h0 : 0 < n) (hn : n ≤ 1000) (hq : q ≠ g) (hl : q < w.heap.size) (hr : ∀ j, j < n → w.cell? ⟨q, j, none⟩ = some (.int .i64 (f j))) (C : Cur w base g) :
    Calls Tryd.prog 27 #[.pointer (some ⟨g, 0, none⟩), .slice (some ⟨q, 0, none⟩) n c] w fun e w' => ∃ j, j < n ∧ e = .returned (.int .i64 (f j)) ∧ Far g w w' ∧ Cur w' base g := by
  have HC := hide C
  have HR := hide hr
  clear C hr
  go_enter Tryd.func27, Tryd.ntmps27
  go_wp2_with (go_at_call 25; refine (below_any _ base g n (by omega) HC.out).mono ?_; rintro e w1 ⟨j, hj, rfl, hf, hc⟩; have hj' : j < n := (by omega); have hcell : w1.cell? ⟨q, j, none⟩ = some (.int .i64 (f j)) := (by unfold World.cell?; rw [hf.far q hq hl]; exact HR.out j hj'); clear hj)
  go_ret
  exact ⟨j, hj', rfl, hf, hc⟩

/-- The cells of a row of numbers that was made. -/
theorem row_cells (w : World) (xs : List Int) (t : TypeId) (j : Nat) (hj : j < xs.length) : (w.alloc (.cells (xs.map (Value.int .i64)).toArray t)).cell? ⟨w.heap.size, j, none⟩ = some (.int .i64 (xs.getD j 0)) := by
  have e := heap_alloc_new w (.cells (xs.map (Value.int .i64)).toArray t)
  unfold World.cell?
  rw [e]
  simp [hj, List.getD]
/-- One of a row of numbers that was made for it is drawn. -/
theorem pickInt_made (w w0 : World) (base g : Nat) (xs : List Int) (t : TypeId) (h0 : 0 < xs.length) (hn : xs.length ≤ 1000) (C : Cur w base g) (e : w0 = w.alloc (.cells (xs.map (Value.int .i64)).toArray t)) :
    Calls Tryd.prog 27 #[.pointer (some ⟨g, 0, none⟩), .slice (some ⟨w.heap.size, 0, none⟩) xs.length xs.length] w0 fun e w' => ∃ x, x ∈ xs ∧ e = .returned (.int .i64 x) ∧ Far g w w' ∧ Cur w' base g := by
  subst e
  refine (pickInt_any _ base g w.heap.size xs.length xs.length (fun j => xs.getD j 0) h0 hn (by have := C.lt; omega) (Array.getElem?_eq_some_iff.1 (heap_alloc_new w _)).1 (fun j hj => row_cells w xs t j hj) (C.below ((Below.refl _ _).alloc C.lt _))).mono ?_
  rintro e w' ⟨j, hj, rfl, hf, hc⟩
  exact ⟨_, by simp [List.getD, hj], rfl, (Far.ofBelow ((Below.refl _ _).alloc (Nat.le_refl _) _)).trans hf, hc⟩
end Go.Proofs.YtpamglakdnegcaaDoor
