/-
  Walks: one of a row of numbers is drawn.
-/
import Derived.Test.YtmchgmpdhfefjaaCurW
namespace Go.Proofs.Ytmchgmpdhfefjaa
open Go.RowKit

/-- One of a row of numbers is drawn; the row lies in another block than the cursor. -/
theorem pickInt_any (w : World) (base g q n c : Nat) (f : Nat → Int) (h0 : 0 < n) (hn : n ≤ 1000) (hq : q ≠ g) (hl : q < w.heap.size) (hr : ∀ j, j < n → w.cell? ⟨q, j, none⟩ = some (.int .i64 (f j))) (C : Cur w base g) :
    Calls Try.prog 23 #[.pointer (some ⟨g, 0, none⟩), .slice (some ⟨q, 0, none⟩) n c] w fun e w' => ∃ j, j < n ∧ e = .returned (.int .i64 (f j)) ∧ Far g w w' ∧ Cur w' base g := by
  have HC := hide C
  have HR := hide hr
  clear C hr
  go_enter Try.func23, Try.ntmps23
  go_wp2_with (go_at_call 22; refine (below_any _ base g n (by omega) HC.out).mono ?_; rintro e w1 ⟨j, hj, rfl, hf, hc⟩; have hj' : j < n := (by omega); have hcell : w1.cell? ⟨q, j, none⟩ = some (.int .i64 (f j)) := (by unfold World.cell?; rw [hf.far q hq hl]; exact HR.out j hj'); clear hj)
  go_ret
  exact ⟨j, hj', rfl, hf, hc⟩

/-- The cells of a row of numbers that was made. -/
theorem row_cells (w : World) (xs : List Int) (t : TypeId) (j : Nat) (hj : j < xs.length) : (w.alloc (.cells (xs.map (Value.int .i64)).toArray t)).cell? ⟨w.heap.size, j, none⟩ = some (.int .i64 (xs.getD j 0)) := by
  have e := heap_alloc_new w (.cells (xs.map (Value.int .i64)).toArray t)
  unfold World.cell?
  rw [e]
  simp [hj, List.getD]
/-- One of a row of numbers that was made for it is drawn. -/
theorem pickInt_made (w w0 : World) (base g : Nat) (xs : List Int) (t : TypeId) (h0 : 0 < xs.length) (hn : xs.length ≤ 1000) (C : Cur w base g) (e : w0 = w.alloc (.cells (xs.map (Value.int .i64)).toArray t)) :
    Calls Try.prog 23 #[.pointer (some ⟨g, 0, none⟩), .slice (some ⟨w.heap.size, 0, none⟩) xs.length xs.length] w0 fun e w' => ∃ x, x ∈ xs ∧ e = .returned (.int .i64 x) ∧ Far g w w' ∧ Cur w' base g := by
  subst e
  refine (pickInt_any _ base g w.heap.size xs.length xs.length (fun j => xs.getD j 0) h0 hn (by have := C.lt; omega) (Array.getElem?_eq_some_iff.1 (heap_alloc_new w _)).1 (fun j hj => row_cells w xs t j hj) (C.below ((Below.refl _ _).alloc C.lt _))).mono ?_
  rintro e w' ⟨j, hj, rfl, hf, hc⟩
  exact ⟨_, by simp [List.getD, hj], rfl, (Far.ofBelow ((Below.refl _ _).alloc (Nat.le_refl _) _)).trans hf, hc⟩
end Go.Proofs.Ytmchgmpdhfefjaa
