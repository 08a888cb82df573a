/-
  Walks: values that are drawn.
-/
import Derived.Test.YtbfccaeobeepdaaPickW
namespace Go.Proofs.Ytbfccaeobeepdaa
open Go.RowKit

theorem val_any (w : World) (base g : Nat) (C : Cur w base g) :
    Calls Try.prog 24 #[.pointer (some ⟨g, 0, none⟩)] w fun e w' => ∃ x : Int, e = .returned (.int .i64 x) ∧ Far g w w' ∧ Cur w' base g := by
  have P := hide (fun w0 => pickInt_made w w0 base g [0, 1, 2, 3, -1, 7, 1000, 1000000, -1000000, 999999, 1000001, -9223372036854775808, 9223372036854775807] 3 (by decide) (by decide) C)
  clear C
  go_enter Try.func24, Try.ntmps24
  go_wp2_with (go_at_call 23; refine (unhide P _ rfl).mono ?_; rintro e w1 ⟨x, _, rfl, hf, hc⟩)
  go_ret
  exact ⟨x, rfl, hf, hc⟩

theorem drawNeg (w : World) (base : Nat) (v : Value) (n : Nat) (hn : n ≤ 1048576) (H : CodeAt w base v n) (hb : base ≤ w.heap.size) :
    Calls Try.prog 14 #[v] w fun e w' => ∃ x : Int, e = .returned (.int .i64 x) ∧ Below w.heap.size w w' := by
  have NW := hide (new_any w base v n hn H hb)
  clear H
  go_enter Try.func14, Try.ntmps14
  go_wp2_with (first | (go_at_call 22; refine (NW.out).mono ?_; rintro e w1 ⟨rfl, hb1, hc1⟩) | (go_at_call 24; refine (val_any _ base _ hc1).mono ?_; rintro e w2 ⟨x, rfl, hf2, hc2⟩))
  go_ret
  exact ⟨x, rfl, hb1.trans (hf2.below (Nat.le_refl _) hb1.size)⟩
theorem drawDen (w : World) (base : Nat) (v : Value) (n : Nat) (hn : n ≤ 1048576) (H : CodeAt w base v n) (hb : base ≤ w.heap.size) :
    Calls Try.prog 15 #[v] w fun e w' => ∃ x : Int, e = .returned (.int .i64 x) ∧ Below w.heap.size w w' := by
  have NW := hide (new_any w base v n hn H hb)
  clear H
  go_enter Try.func15, Try.ntmps15
  go_wp2_with (first | (go_at_call 22; refine (NW.out).mono ?_; rintro e w1 ⟨rfl, hb1, hc1⟩) | (go_at_call 24; refine (val_any _ base _ hc1).mono ?_; rintro e w2 ⟨x, rfl, hf2, hc2⟩))
  go_ret
  exact ⟨x, rfl, hb1.trans (hf2.below (Nat.le_refl _) hb1.size)⟩
theorem drawCalc (w : World) (base : Nat) (v : Value) (n : Nat) (hn : n ≤ 1048576) (H : CodeAt w base v n) (hb : base ≤ w.heap.size) :
    Calls Try.prog 10 #[v] w fun e w' => ∃ x y z : Int, e = .returned (.tuple #[.int .i64 x, .int .i64 y, .int .i64 z]) ∧ Below w.heap.size w w' := by
  have NW := hide (new_any w base v n hn H hb)
  clear H
  go_enter Try.func10, Try.ntmps10
  go_wp2_with (first | (go_at_call 22; refine (NW.out).mono ?_; rintro e w1 ⟨rfl, hb1, hc1⟩; have P := hide (fun w0 => pickInt_made w1 w0 base _ [1, 2, 3, 4, 5, 6, 7, 8, 9, 0, 10, 3, 1] 3 (by decide) (by decide) hc1)) | (go_at_call 23; refine (unhide P _ rfl).mono ?_; rintro e w2 ⟨x, _, rfl, hf2, hc2⟩) | (go_at_call 24; refine (val_any _ base _ hc2).mono ?_; rintro e w3 ⟨y, rfl, hf3, hc3⟩) | (go_at_call 24; refine (val_any _ base _ hc3).mono ?_; rintro e w4 ⟨z, rfl, hf4, hc4⟩))
  go_ret3
  exact ⟨x, y, z, rfl, hb1.trans (((hf2.trans hf3).trans hf4).below (Nat.le_refl _) hb1.size)⟩
end Go.Proofs.Ytbfccaeobeepdaa
