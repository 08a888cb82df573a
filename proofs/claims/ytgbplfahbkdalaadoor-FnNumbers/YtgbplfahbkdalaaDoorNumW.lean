/-
  Walks: numbers and texts that are drawn.
-/
import Derived.Test.YtgbplfahbkdalaaDoorPickW
import Derived.Test.YtgbplfahbkdalaaDoorCurX
import Derived.Test.YtgbplfahbkdalaaDoorLongW
namespace Go.Proofs.YtgbplfahbkdalaaDoor
open Go.RowKit

theorem once_any (w : World) (base g n : Nat) (hn : n ≤ 4294967296) (C : Cur w base g) :
    Calls Tryd.prog 19 #[.pointer (some ⟨g, 0, none⟩), .int .i64 n] w fun e w' => ∃ b : Bool, e = .returned (.bool b) ∧ Far g w w' ∧ Cur w' base g := by
  have B := hide (below_any w base g n hn C)
  clear C
  go_enter Tryd.func19, Tryd.ntmps19
  go_wp2_with (go_at_call 21; refine (unhide B).mono ?_; rintro e w1 ⟨x, _, rfl, hf, hc⟩)
  go_ret
  exact ⟨_, rfl, hf, hc⟩

theorem number_any (w : World) (base g : Nat) (C : Cur w base g) :
    Calls Tryd.prog 15 #[.pointer (some ⟨g, 0, none⟩)] w fun e w' => ∃ x : Int, e = .returned (.int .i64 x) ∧ Far g w w' ∧ Cur w' base g := by
  have B := hide (below_any w base g 4 (by omega) C)
  clear C
  go_enter Tryd.func15, Tryd.ntmps15
  go_wp2_with (go_at_call 21; refine (unhide B).mono ?_; clear B; rintro e w1 ⟨x, hx, rfl, hf, hc⟩; have P := hide (fun w0 => pickInt_made w1 w0 base g [-1, 0, 127, 128, 16383, 16384, 1000000000, 1000000001, 9223372036854775807, -9223372036854775808] 3 (by decide) (by decide) hc); obtain h | h | h : x = 0 ∨ x = 1 ∨ 1 < x := (by omega))
  all_goals (try subst h)
  · go_wp2_with (go_at_call 24; refine (unhide P _ rfl).mono ?_; rintro e w2 ⟨y, _, rfl, hf2, hc2⟩)
    go_ret
    exact ⟨y, rfl, hf.trans hf2, hc2⟩
  · clear P
    go_wp2_with (go_at_call 21; refine (below_any _ base g 1000000000 (by omega) hc).mono ?_; rintro e w2 ⟨y, _, rfl, hf2, hc2⟩)
    go_ret
    exact ⟨_, rfl, hf.trans hf2, hc2⟩
  · clear P
    go_wp2_with (go_at_call 21; refine (below_any _ base g 400 (by omega) hc).mono ?_; rintro e w2 ⟨y, _, rfl, hf2, hc2⟩)
    go_ret
    exact ⟨_, rfl, hf.trans hf2, hc2⟩

theorem drawVarText (w : World) (base : Nat) (v : Value) (n : Nat) (hn : n ≤ 1048576) (H : CodeAt w base v n) (hb : base ≤ w.heap.size) :
    Calls Tryd.prog 5 #[v] w fun e w' => ∃ x : Int, e = .returned (.int .i64 x) ∧ Below w.heap.size w w' := by
  have NW := hide (new_any w base v n hn H hb)
  clear H
  go_enter Tryd.func5, Tryd.ntmps5
  go_wp2_with (first | (go_at_call 16; refine (NW.out).mono ?_; rintro e w1 ⟨rfl, hb1, hc1⟩) | (go_at_call 15; refine (number_any _ base _ hc1).mono ?_; rintro e w2 ⟨x, rfl, hf2, hc2⟩))
  go_ret
  exact ⟨x, rfl, hb1.trans (hf2.below (Nat.le_refl _) hb1.size)⟩

theorem drawHex (w : World) (base : Nat) (v : Value) (n : Nat) (hn : n ≤ 1048576) (H : CodeAt w base v n) (hb : base ≤ w.heap.size) :
    Calls Tryd.prog 10 #[v] w fun e w' => ∃ s : ByteArray, s.size ≤ 30000 ∧ e = .returned (.string s) ∧ Below w.heap.size w w' := by
  have NW := hide (new_any w base v n hn H hb)
  clear H
  go_enter Tryd.func10, Tryd.ntmps10
  go_wp2_with (first | (go_at_call 16; refine (NW.out).mono ?_; rintro e w1 ⟨rfl, hb1, hc1⟩) | (go_at_call 19; refine (once_any _ base _ 60 (by omega) hc1).mono ?_; rintro e w2 ⟨b, rfl, hf2, hc2⟩; cases b))
  · go_wp2_with (first | (go_at_call 21; refine (below_any _ base _ 30 (by omega) hc2).mono ?_; rintro e w3 ⟨y, hy, rfl, hf3, hc3⟩) | (go_at_call 22; refine (text_any _ base _ y (by omega) hc3).mono ?_; rintro e w4 ⟨s, hs, rfl, hf4, hc4⟩))
    go_ret
    exact ⟨s, by omega, rfl, hb1.trans (((hf2.trans hf3).trans hf4).below (Nat.le_refl _) hb1.size)⟩
  · go_wp2_with (first | (go_at_call 21; refine (below_any _ base _ 2 (by omega) hc2).mono ?_; rintro e w3 ⟨y, hy, rfl, hf3, hc3⟩; have LG := hide (long_any w3 (20000 + y) 200 (by omega))) | (go_at_call 20; refine (unhide LG).mono ?_; rintro e w4 ⟨s, hs, rfl, hb4⟩))
    go_ret
    exact ⟨s, by omega, rfl, hb1.trans (((hf2.trans hf3).trans (Far.ofBelow hb4)).below (Nat.le_refl _) hb1.size)⟩
end Go.Proofs.YtgbplfahbkdalaaDoor
