/-
  Walks: a drawn text of a sum, and the law of one byte that is another.
-/
import Derived.Test.YtnidmllipiiakaaDoorPlacesW
import Derived.Test.YtnidmllipiiakaaDoorUnsW
namespace Go.Proofs.YtnidmllipiiakaaDoor
open Go.RowKit

theorem drawSum (w : World) (base : Nat) (v : Value) (n : Nat) (hn : n ≤ 1048576) (H : CodeAt w base v n) (hb : base ≤ w.heap.size) :
    Calls Tryd.prog 9 #[v] w fun e w' => ∃ (s : ByteArray), s.size < 40 ∧ e = .returned (.string s) ∧ Below w.heap.size w w' := by
  have NW := hide (new_any w base v n hn H hb)
  clear H
  go_enter Tryd.func9, Tryd.ntmps9
  go_wp2_with (first | (go_at_call 19; refine (NW.out).mono ?_; rintro e w1 ⟨rfl, hb1, hc1⟩) | (go_at_call 21; refine (below_any _ base _ 40 (by omega) hc1).mono ?_; rintro e w2 ⟨x2, hx2, rfl, hf2, hc2⟩) | (go_at_call 20; refine (text_any _ base _ x2 (by omega) hc2).mono ?_; rintro e w3 ⟨s, hs, rfl, hf3, hc3⟩))
  go_ret
  exact ⟨s, by omega, rfl, hb1.trans ((hf2.trans hf3).below (Nat.le_refl _) hb1.size)⟩
end Go.Proofs.YtnidmllipiiakaaDoor
