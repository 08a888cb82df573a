/-
  A law's walk with both sides' contracts.
-/
import Derived.Test.YtgmihgnbhjgghaaLinW
import Derived.Test.YtgmihgnbhjgghaaLwLb
import Derived.Test.YtgmihgnbhjgghaaLbY
namespace Go.Proofs.Ytgmihgnbhjgghaa
open Go.RowKit

theorem RlnC.room {b : Nat} {z : World} {v : Value} {x : Rln} (h : RlnC b z [v] x) : Room v := by
  obtain ⟨v0, e, css, ⟨ao, c, rfl, hr, _⟩, _⟩ := h.c
  injection e with e0 _
  subst e0
  exact hr.1
theorem lawPlaceOf_whole (v : Value) (x : Rln) (s : ByteArray) (w : World) (h : RlnAt w v x) (m : RlnMax x) (hs : s.size ≤ maxLen) :
    Calls Try.prog 5 #[v, .string s] w fun e w' => e = .returned (.bool true) ∧ Below w.heap.size w w' :=
  lawPlaceOf v x s w h m hs (fun hl _ a z _ hc => (specPlaceOf_any a x.row s z hc.at.a0 (szRln_len hl).l0 hc.room).mono fun _ _ h => ⟨h.1, by rw [h.2]; exact Below.refl _ _⟩) (fun hl hs a z _ hc => implPlaceOf_any a x.row s z hc.at.a0 (szRln_len hl).l0 (ln_labels hl) hs)
end Go.Proofs.Ytgmihgnbhjgghaa
