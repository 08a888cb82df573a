/-
  Walks: reading the bytes of a number, by the specification.
-/
import Derived.Test.YtgbplfahbkdalaaDoorReadVarW
import Derived.BigQuiet
import Derived.WalkSmall
import Derived.Deep.RegionHeld3
namespace Go.Proofs.YtgbplfahbkdalaaDoor
open Go.RowKit

theorem implReadVar_out (s : ByteArray) (a : Int) (w : World) (ha : a < 0 ∨ (s.size : Int) < a) (_hs : s.size ≤ 1048576) :
    Calls Tryd.prog 7 #[.string s, .int .i64 a] w fun e w' => e = .returned (rvRes (0, 0, false)) ∧ w = w' := by
  rcases ha with h | h
  · go_enter Tryd.func7, Tryd.ntmps7
    go_wp2
    go_ret3
    exact ⟨rfl, rfl⟩
  · have h' : ¬ a < 0 := by omega
    go_enter Tryd.func7, Tryd.ntmps7
    go_wp2
    go_ret3
    exact ⟨rfl, rfl⟩

end Go.Proofs.YtgbplfahbkdalaaDoor
