/-
  Walks: the four exact laws of sums.
-/
import Derived.Test.YtnidmllipiiakaaDoorUnsW
namespace Go.Proofs.YtnidmllipiiakaaDoor
open Go.RowKit

theorem lawSumMore (n : Int) (t : ByteArray) (w : World) (h0 : 0 ≤ n) (h1 : n < 4294967296) (ht : TabS w) :
    Calls Tryd.prog 4 #[.int .u32 n, .string t] w fun e w' => e = .returned (.bool true) ∧ Below w.heap.size w w' := by
  obtain ⟨s, rfl⟩ := Int.eq_ofNat_of_zero_le h0
  have hs : s < 4294967296 := by omega
  have HT := hide ht
  clear ht h0 h1
  by_cases hz : 1048576 < t.size
  · go_enter Tryd.func4, Tryd.ntmps4
    go_wp2
    go_ret
    exact ⟨rfl, Below.refl _ _⟩
  · go_enter Tryd.func4, Tryd.ntmps4
    go_wp2_with (first | (go_at_call 15; refine (specSumMore _ _ _ hs (by omega)).mono ?_; rintro e w1 ⟨rfl, rfl⟩) | (go_at_call 13; refine (implSumMore _ _ _ hs (by omega) HT.out).mono ?_; rintro e w1 ⟨rfl, rfl⟩))
    go_ret
    exact ⟨rfl, Below.refl _ _⟩
theorem lawSumOf (t : ByteArray) (w : World) (ht : TabS w) :
    Calls Tryd.prog 5 #[.string t] w fun e w' => e = .returned (.bool true) ∧ Below w.heap.size w w' := by
  have HT := hide ht
  clear ht
  by_cases hz : 1048576 < t.size
  · go_enter Tryd.func5, Tryd.ntmps5
    go_wp2
    go_ret
    exact ⟨rfl, Below.refl _ _⟩
  · go_enter Tryd.func5, Tryd.ntmps5
    go_wp2_with (first | (go_at_call 16; refine (specSumOf _ _ (by omega)).mono ?_; rintro e w1 ⟨rfl, rfl⟩) | (go_at_call 14; refine (implSumOf _ _ (by omega) HT.out).mono ?_; rintro e w1 ⟨rfl, rfl⟩))
    go_ret
    exact ⟨rfl, Below.refl _ _⟩
theorem two_form (c : Prop) [Decidable c] (x y : ByteArray) : ∃ (z : ByteArray) (b : Bool), (if c then Value.tuple #[.string x, .bool true] else .tuple #[.string y, .bool false]) = .tuple #[.string z, .bool b] := by
  split
  · exact ⟨_, _, rfl⟩
  · exact ⟨_, _, rfl⟩
theorem two_form' (c : Prop) [Decidable c] (x y : ByteArray) : ∃ (z : ByteArray) (b : Bool), (if c then Value.tuple #[.string x, .bool false] else .tuple #[.string y, .bool true]) = .tuple #[.string z, .bool b] := by
  split
  · exact ⟨_, _, rfl⟩
  · exact ⟨_, _, rfl⟩
theorem lawSealed (t : ByteArray) (w : World) (ht : TabS w) :
    Calls Tryd.prog 6 #[.string t] w fun e w' => e = .returned (.bool true) ∧ Below w.heap.size w w' := by
  have HT := hide ht
  clear ht
  by_cases hz : 1048576 < t.size
  · go_enter Tryd.func6, Tryd.ntmps6
    go_wp2
    go_ret
    exact ⟨rfl, Below.refl _ _⟩
  · have I := fun w h => hide (implSealed t w (by omega) h)
    have J := fun w => hide (specSealed t w (by omega))
    obtain ⟨z, b, hv⟩ : ∃ z b, sealV t = .tuple #[.string z, .bool b] := two_form' _ _ _
    rw [hv] at I J
    clear hv
    go_enter Tryd.func6, Tryd.ntmps6
    go_wp2_with (first | (go_at_call 17; refine (unhide (J _)).mono ?_; rintro e w1 ⟨rfl, hb1⟩) | (go_at_call 11; refine (unhide (I _ (HT.out.stays hb1))).mono ?_; rintro e w2 ⟨rfl, hb2⟩))
    go_ret
    exact ⟨rfl, hb1.trans (hb2.mono hb1.size)⟩
theorem lawUnsealed (t : ByteArray) (w : World) (ht : TabS w) :
    Calls Tryd.prog 7 #[.string t] w fun e w' => e = .returned (.bool true) ∧ Below w.heap.size w w' := by
  have HT := hide ht
  clear ht
  by_cases hz : 1048576 < t.size
  · go_enter Tryd.func7, Tryd.ntmps7
    go_wp2
    go_ret
    exact ⟨rfl, Below.refl _ _⟩
  · have I := fun w h => hide (implUns t w (by omega) h)
    have J := fun w => hide (specUns t w (by omega))
    obtain ⟨z, b, hv⟩ : ∃ z b, unsV t = .tuple #[.string z, .bool b] := two_form _ _ _
    rw [hv] at I J
    clear hv
    go_enter Tryd.func7, Tryd.ntmps7
    go_wp2_with (first | (go_at_call 18; refine (unhide (J _)).mono ?_; rintro e w1 ⟨rfl, hb1⟩) | (go_at_call 12; refine (unhide (I _ (HT.out.stays hb1))).mono ?_; rintro e w2 ⟨rfl, hb2⟩))
    go_ret
    exact ⟨rfl, hb1.trans (hb2.mono hb1.size)⟩
end Go.Proofs.YtnidmllipiiakaaDoor
