/-
  The law of the signs of a text, out of its pieces.
-/
import Derived.Test.YtfnmpohcoabenaaDoorSpcW
import Derived.Test.YtfnmpohcoabenaaDoorSgE
import Derived.Test.YtfnmpohcoabenaaDoorSgM
namespace Go.Proofs.YtfnmpohcoabenaaDoor
open Go.RowKit

set_option maxHeartbeats 4000000 in
theorem lawSignsOf (s : ByteArray) (w : World) (hs : s.size ≤ 1048576) (htab : Lib.Utf8Tabs 0 1 w) :
    Calls Tryd.prog 3 #[.string s] w fun e w' => e = .returned (.bool true) ∧ Below w.heap.size w w' := by
  have hlen := signsR_len s
  have CS := fun w => hide (specSignsOf_any s w hs)
  have CI := fun w h => hide (implSignsOf_any s w hs h)
  have HT := hide htab
  clear htab
  obtain ⟨xs, c, hr⟩ : ∃ xs c, signsR s = (xs, c) := ⟨_, _, rfl⟩
  unfold SignEnd at CS CI
  simp only [hr] at CS CI hlen
  clear hr
  go_enter Tryd.func3, Tryd.ntmps3
  go_wp2_with fail
  refine (unhide (CS _)).mono ?_
  rintro e w1 ⟨v, rfl, hown1, hb1⟩
  have hs1 := hb1.size
  have HO1 := hide hown1
  have HB1 := hide hb1
  clear hown1 hb1
  go_wp2_with fail
  refine (unhide (CI _ (tabs_stay HT.out HB1.out (Nat.le_refl _)))).mono ?_
  rintro e w2 ⟨g, rfl, hown2, hb2⟩
  have hs2 := hb2.size
  have HO2 := hide hown2
  have HB2 := hide hb2
  clear hown2 hb2
  go_wp2_with fail
  refine (eqSignS_same g v xs _ (by omega) (SgAt.own HO2.out).1 (SgAt.own (ownsRow_stays HO1.out HB2.out)).1).mono ?_
  rintro e w3 ⟨rfl, hb3⟩
  have hs3 := hb3.size
  have HB3 := hide hb3
  clear hb3
  go_wp2_with fail
  refine (markSigns_any g xs.length w1.heap.size 1 xs _ (by omega) (by omega) (ownsRow_stays HO2.out HB3.out)).mono ?_
  rintro e w4 ⟨rfl, hown4, hb4⟩
  have hs4 := hb4.size
  have HO4 := hide hown4
  have HB4 := hide hb4
  clear hown4 hb4
  go_wp2_with fail
  refine (heldSigns_any g xs.length w1.heap.size 1 _ (by omega) (by omega) HO4.out).mono ?_
  rintro e w5 ⟨rfl, hb5⟩
  have hs5 := hb5.size
  have HB5 := hide hb5
  clear hb5
  have HW : Hid (Below w1.heap.size w1 w5) := ((HB2.out.trans (HB3.out.mono (by omega))).trans HB4.out).trans (HB5.out.mono (by omega))
  have HW0 : Hid (Below w.heap.size w w5) := HB1.out.trans (HW.out.mono hs1)
  go_wp2_with fail
  refine (unhide (CI _ (tabs_stay HT.out HW0.out (Nat.le_refl _)))).mono ?_
  rintro e w6 ⟨h, rfl, hown6, hb6⟩
  have hs6 := hb6.size
  have HO6 := hide hown6
  have HB6 := hide hb6
  clear hown6 hb6
  have HW1 : Hid (Below w1.heap.size w1 w6) := HW.out.trans (HB6.out.mono (by omega))
  go_wp2_with fail
  refine (eqSignS_same h v xs _ (by omega) (SgAt.own HO6.out).1 (SgAt.own (ownsRow_stays HO1.out HW1.out)).1).mono ?_
  rintro e w7 ⟨rfl, hb7⟩
  have hs7 := hb7.size
  have HB7 := hide hb7
  clear hb7
  have HO7 : Hid (w7.ownsRow w1.heap.size 36 4 g xs.length (sgCells (sgMarks 1 xs.length))) := ownsRow_stays (ownsRow_stays (ownsRow_stays HO4.out HB5.out) HB6.out) HB7.out
  go_wp2_with fail
  refine (heldSigns_any g xs.length w1.heap.size 1 _ (by omega) (by omega) HO7.out).mono ?_
  rintro e w8 ⟨rfl, hb8⟩
  have hs8 := hb8.size
  have HB8 := hide hb8
  clear hb8
  go_wp2
  go_ret
  refine ⟨rfl, ?_⟩
  exact (HB1.out.trans (HW1.out.mono hs1)).trans ((HB7.out.trans (HB8.out.mono hs7)).mono (by omega))

theorem lawSignsOf_long (s : ByteArray) (w : World) (hs : ¬ s.size ≤ 1048576) (_hm : s.size ≤ maxLen) :
    Calls Tryd.prog 3 #[.string s] w fun e w' => e = .returned (.bool true) ∧ Below w.heap.size w w' := by
  go_enter Tryd.func3, Tryd.ntmps3
  go_wp2
  go_ret
  exact ⟨rfl, Below.refl _ _⟩
end Go.Proofs.YtfnmpohcoabenaaDoor
