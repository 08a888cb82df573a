/-
  Walk: the law of what is calculated of drawn values.
-/
import Derived.Test.YtbfccaeobeepdaaValL
namespace Go.Proofs.Ytbfccaeobeepdaa
open Go.RowKit

theorem tmod_small {a : Int} (b : Int) (ha1 : -1000000 ≤ a) (ha2 : a ≤ 1000000) : -1000000 ≤ a.tmod b ∧ a.tmod b ≤ 1000000 := by
  have h : (a.tmod b).natAbs ≤ 1000000 := by rw [Int.natAbs_tmod]; exact Nat.le_trans (Nat.mod_le _ _) (by omega)
  omega

set_option maxHeartbeats 2000000 in
theorem lawValues (w : World) (v : Value) (n : Nat) (H : CodeAt w w.heap.size v n) :
    Calls Try.prog 3 #[v] w fun e w' => e = .returned (.bool true) ∧ Below w.heap.size w w' := by
  obtain ⟨a, c, rfl⟩ := H.slice
  have BG := fun w => hide (big_any w a n c)
  by_cases hn : 1048576 < n
  · rw [decide_eq_true hn] at BG
    go_enter Try.func3, Try.ntmps3
    go_wp2_with (go_at_call 9; refine (unhide (BG _)).mono ?_; rintro e w1 ⟨rfl, rfl⟩)
    go_ret
    exact ⟨rfl, Below.refl _ _⟩
  · rw [decide_eq_false hn] at BG
    have DC := hide (drawCalc w w.heap.size _ n (by omega) H (Nat.le_refl _))
    have DN := fun w' (hb : Below w.heap.size w w') => hide (drawNeg w' w.heap.size _ n (by omega) (H.below hb) hb.size)
    have DD := fun w' (hb : Below w.heap.size w w') => hide (drawDen w' w.heap.size _ n (by omega) (H.below hb) hb.size)
    clear H hn
    go_enter Try.func3, Try.ntmps3
    go_wp2_with (first | (go_at_call 9; refine (unhide (BG _)).mono ?_; rintro e w1 ⟨rfl, rfl⟩) | (go_at_call 10; refine (unhide DC).mono ?_; rintro e w1 ⟨op, a, b, rfl, hb1⟩))
    clear BG DC
    have hX := calcX_ok op a b
    have hY : calcY op a b = 0 ∨ calcX op a b = 0 ∧ ¬ calcY op a b = 0 := by
      by_cases h : calcY op a b = 0
      · exact .inl h
      · exact .inr ⟨calcX_zero op a b h, h⟩
    have d0 : (if (0 : Int) = 0 then (1 : Int) else 0) = 1 := rfl
    have HT : Hid (vok a = false ∨ (vok a = true ∧ vok b = false) ∨ (vok a = true ∧ vok b = true ∧ b = 0) ∨ (vok a = true ∧ vok b = true ∧ ¬ b = 0)) := by
      cases vok a
      · exact .inl rfl
      · cases vok b
        · exact .inr (.inl ⟨rfl, rfl⟩)
        · by_cases h : b = 0
          · exact .inr (.inr (.inl ⟨rfl, rfl, h⟩))
          · exact .inr (.inr (.inr ⟨rfl, rfl, h⟩))
    have NI : ∀ u : Int, ∃ x y, negV u = .tuple #[.int .i64 x, .int .i64 y] := fun u => by unfold negV two; split <;> exact ⟨_, _, rfl⟩
    rcases HT.out with va | ⟨va, vb⟩ | ⟨va, vb, rfl⟩ | ⟨va, vb, b0⟩
    rotate_left 3
    · obtain ⟨e4x, e4y⟩ := calc_right (op := 4) (a := a) (b := b) (o := a.tdiv b) rfl va vb (by simp [b0]) rfl ((vok_iff _).2 (tdiv_small b ((vok_iff a).1 va).1 ((vok_iff a).1 va).2))
      have hr := tmod_small b ((vok_iff a).1 va).1 ((vok_iff a).1 va).2
      obtain ⟨e5x, e5y⟩ := calc_right (op := 5) (a := a) (b := b) (o := a.tmod b) rfl va vb (by simp [b0]) rfl ((vok_iff _).2 hr)
      have hq : a.tdiv b * b + a.tmod b = a := Int.tdiv_mul_add_tmod a b
      have hA := (vok_iff a).1 va
      have w1' : wrap64 (a.tdiv b * b) = a.tdiv b * b := IntWalk.wrap64_in _ (by omega)
      have w2' : wrap64 (a.tdiv b * b + a.tmod b) = a := by rw [hq]; exact IntWalk.wrap64_in _ (by omega)
      generalize a.tdiv b = q at *
      generalize a.tmod b = r at *
      clear hr hA hq
      rcases hY with y0 | ⟨x0, y0⟩
      all_goals clear HT
      all_goals go_wp2_with (first | (go_at_call 11; refine (implCalcT _ _ _ _).mono ?_; rintro e w2 ⟨rfl, rfl⟩) | (go_at_call 12; refine (specCalcT _ _ _ _).mono ?_; rintro e w2 ⟨rfl, rfl⟩) | (go_at_call 13; refine (implValOk _ _).mono ?_; rintro e w2 ⟨rfl, rfl⟩) | (go_at_call 20; refine (specValOk _ _).mono ?_; rintro e w2 ⟨rfl, rfl⟩) | (go_at_call 14; refine (unhide (DN _ hb1)).mono ?_; rintro e w3 ⟨u, rfl, hb3⟩; have hb3' := hb1.trans (hb3.mono hb1.size); obtain ⟨nx, ny, hng⟩ := NI u; have IN := fun w => hide (implNeg u w); have SN := fun w => hide (specNeg u w); rw [hng] at IN SN; clear hng) | (go_at_call 15; refine (unhide (DD _ hb3')).mono ?_; rintro e w4 ⟨t, rfl, hb4⟩; have hb4' := hb3'.trans (hb4.mono hb3'.size)) | (go_at_call 16; refine (unhide (IN _)).mono ?_; rintro e w5 ⟨rfl, rfl⟩) | (go_at_call 17; refine (unhide (SN _)).mono ?_; rintro e w5 ⟨rfl, rfl⟩) | (go_at_call 18; refine (implDenied _ _).mono ?_; rintro e w5 ⟨rfl, rfl⟩) | (go_at_call 19; refine (specDenied _ _).mono ?_; rintro e w5 ⟨rfl, rfl⟩))
      all_goals go_ret
      all_goals exact ⟨rfl, hb4'⟩
    all_goals rcases hY with y0 | ⟨x0, y0⟩
    all_goals clear HT
    all_goals go_wp2_with (first | (go_at_call 11; refine (implCalcT _ _ _ _).mono ?_; rintro e w2 ⟨rfl, rfl⟩) | (go_at_call 12; refine (specCalcT _ _ _ _).mono ?_; rintro e w2 ⟨rfl, rfl⟩) | (go_at_call 13; refine (implValOk _ _).mono ?_; rintro e w2 ⟨rfl, rfl⟩) | (go_at_call 20; refine (specValOk _ _).mono ?_; rintro e w2 ⟨rfl, rfl⟩) | (go_at_call 14; refine (unhide (DN _ hb1)).mono ?_; rintro e w3 ⟨u, rfl, hb3⟩; have hb3' := hb1.trans (hb3.mono hb1.size); obtain ⟨nx, ny, hng⟩ := NI u; have IN := fun w => hide (implNeg u w); have SN := fun w => hide (specNeg u w); rw [hng] at IN SN; clear hng) | (go_at_call 15; refine (unhide (DD _ hb3')).mono ?_; rintro e w4 ⟨t, rfl, hb4⟩; have hb4' := hb3'.trans (hb4.mono hb3'.size)) | (go_at_call 16; refine (unhide (IN _)).mono ?_; rintro e w5 ⟨rfl, rfl⟩) | (go_at_call 17; refine (unhide (SN _)).mono ?_; rintro e w5 ⟨rfl, rfl⟩) | (go_at_call 18; refine (implDenied _ _).mono ?_; rintro e w5 ⟨rfl, rfl⟩) | (go_at_call 19; refine (specDenied _ _).mono ?_; rintro e w5 ⟨rfl, rfl⟩))
    all_goals go_ret
    all_goals exact ⟨rfl, hb4'⟩
end Go.Proofs.Ytbfccaeobeepdaa
