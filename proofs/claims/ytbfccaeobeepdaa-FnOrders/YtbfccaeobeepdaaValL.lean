/-
  Walks: the two laws of drawn values.
-/
import Derived.Test.YtbfccaeobeepdaaDrawV
import Derived.Test.YtbfccaeobeepdaaBigW
import Derived.Test.YtbfccaeobeepdaaCalcS
namespace Go.Proofs.Ytbfccaeobeepdaa
open Go.RowKit

theorem implCalcT (op a b : Int) (w : World) : Calls Try.prog 11 #[.int .i64 op, .int .i64 a, .int .i64 b] w fun e w' => e = .returned (.tuple #[.int .i64 (calcX op a b), .int .i64 (calcY op a b)]) ∧ w = w' := implCalc op a b w
theorem specCalcT (op a b : Int) (w : World) : Calls Try.prog 12 #[.int .i64 op, .int .i64 a, .int .i64 b] w fun e w' => e = .returned (.tuple #[.int .i64 (calcX op a b), .int .i64 (calcY op a b)]) ∧ w = w' := specCalc op a b w
theorem calcX_ok (op a b : Int) : vok (calcX op a b) = true := by
  unfold calcX
  split
  · rename_i h; simp only [Bool.and_eq_true] at h; exact h.2
  · rfl
theorem calcX_zero (op a b : Int) (h : ¬ calcY op a b = 0) : calcX op a b = 0 := by
  unfold calcX
  split
  · rename_i k
    exfalso
    apply h
    simp only [Bool.and_eq_true, Bool.not_eq_true'] at k
    obtain ⟨⟨⟨⟨h1, h2⟩, h3⟩, h4⟩, h5⟩ := k
    simp [calcY, h1, h2, h3, h4, h5]
  · rfl
/-- What comes out where nothing goes wrong. -/
theorem calc_right {op a b o : Int} (ho : opB op = true) (ha : vok a = true) (hb : vok b = true) (hd : (divB op && decide (b = 0)) = false) (e : calcO op a b = o) (hv : vok o = true) : calcX op a b = o ∧ calcY op a b = 0 := by
  subst e
  simp [calcX, calcY, ho, ha, hb, hd, hv]
theorem calc_far {op a b o : Int} (ho : opB op = true) (ha : vok a = true) (hb : vok b = true) (hd : (divB op && decide (b = 0)) = false) (e : calcO op a b = o) (hv : vok o = false) : calcY op a b = 1 := by
  subst e
  simp [calcY, ho, ha, hb, hd, hv]

set_option maxHeartbeats 2000000 in
theorem lawOrders (w : World) (v : Value) (n : Nat) (H : CodeAt w w.heap.size v n) :
    Calls Try.prog 4 #[v] w fun e w' => e = .returned (.bool true) ∧ Below w.heap.size w w' := by
  obtain ⟨a, c, rfl⟩ := H.slice
  have BG := fun w => hide (big_any w a n c)
  by_cases hn : 1048576 < n
  · rw [decide_eq_true hn] at BG
    go_enter Try.func4, Try.ntmps4
    go_wp2_with (go_at_call 9; refine (unhide (BG _)).mono ?_; rintro e w1 ⟨rfl, rfl⟩)
    go_ret
    exact ⟨rfl, Below.refl _ _⟩
  · rw [decide_eq_false hn] at BG
    have DP := hide (places_any w w.heap.size _ n (by omega) H (Nat.le_refl _))
    clear H hn
    go_enter Try.func4, Try.ntmps4
    go_wp2_with (first | (go_at_call 9; refine (unhide (BG _)).mono ?_; rintro e w1 ⟨rfl, rfl⟩) | (go_at_call 21; refine (unhide DP).mono ?_; rintro e w2 ⟨pv, xs, rfl, hxl, hxs, hown, hb2⟩; obtain ⟨gp, pc, rfl, hgp, hpc⟩ := row12 hxl hown; have hx0 : xs[0] < 10000 := hxs _ (List.getElem_mem _); have hx1 : xs[1] < 10000 := hxs _ (List.getElem_mem _); have hp0 := hpc 0 (by omega); have hp1 := hpc 1 (by omega); clear hpc hown hxs BG DP; generalize xs[0] = x0 at *; generalize xs[1] = x1 at *))
    have ha1 : -5000 ≤ (x0 : Int) - 5000 := by omega
    have ha2 : (x0 : Int) - 5000 ≤ 4999 := by omega
    have hb1 : -5000 ≤ (x1 : Int) - 5000 := by omega
    have hb3 : (x1 : Int) - 5000 ≤ 4999 := by omega
    clear hp0 hp1 hx0 hx1
    generalize (x0 : Int) - 5000 = a at *
    generalize (x1 : Int) - 5000 = b at *
    have HB := hide hb2
    have va : vok a = true := (vok_iff a).2 (by omega)
    have vb : vok b = true := (vok_iff b).2 (by omega)
    have vs : vok (a + b) = true := (vok_iff _).2 (by omega)
    obtain ⟨e1x, e1y⟩ := calc_right (op := 1) (o := a + b) rfl va vb rfl rfl vs
    obtain ⟨e2x, e2y⟩ := calc_right (op := 2) (o := a) rfl vs vb rfl (show a + b - b = a by omega) va
    have hm := wrap_mul (a := a) (b := b) (by omega) (by omega) (by omega) (by omega)
    have E3 : (vok (a * b) = true ∧ calcX 3 a b = a * b ∧ calcY 3 a b = 0) ∨ (vok (a * b) = false ∧ calcY 3 a b = 1) := by
      cases hv : vok (a * b)
      · exact .inr ⟨rfl, calc_far rfl va vb rfl rfl hv⟩
      · exact .inl ⟨rfl, calc_right rfl va vb rfl rfl hv⟩
    have E6 : ∃ p q r : Int, p + q + r = 1 ∧ 0 ≤ p ∧ p ≤ 1 ∧ 0 ≤ q ∧ q ≤ 1 ∧ 0 ≤ r ∧ r ≤ 1 ∧ calcX 6 a b = p ∧ calcX 6 b a = q ∧ calcX 7 a b = r ∧ calcY 6 a b = 0 ∧ calcY 6 b a = 0 ∧ calcY 7 a b = 0 := by
      have g1 := calc_right (op := 6) (a := a) (b := b) (o := if decide (a < b) = true then 1 else 0) rfl va vb rfl rfl (by split <;> rfl)
      have g2 := calc_right (op := 6) (a := b) (b := a) (o := if decide (b < a) = true then 1 else 0) rfl vb va rfl rfl (by split <;> rfl)
      have g3 := calc_right (op := 7) (a := a) (b := b) (o := if decide (a = b) = true then 1 else 0) rfl va vb rfl rfl (by split <;> rfl)
      refine ⟨_, _, _, ?_, ?_, ?_, ?_, ?_, ?_, ?_, g1.1, g2.1, g3.1, g1.2, g2.2, g3.2⟩
      all_goals simp only [decide_eq_true_eq]
      all_goals (repeat' split)
      all_goals omega
    obtain ⟨p, q, r, hpqr, hp1, hp2, hq1, hq2, hr1, hr2, e6, e6', e7, y6, y6', y7⟩ := E6
    clear hb2 va vb vs
    rcases E3 with ⟨hv, e3x, e3y⟩ | ⟨hv, e3y⟩
    · obtain ⟨hf1, hf2⟩ := (vok_iff _).1 hv
      have d1 : decide (1000000 < a * b) = false := decide_eq_false (by omega)
      have d2 : decide (a * b < -1000000) = false := decide_eq_false (by omega)
      clear hv hf1 hf2
      go_wp2_with (go_at_call 11; refine (implCalcT _ _ _ _).mono ?_; rintro e w3 ⟨rfl, rfl⟩)
      go_ret
      exact ⟨rfl, HB.out⟩
    · have hf := (vok_not _).1 hv
      clear hv
      by_cases hbig : 1000000 < a * b
      · have d1 : decide (1000000 < a * b) = true := decide_eq_true hbig
        clear hf hbig
        go_wp2_with (go_at_call 11; refine (implCalcT _ _ _ _).mono ?_; rintro e w3 ⟨rfl, rfl⟩)
        go_ret
        exact ⟨rfl, HB.out⟩
      · have d1 : decide (1000000 < a * b) = false := decide_eq_false hbig
        have d2 : decide (a * b < -1000000) = true := decide_eq_true (by omega)
        clear hf hbig
        go_wp2_with (go_at_call 11; refine (implCalcT _ _ _ _).mono ?_; rintro e w3 ⟨rfl, rfl⟩)
        go_ret
        exact ⟨rfl, HB.out⟩
end Go.Proofs.Ytbfccaeobeepdaa
