/-
  Walks: words of a machine, by the specification; the laws' own helpers.
-/
import Derived.Test.YtgmihgnbhjgghaaValW
import Derived.Test.YtgmihgnbhjgghaaBoxP
import Derived.Test.YtgmihgnbhjgghaaBoxR
import Derived.Laws.Shifts
import Derived.Laws.BitsAllLaws
namespace Go.Proofs.Ytgmihgnbhjgghaa
open Go.RowKit

theorem specInI (n lo hi : Int) (w : World) : Calls Try.prog 16 #[.int .i64 n, .int .i64 lo, .int .i64 hi] w fun e w' => e = .returned (.bool (inZ lo hi n)) ∧ w = w' := by
  refine (specIn n lo hi w).mono ?_
  rintro e w' ⟨rfl, rfl⟩
  refine ⟨?_, rfl⟩
  congr 2
  by_cases h1 : lo ≤ n <;> by_cases h2 : n ≤ hi <;> simp [inZ, h1, h2]

set_option maxRecDepth 100000 in
set_option maxHeartbeats 8000000 in
theorem specInsOk_any (op a b c : Int) (w : World) :
    Calls Try.prog 18 #[.agg #[.int .i64 op, .int .i64 a, .int .i64 b, .int .i64 c]] w fun e w' => e = .returned (.bool (insB op a b c)) ∧ w' = w.alloc (.cells #[.int .i64 op, .int .i64 a, .int .i64 b, .int .i64 c] 37) := by
  have CI := fun lo hi x z => hide (specInI x lo hi z)
  have RB : Hid (insB op a b c = (inZ 1 10 op && inZ 0 7 a && inZ 0 7 b && inZ 0 4194303 c && insTwo op b && insArgs op a b c)) := rfl
  obtain ⟨r, er⟩ : ∃ r, insB op a b c = r := ⟨_, rfl⟩
  rw [er] at RB ⊢
  clear er
  by_cases h1 : inZ 1 10 op = true
  case neg =>
    replace h1 : inZ 1 10 op = false := by simpa using h1
    obtain rfl : r = false := by rw [RB.out]; simp [h1]
    go_enter Try.func18, Try.ntmps18
    go_wp2_with (go_at_call 16; refine (unhide (CI _ _ _ _)).mono ?_; rintro e z ⟨rfl, rfl⟩)
    go_ret
    exact ⟨rfl, rfl⟩
  by_cases h2 : inZ 0 7 a = true
  case neg =>
    replace h2 : inZ 0 7 a = false := by simpa using h2
    obtain rfl : r = false := by rw [RB.out]; simp [h1, h2]
    go_enter Try.func18, Try.ntmps18
    go_wp2_with (go_at_call 16; refine (unhide (CI _ _ _ _)).mono ?_; rintro e z ⟨rfl, rfl⟩)
    go_ret
    exact ⟨rfl, rfl⟩
  by_cases h3 : inZ 0 7 b = true
  case neg =>
    replace h3 : inZ 0 7 b = false := by simpa using h3
    obtain rfl : r = false := by rw [RB.out]; simp [h1, h2, h3]
    go_enter Try.func18, Try.ntmps18
    go_wp2_with (go_at_call 16; refine (unhide (CI _ _ _ _)).mono ?_; rintro e z ⟨rfl, rfl⟩)
    go_ret
    exact ⟨rfl, rfl⟩
  by_cases h4 : inZ 0 4194303 c = true
  case neg =>
    replace h4 : inZ 0 4194303 c = false := by simpa using h4
    obtain rfl : r = false := by rw [RB.out]; simp [h1, h2, h3, h4]
    go_enter Try.func18, Try.ntmps18
    go_wp2_with (go_at_call 16; refine (unhide (CI _ _ _ _)).mono ?_; rintro e z ⟨rfl, rfl⟩)
    go_ret
    exact ⟨rfl, rfl⟩
  have hop := inZ_yes.1 h1
  by_cases e1 : op = 1
  · subst e1
    clear hop
    by_cases hb : b = 0
    case neg =>
      obtain rfl : r = false := by rw [RB.out]; simp [h1, h2, h3, h4, insTwo, hb]
      go_enter Try.func18, Try.ntmps18
      go_wp2_with (go_at_call 16; refine (unhide (CI _ _ _ _)).mono ?_; rintro e z ⟨rfl, rfl⟩)
      go_ret
      exact ⟨rfl, rfl⟩
    subst hb
    obtain rfl : r = decide (c ≤ 1000000) := by rw [RB.out]; simp [h1, h2, h3, h4, insTwo, insArgs]
    go_enter Try.func18, Try.ntmps18
    go_wp2_with (go_at_call 16; refine (unhide (CI _ _ _ _)).mono ?_; rintro e z ⟨rfl, rfl⟩)
    go_ret
    exact ⟨rfl, rfl⟩
  by_cases e2 : op = 2
  · subst e2
    clear hop
    by_cases hb : b = 0
    case neg =>
      obtain rfl : r = false := by rw [RB.out]; simp [h1, h2, h3, h4, insTwo, hb]
      go_enter Try.func18, Try.ntmps18
      go_wp2_with (go_at_call 16; refine (unhide (CI _ _ _ _)).mono ?_; rintro e z ⟨rfl, rfl⟩)
      go_ret
      exact ⟨rfl, rfl⟩
    subst hb
    obtain rfl : r = true := by rw [RB.out]; simp [h1, h2, h3, h4, insTwo, insArgs]
    go_enter Try.func18, Try.ntmps18
    go_wp2_with (go_at_call 16; refine (unhide (CI _ _ _ _)).mono ?_; rintro e z ⟨rfl, rfl⟩)
    go_ret
    exact ⟨rfl, rfl⟩
  by_cases e3 : op = 3
  · subst e3
    clear hop
    by_cases hb : b = 0
    case neg =>
      obtain rfl : r = false := by rw [RB.out]; simp [h1, h2, h3, h4, insTwo, hb]
      go_enter Try.func18, Try.ntmps18
      go_wp2_with (go_at_call 16; refine (unhide (CI _ _ _ _)).mono ?_; rintro e z ⟨rfl, rfl⟩)
      go_ret
      exact ⟨rfl, rfl⟩
    subst hb
    obtain rfl : r = true := by rw [RB.out]; simp [h1, h2, h3, h4, insTwo, insArgs]
    go_enter Try.func18, Try.ntmps18
    go_wp2_with (go_at_call 16; refine (unhide (CI _ _ _ _)).mono ?_; rintro e z ⟨rfl, rfl⟩)
    go_ret
    exact ⟨rfl, rfl⟩
  by_cases e4 : op = 4
  · subst e4
    clear hop
    by_cases hc : inZ 1 9 c = true
    case neg =>
      replace hc : inZ 1 9 c = false := by simpa using hc
      obtain rfl : r = false := by rw [RB.out]; simp [h1, h2, h3, h4, insTwo, insArgs, hc]
      go_enter Try.func18, Try.ntmps18
      go_wp2_with (go_at_call 16; refine (unhide (CI _ _ _ _)).mono ?_; rintro e z ⟨rfl, rfl⟩)
      go_ret
      exact ⟨rfl, rfl⟩
    obtain rfl : r = true := by rw [RB.out]; simp [h1, h2, h3, h4, insTwo, insArgs, hc]
    go_enter Try.func18, Try.ntmps18
    go_wp2_with (go_at_call 16; refine (unhide (CI _ _ _ _)).mono ?_; rintro e z ⟨rfl, rfl⟩)
    go_ret
    exact ⟨rfl, rfl⟩
  by_cases e5 : op = 5
  · subst e5
    clear hop
    by_cases hb : b = 0
    case neg =>
      obtain rfl : r = false := by rw [RB.out]; simp [h1, h2, h3, h4, insTwo, hb]
      go_enter Try.func18, Try.ntmps18
      go_wp2_with (go_at_call 16; refine (unhide (CI _ _ _ _)).mono ?_; rintro e z ⟨rfl, rfl⟩)
      go_ret
      exact ⟨rfl, rfl⟩
    subst hb
    obtain rfl : r = (c == 0) := by rw [RB.out]; simp [h1, h2, h3, h4, insTwo, insArgs]
    go_enter Try.func18, Try.ntmps18
    go_wp2_with (go_at_call 16; refine (unhide (CI _ _ _ _)).mono ?_; rintro e z ⟨rfl, rfl⟩)
    go_ret
    exact ⟨rfl, rfl⟩
  by_cases e6 : op = 6
  · subst e6
    clear hop
    by_cases hb : b = 0
    case neg =>
      obtain rfl : r = false := by rw [RB.out]; simp [h1, h2, h3, h4, insTwo, hb]
      go_enter Try.func18, Try.ntmps18
      go_wp2_with (go_at_call 16; refine (unhide (CI _ _ _ _)).mono ?_; rintro e z ⟨rfl, rfl⟩)
      go_ret
      exact ⟨rfl, rfl⟩
    subst hb
    obtain rfl : r = (c == 0) := by rw [RB.out]; simp [h1, h2, h3, h4, insTwo, insArgs]
    go_enter Try.func18, Try.ntmps18
    go_wp2_with (go_at_call 16; refine (unhide (CI _ _ _ _)).mono ?_; rintro e z ⟨rfl, rfl⟩)
    go_ret
    exact ⟨rfl, rfl⟩
  by_cases e7 : op = 7
  · subst e7
    clear hop
    by_cases hb : b = 0
    case neg =>
      obtain rfl : r = false := by rw [RB.out]; simp [h1, h2, h3, h4, insTwo, hb]
      go_enter Try.func18, Try.ntmps18
      go_wp2_with (go_at_call 16; refine (unhide (CI _ _ _ _)).mono ?_; rintro e z ⟨rfl, rfl⟩)
      go_ret
      exact ⟨rfl, rfl⟩
    subst hb
    obtain rfl : r = true := by rw [RB.out]; simp [h1, h2, h3, h4, insTwo, insArgs]
    go_enter Try.func18, Try.ntmps18
    go_wp2_with (go_at_call 16; refine (unhide (CI _ _ _ _)).mono ?_; rintro e z ⟨rfl, rfl⟩)
    go_ret
    exact ⟨rfl, rfl⟩
  by_cases e8 : op = 8
  · subst e8
    clear hop
    by_cases hb : b = 0
    case neg =>
      obtain rfl : r = false := by rw [RB.out]; simp [h1, h2, h3, h4, insTwo, hb]
      go_enter Try.func18, Try.ntmps18
      go_wp2_with (go_at_call 16; refine (unhide (CI _ _ _ _)).mono ?_; rintro e z ⟨rfl, rfl⟩)
      go_ret
      exact ⟨rfl, rfl⟩
    subst hb
    obtain rfl : r = (a == 0) := by rw [RB.out]; simp [h1, h2, h3, h4, insTwo, insArgs]
    go_enter Try.func18, Try.ntmps18
    go_wp2_with (go_at_call 16; refine (unhide (CI _ _ _ _)).mono ?_; rintro e z ⟨rfl, rfl⟩)
    go_ret
    exact ⟨rfl, rfl⟩
  by_cases e9 : op = 9
  · subst e9
    clear hop
    by_cases hb : b = 0
    case neg =>
      obtain rfl : r = false := by rw [RB.out]; simp [h1, h2, h3, h4, insTwo, hb]
      go_enter Try.func18, Try.ntmps18
      go_wp2_with (go_at_call 16; refine (unhide (CI _ _ _ _)).mono ?_; rintro e z ⟨rfl, rfl⟩)
      go_ret
      exact ⟨rfl, rfl⟩
    subst hb
    obtain rfl : r = true := by rw [RB.out]; simp [h1, h2, h3, h4, insTwo, insArgs]
    go_enter Try.func18, Try.ntmps18
    go_wp2_with (go_at_call 16; refine (unhide (CI _ _ _ _)).mono ?_; rintro e z ⟨rfl, rfl⟩)
    go_ret
    exact ⟨rfl, rfl⟩
  by_cases e10 : op = 10
  · subst e10
    clear hop
    by_cases hc : inZ 1 7 a = true
    case neg =>
      replace hc : inZ 1 7 a = false := by simpa using hc
      obtain rfl : r = false := by rw [RB.out]; simp [h1, h2, h3, h4, insTwo, insArgs, hc]
      go_enter Try.func18, Try.ntmps18
      go_wp2_with (go_at_call 16; refine (unhide (CI _ _ _ _)).mono ?_; rintro e z ⟨rfl, rfl⟩)
      go_ret
      exact ⟨rfl, rfl⟩
    obtain rfl : r = (b == 0) := by rw [RB.out]; simp [h1, h2, h3, h4, insTwo, insArgs, hc]
    go_enter Try.func18, Try.ntmps18
    go_wp2_with (go_at_call 16; refine (unhide (CI _ _ _ _)).mono ?_; rintro e z ⟨rfl, rfl⟩)
    go_ret
    exact ⟨rfl, rfl⟩
  omega
end Go.Proofs.Ytgmihgnbhjgghaa
