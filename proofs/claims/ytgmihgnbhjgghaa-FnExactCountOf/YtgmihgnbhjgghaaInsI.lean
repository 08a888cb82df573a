/-
  Walks: words of a machine, by the program.
-/
import Derived.Test.YtgmihgnbhjgghaaInsX
import Derived.Deep.RegionHeld3
namespace Go.Proofs.Ytgmihgnbhjgghaa
open Go.RowKit

theorem implReg_any (n : Int) (w : World) : Calls Try.prog 32 #[.int .i64 n] w fun e w' => e = .returned (.bool (inZ 0 7 n)) ∧ w = w' := by
  by_cases h1 : 0 ≤ n <;> by_cases h2 : n ≤ 7
  all_goals
    go_enter Try.func32, Try.ntmps32
    go_wp2
    go_ret
    exact ⟨by simp [inZ, h1, h2], rfl⟩
theorem implKnownZ_any (n : Int) (w : World) : Calls Try.prog 31 #[.int .i64 n] w fun e w' => e = .returned (.bool (inZ 1 9 n)) ∧ w = w' := by
  by_cases h1 : 1 ≤ n <;> by_cases h2 : n ≤ 9
  all_goals
    go_enter Try.func31, Try.ntmps31
    go_wp2
    go_ret
    exact ⟨by simp [inZ, h1, h2], rfl⟩
def rangeB (a b c : Int) : Bool := inZ 0 7 a && inZ 0 7 b && inZ 0 4194303 c

set_option maxRecDepth 100000 in
set_option maxHeartbeats 4000000 in
theorem implInRange_any (op a b c : Int) (w : World) :
    Calls Try.prog 30 #[.agg #[.int .i64 op, .int .i64 a, .int .i64 b, .int .i64 c]] w fun e w' => e = .returned (.bool (rangeB a b c)) ∧ w' = w.alloc (.cells #[.int .i64 op, .int .i64 a, .int .i64 b, .int .i64 c] 37) := by
  have CR := fun x z => hide (implReg_any x z)
  have RB : Hid (rangeB a b c = (inZ 0 7 a && inZ 0 7 b && inZ 0 4194303 c)) := rfl
  obtain ⟨r, er⟩ : ∃ r, rangeB a b c = r := ⟨_, rfl⟩
  rw [er] at RB ⊢
  clear er
  by_cases h2 : inZ 0 7 a = true
  case neg =>
    replace h2 : inZ 0 7 a = false := by simpa using h2
    obtain rfl : r = false := by rw [RB.out]; simp [h2]
    go_enter Try.func30, Try.ntmps30
    go_wp2_with (go_at_call 32; refine (unhide (CR _ _)).mono ?_; rintro e z ⟨rfl, rfl⟩)
    go_ret
    exact ⟨rfl, rfl⟩
  by_cases h3 : inZ 0 7 b = true
  case neg =>
    replace h3 : inZ 0 7 b = false := by simpa using h3
    obtain rfl : r = false := by rw [RB.out]; simp [h2, h3]
    go_enter Try.func30, Try.ntmps30
    go_wp2_with (go_at_call 32; refine (unhide (CR _ _)).mono ?_; rintro e z ⟨rfl, rfl⟩)
    go_ret
    exact ⟨rfl, rfl⟩
  by_cases h4 : 0 ≤ c
  case neg =>
    obtain rfl : r = false := by rw [RB.out]; rw [h2, h3]; simp [inZ, h4]
    go_enter Try.func30, Try.ntmps30
    go_wp2_with (go_at_call 32; refine (unhide (CR _ _)).mono ?_; rintro e z ⟨rfl, rfl⟩)
    go_ret
    exact ⟨rfl, rfl⟩
  obtain rfl : r = decide (c ≤ 4194303) := by rw [RB.out]; rw [h2, h3]; simp [inZ, h4]
  go_enter Try.func30, Try.ntmps30
  go_wp2_with (go_at_call 32; refine (unhide (CR _ _)).mono ?_; rintro e z ⟨rfl, rfl⟩)
  go_ret
  exact ⟨rfl, rfl⟩

set_option maxRecDepth 100000 in
set_option maxHeartbeats 8000000 in
theorem implInsOk_any (op a b c : Int) (w : World) :
    Calls Try.prog 27 #[.agg #[.int .i64 op, .int .i64 a, .int .i64 b, .int .i64 c]] w fun e w' => e = .returned (.bool (insB op a b c)) ∧ w' = (w.alloc (.cells #[.int .i64 op, .int .i64 a, .int .i64 b, .int .i64 c] 37)).alloc (.cells #[.int .i64 op, .int .i64 a, .int .i64 b, .int .i64 c] 37) := by
  have CR := fun z => hide (implInRange_any op a b c z)
  have CK := fun z => hide (implKnownZ_any c z)
  have RB : Hid (insB op a b c = (inZ 1 10 op && rangeB a b c && insTwo op b && insArgs op a b c)) := by
    show _ = _
    rw [insB, rangeB]
    cases inZ 1 10 op <;> simp
  obtain ⟨r, er⟩ : ∃ r, insB op a b c = r := ⟨_, rfl⟩
  rw [er] at RB ⊢
  clear er
  by_cases hr : rangeB a b c = true
  case neg =>
    replace hr : rangeB a b c = false := by simpa using hr
    simp only [hr] at CR
    obtain rfl : r = false := by rw [RB.out, hr]; simp
    clear hr
    go_enter Try.func27, Try.ntmps27
    go_wp2_with (first | (go_at_call 30; refine (unhide (CR _)).mono ?_; rintro e z ⟨rfl, rfl⟩) | (go_at_call 31; refine (unhide (CK _)).mono ?_; rintro e z ⟨rfl, rfl⟩))
    go_ret
    exact ⟨rfl, rfl⟩
  simp only [hr] at CR
  rw [hr] at RB
  have hbb : Hid (rangeB a b c = true) := hr
  clear hr
  by_cases e1 : op = 1
  · subst e1
    by_cases hb : b = 0
    case neg =>
      obtain rfl : r = false := by rw [RB.out]; simp [insTwo, hb]
      clear hbb
      go_enter Try.func27, Try.ntmps27
      go_wp2_with (first | (go_at_call 30; refine (unhide (CR _)).mono ?_; rintro e z ⟨rfl, rfl⟩) | (go_at_call 31; refine (unhide (CK _)).mono ?_; rintro e z ⟨rfl, rfl⟩))
      go_ret
      exact ⟨rfl, rfl⟩
    subst hb
    obtain rfl : r = decide (c ≤ 1000000) := by rw [RB.out]; simp [inZ, insTwo, insArgs]
    clear hbb
    go_enter Try.func27, Try.ntmps27
    go_wp2_with (first | (go_at_call 30; refine (unhide (CR _)).mono ?_; rintro e z ⟨rfl, rfl⟩) | (go_at_call 31; refine (unhide (CK _)).mono ?_; rintro e z ⟨rfl, rfl⟩))
    go_ret
    exact ⟨rfl, rfl⟩
  by_cases e2 : op = 2
  · subst e2
    by_cases hb : b = 0
    case neg =>
      obtain rfl : r = false := by rw [RB.out]; simp [insTwo, hb]
      clear hbb
      go_enter Try.func27, Try.ntmps27
      go_wp2_with (first | (go_at_call 30; refine (unhide (CR _)).mono ?_; rintro e z ⟨rfl, rfl⟩) | (go_at_call 31; refine (unhide (CK _)).mono ?_; rintro e z ⟨rfl, rfl⟩))
      go_ret
      exact ⟨rfl, rfl⟩
    subst hb
    obtain rfl : r = true := by rw [RB.out]; simp [inZ, insTwo, insArgs]
    clear hbb
    go_enter Try.func27, Try.ntmps27
    go_wp2_with (first | (go_at_call 30; refine (unhide (CR _)).mono ?_; rintro e z ⟨rfl, rfl⟩) | (go_at_call 31; refine (unhide (CK _)).mono ?_; rintro e z ⟨rfl, rfl⟩))
    go_ret
    exact ⟨rfl, rfl⟩
  by_cases e3 : op = 3
  · subst e3
    by_cases hb : b = 0
    case neg =>
      obtain rfl : r = false := by rw [RB.out]; simp [insTwo, hb]
      clear hbb
      go_enter Try.func27, Try.ntmps27
      go_wp2_with (first | (go_at_call 30; refine (unhide (CR _)).mono ?_; rintro e z ⟨rfl, rfl⟩) | (go_at_call 31; refine (unhide (CK _)).mono ?_; rintro e z ⟨rfl, rfl⟩))
      go_ret
      exact ⟨rfl, rfl⟩
    subst hb
    obtain rfl : r = true := by rw [RB.out]; simp [inZ, insTwo, insArgs]
    clear hbb
    go_enter Try.func27, Try.ntmps27
    go_wp2_with (first | (go_at_call 30; refine (unhide (CR _)).mono ?_; rintro e z ⟨rfl, rfl⟩) | (go_at_call 31; refine (unhide (CK _)).mono ?_; rintro e z ⟨rfl, rfl⟩))
    go_ret
    exact ⟨rfl, rfl⟩
  by_cases e4 : op = 4
  · subst e4
    obtain rfl : r = inZ 1 9 c := by rw [RB.out]; simp [insTwo, insArgs]; simp [inZ]
    clear hbb
    by_cases hb : b = 0
    · subst hb
      go_enter Try.func27, Try.ntmps27
      go_wp2_with (first | (go_at_call 30; refine (unhide (CR _)).mono ?_; rintro e z ⟨rfl, rfl⟩) | (go_at_call 31; refine (unhide (CK _)).mono ?_; rintro e z ⟨rfl, rfl⟩))
      go_ret
      exact ⟨rfl, rfl⟩
    go_enter Try.func27, Try.ntmps27
    go_wp2_with (first | (go_at_call 30; refine (unhide (CR _)).mono ?_; rintro e z ⟨rfl, rfl⟩) | (go_at_call 31; refine (unhide (CK _)).mono ?_; rintro e z ⟨rfl, rfl⟩))
    go_ret
    exact ⟨rfl, rfl⟩
  by_cases e5 : op = 5
  · subst e5
    by_cases hb : b = 0
    case neg =>
      obtain rfl : r = false := by rw [RB.out]; simp [insTwo, hb]
      clear hbb
      go_enter Try.func27, Try.ntmps27
      go_wp2_with (first | (go_at_call 30; refine (unhide (CR _)).mono ?_; rintro e z ⟨rfl, rfl⟩) | (go_at_call 31; refine (unhide (CK _)).mono ?_; rintro e z ⟨rfl, rfl⟩))
      go_ret
      exact ⟨rfl, rfl⟩
    subst hb
    obtain rfl : r = (c == 0) := by rw [RB.out]; simp [inZ, insTwo, insArgs]
    clear hbb
    go_enter Try.func27, Try.ntmps27
    go_wp2_with (first | (go_at_call 30; refine (unhide (CR _)).mono ?_; rintro e z ⟨rfl, rfl⟩) | (go_at_call 31; refine (unhide (CK _)).mono ?_; rintro e z ⟨rfl, rfl⟩))
    go_ret
    exact ⟨rfl, rfl⟩
  by_cases e6 : op = 6
  · subst e6
    by_cases hb : b = 0
    case neg =>
      obtain rfl : r = false := by rw [RB.out]; simp [insTwo, hb]
      clear hbb
      go_enter Try.func27, Try.ntmps27
      go_wp2_with (first | (go_at_call 30; refine (unhide (CR _)).mono ?_; rintro e z ⟨rfl, rfl⟩) | (go_at_call 31; refine (unhide (CK _)).mono ?_; rintro e z ⟨rfl, rfl⟩))
      go_ret
      exact ⟨rfl, rfl⟩
    subst hb
    obtain rfl : r = (c == 0) := by rw [RB.out]; simp [inZ, insTwo, insArgs]
    clear hbb
    go_enter Try.func27, Try.ntmps27
    go_wp2_with (first | (go_at_call 30; refine (unhide (CR _)).mono ?_; rintro e z ⟨rfl, rfl⟩) | (go_at_call 31; refine (unhide (CK _)).mono ?_; rintro e z ⟨rfl, rfl⟩))
    go_ret
    exact ⟨rfl, rfl⟩
  by_cases e7 : op = 7
  · subst e7
    by_cases hb : b = 0
    case neg =>
      obtain rfl : r = false := by rw [RB.out]; simp [insTwo, hb]
      clear hbb
      go_enter Try.func27, Try.ntmps27
      go_wp2_with (first | (go_at_call 30; refine (unhide (CR _)).mono ?_; rintro e z ⟨rfl, rfl⟩) | (go_at_call 31; refine (unhide (CK _)).mono ?_; rintro e z ⟨rfl, rfl⟩))
      go_ret
      exact ⟨rfl, rfl⟩
    subst hb
    obtain rfl : r = true := by rw [RB.out]; simp [inZ, insTwo, insArgs]
    clear hbb
    go_enter Try.func27, Try.ntmps27
    go_wp2_with (first | (go_at_call 30; refine (unhide (CR _)).mono ?_; rintro e z ⟨rfl, rfl⟩) | (go_at_call 31; refine (unhide (CK _)).mono ?_; rintro e z ⟨rfl, rfl⟩))
    go_ret
    exact ⟨rfl, rfl⟩
  by_cases e8 : op = 8
  · subst e8
    by_cases hb : b = 0
    case neg =>
      obtain rfl : r = false := by rw [RB.out]; simp [insTwo, hb]
      clear hbb
      go_enter Try.func27, Try.ntmps27
      go_wp2_with (first | (go_at_call 30; refine (unhide (CR _)).mono ?_; rintro e z ⟨rfl, rfl⟩) | (go_at_call 31; refine (unhide (CK _)).mono ?_; rintro e z ⟨rfl, rfl⟩))
      go_ret
      exact ⟨rfl, rfl⟩
    subst hb
    obtain rfl : r = (a == 0) := by rw [RB.out]; simp [inZ, insTwo, insArgs]
    clear hbb
    go_enter Try.func27, Try.ntmps27
    go_wp2_with (first | (go_at_call 30; refine (unhide (CR _)).mono ?_; rintro e z ⟨rfl, rfl⟩) | (go_at_call 31; refine (unhide (CK _)).mono ?_; rintro e z ⟨rfl, rfl⟩))
    go_ret
    exact ⟨rfl, rfl⟩
  by_cases e9 : op = 9
  · subst e9
    by_cases hb : b = 0
    case neg =>
      obtain rfl : r = false := by rw [RB.out]; simp [insTwo, hb]
      clear hbb
      go_enter Try.func27, Try.ntmps27
      go_wp2_with (first | (go_at_call 30; refine (unhide (CR _)).mono ?_; rintro e z ⟨rfl, rfl⟩) | (go_at_call 31; refine (unhide (CK _)).mono ?_; rintro e z ⟨rfl, rfl⟩))
      go_ret
      exact ⟨rfl, rfl⟩
    subst hb
    obtain rfl : r = true := by rw [RB.out]; simp [inZ, insTwo, insArgs]
    clear hbb
    go_enter Try.func27, Try.ntmps27
    go_wp2_with (first | (go_at_call 30; refine (unhide (CR _)).mono ?_; rintro e z ⟨rfl, rfl⟩) | (go_at_call 31; refine (unhide (CK _)).mono ?_; rintro e z ⟨rfl, rfl⟩))
    go_ret
    exact ⟨rfl, rfl⟩
  by_cases e10 : op = 10
  · subst e10
    by_cases hb : b = 0
    case neg =>
      obtain rfl : r = false := by rw [RB.out]; simp [insTwo, insArgs, hb]
      clear hbb
      go_enter Try.func27, Try.ntmps27
      go_wp2_with (first | (go_at_call 30; refine (unhide (CR _)).mono ?_; rintro e z ⟨rfl, rfl⟩) | (go_at_call 31; refine (unhide (CK _)).mono ?_; rintro e z ⟨rfl, rfl⟩))
      go_ret
      exact ⟨rfl, rfl⟩
    subst hb
    have ha : inZ 1 7 a = decide (0 < a) := by
      have := inZ_yes.1 (by have h := hbb.out; rw [rangeB] at h; simp at h; exact h.1.1 : inZ 0 7 a = true)
      by_cases h0 : 0 < a
      · simp [inZ, h0]; omega
      · simp [inZ, h0]; omega
    obtain rfl : r = decide (0 < a) := by rw [RB.out]; simp [insTwo, insArgs, ha]; simp [inZ]
    clear hbb ha
    go_enter Try.func27, Try.ntmps27
    go_wp2_with (first | (go_at_call 30; refine (unhide (CR _)).mono ?_; rintro e z ⟨rfl, rfl⟩) | (go_at_call 31; refine (unhide (CK _)).mono ?_; rintro e z ⟨rfl, rfl⟩))
    go_ret
    exact ⟨rfl, rfl⟩
  obtain rfl : r = false := by
    rw [RB.out]
    have : inZ 1 10 op = false := by rw [inZ_no]; omega
    rw [this]
    simp
  clear hbb
  by_cases hb : b = 0
  case neg =>
    go_enter Try.func27, Try.ntmps27
    go_wp2_with (first | (go_at_call 30; refine (unhide (CR _)).mono ?_; rintro e z ⟨rfl, rfl⟩) | (go_at_call 31; refine (unhide (CK _)).mono ?_; rintro e z ⟨rfl, rfl⟩))
    all_goals
      go_ret
      exact ⟨rfl, rfl⟩
  subst hb
  go_enter Try.func27, Try.ntmps27
  go_wp2_with (first | (go_at_call 30; refine (unhide (CR _)).mono ?_; rintro e z ⟨rfl, rfl⟩) | (go_at_call 31; refine (unhide (CK _)).mono ?_; rintro e z ⟨rfl, rfl⟩))
  go_ret
  exact ⟨rfl, rfl⟩
end Go.Proofs.Ytgmihgnbhjgghaa

