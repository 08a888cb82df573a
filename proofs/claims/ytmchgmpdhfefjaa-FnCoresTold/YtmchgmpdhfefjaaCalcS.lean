/-
  Walks: what comes out of two values, by the specification; a value negated and denied.
-/
import Derived.Test.YtmchgmpdhfefjaaFlC
import Derived.Test.YtmchgmpdhfefjaaRowP
import Derived.Deep.OwnRows
namespace Go.Proofs.Ytmchgmpdhfefjaa
open Go.RowKit

def outV (o : Int) : Value := if vok o = true then two o 0 else two 0 1

set_option maxHeartbeats 1000000 in
theorem specCalc (op a b : Int) (w : World) : Calls Try.prog 57 #[.int .i64 op, .int .i64 a, .int .i64 b] w fun e w' => e = .returned (two (calcX op a b) (calcY op a b)) ∧ w = w' := by
  have K := fun w => hide (specIn op 1 9 w)
  change ∀ w, Hid (Calls _ _ _ _ fun e w' => e = .returned (.bool (opB op)) ∧ w = w') at K
  cases ha : vok a
  · have ex : two (calcX op a b) (calcY op a b) = two 0 1 := by simp [calcX, calcY, ha]
    rw [ex]
    clear ex K
    go_enter Try.func57, Try.ntmps57
    go_wp2_with (go_at_call 39; refine (specValOk _ _).mono ?_; rintro e w1 ⟨rfl, rfl⟩)
    go_ret2
    exact ⟨rfl, rfl⟩
  cases hb : vok b
  · have ex : two (calcX op a b) (calcY op a b) = two 0 1 := by simp [calcX, calcY, hb]
    rw [ex]
    clear ex K
    go_enter Try.func57, Try.ntmps57
    go_wp2_with (go_at_call 39; refine (specValOk _ _).mono ?_; rintro e w1 ⟨rfl, rfl⟩)
    go_ret2
    exact ⟨rfl, rfl⟩
  cases ho : opB op
  · have ex : two (calcX op a b) (calcY op a b) = two 0 1 := by simp [calcX, calcY, ho]
    rw [ex]
    clear ex
    go_enter Try.func57, Try.ntmps57
    go_wp2_with (first | (go_at_call 39; refine (specValOk _ _).mono ?_; rintro e w1 ⟨rfl, rfl⟩) | (go_at_call 34; refine (unhide (K _)).mono ?_; rintro e w1 ⟨rfl, rfl⟩))
    go_ret2
    exact ⟨rfl, rfl⟩
  rw [ho] at K
  obtain ⟨h1, h9⟩ := (opB_iff op).1 ho
  have HA := (vok_iff a).1 ha
  have HB := (vok_iff b).1 hb
  have hm := wrap_mul HA.1 HA.2 HB.1 HB.2
  have hq := wrap_tdiv b HA.1 HA.2
  obtain ⟨ha1, ha2⟩ := HA
  obtain ⟨hb1, hb2⟩ := HB
  have EX : (op = 4 ∨ op = 5 → b ≠ 0) → two (calcX op a b) (calcY op a b) = outV (calcO op a b) := fun hz => by
    have hd : (divB op && decide (b = 0)) = false := by
      cases hdd : divB op
      · rfl
      · have : op = 4 ∨ op = 5 := by simpa [divB] using hdd
        simp [hz this]
    cases hv : vok (calcO op a b) <;> simp [calcX, calcY, outV, ho, ha, hb, hd, hv]
  obtain h | h | h | h | h | h | h | h | h : op = 1 ∨ op = 2 ∨ op = 3 ∨ op = 4 ∨ op = 5 ∨ op = 6 ∨ op = 7 ∨ op = 8 ∨ op = 9 := by omega
  · subst h
    have ex := EX (by omega)
    rw [show calcO 1 a b = a + b from rfl] at ex
    rw [ex]
    clear ex EX ho h1 h9
    unfold outV
    cases hv : vok (a + b)
    all_goals go_enter Try.func57, Try.ntmps57
    all_goals go_wp2_with (first | (go_at_call 39; refine (specValOk _ _).mono ?_; rintro e w1 ⟨rfl, rfl⟩) | (go_at_call 34; refine (unhide (K _)).mono ?_; rintro e w1 ⟨rfl, rfl⟩) | (go_at_call 70; refine (specOne _ _).mono ?_; rintro e w1 ⟨rfl, rfl⟩))
    all_goals go_ret2
    all_goals exact ⟨rfl, rfl⟩
  · subst h
    have ex := EX (by omega)
    rw [show calcO 2 a b = a - b from rfl] at ex
    rw [ex]
    clear ex EX ho h1 h9
    unfold outV
    cases hv : vok (a - b)
    all_goals go_enter Try.func57, Try.ntmps57
    all_goals go_wp2_with (first | (go_at_call 39; refine (specValOk _ _).mono ?_; rintro e w1 ⟨rfl, rfl⟩) | (go_at_call 34; refine (unhide (K _)).mono ?_; rintro e w1 ⟨rfl, rfl⟩) | (go_at_call 70; refine (specOne _ _).mono ?_; rintro e w1 ⟨rfl, rfl⟩))
    all_goals go_ret2
    all_goals exact ⟨rfl, rfl⟩
  · subst h
    have ex := EX (by omega)
    rw [show calcO 3 a b = a * b from rfl] at ex
    rw [ex]
    clear ex EX ho h1 h9
    unfold outV
    cases hv : vok (a * b)
    all_goals go_enter Try.func57, Try.ntmps57
    all_goals go_wp2_with (first | (go_at_call 39; refine (specValOk _ _).mono ?_; rintro e w1 ⟨rfl, rfl⟩) | (go_at_call 34; refine (unhide (K _)).mono ?_; rintro e w1 ⟨rfl, rfl⟩) | (go_at_call 70; refine (specOne _ _).mono ?_; rintro e w1 ⟨rfl, rfl⟩))
    all_goals go_ret2
    all_goals exact ⟨rfl, rfl⟩
  · subst h
    by_cases hb0 : b = 0
    · subst hb0
      have ex : two (calcX 4 a 0) (calcY 4 a 0) = two 0 2 := by simp [calcX, calcY, ho, ha, hb, divB]
      rw [ex]
      clear ex EX ho h1 h9 hm hq
      go_enter Try.func57, Try.ntmps57
      go_wp2_with (first | (go_at_call 39; refine (specValOk _ _).mono ?_; rintro e w1 ⟨rfl, rfl⟩) | (go_at_call 34; refine (unhide (K _)).mono ?_; rintro e w1 ⟨rfl, rfl⟩) | (go_at_call 70; refine (specOne _ _).mono ?_; rintro e w1 ⟨rfl, rfl⟩))
      go_ret2
      exact ⟨rfl, rfl⟩
    have ex := EX (fun _ => hb0)
    rw [show calcO 4 a b = a.tdiv b from rfl] at ex
    rw [ex]
    clear ex EX ho h1 h9
    unfold outV
    cases hv : vok (a.tdiv b)
    all_goals go_enter Try.func57, Try.ntmps57
    all_goals go_wp2_with (first | (go_at_call 39; refine (specValOk _ _).mono ?_; rintro e w1 ⟨rfl, rfl⟩) | (go_at_call 34; refine (unhide (K _)).mono ?_; rintro e w1 ⟨rfl, rfl⟩) | (go_at_call 70; refine (specOne _ _).mono ?_; rintro e w1 ⟨rfl, rfl⟩))
    all_goals go_ret2
    all_goals exact ⟨rfl, rfl⟩
  · subst h
    by_cases hb0 : b = 0
    · subst hb0
      have ex : two (calcX 5 a 0) (calcY 5 a 0) = two 0 2 := by simp [calcX, calcY, ho, ha, hb, divB]
      rw [ex]
      clear ex EX ho h1 h9 hm hq
      go_enter Try.func57, Try.ntmps57
      go_wp2_with (first | (go_at_call 39; refine (specValOk _ _).mono ?_; rintro e w1 ⟨rfl, rfl⟩) | (go_at_call 34; refine (unhide (K _)).mono ?_; rintro e w1 ⟨rfl, rfl⟩) | (go_at_call 70; refine (specOne _ _).mono ?_; rintro e w1 ⟨rfl, rfl⟩))
      go_ret2
      exact ⟨rfl, rfl⟩
    have ex := EX (fun _ => hb0)
    rw [show calcO 5 a b = a.tmod b from rfl] at ex
    rw [ex]
    clear ex EX ho h1 h9
    unfold outV
    cases hv : vok (a.tmod b)
    all_goals go_enter Try.func57, Try.ntmps57
    all_goals go_wp2_with (first | (go_at_call 39; refine (specValOk _ _).mono ?_; rintro e w1 ⟨rfl, rfl⟩) | (go_at_call 34; refine (unhide (K _)).mono ?_; rintro e w1 ⟨rfl, rfl⟩) | (go_at_call 70; refine (specOne _ _).mono ?_; rintro e w1 ⟨rfl, rfl⟩))
    all_goals go_ret2
    all_goals exact ⟨rfl, rfl⟩
  all_goals subst h
  all_goals rw [EX (by omega)]
  all_goals clear EX ho h1 h9 hm hq ha1 ha2 hb1 hb2
  all_goals have hv0 : vok 0 = true := rfl
  all_goals have hv1 : vok 1 = true := rfl
  all_goals by_cases h0 : a = 0
  all_goals go_enter Try.func57, Try.ntmps57
  all_goals go_wp2_with (first | (go_at_call 39; refine (specValOk _ _).mono ?_; rintro e w1 ⟨rfl, rfl⟩) | (go_at_call 34; refine (unhide (K _)).mono ?_; rintro e w1 ⟨rfl, rfl⟩) | (go_at_call 70; refine (specOne _ _).mono ?_; rintro e w1 ⟨rfl, rfl⟩))
  all_goals go_ret2
  all_goals exact ⟨by simp_all [calcO, outV]; try (first | rfl | (split <;> first | rfl | omega)), rfl⟩
end Go.Proofs.Ytmchgmpdhfefjaa
namespace Go.Proofs.Ytmchgmpdhfefjaa
open Go.RowKit
def negV (a : Int) : Value := if vok a = true then two (-a) 0 else two 0 1
theorem implNeg (a : Int) (w : World) : Calls Try.prog 56 #[.int .i64 a] w fun e w' => e = .returned (negV a) ∧ w = w' := by
  unfold negV
  cases ha : vok a
  · go_enter Try.func56, Try.ntmps56
    go_wp2_with (go_at_call 66; refine (implValOk _ _).mono ?_; rintro e w1 ⟨rfl, rfl⟩)
    go_ret2
    exact ⟨rfl, rfl⟩
  · obtain ⟨h1, h2⟩ := (vok_iff a).1 ha
    go_enter Try.func56, Try.ntmps56
    go_wp2_with (go_at_call 66; refine (implValOk _ _).mono ?_; rintro e w1 ⟨rfl, rfl⟩)
    go_ret2
    exact ⟨rfl, rfl⟩
theorem specNeg (a : Int) (w : World) : Calls Try.prog 59 #[.int .i64 a] w fun e w' => e = .returned (negV a) ∧ w = w' := by
  unfold negV
  cases ha : vok a
  · go_enter Try.func59, Try.ntmps59
    go_wp2_with (go_at_call 39; refine (specValOk _ _).mono ?_; rintro e w1 ⟨rfl, rfl⟩)
    go_ret2
    exact ⟨rfl, rfl⟩
  · obtain ⟨h1, h2⟩ := (vok_iff a).1 ha
    go_enter Try.func59, Try.ntmps59
    go_wp2_with (go_at_call 39; refine (specValOk _ _).mono ?_; rintro e w1 ⟨rfl, rfl⟩)
    go_ret2
    exact ⟨rfl, rfl⟩
theorem implDenied (a : Int) (w : World) : Calls Try.prog 55 #[.int .i64 a] w fun e w' => e = .returned (.int .i64 (if a = 0 then 1 else 0)) ∧ w = w' := by
  by_cases h0 : a = 0
  all_goals go_enter Try.func55, Try.ntmps55
  all_goals go_wp2_with (go_at_call 69; refine (implOne _ _).mono ?_; rintro e w1 ⟨rfl, rfl⟩)
  all_goals go_ret
  all_goals exact ⟨by simp_all, rfl⟩
theorem specDenied (a : Int) (w : World) : Calls Try.prog 58 #[.int .i64 a] w fun e w' => e = .returned (.int .i64 (if a = 0 then 1 else 0)) ∧ w = w' := by
  by_cases h0 : a = 0
  all_goals go_enter Try.func58, Try.ntmps58
  all_goals go_wp2_with (go_at_call 70; refine (specOne _ _).mono ?_; rintro e w1 ⟨rfl, rfl⟩)
  all_goals go_ret
  all_goals exact ⟨by simp_all, rfl⟩

end Go.Proofs.Ytmchgmpdhfefjaa

namespace Go.Proofs.Ytmchgmpdhfefjaa
open Go.RowKit

theorem made_ints (n : Nat) : (madeCells #[.int .i64 0] n).toList = (List.replicate n (0 : Int)).map I64 := by
  have := made_flat [.int .i64 0] (by simp) n
  simp only [List.length_singleton, Nat.mul_one] at this
  rw [this]
  induction n with
  | zero => rfl
  | succ n ih => simp [List.replicate_succ]
theorem infoI3 : (Try.prog.info? 3).map (fun i => (i.zero, i.size, i.bytes)) = some (some (.int .i64 0), 1, 8) := by kernel_rfl
theorem makeI_run (n : Nat) (hn : n ≤ 1048576) (w : World) : (Instr.makeSlice 24 (.int .i64 (n : Int)) (.int .i64 (n : Int))).run Try.prog w = .ok (.slice (some ⟨w.heap.size, 0, none⟩) n n) (w.alloc (.cells (madeCells #[.int .i64 0] n) 3)) :=
  run_make_row' 24 3 (.int .i64 0) 8 Try.underlying24 infoI3 rfl .i64 .i64 n (by omega) (by omega) w
/-- A new row of zeros is owned. -/
theorem made_own (w : World) (B n : Nat) (hB : B ≤ w.heap.size) (hn : n ≤ 1048576) : (w.alloc (.cells (madeCells #[.int .i64 0] n) 3)).ownsRow B 3 1 (.slice (some ⟨w.heap.size, 0, none⟩) n n) n ((List.replicate n (0 : Int)).map I64) := by
  refine ⟨by simp, .inr ⟨w.heap.size, n, madeCells #[.int .i64 0] n, rfl, hB, heap_alloc_new w _, Nat.le_refl _, by unfold maxLen; omega, by rw [size_madeCells, Nat.mul_one], ?_⟩⟩
  rw [made_ints, Nat.mul_one, List.take_of_length_le (by simp)]
end Go.Proofs.Ytmchgmpdhfefjaa
