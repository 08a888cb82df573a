/-
  What a core does: as functions.
-/
import Derived.Test.YtoageggcbpjlmaaInsX
import Derived.Test.YtoageggcbpjlmaaFlC
import Derived.Test.YtoageggcbpjlmaaAid
namespace Go.Proofs.Ytoageggcbpjlmaa
open Go.RowKit

/-- Which place a number's word touches. -/
def touchN (n : Int) : Int := if decB n = true ∧ (decOp n = 2 ∨ decOp n = 3 ∨ decOp n = 9) then decC n else -1
def touchE (xs : List Int) (pc : Int) : Int := if inZ 0 ((xs.length : Int) - 1) pc = true then touchN (xs.getD pc.toNat 0) else -1
def coreNewE : Co := ⟨List.replicate 8 0, 0, -1⟩
def coreOkB (x : Co) : Bool := x.regs.all vok && (x.regs.length == 8 && decide (0 ≤ x.pc) && inZ (-1) 3 x.process)
end Go.Proofs.Ytoageggcbpjlmaa

namespace Go.Proofs.Ytoageggcbpjlmaa
open Go.RowKit

/-- A value and a fault. -/
def two (x y : Int) : Value := .tuple #[.int .i64 x, .int .i64 y]
def opB (op : Int) : Bool := decide (1 ≤ op) && decide (op ≤ 9)
theorem opB_iff (op : Int) : opB op = true ↔ 1 ≤ op ∧ op ≤ 9 := by simp [opB]
def divB (op : Int) : Bool := decide (op = 4) || decide (op = 5)
/-- What comes out, and what went wrong. -/
def calcX (op a b : Int) : Int := if (opB op && vok a && vok b && !(divB op && decide (b = 0)) && vok (calcO op a b)) = true then calcO op a b else 0
def calcY (op a b : Int) : Int := if (opB op && vok a && vok b) = true then (if (divB op && decide (b = 0)) = true then 2 else if vok (calcO op a b) = true then 0 else 1) else 1

set_option maxHeartbeats 1000000 in
theorem implCalc (op a b : Int) (w : World) : Calls Try.prog 52 #[.int .i64 op, .int .i64 a, .int .i64 b] w fun e w' => e = .returned (two (calcX op a b) (calcY op a b)) ∧ w = w' := by
  have K := fun w => hide (implKnown op w)
  have D := fun w => hide (implDivides op w)
  change ∀ w, Hid (Calls _ _ _ _ fun e w' => e = .returned (.bool (opB op)) ∧ w = w') at K
  change ∀ w, Hid (Calls _ _ _ _ fun e w' => e = .returned (.bool (divB op)) ∧ w = w') at D
  have O := fun h1 ha hb hz w => hide (implOf op a b w ((opB_iff op).1 h1).1 ((opB_iff op).1 h1).2 ((vok_iff a).1 ha) ((vok_iff b).1 hb) hz)
  cases ho : opB op
  · have ex : two (calcX op a b) (calcY op a b) = two 0 1 := by simp [calcX, calcY, ho]
    rw [ex]
    clear ex O D
    go_enter Try.func52, Try.ntmps52
    go_wp2_with (go_at_call 61; refine (unhide (K _)).mono ?_; rintro e w1 ⟨rfl, rfl⟩)
    go_ret2
    exact ⟨rfl, rfl⟩
  cases ha : vok a
  · have ex : two (calcX op a b) (calcY op a b) = two 0 1 := by simp [calcX, calcY, ha]
    rw [ex]
    clear ex O D
    go_enter Try.func52, Try.ntmps52
    go_wp2_with (first | (go_at_call 61; refine (unhide (K _)).mono ?_; rintro e w1 ⟨rfl, rfl⟩) | (go_at_call 62; refine (implValOk _ _).mono ?_; rintro e w1 ⟨rfl, rfl⟩))
    go_ret2
    exact ⟨rfl, rfl⟩
  cases hb : vok b
  · have ex : two (calcX op a b) (calcY op a b) = two 0 1 := by simp [calcX, calcY, hb]
    rw [ex]
    clear ex O D
    go_enter Try.func52, Try.ntmps52
    go_wp2_with (first | (go_at_call 61; refine (unhide (K _)).mono ?_; rintro e w1 ⟨rfl, rfl⟩) | (go_at_call 62; refine (implValOk _ _).mono ?_; rintro e w1 ⟨rfl, rfl⟩))
    go_ret2
    exact ⟨rfl, rfl⟩
  cases hd : divB op && decide (b = 0)
  · have hz : op = 4 ∨ op = 5 → b ≠ 0 := by
      intro h e
      have : divB op = true := by simp [divB]; exact h
      simp [this, e] at hd
    have O1 := O ho ha hb hz
    have ex : calcX op a b = if vok (calcO op a b) = true then calcO op a b else 0 := by simp [calcX, ho, ha, hb, hd]
    have ey : calcY op a b = if vok (calcO op a b) = true then 0 else 1 := by simp [calcY, ho, ha, hb, hd]
    rw [ex, ey]
    generalize calcO op a b = o at *
    clear ex ey hz O
    cases hv : vok o
    all_goals cases hdd : divB op
    all_goals rw [hdd] at hd
    all_goals (try (have hb0 : ¬ b = 0 := by simpa using hd))
    all_goals clear hd
    all_goals go_enter Try.func52, Try.ntmps52
    all_goals go_wp2_with (first | (go_at_call 61; refine (unhide (K _)).mono ?_; rintro e w1 ⟨rfl, rfl⟩) | (go_at_call 63; refine (unhide (D _)).mono ?_; rintro e w1 ⟨rfl, rfl⟩) | (go_at_call 64; refine (unhide (O1 _)).mono ?_; rintro e w1 ⟨rfl, rfl⟩) | (go_at_call 62; refine (implValOk _ _).mono ?_; rintro e w1 ⟨rfl, rfl⟩))
    all_goals go_ret2
    all_goals exact ⟨rfl, rfl⟩
  · simp only [Bool.and_eq_true, decide_eq_true_eq] at hd
    obtain ⟨hdd, rfl⟩ := hd
    have ex : two (calcX op a 0) (calcY op a 0) = two 0 2 := by simp [calcX, calcY, ho, ha, hb, hdd]
    rw [ex]
    clear ex O
    go_enter Try.func52, Try.ntmps52
    go_wp2_with (first | (go_at_call 61; refine (unhide (K _)).mono ?_; rintro e w1 ⟨rfl, rfl⟩) | (go_at_call 63; refine (unhide (D _)).mono ?_; rintro e w1 ⟨rfl, rfl⟩) | (go_at_call 62; refine (implValOk _ _).mono ?_; rintro e w1 ⟨rfl, rfl⟩))
    go_ret2
    exact ⟨rfl, rfl⟩
end Go.Proofs.Ytoageggcbpjlmaa

namespace Go.Proofs.Ytoageggcbpjlmaa
open Go.RowKit

def outV (o : Int) : Value := if vok o = true then two o 0 else two 0 1

set_option maxHeartbeats 1000000 in
theorem specCalc (op a b : Int) (w : World) : Calls Try.prog 45 #[.int .i64 op, .int .i64 a, .int .i64 b] w fun e w' => e = .returned (two (calcX op a b) (calcY op a b)) ∧ w = w' := by
  have K := fun w => hide (specIn op 1 9 w)
  change ∀ w, Hid (Calls _ _ _ _ fun e w' => e = .returned (.bool (opB op)) ∧ w = w') at K
  cases ha : vok a
  · have ex : two (calcX op a b) (calcY op a b) = two 0 1 := by simp [calcX, calcY, ha]
    rw [ex]
    clear ex K
    go_enter Try.func45, Try.ntmps45
    go_wp2_with (go_at_call 26; refine (specValOk _ _).mono ?_; rintro e w1 ⟨rfl, rfl⟩)
    go_ret2
    exact ⟨rfl, rfl⟩
  cases hb : vok b
  · have ex : two (calcX op a b) (calcY op a b) = two 0 1 := by simp [calcX, calcY, hb]
    rw [ex]
    clear ex K
    go_enter Try.func45, Try.ntmps45
    go_wp2_with (go_at_call 26; refine (specValOk _ _).mono ?_; rintro e w1 ⟨rfl, rfl⟩)
    go_ret2
    exact ⟨rfl, rfl⟩
  cases ho : opB op
  · have ex : two (calcX op a b) (calcY op a b) = two 0 1 := by simp [calcX, calcY, ho]
    rw [ex]
    clear ex
    go_enter Try.func45, Try.ntmps45
    go_wp2_with (first | (go_at_call 26; refine (specValOk _ _).mono ?_; rintro e w1 ⟨rfl, rfl⟩) | (go_at_call 27; refine (unhide (K _)).mono ?_; rintro e w1 ⟨rfl, rfl⟩))
    go_ret2
    exact ⟨rfl, rfl⟩
  rw [ho] at K
  obtain ⟨h1, h9⟩ := (opB_iff op).1 ho
  have HA := (vok_iff a).1 ha
  have HB := (vok_iff b).1 hb
  have hm := wrap_mul HA.1 HA.2 HB.1 HB.2
  have hq := wrap_tdiv b HA.1 HA.2
  obtain ⟨ha1, ha2⟩ := HA
  obtain ⟨hb1, hb2⟩ := HB
  have EX : (op = 4 ∨ op = 5 → b ≠ 0) → two (calcX op a b) (calcY op a b) = outV (calcO op a b) := fun hz => by
    have hd : (divB op && decide (b = 0)) = false := by
      cases hdd : divB op
      · rfl
      · have : op = 4 ∨ op = 5 := by simpa [divB] using hdd
        simp [hz this]
    cases hv : vok (calcO op a b) <;> simp [calcX, calcY, outV, ho, ha, hb, hd, hv]
  obtain h | h | h | h | h | h | h | h | h : op = 1 ∨ op = 2 ∨ op = 3 ∨ op = 4 ∨ op = 5 ∨ op = 6 ∨ op = 7 ∨ op = 8 ∨ op = 9 := by omega
  · subst h
    have ex := EX (by omega)
    rw [show calcO 1 a b = a + b from rfl] at ex
    rw [ex]
    clear ex EX ho h1 h9
    unfold outV
    cases hv : vok (a + b)
    all_goals go_enter Try.func45, Try.ntmps45
    all_goals go_wp2_with (first | (go_at_call 26; refine (specValOk _ _).mono ?_; rintro e w1 ⟨rfl, rfl⟩) | (go_at_call 27; refine (unhide (K _)).mono ?_; rintro e w1 ⟨rfl, rfl⟩) | (go_at_call 55; refine (specOne _ _).mono ?_; rintro e w1 ⟨rfl, rfl⟩))
    all_goals go_ret2
    all_goals exact ⟨rfl, rfl⟩
  · subst h
    have ex := EX (by omega)
    rw [show calcO 2 a b = a - b from rfl] at ex
    rw [ex]
    clear ex EX ho h1 h9
    unfold outV
    cases hv : vok (a - b)
    all_goals go_enter Try.func45, Try.ntmps45
    all_goals go_wp2_with (first | (go_at_call 26; refine (specValOk _ _).mono ?_; rintro e w1 ⟨rfl, rfl⟩) | (go_at_call 27; refine (unhide (K _)).mono ?_; rintro e w1 ⟨rfl, rfl⟩) | (go_at_call 55; refine (specOne _ _).mono ?_; rintro e w1 ⟨rfl, rfl⟩))
    all_goals go_ret2
    all_goals exact ⟨rfl, rfl⟩
  · subst h
    have ex := EX (by omega)
    rw [show calcO 3 a b = a * b from rfl] at ex
    rw [ex]
    clear ex EX ho h1 h9
    unfold outV
    cases hv : vok (a * b)
    all_goals go_enter Try.func45, Try.ntmps45
    all_goals go_wp2_with (first | (go_at_call 26; refine (specValOk _ _).mono ?_; rintro e w1 ⟨rfl, rfl⟩) | (go_at_call 27; refine (unhide (K _)).mono ?_; rintro e w1 ⟨rfl, rfl⟩) | (go_at_call 55; refine (specOne _ _).mono ?_; rintro e w1 ⟨rfl, rfl⟩))
    all_goals go_ret2
    all_goals exact ⟨rfl, rfl⟩
  · subst h
    by_cases hb0 : b = 0
    · subst hb0
      have ex : two (calcX 4 a 0) (calcY 4 a 0) = two 0 2 := by simp [calcX, calcY, ho, ha, hb, divB]
      rw [ex]
      clear ex EX ho h1 h9 hm hq
      go_enter Try.func45, Try.ntmps45
      go_wp2_with (first | (go_at_call 26; refine (specValOk _ _).mono ?_; rintro e w1 ⟨rfl, rfl⟩) | (go_at_call 27; refine (unhide (K _)).mono ?_; rintro e w1 ⟨rfl, rfl⟩) | (go_at_call 55; refine (specOne _ _).mono ?_; rintro e w1 ⟨rfl, rfl⟩))
      go_ret2
      exact ⟨rfl, rfl⟩
    have ex := EX (fun _ => hb0)
    rw [show calcO 4 a b = a.tdiv b from rfl] at ex
    rw [ex]
    clear ex EX ho h1 h9
    unfold outV
    cases hv : vok (a.tdiv b)
    all_goals go_enter Try.func45, Try.ntmps45
    all_goals go_wp2_with (first | (go_at_call 26; refine (specValOk _ _).mono ?_; rintro e w1 ⟨rfl, rfl⟩) | (go_at_call 27; refine (unhide (K _)).mono ?_; rintro e w1 ⟨rfl, rfl⟩) | (go_at_call 55; refine (specOne _ _).mono ?_; rintro e w1 ⟨rfl, rfl⟩))
    all_goals go_ret2
    all_goals exact ⟨rfl, rfl⟩
  · subst h
    by_cases hb0 : b = 0
    · subst hb0
      have ex : two (calcX 5 a 0) (calcY 5 a 0) = two 0 2 := by simp [calcX, calcY, ho, ha, hb, divB]
      rw [ex]
      clear ex EX ho h1 h9 hm hq
      go_enter Try.func45, Try.ntmps45
      go_wp2_with (first | (go_at_call 26; refine (specValOk _ _).mono ?_; rintro e w1 ⟨rfl, rfl⟩) | (go_at_call 27; refine (unhide (K _)).mono ?_; rintro e w1 ⟨rfl, rfl⟩) | (go_at_call 55; refine (specOne _ _).mono ?_; rintro e w1 ⟨rfl, rfl⟩))
      go_ret2
      exact ⟨rfl, rfl⟩
    have ex := EX (fun _ => hb0)
    rw [show calcO 5 a b = a.tmod b from rfl] at ex
    rw [ex]
    clear ex EX ho h1 h9
    unfold outV
    cases hv : vok (a.tmod b)
    all_goals go_enter Try.func45, Try.ntmps45
    all_goals go_wp2_with (first | (go_at_call 26; refine (specValOk _ _).mono ?_; rintro e w1 ⟨rfl, rfl⟩) | (go_at_call 27; refine (unhide (K _)).mono ?_; rintro e w1 ⟨rfl, rfl⟩) | (go_at_call 55; refine (specOne _ _).mono ?_; rintro e w1 ⟨rfl, rfl⟩))
    all_goals go_ret2
    all_goals exact ⟨rfl, rfl⟩
  all_goals subst h
  all_goals rw [EX (by omega)]
  all_goals clear EX ho h1 h9 hm hq ha1 ha2 hb1 hb2
  all_goals have hv0 : vok 0 = true := rfl
  all_goals have hv1 : vok 1 = true := rfl
  all_goals by_cases h0 : a = 0
  all_goals go_enter Try.func45, Try.ntmps45
  all_goals go_wp2_with (first | (go_at_call 26; refine (specValOk _ _).mono ?_; rintro e w1 ⟨rfl, rfl⟩) | (go_at_call 27; refine (unhide (K _)).mono ?_; rintro e w1 ⟨rfl, rfl⟩) | (go_at_call 55; refine (specOne _ _).mono ?_; rintro e w1 ⟨rfl, rfl⟩))
  all_goals go_ret2
  all_goals exact ⟨by simp_all [calcO, outV]; try (first | rfl | (split <;> first | rfl | omega)), rfl⟩
end Go.Proofs.Ytoageggcbpjlmaa
namespace Go.Proofs.Ytoageggcbpjlmaa
open Go.RowKit
def negV (a : Int) : Value := if vok a = true then two (-a) 0 else two 0 1
theorem implNeg (a : Int) (w : World) : Calls Try.prog 54 #[.int .i64 a] w fun e w' => e = .returned (negV a) ∧ w = w' := by
  unfold negV
  cases ha : vok a
  · go_enter Try.func54, Try.ntmps54
    go_wp2_with (go_at_call 62; refine (implValOk _ _).mono ?_; rintro e w1 ⟨rfl, rfl⟩)
    go_ret2
    exact ⟨rfl, rfl⟩
  · obtain ⟨h1, h2⟩ := (vok_iff a).1 ha
    go_enter Try.func54, Try.ntmps54
    go_wp2_with (go_at_call 62; refine (implValOk _ _).mono ?_; rintro e w1 ⟨rfl, rfl⟩)
    go_ret2
    exact ⟨rfl, rfl⟩
theorem specNeg (a : Int) (w : World) : Calls Try.prog 47 #[.int .i64 a] w fun e w' => e = .returned (negV a) ∧ w = w' := by
  unfold negV
  cases ha : vok a
  · go_enter Try.func47, Try.ntmps47
    go_wp2_with (go_at_call 26; refine (specValOk _ _).mono ?_; rintro e w1 ⟨rfl, rfl⟩)
    go_ret2
    exact ⟨rfl, rfl⟩
  · obtain ⟨h1, h2⟩ := (vok_iff a).1 ha
    go_enter Try.func47, Try.ntmps47
    go_wp2_with (go_at_call 26; refine (specValOk _ _).mono ?_; rintro e w1 ⟨rfl, rfl⟩)
    go_ret2
    exact ⟨rfl, rfl⟩
theorem implDenied (a : Int) (w : World) : Calls Try.prog 53 #[.int .i64 a] w fun e w' => e = .returned (.int .i64 (if a = 0 then 1 else 0)) ∧ w = w' := by
  by_cases h0 : a = 0
  all_goals go_enter Try.func53, Try.ntmps53
  all_goals go_wp2_with (go_at_call 65; refine (implOne _ _).mono ?_; rintro e w1 ⟨rfl, rfl⟩)
  all_goals go_ret
  all_goals exact ⟨by simp_all, rfl⟩
theorem specDenied (a : Int) (w : World) : Calls Try.prog 46 #[.int .i64 a] w fun e w' => e = .returned (.int .i64 (if a = 0 then 1 else 0)) ∧ w = w' := by
  by_cases h0 : a = 0
  all_goals go_enter Try.func46, Try.ntmps46
  all_goals go_wp2_with (go_at_call 55; refine (specOne _ _).mono ?_; rintro e w1 ⟨rfl, rfl⟩)
  all_goals go_ret
  all_goals exact ⟨by simp_all, rfl⟩

end Go.Proofs.Ytoageggcbpjlmaa
