/-
  A core that comes in.
-/
import Derived.Test.YtoageggcbpjlmaaFlC
import Derived.Test.YtoageggcbpjlmaaValW
namespace Go.Proofs.Ytoageggcbpjlmaa
open Go.RowKit
open Go.ChangeShapes Go.WideShapes Go.ChangeAt Go.Deep

set_option maxRecDepth 100000 in
theorem co_of {H : Type} {enc : TypeId × Value → H} {W : World} {base : Nat} {v : Value} {d : DataW H} {ps : List MemPlace}
    (ho : Value.okWide Try.prog W .any base 29 v) (h : DataW.Trod enc Try.prog W 0 (fun _ => true) true 29 v d ps) : ∃ v0 x, v = .agg #[v0, .int .i64 x.pc, .int .i64 x.process] ∧ CoAt W v0 x ∧ CoMax x := by
  obtain ⟨cs, rfl, _⟩ := okWide_struct Try.underlying29 ho
  obtain ⟨fuel, hf⟩ := h
  obtain ⟨v0, x, e, h1⟩ := opens_Co _ _ _ hf
  have e2 : cs = #[v0, .int .i64 x.pc, .int .i64 x.process] := by
    have : cs.toList = [v0, .int .i64 x.pc, .int .i64 x.process] := e
    rw [← Array.toList_inj]
    exact this
  subst e2
  exact ⟨v0, x, rfl, h1⟩
end Go.Proofs.Ytoageggcbpjlmaa

namespace Go.Proofs.Ytoageggcbpjlmaa
open Go.RowKit

/-- A value and a fault. -/
def two (x y : Int) : Value := .tuple #[.int .i64 x, .int .i64 y]
def opB (op : Int) : Bool := decide (1 ≤ op) && decide (op ≤ 9)
theorem opB_iff (op : Int) : opB op = true ↔ 1 ≤ op ∧ op ≤ 9 := by simp [opB]
def divB (op : Int) : Bool := decide (op = 4) || decide (op = 5)
/-- What comes out, and what went wrong. -/
def calcX (op a b : Int) : Int := if (opB op && vok a && vok b && !(divB op && decide (b = 0)) && vok (calcO op a b)) = true then calcO op a b else 0
def calcY (op a b : Int) : Int := if (opB op && vok a && vok b) = true then (if (divB op && decide (b = 0)) = true then 2 else if vok (calcO op a b) = true then 0 else 1) else 1

set_option maxHeartbeats 1000000 in
theorem implCalc (op a b : Int) (w : World) : Calls Try.prog 52 #[.int .i64 op, .int .i64 a, .int .i64 b] w fun e w' => e = .returned (two (calcX op a b) (calcY op a b)) ∧ w = w' := by
  have K := fun w => hide (implKnown op w)
  have D := fun w => hide (implDivides op w)
  change ∀ w, Hid (Calls _ _ _ _ fun e w' => e = .returned (.bool (opB op)) ∧ w = w') at K
  change ∀ w, Hid (Calls _ _ _ _ fun e w' => e = .returned (.bool (divB op)) ∧ w = w') at D
  have O := fun h1 ha hb hz w => hide (implOf op a b w ((opB_iff op).1 h1).1 ((opB_iff op).1 h1).2 ((vok_iff a).1 ha) ((vok_iff b).1 hb) hz)
  cases ho : opB op
  · have ex : two (calcX op a b) (calcY op a b) = two 0 1 := by simp [calcX, calcY, ho]
    rw [ex]
    clear ex O D
    go_enter Try.func52, Try.ntmps52
    go_wp2_with (go_at_call 61; refine (unhide (K _)).mono ?_; rintro e w1 ⟨rfl, rfl⟩)
    go_ret2
    exact ⟨rfl, rfl⟩
  cases ha : vok a
  · have ex : two (calcX op a b) (calcY op a b) = two 0 1 := by simp [calcX, calcY, ha]
    rw [ex]
    clear ex O D
    go_enter Try.func52, Try.ntmps52
    go_wp2_with (first | (go_at_call 61; refine (unhide (K _)).mono ?_; rintro e w1 ⟨rfl, rfl⟩) | (go_at_call 62; refine (implValOk _ _).mono ?_; rintro e w1 ⟨rfl, rfl⟩))
    go_ret2
    exact ⟨rfl, rfl⟩
  cases hb : vok b
  · have ex : two (calcX op a b) (calcY op a b) = two 0 1 := by simp [calcX, calcY, hb]
    rw [ex]
    clear ex O D
    go_enter Try.func52, Try.ntmps52
    go_wp2_with (first | (go_at_call 61; refine (unhide (K _)).mono ?_; rintro e w1 ⟨rfl, rfl⟩) | (go_at_call 62; refine (implValOk _ _).mono ?_; rintro e w1 ⟨rfl, rfl⟩))
    go_ret2
    exact ⟨rfl, rfl⟩
  cases hd : divB op && decide (b = 0)
  · have hz : op = 4 ∨ op = 5 → b ≠ 0 := by
      intro h e
      have : divB op = true := by simp [divB]; exact h
      simp [this, e] at hd
    have O1 := O ho ha hb hz
    have ex : calcX op a b = if vok (calcO op a b) = true then calcO op a b else 0 := by simp [calcX, ho, ha, hb, hd]
    have ey : calcY op a b = if vok (calcO op a b) = true then 0 else 1 := by simp [calcY, ho, ha, hb, hd]
    rw [ex, ey]
    generalize calcO op a b = o at *
    clear ex ey hz O
    cases hv : vok o
    all_goals cases hdd : divB op
    all_goals rw [hdd] at hd
    all_goals (try (have hb0 : ¬ b = 0 := by simpa using hd))
    all_goals clear hd
    all_goals go_enter Try.func52, Try.ntmps52
    all_goals go_wp2_with (first | (go_at_call 61; refine (unhide (K _)).mono ?_; rintro e w1 ⟨rfl, rfl⟩) | (go_at_call 63; refine (unhide (D _)).mono ?_; rintro e w1 ⟨rfl, rfl⟩) | (go_at_call 64; refine (unhide (O1 _)).mono ?_; rintro e w1 ⟨rfl, rfl⟩) | (go_at_call 62; refine (implValOk _ _).mono ?_; rintro e w1 ⟨rfl, rfl⟩))
    all_goals go_ret2
    all_goals exact ⟨rfl, rfl⟩
  · simp only [Bool.and_eq_true, decide_eq_true_eq] at hd
    obtain ⟨hdd, rfl⟩ := hd
    have ex : two (calcX op a 0) (calcY op a 0) = two 0 2 := by simp [calcX, calcY, ho, ha, hb, hdd]
    rw [ex]
    clear ex O
    go_enter Try.func52, Try.ntmps52
    go_wp2_with (first | (go_at_call 61; refine (unhide (K _)).mono ?_; rintro e w1 ⟨rfl, rfl⟩) | (go_at_call 63; refine (unhide (D _)).mono ?_; rintro e w1 ⟨rfl, rfl⟩) | (go_at_call 62; refine (implValOk _ _).mono ?_; rintro e w1 ⟨rfl, rfl⟩))
    go_ret2
    exact ⟨rfl, rfl⟩
end Go.Proofs.Ytoageggcbpjlmaa
