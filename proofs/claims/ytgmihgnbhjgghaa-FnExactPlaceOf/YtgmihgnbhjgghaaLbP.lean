/-
  Labels of lines, entered one by one: as functions; pure.
-/
import Derived.Test.YtgmihgnbhjgghaaLinQ
namespace Go.Proofs.Ytgmihgnbhjgghaa
open Go.RowKit

theorem first_at {α : Type} {f : α → Bool} {xs : List α} {i : Nat} (h : firstAt f xs = (i : Int)) : ∃ hi : i < xs.length, f xs[i] = true := by
  unfold firstAt at h
  cases e : xs.findIdx? f with
  | none => rw [e] at h; dsimp only at h; omega
  | some j =>
    rw [e] at h
    have hj : j = i := by dsimp only at h; omega
    subst hj
    obtain ⟨hi, hx, _⟩ := List.findIdx?_eq_some_iff_getElem.1 e
    exact ⟨hi, hx⟩
theorem first_upto {α : Type} {f : α → Bool} {xs : List α} {i : Nat} (hi : i < xs.length) (hx : f xs[i] = true) : 0 ≤ firstAt f xs ∧ firstAt f xs ≤ i := by
  unfold firstAt
  cases e : xs.findIdx? f with
  | none =>
    have := List.findIdx?_eq_none_iff.1 e xs[i] (List.getElem_mem hi)
    rw [hx] at this
    cases this
  | some j =>
    obtain ⟨hj, hy, hz⟩ := List.findIdx?_eq_some_iff_getElem.1 e
    refine ⟨by simp, ?_⟩
    simp
    refine Nat.le_of_not_lt fun hlt => ?_
    have := hz i hlt
    rw [hx] at this
    exact this rfl
/-- Is the place of a label among the first i lines? -/
def inTo (xs : List Ln) (i : Nat) (s : ByteArray) : Bool := decide (0 ≤ firstL xs s) && decide (firstL xs s < (i : Int))
/-- How many words are ahead of the place of a label; 0 without one. -/
def aheadL (xs : List Ln) (s : ByteArray) : Int := if 0 ≤ firstL xs s then countL (xs.take (firstL xs s).toNat) else 0
/-- What is told of a label behind the first i lines. -/
def atTo (xs : List Ln) (i : Nat) (s : ByteArray) : Int := if inTo xs i s = true then aheadL xs s else 0
/-- Is this line the first place of its label? -/
def newAt (xs : List Ln) (j : Nat) : Bool := match xs[j]? with
  | some x => decide (x.op = 0) && decide (firstL xs x.label = (j : Int))
  | none => false
def sizeTo (xs : List Ln) (i : Nat) : Nat := ((List.range i).filter (newAt xs)).length
theorem sizeTo_succ (xs : List Ln) (i : Nat) : sizeTo xs (i + 1) = sizeTo xs i + if newAt xs i = true then 1 else 0 := by
  unfold sizeTo
  rw [List.range_succ, List.filter_append]
  cases h : newAt xs i <;> simp [h]
theorem sizeTo_le (xs : List Ln) (i : Nat) : sizeTo xs i ≤ i := by
  have := List.length_filter_le (newAt xs) (List.range i)
  rw [List.length_range] at this
  exact this
theorem newAt_eq {xs : List Ln} {i : Nat} (h : i < xs.length) : newAt xs i = (decide (xs[i].op = 0) && decide (firstL xs xs[i].label = (i : Int))) := by
  unfold newAt
  rw [List.getElem?_eq_getElem h]
theorem inTo_zero (xs : List Ln) (s : ByteArray) : inTo xs 0 s = false := by
  unfold inTo
  by_cases h : 0 ≤ firstL xs s
  · rw [decide_eq_false (p := firstL xs s < _) (by omega), Bool.and_false]
  · rw [decide_eq_false h, Bool.false_and]
theorem inTo_all (xs : List Ln) (s : ByteArray) : inTo xs xs.length s = decide (0 ≤ firstL xs s) := by
  unfold inTo
  rw [decide_eq_true (p := firstL xs s < _) (firstL_le xs s).2, Bool.and_true]
theorem isPlace_at {xs : List Ln} {s : ByteArray} {i : Nat} (h : firstL xs s = (i : Int)) : ∃ hi : i < xs.length, xs[i].op = 0 ∧ xs[i].label = s := by
  obtain ⟨hi, hx⟩ := first_at h
  unfold isPlace eqS at hx
  rw [Bool.and_eq_true, decide_eq_true_iff, decide_eq_true_iff] at hx
  exact ⟨hi, hx.1, hx.2⟩
theorem inTo_step (xs : List Ln) (i : Nat) (s : ByteArray) : inTo xs (i + 1) s = (inTo xs i s || decide (firstL xs s = (i : Int))) := by
  unfold inTo
  by_cases h0 : 0 ≤ firstL xs s
  · rw [decide_eq_true h0, Bool.true_and, Bool.true_and, ← Bool.decide_or]
    exact decide_eq_decide.2 (by omega)
  · rw [decide_eq_false h0, Bool.false_and, Bool.false_and, decide_eq_false (p := firstL xs s = _) (by omega)]
    rfl
/-- A word, or a place whose label stands ahead: nothing turns. -/
theorem inTo_same {xs : List Ln} {i : Nat} (h : newAt xs i = false) (s : ByteArray) : inTo xs (i + 1) s = inTo xs i s := by
  rw [inTo_step, decide_eq_false, Bool.or_false]
  intro e
  obtain ⟨hi, h1, h2⟩ := isPlace_at e
  rw [newAt_eq hi, h2, decide_eq_true h1, decide_eq_true e] at h
  cases h
theorem atTo_same {xs : List Ln} {i : Nat} (h : newAt xs i = false) (s : ByteArray) : atTo xs (i + 1) s = atTo xs i s := by
  unfold atTo
  rw [inTo_same h]
theorem size_same {xs : List Ln} {i : Nat} (h : newAt xs i = false) : sizeTo xs (i + 1) = sizeTo xs i := by
  rw [sizeTo_succ, h]; rfl
theorem new_word {xs : List Ln} {i : Nat} (hi : i < xs.length) (h : xs[i].op ≠ 0) : newAt xs i = false := by
  rw [newAt_eq hi, decide_eq_false h, Bool.false_and]
theorem new_has {xs : List Ln} {i : Nat} (hi : i < xs.length) (h : inTo xs i xs[i].label = true) : newAt xs i = false := by
  unfold inTo at h
  rw [Bool.and_eq_true, decide_eq_true_iff, decide_eq_true_iff] at h
  rw [newAt_eq hi, decide_eq_false (p := firstL xs xs[i].label = _) (by omega), Bool.and_false]
theorem new_first {xs : List Ln} {i : Nat} (hi : i < xs.length) (ho : xs[i].op = 0) (h : inTo xs i xs[i].label = false) : firstL xs xs[i].label = (i : Int) := by
  have hp : isPlace xs[i].label xs[i] = true := by simp [isPlace, eqS, ho]
  have h1 := first_upto (f := isPlace xs[i].label) hi hp
  have h2 : ¬ (0 ≤ firstL xs xs[i].label ∧ firstL xs xs[i].label < (i : Int)) := by
    intro k
    unfold inTo at h
    rw [decide_eq_true k.1, decide_eq_true k.2] at h
    cases h
  unfold firstL at *
  omega
theorem new_yes {xs : List Ln} {i : Nat} (hi : i < xs.length) (ho : xs[i].op = 0) (h : inTo xs i xs[i].label = false) : newAt xs i = true := by
  rw [newAt_eq hi, decide_eq_true ho, decide_eq_true (new_first hi ho h)]
  rfl
theorem inTo_more {xs : List Ln} {i : Nat} (hi : i < xs.length) (ho : xs[i].op = 0) (h : inTo xs i xs[i].label = false) (s : ByteArray) : inTo xs (i + 1) s = (decide (s = xs[i].label) || inTo xs i s) := by
  rw [inTo_step, Bool.or_comm]
  congr 1
  refine decide_eq_decide.2 ⟨fun e => ?_, fun e => ?_⟩
  · obtain ⟨_, _, h2⟩ := isPlace_at e
    exact h2.symm
  · rw [e]; exact new_first hi ho h
theorem atTo_own {xs : List Ln} {i : Nat} (hi : i < xs.length) (ho : xs[i].op = 0) (h : inTo xs i xs[i].label = false) : atTo xs (i + 1) xs[i].label = countL (xs.take i) := by
  have e := new_first hi ho h
  unfold atTo aheadL
  rw [inTo_more hi ho h, decide_eq_true rfl, Bool.true_or, if_pos rfl, e, if_pos (by omega)]
  rfl
theorem atTo_other {xs : List Ln} {i : Nat} (hi : i < xs.length) (ho : xs[i].op = 0) (h : inTo xs i xs[i].label = false) {s : ByteArray} (hs : s ≠ xs[i].label) : atTo xs (i + 1) s = atTo xs i s := by
  unfold atTo
  rw [inTo_more hi ho h, decide_eq_false hs, Bool.false_or]
theorem atTo_place (xs : List Ln) (s : ByteArray) : (if inTo xs xs.length s = true then atTo xs xs.length s else -1) = placeL xs s := by
  unfold placeL atTo aheadL
  rw [inTo_all]
  by_cases h : 0 ≤ firstL xs s
  · rw [decide_eq_true h, if_pos rfl, if_pos rfl, if_pos h, if_neg (by omega)]
  · rw [decide_eq_false h, if_neg (by simp), if_pos (by omega)]
/-- As the program asks each line. -/
def fitB (xs : List Ln) (x : Ln) : Bool :=
  if x.op = 0 then (x.a == 0) && (x.b == 0) && (x.c == 0) && noTxt x.target && inZ 1 12 (x.label.size : Int)
  else noTxt x.label && insB x.op x.a x.b (cOf x) && (noTxt x.target || decide (0 ≤ firstL xs x.target))
theorem lineB_fit {xs : List Ln} {i : Nat} (hi : i < xs.length) : lineB xs i xs[i] = (fitB xs xs[i] && (decide (xs[i].op ≠ 0) || newAt xs i)) := by
  unfold lineB fitB
  by_cases ho : xs[i].op = 0
  · rw [if_pos ho, if_pos ho, newAt_eq hi, decide_eq_true ho, decide_eq_false (p := xs[i].op ≠ 0) (fun k => k ho), Bool.false_or, Bool.true_and]
    rfl
  · rw [if_neg ho, if_neg ho, decide_eq_true (p := xs[i].op ≠ 0) ho, Bool.true_or, Bool.and_true]
def FitTo (xs : List Ln) (i : Nat) : Prop := ∀ j (h : j < xs.length), j < i → fitB xs xs[j] = true
theorem FitTo.step {xs : List Ln} {i : Nat} (h : FitTo xs i) (hx : ∀ hi : i < xs.length, fitB xs xs[i] = true) : FitTo xs (i + 1) := fun j hj hji => by
  by_cases e : j = i
  · subst e; exact hx hj
  · exact h j hj (by omega)
theorem fit_bad {xs : List Ln} {i : Nat} (hi : i < xs.length) (h : fitB xs xs[i] = false) : linesB xs = false := lines_bad hi (by rw [lineB_fit hi, h, Bool.false_and])
/-- Words and labels together are as many lines as there are just where each place is the first of its label. -/
theorem count_size (xs : List Ln) : ∀ i, i ≤ xs.length → countL (xs.take i) + (sizeTo xs i : Int) ≤ (i : Int) ∧ ((countL (xs.take i) + (sizeTo xs i : Int) = (i : Int)) ↔ ∀ j (hj : j < xs.length), j < i → xs[j].op = 0 → newAt xs j = true)
  | 0, _ => ⟨by simp [countL, sizeTo], by simp [countL, sizeTo]⟩
  | i + 1, h => by
    have hi : i < xs.length := by omega
    obtain ⟨h1, h2⟩ := count_size xs i (by omega)
    rw [count_take hi, sizeTo_succ]
    by_cases ho : xs[i].op = 0
    · rw [if_pos ho]
      cases hn : newAt xs i with
      | true =>
        rw [if_pos rfl]
        refine ⟨by push_cast; omega, ⟨fun e j hj hji hoj => ?_, fun e => ?_⟩⟩
        · by_cases ej : j = i
          · subst ej; exact hn
          · exact h2.1 (by push_cast at e; omega) j hj (by omega) hoj
        · have := h2.2 fun j hj hji => e j hj (by omega)
          push_cast; omega
      | false =>
        rw [if_neg (by simp)]
        refine ⟨by push_cast; omega, ⟨fun e => ?_, fun e => ?_⟩⟩
        · exfalso; push_cast at e; omega
        · have := e i hi (by omega) ho
          rw [hn] at this; cases this
    · rw [if_neg ho, new_word hi ho, if_neg (by simp)]
      refine ⟨by push_cast; omega, ⟨fun e j hj hji hoj => ?_, fun e => ?_⟩⟩
      · by_cases ej : j = i
        · subst ej; exact absurd hoj ho
        · exact h2.1 (by push_cast at e; omega) j hj (by omega) hoj
      · have := h2.2 fun j hj hji => e j hj (by omega)
        push_cast; omega
theorem FitTo.all {xs : List Ln} (h : FitTo xs xs.length) (hl : xs.length ≤ 900) : linesB xs = decide (countL xs + (sizeTo xs xs.length : Int) = (xs.length : Int)) := by
  have hc := (count_size xs xs.length (Nat.le_refl _)).2
  rw [List.take_of_length_le (Nat.le_refl _)] at hc
  by_cases e : countL xs + (sizeTo xs xs.length : Int) = (xs.length : Int)
  · rw [decide_eq_true e, LinesTo.all fun j hj _ => ?_, decide_eq_true hl]
    rw [lineB_fit hj, h j hj hj, Bool.true_and]
    by_cases ho : xs[j].op = 0
    · rw [hc.1 e j hj hj ho, Bool.or_true]
    · rw [decide_eq_true (p := xs[j].op ≠ 0) ho, Bool.true_or]
  · rw [decide_eq_false e]
    by_cases hx : linesB xs = true
    · exfalso
      refine e (hc.2 fun j hj _ ho => ?_)
      have h3 : lineB xs j xs[j] = true := by
        cases hb : lineB xs j xs[j] with
        | true => rfl
        | false => rw [lines_bad hj hb] at hx; cases hx
      rw [lineB_fit hj, Bool.and_eq_true, decide_eq_false (p := xs[j].op ≠ 0) (fun k => k ho), Bool.false_or] at h3
      exact h3.2
    · simpa using hx
theorem lines_long {xs : List Ln} (h : 900 < xs.length) : linesB xs = false := by
  unfold linesB
  rw [decide_eq_false (by omega), Bool.and_false]
end Go.Proofs.Ytgmihgnbhjgghaa
