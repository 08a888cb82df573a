/-
  Right lines: as a function.
-/
import Derived.Test.YtgmihgnbhjgghaaCopE
namespace Go.Proofs.Ytgmihgnbhjgghaa
open Go.RowKit

def noTxt (s : ByteArray) : Bool := s.size == 0
/-- The last part of a line's word, where it is asked for. -/
def cOf (x : Ln) : Int := if noTxt x.target = true then x.c else if x.op = 4 then x.c else 0
def lineB (xs : List Ln) (i : Nat) (x : Ln) : Bool :=
  if x.op = 0 then (x.a == 0) && (x.b == 0) && (x.c == 0) && noTxt x.target && inZ 1 12 (x.label.size : Int) && (firstL xs x.label == (i : Int))
  else noTxt x.label && insB x.op x.a x.b (cOf x) && (noTxt x.target || decide (0 ≤ firstL xs x.target))
def lineOkAt (xs : List Ln) (i : Nat) : Bool := match xs[i]? with
  | some x => lineB xs i x
  | none => true
def linesB (xs : List Ln) : Bool := (List.range xs.length).all (lineOkAt xs) && decide (xs.length ≤ 900)
theorem lineOkAt_eq {xs : List Ln} {i : Nat} (h : i < xs.length) : lineOkAt xs i = lineB xs i xs[i] := by
  unfold lineOkAt
  rw [List.getElem?_eq_getElem h]
theorem lines_bad {xs : List Ln} {i : Nat} (h : i < xs.length) (hb : lineB xs i xs[i] = false) : linesB xs = false := by
  unfold linesB
  have : (List.range xs.length).all (lineOkAt xs) = false := by
    rw [Bool.eq_false_iff]
    intro k
    have := List.all_eq_true.1 k i (List.mem_range.2 h)
    rw [lineOkAt_eq h, hb] at this
    cases this
  rw [this, Bool.false_and]
def LinesTo (xs : List Ln) (i : Nat) : Prop := ∀ j (h : j < xs.length), j < i → lineB xs j xs[j] = true
theorem LinesTo.all {xs : List Ln} (h : LinesTo xs xs.length) : linesB xs = decide (xs.length ≤ 900) := by
  unfold linesB
  have : (List.range xs.length).all (lineOkAt xs) = true := by
    rw [List.all_eq_true]
    intro j hj
    have hj := List.mem_range.1 hj
    rw [lineOkAt_eq hj]
    exact h j hj hj
  rw [this, Bool.true_and]
theorem LinesTo.step {xs : List Ln} {i : Nat} (h : LinesTo xs i) (hx : ∀ hi : i < xs.length, lineB xs i xs[i] = true) : LinesTo xs (i + 1) := fun j hj hji => by
  by_cases e : j = i
  · subst e; exact hx hj
  · exact h j hj (by omega)
theorem noTxt_yes {s : ByteArray} (h : noTxt s = true) : s = ⟨#[]⟩ := by
  unfold noTxt at h
  have h1 : s.size = 0 := by simpa using h
  cases s with
  | mk d =>
    have : d.size = 0 := h1
    rw [Array.eq_empty_of_size_eq_zero this]
theorem noTxt_no {s : ByteArray} (h : noTxt s = false) : ¬ s.toList = [] := fun e => by
  have h1 : s = ⟨#[]⟩ := str_beq.1 (by rw [e]; kernel_rfl)
  rw [h1] at h
  cases h
end Go.Proofs.Ytgmihgnbhjgghaa
