/-
  Walks: figures of the base 16 read, by the specification.
-/
import Derived.Test.YtgbplfahbkdalaaDoorFigW
namespace Go.Proofs.YtgbplfahbkdalaaDoor
open Go.RowKit

/-- Two figures are worth a byte. -/
def pairsL : List Int → List Int
  | h :: l :: r => (16 * h + l) :: pairsL r
  | _ => []
theorem pairsL_snoc : ∀ (k : Nat) (ds : List Int) (h l : Int), ds.length = 2 * k → pairsL (ds ++ [h, l]) = pairsL ds ++ [16 * h + l]
  | 0, ds, h, l, e => by
    have : ds = [] := List.length_eq_zero_iff.1 (by omega)
    subst this; rfl
  | k + 1, [], h, l, e => by simp at e <;> omega
  | k + 1, [a], h, l, e => by simp at e <;> omega
  | k + 1, a :: b :: ds, h, l, e => by
    have := pairsL_snoc k ds h l (by simp at e; omega)
    simp [pairsL, this]
theorem pairsL_length : ∀ (k : Nat) (ds : List Int), ds.length = 2 * k → (pairsL ds).length = k
  | 0, ds, e => by
    have : ds = [] := List.length_eq_zero_iff.1 (by omega)
    subst this; rfl
  | k + 1, [], e => by simp at e <;> omega
  | k + 1, [a], e => by simp at e <;> omega
  | k + 1, a :: b :: ds, e => by
    have := pairsL_length k ds (by simp at e; omega)
    simp [pairsL, this]

/-- What a byte is worth, or -1. -/
def vI (c : Nat) : Int := match dv 16 c with
  | some d => (d : Int)
  | none => -1
theorem vI_some {c d : Nat} (h : dv 16 c = some d) : vI c = (d : Int) := by unfold vI; rw [h]
theorem vI_none {c : Nat} (h : dv 16 c = none) : vI c = -1 := by unfold vI; rw [h]
theorem vI_neg {c : Nat} (h : vI c < 0) : dv 16 c = none := by
  cases e : dv 16 c with
  | none => rfl
  | some d => rw [vI_some e] at h; omega
theorem vI_pos {c : Nat} (h : ¬ vI c < 0) : ∃ d : Nat, dv 16 c = some d ∧ vI c = (d : Int) ∧ d < 16 := by
  cases e : dv 16 c with
  | none => rw [vI_none e] at h; omega
  | some d => exact ⟨d, rfl, vI_some e, (dv_some e).1⟩

/-- What the loop keeps. -/
def UnRel (s : ByteArray) (w : World) (v i : Value) (wr : World) : Prop :=
  ∃ (k : Nat) (ds : List Int), 2 * k ≤ s.size ∧ i = .int .i64 ((2 * k : Nat) : Int) ∧ ds.length = 2 * k ∧ Hid (numsB 16 (s.data.toList.take (2 * k)) = some ds) ∧ wr.ownsRow w.heap.size 5 1 v k ((pairsL ds).map (Value.int .u8)) ∧ Below w.heap.size w wr

/-- What is handed back: the text that the figures are of, or that there is none. -/
def UnEnd (s : ByteArray) (w : World) (e : Ending) (w' : World) : Prop :=
  ((∃ ds, numsB 16 s.data.toList = some ds ∧ e = .returned (.tuple #[.string (strOfNums (pairsL ds)), .bool true])) ∨ (numsB 16 s.data.toList = none ∧ e = .returned (.tuple #[.string ⟨#[]⟩, .bool false]))) ∧ Below w.heap.size w w'

end Go.Proofs.YtgbplfahbkdalaaDoor
