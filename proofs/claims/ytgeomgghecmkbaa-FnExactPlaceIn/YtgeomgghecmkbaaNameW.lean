/-
  Names: by the specification and by the program.
-/
import Derived.Test.YtgeomgghecmkbaaKeyW
import Derived.Test.YtgeomgghecmkbaaRuneP
import Derived.Deep.RegionHeld3
import Derived.Test.YtgeomgghecmkbaaFlE
import Derived.Test.YtgeomgghecmkbaaPlcOf
import Derived.Test.YtgeomgghecmkbaaMatP
import Derived.Test.YtgeomgghecmkbaaValW
namespace Go.Proofs.Ytgeomgghecmkbaa
open Go.RowKit

def sizeB (s : ByteArray) : Bool := decide (1 ≤ s.size ∧ s.size ≤ 8)
def lettersB (s : ByteArray) : Bool := decide (headN letterQ s.data.toList = s.size)
def nameB (s : ByteArray) : Bool := sizeB s && (lettersB s && !keyB s)

theorem takeWhile_all {α : Type} {p : α → Bool} : ∀ (l : List α) (b : α), b ∈ l.takeWhile p → p b = true
  | [], b, h => by simp at h
  | x :: l, b, h => by
    rw [List.takeWhile_cons] at h
    split at h
    · rename_i hx
      rcases List.mem_cons.1 h with rfl | h
      · exact hx
      · exact takeWhile_all l b h
    · simp at h
theorem lettersB_no {s : ByteArray} {k : Nat} (h : k < s.size) (hq : letterQ s[k].toNat = false) : lettersB s = false := by
  rw [lettersB, decide_eq_false_iff_not]
  intro e
  have : ∀ b ∈ s.data.toList, letterQ b.toNat = true := by
    have hl : s.data.toList.length = s.size := by rw [Array.length_toList]; rfl
    rw [← hl, headN] at e
    have h2 := (List.takeWhile_prefix (fun b : UInt8 => letterQ b.toNat) (l := s.data.toList)).eq_of_length e
    intro b hb
    rw [← h2] at hb
    exact takeWhile_all _ b hb
  have := this s[k] (by
    have : s[k] = s.data.toList[k]'(by simpa using h) := rfl
    rw [this]; exact List.getElem_mem _)
  rw [hq] at this; cases this

end Go.Proofs.Ytgeomgghecmkbaa

namespace Go.Proofs.Ytgeomgghecmkbaa
open Go.RowKit

/-- Where a name stands first, with a value beside it. -/
def atE (x : Ev) (s : ByteArray) : Int := firstAt (fun y => decide (y = s)) (x.names.take x.vals.length)
def getE (x : Ev) (s : ByteArray) : Int := if 0 ≤ atE x s then x.vals.getD (atE x s).toNat 0 else 0
def putE (x : Ev) (s : ByteArray) (n : Int) : Ev := if vok n = true ∧ 0 ≤ atE x s then { x with vals := x.vals.set (atE x s).toNat n } else x
/-- Those of the first so many of b that a has not. -/
def selE (a b : Ev) (i : Nat) : List (ByteArray × Int) := ((b.names.zip b.vals).take i).filter fun p => !memB a.names p.1
def togTo (a b : Ev) (i : Nat) : Ev := ⟨a.names ++ (selE a b i).map Prod.fst, a.vals ++ (selE a b i).map Prod.snd⟩
def togE (a b : Ev) : Ev := togTo a b (min b.names.length b.vals.length)
noncomputable def envOkB (x : Ev) : Bool := decide (x.names.length = x.vals.length) && decide (x.names.length ≤ 8) &&
  (List.range x.names.length).all fun i => nameB (x.names.getD i default) && vok (x.vals.getD i 0) && !memB (x.names.take i) (x.names.getD i default)
theorem putE_len {x : Ev} (h : szEv x ≤ 1048576) (s : ByteArray) (n : Int) : EvLen (putE x s n) := by
  have := szEv_len h
  unfold putE
  split
  · exact ⟨this.l0, by rw [List.length_set]; exact this.l1⟩
  · exact this
theorem selE_len (a b : Ev) (i : Nat) : (selE a b i).length ≤ i := by
  unfold selE
  have h1 := List.length_filter_le (fun p : ByteArray × Int => !memB a.names p.1) ((b.names.zip b.vals).take i)
  rw [List.length_take] at h1
  omega
theorem togE_len {a b : Ev} (h : szEv a + szEv b ≤ 1048576) : EvLen (togE a b) := by
  have h1 := selE_len a b (min b.names.length b.vals.length)
  unfold szEv szStrs at h
  refine ⟨?_, ?_⟩
  · show (a.names ++ _).length ≤ _
    rw [List.length_append, List.length_map]
    omega
  · show (a.vals ++ _).length ≤ _
    rw [List.length_append, List.length_map]
    omega
end Go.Proofs.Ytgeomgghecmkbaa
