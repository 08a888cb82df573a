/-
  Signs of a text: a function on bytes.
-/
import Derived.Test.YtfnmpohcoabenaaDoorRuneP
import Derived.Test.YtfnmpohcoabenaaDoorSgP
namespace Go.Proofs.YtfnmpohcoabenaaDoor
open Go.RowKit

theorem headN_cons_yes {q : Nat → Bool} {b : UInt8} {l : List UInt8} (h : q b.toNat = true) : headN q (b :: l) = headN q l + 1 := by simp [headN, h]
theorem headN_cons_no {q : Nat → Bool} {b : UInt8} {l : List UInt8} (h : q b.toNat = false) : headN q (b :: l) = 0 := by simp [headN, h]

/-- One of the marks. -/
def markQ (b : Nat) : Bool := [59, 44, 46, 40, 41, 43, 45, 42, 47, 37, 60, 61].contains b

/-- What stands at the beginning of bytes: 0 nothing, 1 a name, 2 a number, 3 a mark, -1 what may not stand. -/
def kindB : List UInt8 → Int
  | [] => -1
  | b :: r => if blankQ b.toNat then 0 else if b.toNat = 35 then 0 else if letterQ b.toNat then 1 else if figureQ b.toNat then 2 else if b.toNat = 58 ∧ (r.head?.map UInt8.toNat) = some 61 then 3 else if markQ b.toNat then 3 else -1
/-- .. and of how many bytes. -/
def sizeOfB : List UInt8 → Nat
  | [] => 1
  | b :: r => if blankQ b.toNat then headN blankQ (b :: r) else if b.toNat = 35 then headN lineQ (b :: r) else if letterQ b.toNat then headN letterQ (b :: r) else if figureQ b.toNat then headN figureQ (b :: r) else if b.toNat = 58 ∧ (r.head?.map UInt8.toNat) = some 61 then 2 else 1

theorem sizeOfB_pos (l : List UInt8) : 1 ≤ sizeOfB l := by
  cases l with
  | nil => exact Nat.le_refl _
  | cons b r =>
    rw [sizeOfB]
    split
    · rename_i h; rw [headN_cons_yes h]; omega
    · split
      · rename_i h; rw [headN_cons_yes (by simp [lineQ, h])]; omega
      · split
        · rename_i h; rw [headN_cons_yes h]; omega
        · split
          · rename_i h; rw [headN_cons_yes h]; omega
          · split <;> omega
theorem sizeOfB_le (l : List UInt8) (h : l ≠ []) : sizeOfB l ≤ l.length := by
  cases l with
  | nil => exact absurd rfl h
  | cons b r =>
    rw [sizeOfB]
    repeat' split
    all_goals first | exact headN_le _ _ | (simp; done) | skip
    rename_i h2
    cases r with
    | nil => simp at h2
    | cons c r => simp

/-- May a sign of so many bytes stand? -/
def fitsQ (k : Int) (n : Nat) : Bool := if k = 1 then decide (n ≤ 8) else if k = 2 then decide (n ≤ 6) else decide (k = 3)
/-- The number that figures tell. -/
def figN (l : List UInt8) : Nat := l.foldl (fun n b => n * 10 + (b.toNat - 48)) 0
def worthQ (k : Int) (l : List UInt8) : Int := if k = 2 then (figN l : Int) else 0

/-- The bytes of a text from a place on. -/
abbrev rest (s : ByteArray) (pos : Nat) : List UInt8 := s.data.toList.drop pos
theorem rest_len (s : ByteArray) (pos : Nat) : (rest s pos).length = s.size - pos := by
  rw [List.length_drop, Array.length_toList]; rfl
theorem rest_cons (s : ByteArray) (pos : Nat) (h : pos < s.size) : rest s pos = s[pos] :: rest s (pos + 1) := by
  have hl : s.data.toList.length = s.size := by rw [Array.length_toList]; rfl
  rw [rest, List.drop_eq_getElem_cons (by omega)]
  rfl
theorem rest_end (s : ByteArray) (pos : Nat) (h : ¬ pos < s.size) : rest s pos = [] := by
  apply List.length_eq_zero_iff.1; rw [rest_len]; omega

/-- The sign at a place. -/
def sgOf (s : ByteArray) (pos : Nat) : Sg := ⟨kindB (rest s pos), s.extract pos (pos + sizeOfB (rest s pos)), worthQ (kindB (rest s pos)) ((rest s pos).take (sizeOfB (rest s pos))), pos⟩

def scanF (s : ByteArray) : Nat → Nat → List Sg → List Sg × Nat
  | 0, _, acc => (acc, 0)
  | f + 1, pos, acc =>
    if pos < s.size then
      if kindB (rest s pos) = 0 then scanF s f (pos + sizeOfB (rest s pos)) acc
      else if fitsQ (kindB (rest s pos)) (sizeOfB (rest s pos)) = true ∧ acc.length < 500 then scanF s f (pos + sizeOfB (rest s pos)) (acc ++ [sgOf s pos])
      else ([], pos + 1)
    else (acc, 0)

theorem scanF_fuel (s : ByteArray) : ∀ (f g pos : Nat) (acc : List Sg), s.size - pos ≤ f → s.size - pos ≤ g → scanF s f pos acc = scanF s g pos acc
  | 0, 0, _, _, _, _ => rfl
  | 0, g + 1, pos, acc, h, _ => by rw [scanF, scanF, if_neg (by omega)]
  | f + 1, 0, pos, acc, _, h => by rw [scanF, scanF, if_neg (by omega)]
  | f + 1, g + 1, pos, acc, h1, h2 => by
    have hp := sizeOfB_pos (rest s pos)
    rw [scanF, scanF]
    split
    · split
      · exact scanF_fuel s f g _ _ (by omega) (by omega)
      · split
        · exact scanF_fuel s f g _ _ (by omega) (by omega)
        · rfl
    · rfl

/-- The signs from a place on, and 0; or none, and where it goes wrong. -/
def scan (s : ByteArray) (pos : Nat) (acc : List Sg) : List Sg × Nat := scanF s (s.size - pos) pos acc

theorem scan_end {s : ByteArray} {pos : Nat} (h : ¬ pos < s.size) (acc : List Sg) : scan s pos acc = (acc, 0) := by
  rw [scan, show s.size - pos = 0 from by omega]; rfl
theorem scan_in {s : ByteArray} {pos : Nat} (h : pos < s.size) (acc : List Sg) : scan s pos acc =
    if kindB (rest s pos) = 0 then scan s (pos + sizeOfB (rest s pos)) acc
    else if fitsQ (kindB (rest s pos)) (sizeOfB (rest s pos)) = true ∧ acc.length < 500 then scan s (pos + sizeOfB (rest s pos)) (acc ++ [sgOf s pos])
    else ([], pos + 1) := by
  have hp := sizeOfB_pos (rest s pos)
  rw [scan, show s.size - pos = (s.size - pos - 1) + 1 from by omega, scanF, if_pos h]
  split
  · exact scanF_fuel s _ _ _ _ (by omega) (by omega)
  · split
    · exact scanF_fuel s _ _ _ _ (by omega) (by omega)
    · rfl
theorem scan_skip {s : ByteArray} {pos : Nat} (h : pos < s.size) (hk : kindB (rest s pos) = 0) (acc : List Sg) : scan s pos acc = scan s (pos + sizeOfB (rest s pos)) acc := by
  rw [scan_in h, if_pos hk]
theorem scan_take {s : ByteArray} {pos : Nat} (h : pos < s.size) (hk : kindB (rest s pos) ≠ 0) (hf : fitsQ (kindB (rest s pos)) (sizeOfB (rest s pos)) = true) {acc : List Sg} (ha : acc.length < 500) :
    scan s pos acc = scan s (pos + sizeOfB (rest s pos)) (acc ++ [sgOf s pos]) := by
  rw [scan_in h, if_neg hk, if_pos ⟨hf, ha⟩]
theorem scan_stop {s : ByteArray} {pos : Nat} (h : pos < s.size) (hk : kindB (rest s pos) ≠ 0) {acc : List Sg} (hf : fitsQ (kindB (rest s pos)) (sizeOfB (rest s pos)) = false ∨ ¬ acc.length < 500) :
    scan s pos acc = ([], pos + 1) := by
  rw [scan_in h, if_neg hk, if_neg (fun ⟨a, b⟩ => by rcases hf with hf | hf; rw [hf] at a; cases a; exact hf b)]

/-- One blank. -/
theorem scan_blank {s : ByteArray} {pos : Nat} (h : pos < s.size) (hb : blankQ s[pos].toNat = true) (acc : List Sg) : scan s pos acc = scan s (pos + 1) acc := by
  have hk : kindB (rest s pos) = 0 := by rw [rest_cons s pos h, kindB, if_pos hb]
  have hs : sizeOfB (rest s pos) = headN blankQ (rest s (pos + 1)) + 1 := by rw [rest_cons s pos h, sizeOfB, if_pos hb, headN_cons_yes hb]
  rw [scan_skip h hk, hs]
  by_cases h1 : pos + 1 < s.size
  · by_cases hb1 : blankQ s[pos + 1].toNat = true
    · have hk1 : kindB (rest s (pos + 1)) = 0 := by rw [rest_cons s _ h1, kindB, if_pos hb1]
      have hs1 : sizeOfB (rest s (pos + 1)) = headN blankQ (rest s (pos + 1)) := by rw [rest_cons s _ h1, sizeOfB, if_pos hb1]
      rw [scan_skip h1 hk1, hs1]
      congr 1; omega
    · have : headN blankQ (rest s (pos + 1)) = 0 := by rw [rest_cons s _ h1]; exact headN_cons_no (by simpa using hb1)
      rw [this, Nat.zero_add]
  · have : headN blankQ (rest s (pos + 1)) = 0 := by rw [rest_end s _ h1]; rfl
    rw [this, Nat.zero_add]

/-- All signs of a text. -/
def signsR (s : ByteArray) : List Sg × Nat := if 1500 < s.size then ([], 1) else scan s 0 []

theorem scanF_len (s : ByteArray) : ∀ (f pos : Nat) (acc : List Sg), acc.length ≤ 500 → (scanF s f pos acc).1.length ≤ 500
  | 0, _, _, h => h
  | f + 1, pos, acc, h => by
    rw [scanF]
    split
    · split
      · exact scanF_len s f _ _ h
      · split
        · rename_i hq; exact scanF_len s f _ _ (by simp; omega)
        · simp
    · exact h
theorem signsR_len (s : ByteArray) : (signsR s).1.length ≤ 500 := by
  unfold signsR
  split
  · simp
  · exact scanF_len s _ _ _ (by simp)
end Go.Proofs.YtfnmpohcoabenaaDoor
