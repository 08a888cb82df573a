/-
  Figures of a number, parts of a text.
-/
import Derived.Test.YtfnmpohcoabenaaDoorSignP
namespace Go.Proofs.YtfnmpohcoabenaaDoor
open Go.RowKit

theorem figN_snoc (l : List UInt8) (b : UInt8) : figN (l ++ [b]) = figN l * 10 + (b.toNat - 48) := by simp [figN]
theorem figN_take (s : ByteArray) (k : Nat) (h : k < s.size) : figN (s.data.toList.take (k + 1)) = figN (s.data.toList.take k) * 10 + (s[k].toNat - 48) := by
  have hl : s.data.toList.length = s.size := by rw [Array.length_toList]; rfl
  rw [List.take_succ_eq_append_getElem (by omega), figN_snoc]
  rfl
theorem figN_lt (s : ByteArray) (hd : ∀ j, (h : j < s.size) → 48 ≤ s[j].toNat ∧ s[j].toNat ≤ 57) : ∀ k, k ≤ s.size → figN (s.data.toList.take k) < 10 ^ k
  | 0, _ => by simp [figN]
  | k + 1, h => by
    have ih := figN_lt s hd k (by omega)
    have := hd k (by omega)
    rw [figN_take s k (by omega), Nat.pow_succ]
    omega

theorem extract_list (s : ByteArray) (a b : Nat) : (s.extract a b).data.toList = (s.data.toList.drop a).take (b - a) := by
  rw [ByteArray.data_extract, Array.toList_extract, List.extract_eq_take_drop]
theorem rest_extract (s : ByteArray) (pos : Nat) : (s.extract pos s.size).data.toList = rest s pos := by
  rw [extract_list, List.take_of_length_le (by rw [List.length_drop, Array.length_toList]; exact Nat.le_refl _)]
theorem part_extract (s : ByteArray) (pos n : Nat) : (s.extract pos (pos + n)).data.toList = (rest s pos).take n := by
  rw [extract_list, show pos + n - pos = n from by omega]
theorem part_size (s : ByteArray) (pos n : Nat) (h : pos + n ≤ s.size) : (s.extract pos (pos + n)).size = n := by
  rw [ByteArray.size_extract]; omega

/-- The figures of a number. -/
theorem takeWhile_all {α : Type} {p : α → Bool} : ∀ (l : List α) (b : α), b ∈ l.takeWhile p → p b = true
  | [], b, h => by simp at h
  | x :: l, b, h => by
    rw [List.takeWhile_cons] at h
    split at h
    · rename_i hx
      rcases List.mem_cons.1 h with rfl | h
      · exact hx
      · exact takeWhile_all l b h
    · simp at h
theorem take_headN (q : Nat → Bool) (l : List UInt8) : l.take (headN q l) = l.takeWhile fun b => q b.toNat := by
  rw [headN]
  exact (List.prefix_iff_eq_take.1 (List.takeWhile_prefix _)).symm
theorem kind_two {l : List UInt8} (h : kindB l = 2) : sizeOfB l = headN figureQ l := by
  cases l with
  | nil => simp [kindB] at h
  | cons b r =>
    rw [kindB] at h
    rw [sizeOfB]
    split at h
    · simp at h
    · rename_i h1
      rw [if_neg h1]
      split at h
      · simp at h
      · rename_i h2
        rw [if_neg h2]
        split at h
        · simp at h
        · rename_i h3
          rw [if_neg h3]
          split at h
          · rename_i h4; rw [if_pos h4]
          · split at h
            · simp at h
            · split at h <;> simp at h
theorem digits_of {s u : ByteArray} {pos n : Nat} (hk : kindB (rest s pos) = 2) (hn : n = sizeOfB (rest s pos)) (hul : u.data.toList = (rest s pos).take n) : ∀ j, (h : j < u.size) → 48 ≤ u[j].toNat ∧ u[j].toNat ≤ 57 := by
  intro j h
  have hm : u[j] ∈ u.data.toList := by
    have : u[j] = u.data.toList[j]'(by simpa using h) := rfl
    rw [this]; exact List.getElem_mem _
  rw [hul, hn, kind_two hk, take_headN] at hm
  have := takeWhile_all _ _ hm
  simpa [figureQ] using this

theorem figure_kind {s : ByteArray} {pos : Nat} (h : pos < s.size) (hl : figureQ s[pos].toNat = true) : kindB (rest s pos) = 2 ∧ sizeOfB (rest s pos) = headN figureQ (rest s pos) := by
  have h1 : blankQ s[pos].toNat = false := by simp [figureQ] at hl; simp [blankQ]; omega
  have h2 : ¬ s[pos].toNat = 35 := by simp [figureQ] at hl; omega
  have h3 : letterQ s[pos].toNat = false := by simp [figureQ] at hl; simp [letterQ]; omega
  constructor
  · rw [rest_cons s pos h, kindB, h1, if_neg (by simp), if_neg h2, h3, if_neg (by simp), if_pos hl]
  · conv => lhs; rw [rest_cons s pos h, sizeOfB, h1, if_neg (by simp), if_neg h2, h3, if_neg (by simp), if_pos hl, ← rest_cons s pos h]
end Go.Proofs.YtfnmpohcoabenaaDoor
