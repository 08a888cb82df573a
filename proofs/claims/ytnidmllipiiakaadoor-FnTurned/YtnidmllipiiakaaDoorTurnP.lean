/-
  What Unsealed answers of a sealed text, and of one whose one byte is another.
-/
import Derived.Test.YtnidmllipiiakaaDoorUnsW
namespace Go.Proofs.YtnidmllipiiakaaDoor
open Go.RowKit

theorem four_list (x : Nat) : (four x).data.toList = [UInt8.ofNat (x / 16777216 % 256), UInt8.ofNat (x / 65536 % 256), UInt8.ofNat (x / 256 % 256), UInt8.ofNat (x % 256)] := rfl
theorem four_inj {x y : Nat} (hx : x < 4294967296) (hy : y < 4294967296) (h : four x = four y) : x = y := by
  have e := congrArg (fun b : ByteArray => b.data.toList.map UInt8.toNat) h
  simp only [four_list, List.map_cons, List.map_nil, UInt8.toNat_ofNat', List.cons.injEq] at e
  omega
theorem ba_ext {a b : ByteArray} (h : a.data.toList = b.data.toList) : a = b := by
  cases a; cases b; congr 1; exact Array.toList_inj.1 h
theorem ba_extract (t : ByteArray) (i j : Nat) : (t.extract i j).data.toList = (t.data.toList.take j).drop i := by
  rw [ByteArray.data_extract, Array.toList_extract, List.extract_eq_take_drop]
  rw [List.drop_take]
theorem ba_size (t : ByteArray) : t.data.toList.length = t.size := by rw [Array.length_toList]; rfl
theorem ba_append (a b : ByteArray) : (a ++ b).data.toList = a.data.toList ++ b.data.toList := by
  rw [ByteArray.data_append, Array.toList_append]

/-- The two parts of a text that is long enough. -/
theorem uns_parts (l : List UInt8) (z : ByteArray) (t : ByteArray) (_hl : l.length ≤ 20000) (hz : z.size = 4) (ht : t.data.toList = l ++ z.data.toList) :
    t.size = l.length + 4 ∧ t.extract 0 (t.size - 4) = ⟨l.toArray⟩ ∧ t.extract (t.size - 4) t.size = z := by
  have hz' : z.data.toList.length = 4 := by rw [ba_size, hz]
  have hs : t.size = l.length + 4 := by rw [← ba_size, ht, List.length_append, hz']
  refine ⟨hs, ba_ext ?_, ba_ext ?_⟩
  · rw [ba_extract, ht, hs]; simp
  · rw [ba_extract, ht, hs]
    rw [List.take_of_length_le (by rw [List.length_append, hz']; omega)]
    simp
theorem unsV_sealed (s : ByteArray) (hs : s.size ≤ 20000) : unsV (s ++ four (sumT s)) = .tuple #[.string s, .bool true] := by
  obtain ⟨h1, h2, h3⟩ := uns_parts s.data.toList (four (sumT s)) (s ++ four (sumT s)) (by rw [ba_size]; omega) rfl (ba_append _ _)
  have e : (⟨s.data.toList.toArray⟩ : ByteArray) = s := ba_ext (by simp)
  rw [e] at h2
  rw [ba_size] at h1
  unfold unsV
  rw [h2, h3, if_pos ⟨by omega, by omega, rfl⟩]
/-- A byte is another: so the text is none that was sealed. -/
theorem unsV_turned (s t : ByteArray) (i : Nat) (y : UInt8) (hs : s.size ≤ 20000) (hi : i < s.size + 4) (ht : t.data.toList = (s ++ four (sumT s)).data.toList.set i y) (hy : (s ++ four (sumT s)).data.toList[i]? ≠ some y) :
    unsV t = .tuple #[.string ByteArray.empty, .bool false] := by
  have hls : s.data.toList.length = s.size := ba_size s
  have h4 : (four (sumT s)).data.toList.length = 4 := rfl
  unfold unsV
  refine if_neg ?_
  rintro ⟨h1, h2, h3⟩
  rw [ba_append] at ht hy
  by_cases h : i < s.size
  · rw [List.set_append_left _ _ (by omega)] at ht
    rw [List.getElem?_append_left (by omega)] at hy
    obtain ⟨e1, e2, e3⟩ := uns_parts _ (four (sumT s)) t (by rw [List.length_set, hls]; omega) rfl ht
    rw [e2, e3] at h3
    have e4 := four_inj (sumT_lt _) (sumT_lt _) h3
    exact hy (sumL_set s.data.toList i y _ (by decide) (by omega) e4)
  · rw [List.set_append_right _ _ (by omega)] at ht
    rw [List.getElem?_append_right (by omega)] at hy
    obtain ⟨e1, e2, e3⟩ := uns_parts s.data.toList ⟨((four (sumT s)).data.toList.set (i - s.data.toList.length) y).toArray⟩ t (by rw [hls]; omega) (by show (List.toArray _).size = 4; rw [List.size_toArray, List.length_set]; exact h4) (by rw [ht])
    have e : (⟨s.data.toList.toArray⟩ : ByteArray) = s := ba_ext (by simp)
    rw [e2, e3, e] at h3
    have e5 : (four (sumT s)).data.toList = (four (sumT s)).data.toList.set (i - s.data.toList.length) y := by
      have := congrArg (fun b : ByteArray => b.data.toList) h3
      simpa using this
    apply hy
    rw [e5, List.getElem?_set_self (by omega)]
theorem sum_x (s : ByteArray) : sumL (sumT s) [120] = sumT (s ++ ⟨#[120]⟩) := by
  unfold sumT
  rw [ba_append, sumL_app]
/-- Another byte: the old one, and a number of 1 to 255, bit by bit. -/
theorem xor_other (x : UInt8) (m : Nat) (h1 : 1 ≤ m) (h2 : m ≤ 255) : x ≠ UInt8.ofNat (x.toNat ^^^ m) := by
  intro e
  have e2 := congrArg UInt8.toNat e
  have hlt : x.toNat ^^^ m < 2 ^ 8 := Nat.xor_lt_two_pow x.toNat_lt (by omega)
  rw [UInt8.toNat_ofNat', Nat.mod_eq_of_lt hlt] at e2
  have : x.toNat ^^^ 0 = x.toNat ^^^ m := by rw [Nat.xor_zero]; exact e2
  have := xor_left_eq this
  omega
end Go.Proofs.YtnidmllipiiakaaDoor
