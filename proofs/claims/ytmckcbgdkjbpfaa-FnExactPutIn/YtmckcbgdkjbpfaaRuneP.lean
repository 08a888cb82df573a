/-
  Runes of a text, byte by byte: no byte below 128 lies inside a rune; how many bytes at a text's beginning are of a kind.
-/
import Derived.Test.YtmckcbgdkjbpfaaAid
import Derived.Lib.DecodeN
import Derived.Laws.RangeAny
import Derived.Test.YtmckcbgdkjbpfaaChecked
import Derived.BigQuiet
import Derived.WalkSmall
namespace Go.Proofs.Ytmckcbgdkjbpfaa
open Go.RowKit

theorem get_bang (s : ByteArray) (j : Nat) (h : j < s.size) : s.get! j = s[j] := by
  simp [ByteArray.get!, getElem!_pos, h]
  rfl

theorem decodeN_span (n b0 b1 b2 b3 : Nat) (hn : 0 < n) : (Lib.decodeN n b0 b1 b2 b3).2 ≤ n ∧ (1 < (Lib.decodeN n b0 b1 b2 b3).2 → 128 ≤ b1) ∧ (2 < (Lib.decodeN n b0 b1 b2 b3).2 → 128 ≤ b2) ∧ (3 < (Lib.decodeN n b0 b1 b2 b3).2 → 128 ≤ b3) ∧ (Lib.decodeN n b0 b1 b2 b3).2 ≤ 4 := by
  unfold Lib.decodeN
  repeat' split
  all_goals (simp only []; omega)

/-- What a rune takes lies in the text, and all of its bytes but the first are 128 or above. -/
theorem decode_span (s : ByteArray) (pos : Nat) (h : pos < s.size) : pos + (Utf8.decode s pos).2 ≤ s.size ∧ ∀ j, 0 < j → j < (Utf8.decode s pos).2 → ∀ hj : pos + j < s.size, 128 ≤ s[pos + j].toNat := by
  rw [Lib.decode_at]
  obtain ⟨h1, a1, a2, a3, h4⟩ := decodeN_span (s.size - pos) (s.get! pos).toNat (s.get! (pos + 1)).toNat (s.get! (pos + 2)).toNat (s.get! (pos + 3)).toNat (by omega)
  refine ⟨by omega, fun j h0 hj hl => ?_⟩
  have : j = 1 ∨ j = 2 ∨ j = 3 := by omega
  rcases this with rfl | rfl | rfl
  · rw [← get_bang]; exact a1 hj
  · rw [← get_bang]; exact a2 hj
  · rw [← get_bang]; exact a3 hj

/-- How many bytes at the beginning are of a kind. -/
def headN (q : Nat → Bool) (l : List UInt8) : Nat := (l.takeWhile fun b => q b.toNat).length

theorem headN_le (q : Nat → Bool) (l : List UInt8) : headN q l ≤ l.length := by
  unfold headN
  exact (List.takeWhile_prefix _).length_le

theorem headN_at (q : Nat → Bool) : ∀ (l : List UInt8) (k : Nat), (∀ j, j < k → ∃ b, l[j]? = some b ∧ q b.toNat = true) → (k = l.length ∨ ∃ b, l[k]? = some b ∧ q b.toNat = false) → headN q l = k
  | [], k, _, h => by
    rcases h with h | ⟨b, hb, _⟩
    · simp at h; subst h; rfl
    · simp at hb
  | x :: l, 0, _, h => by
    rcases h with h | ⟨b, hb, hq⟩
    · simp at h
    · simp at hb; subst hb
      simp [headN, hq]
  | x :: l, k + 1, hA, h => by
    obtain ⟨b, hb, hq⟩ := hA 0 (by omega)
    simp at hb; subst hb
    have := headN_at q l k (fun j hj => by simpa using hA (j + 1) (by omega)) (by
      rcases h with h | h
      · simp at h; exact .inl h
      · simpa using .inr h)
    simp [headN, hq] at this ⊢
    exact this

theorem headN_in (q : Nat → Bool) (s : ByteArray) (k : Nat) (hA : ∀ j, j < k → ∀ h : j < s.size, q s[j].toNat = true) (hk : k ≤ s.size) (h : k = s.size ∨ ∃ hk : k < s.size, q s[k].toNat = false) : headN q s.data.toList = k := by
  have hl : s.data.toList.length = s.size := by rw [Array.length_toList]; rfl
  have hg : ∀ j (hj : j < s.size), s.data.toList[j]? = some s[j] := fun j hj => by
    rw [List.getElem?_eq_getElem (by omega)]; rfl
  refine headN_at q _ k (fun j hj => ⟨_, hg j (by omega), hA j hj (by omega)⟩) ?_
  rcases h with h | ⟨hk, h⟩
  · exact .inl (by omega)
  · exact .inr ⟨_, hg k hk, h⟩

theorem index_str9 {P : Program} {t : TypeId} (ht : P.underlying t = some .string) (s : ByteArray) (k : Nat) (h : k < s.size) (w : World) :
    (Instr.index t (.string s) (.int .i64 (k : Int))).run P w = .ok (.int .u8 (s[k].toNat : Int)) w := by
  simp [go_sem, ht, h]

/-- The kinds. -/
def letterQ (r : Nat) : Bool := decide (97 ≤ r ∧ r ≤ 122)
def figureQ (r : Nat) : Bool := decide (48 ≤ r ∧ r ≤ 57)
def blankQ (r : Nat) : Bool := decide (r = 32 ∨ r = 10)
def lineQ (r : Nat) : Bool := decide (r ≠ 10)
end Go.Proofs.Ytmckcbgdkjbpfaa

namespace Go.Proofs.Ytmckcbgdkjbpfaa
open Go.RowKit

theorem isLetter_any (r : Nat) (w : World) (h : r ≤ 2147483647) : Calls Try.prog 64 #[.int .i32 (r : Int)] w fun e w' => e = .returned (.bool (letterQ r)) ∧ w' = w := by
  by_cases h1 : 97 ≤ r
  · have e : letterQ r = decide ((r : Int) ≤ 122) := by
      simp only [letterQ, decide_eq_decide]; omega
    rw [e]
    go_enter Try.func64, Try.ntmps64
    go_wp2
    go_ret
    exact ⟨rfl, rfl⟩
  · have e : letterQ r = false := by simp [letterQ]; omega
    rw [e]
    go_enter Try.func64, Try.ntmps64
    go_wp2
    go_ret
    exact ⟨rfl, rfl⟩

set_option maxHeartbeats 1000000 in
theorem sizeOf_letter (s : ByteArray) (w : World) (_hs : s.size ≤ 1048576) : Calls Try.prog 63 #[.string s, .func (.func 64) #[] #[]] w fun e w' => e = .returned (.int .i64 (headN letterQ s.data.toList)) ∧ Below w.heap.size w w' := by
  go_enter Try.func63, Try.ntmps63
  go_wp2
  go_loopw [5] (fun _ wr => ∃ pos : Nat, wr = w.iter s pos ∧ pos ≤ s.size ∧ Hid (∀ j, j < pos → ∀ h : j < s.size, letterQ s[j].toNat = true)) (fun _ wr => s.size - wr.iterPos w.heap.size)
  case atStart => exact ⟨0, rfl, Nat.zero_le _, fun j hj => absurd hj (Nat.not_lt_zero j)⟩
  case round =>
    obtain ⟨pos, rfl, hps, HA⟩ := hrel
    by_cases hp : pos < s.size
    · have hsp := decode_span s pos hp
      have hhi : letterQ (Utf8.decode s pos).1 = letterQ s[pos].toNat ∧ (letterQ s[pos].toNat = true → ∀ j, pos < j → j < pos + (Utf8.decode s pos).2 → ∀ h : j < s.size, letterQ s[j].toNat = true) ∧ 1 ≤ (Utf8.decode s pos).2 := by
        by_cases h8 : s[pos].toNat < 128
        · rw [decode_ascii s pos hp h8]
          exact ⟨rfl, fun _ j h1 h2 => by simp at h2; omega, Nat.le_refl _⟩
        · obtain ⟨d1, d2⟩ := decode_high s pos hp (by omega)
          refine ⟨?_, fun hq j h1 h2 h => ?_, d2⟩
          · simp only [letterQ, decide_eq_decide]; omega
          · have := hsp.2 (j - pos) (by omega) (by omega) (by omega)
            have e : s[pos + (j - pos)]'(by omega) = s[j] := by congr 1; omega
            rw [e] at this
            simp only [letterQ, decide_eq_true_eq] at hq ⊢; omega
      have hrl := decode_le s pos
      obtain ⟨r, hr⟩ : ∃ r, r = (Utf8.decode s pos).1 := ⟨_, rfl⟩
      obtain ⟨wd, hwd⟩ : ∃ wd, wd = (Utf8.decode s pos).2 := ⟨_, rfl⟩
      have hnx : ∀ ty, (Instr.next (.pointer (some ⟨w.heap.size, 0, none⟩)) true ty).run Try.prog (w.iter s pos) = .ok (.tuple #[.bool true, .int .i64 pos, .int .i32 r]) (w.iter s (pos + wd)) := fun ty => by
        rw [hr, hwd]; exact run_next_any w s pos ty hp
      rw [← hr, ← hwd] at hhi
      rw [← hr] at hrl
      rw [← hwd] at hsp
      have hw1 := hhi.2.2
      have hw2 := hsp.1
      have HQ := hide hhi
      have HS := hide hsp
      clear hhi hsp hr hwd
      have CL := fun w => hide (isLetter_any r w hrl)
      cases hq : letterQ r with
      | true =>
        rw [hq] at CL
        have HA2 : Hid (∀ j, j < pos + wd → ∀ h : j < s.size, letterQ s[j].toNat = true) := fun j hj h => by
          by_cases h1 : j < pos
          · exact HA.out j h1 h
          · by_cases h2 : j = pos
            · subst h2; rw [← HQ.out.1]; exact hq
            · exact HQ.out.2.1 (by rw [← HQ.out.1]; exact hq) j (by omega) hj h
        clear hq
        go_wp2_with (go_at_call 64; refine (unhide (CL _)).mono ?_; rintro e w1 ⟨rfl, rfl⟩)
        go_roundw
        case rel => exact ⟨pos + wd, rfl, hw2, HA2⟩
        case measure => simp; omega
      | false =>
        rw [hq] at CL
        have HF := hide (headN_in letterQ s pos HA.out hps (.inr ⟨hp, by rw [← HQ.out.1]; exact hq⟩))
        clear hq
        go_wp2_with (go_at_call 64; refine (unhide (CL _)).mono ?_; rintro e w1 ⟨rfl, rfl⟩)
        go_ret
        exact ⟨by rw [HF.out]; rfl, (Below.refl _ _).alloc (Nat.le_refl _) _⟩
    · have hnx : ∀ ty, (Instr.next (.pointer (some ⟨w.heap.size, 0, none⟩)) true ty).run Try.prog (w.iter s pos) = _ := fun ty => run_next_end w s pos ty hp
      have HF := hide (headN_in letterQ s pos HA.out hps (.inl (by omega)))
      have HE : Hid (pos = s.size) := show pos = s.size by omega
      go_wp2
      go_ret
      exact ⟨by rw [HF.out, HE.out]; rfl, (Below.refl _ _).alloc (Nat.le_refl _) _⟩

end Go.Proofs.Ytmckcbgdkjbpfaa
