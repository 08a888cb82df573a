/-
  Walks: how many bytes at a text's beginning are of a kind, by the program.
-/
import Derived.Test.YtdfncefjdeagdaaChecked
import Derived.Test.YtdfncefjdeagdaaRuneP
import Derived.BigQuiet
import Derived.WalkSmall
namespace Go.Proofs.Ytdfncefjdeagdaa
open Go.RowKit

theorem isLetter_any (r : Nat) (w : World) (h : r ≤ 2147483647) : Calls Try.prog 39 #[.int .i32 (r : Int)] w fun e w' => e = .returned (.bool (letterQ r)) ∧ w' = w := by
  by_cases h1 : 97 ≤ r
  · have e : letterQ r = decide ((r : Int) ≤ 122) := by
      simp only [letterQ, decide_eq_decide]; omega
    rw [e]
    go_enter Try.func39, Try.ntmps39
    go_wp2
    go_ret
    exact ⟨rfl, rfl⟩
  · have e : letterQ r = false := by simp [letterQ]; omega
    rw [e]
    go_enter Try.func39, Try.ntmps39
    go_wp2
    go_ret
    exact ⟨rfl, rfl⟩

set_option maxHeartbeats 1000000 in
theorem sizeOf_letter (s : ByteArray) (w : World) (_hs : s.size ≤ 1048576) : Calls Try.prog 38 #[.string s, .func (.func 39) #[] #[]] w fun e w' => e = .returned (.int .i64 (headN letterQ s.data.toList)) ∧ Below w.heap.size w w' := by
  go_enter Try.func38, Try.ntmps38
  go_wp2
  go_loopw [5] (fun _ wr => ∃ pos : Nat, wr = w.iter s pos ∧ pos ≤ s.size ∧ Hid (∀ j, j < pos → ∀ h : j < s.size, letterQ s[j].toNat = true)) (fun _ wr => s.size - wr.iterPos w.heap.size)
  case atStart => exact ⟨0, rfl, Nat.zero_le _, fun j hj => absurd hj (Nat.not_lt_zero j)⟩
  case round =>
    obtain ⟨pos, rfl, hps, HA⟩ := hrel
    by_cases hp : pos < s.size
    · have hsp := decode_span s pos hp
      have hhi : letterQ (Utf8.decode s pos).1 = letterQ s[pos].toNat ∧ (letterQ s[pos].toNat = true → ∀ j, pos < j → j < pos + (Utf8.decode s pos).2 → ∀ h : j < s.size, letterQ s[j].toNat = true) ∧ 1 ≤ (Utf8.decode s pos).2 := by
        by_cases h8 : s[pos].toNat < 128
        · rw [decode_ascii s pos hp h8]
          exact ⟨rfl, fun _ j h1 h2 => by simp at h2; omega, Nat.le_refl _⟩
        · obtain ⟨d1, d2⟩ := decode_high s pos hp (by omega)
          refine ⟨?_, fun hq j h1 h2 h => ?_, d2⟩
          · simp only [letterQ, decide_eq_decide]; omega
          · have := hsp.2 (j - pos) (by omega) (by omega) (by omega)
            have e : s[pos + (j - pos)]'(by omega) = s[j] := by congr 1; omega
            rw [e] at this
            simp only [letterQ, decide_eq_true_eq] at hq ⊢; omega
      have hrl := decode_le s pos
      obtain ⟨r, hr⟩ : ∃ r, r = (Utf8.decode s pos).1 := ⟨_, rfl⟩
      obtain ⟨wd, hwd⟩ : ∃ wd, wd = (Utf8.decode s pos).2 := ⟨_, rfl⟩
      have hnx : ∀ ty, (Instr.next (.pointer (some ⟨w.heap.size, 0, none⟩)) true ty).run Try.prog (w.iter s pos) = .ok (.tuple #[.bool true, .int .i64 pos, .int .i32 r]) (w.iter s (pos + wd)) := fun ty => by
        rw [hr, hwd]; exact run_next_any w s pos ty hp
      rw [← hr, ← hwd] at hhi
      rw [← hr] at hrl
      rw [← hwd] at hsp
      have hw1 := hhi.2.2
      have hw2 := hsp.1
      have HQ := hide hhi
      have HS := hide hsp
      clear hhi hsp hr hwd
      have CL := fun w => hide (isLetter_any r w hrl)
      cases hq : letterQ r with
      | true =>
        rw [hq] at CL
        have HA2 : Hid (∀ j, j < pos + wd → ∀ h : j < s.size, letterQ s[j].toNat = true) := fun j hj h => by
          by_cases h1 : j < pos
          · exact HA.out j h1 h
          · by_cases h2 : j = pos
            · subst h2; rw [← HQ.out.1]; exact hq
            · exact HQ.out.2.1 (by rw [← HQ.out.1]; exact hq) j (by omega) hj h
        clear hq
        go_wp2_with (go_at_call 39; refine (unhide (CL _)).mono ?_; rintro e w1 ⟨rfl, rfl⟩)
        go_roundw
        case rel => exact ⟨pos + wd, rfl, hw2, HA2⟩
        case measure => simp; omega
      | false =>
        rw [hq] at CL
        have HF := hide (headN_in letterQ s pos HA.out hps (.inr ⟨hp, by rw [← HQ.out.1]; exact hq⟩))
        clear hq
        go_wp2_with (go_at_call 39; refine (unhide (CL _)).mono ?_; rintro e w1 ⟨rfl, rfl⟩)
        go_ret
        exact ⟨by rw [HF.out]; rfl, (Below.refl _ _).alloc (Nat.le_refl _) _⟩
    · have hnx : ∀ ty, (Instr.next (.pointer (some ⟨w.heap.size, 0, none⟩)) true ty).run Try.prog (w.iter s pos) = _ := fun ty => run_next_end w s pos ty hp
      have HF := hide (headN_in letterQ s pos HA.out hps (.inl (by omega)))
      have HE : Hid (pos = s.size) := show pos = s.size by omega
      go_wp2
      go_ret
      exact ⟨by rw [HF.out, HE.out]; rfl, (Below.refl _ _).alloc (Nat.le_refl _) _⟩

end Go.Proofs.Ytdfncefjdeagdaa
