/-
  Walks: how many bytes at a text's beginning are of a kind, by the program.
-/
import Derived.Test.YtmckcbgdkjbpfaaChecked
import Derived.Test.YtmckcbgdkjbpfaaKeyW
import Derived.BigQuiet
import Derived.WalkSmall
import Derived.Deep.RegionHeld3
namespace Go.Proofs.Ytmckcbgdkjbpfaa
open Go.RowKit

theorem isLetter_any (r : Nat) (w : World) (h : r ≤ 2147483647) : Calls Try.prog 64 #[.int .i32 (r : Int)] w fun e w' => e = .returned (.bool (letterQ r)) ∧ w' = w := by
  by_cases h1 : 97 ≤ r
  · have e : letterQ r = decide ((r : Int) ≤ 122) := by
      simp only [letterQ, decide_eq_decide]; omega
    rw [e]
    go_enter Try.func64, Try.ntmps64
    go_wp2
    go_ret
    exact ⟨rfl, rfl⟩
  · have e : letterQ r = false := by simp [letterQ]; omega
    rw [e]
    go_enter Try.func64, Try.ntmps64
    go_wp2
    go_ret
    exact ⟨rfl, rfl⟩

set_option maxHeartbeats 1000000 in
theorem sizeOf_letter (s : ByteArray) (w : World) (_hs : s.size ≤ 1048576) : Calls Try.prog 63 #[.string s, .func (.func 64) #[] #[]] w fun e w' => e = .returned (.int .i64 (headN letterQ s.data.toList)) ∧ Below w.heap.size w w' := by
  go_enter Try.func63, Try.ntmps63
  go_wp2
  go_loopw [5] (fun _ wr => ∃ pos : Nat, wr = w.iter s pos ∧ pos ≤ s.size ∧ Hid (∀ j, j < pos → ∀ h : j < s.size, letterQ s[j].toNat = true)) (fun _ wr => s.size - wr.iterPos w.heap.size)
  case atStart => exact ⟨0, rfl, Nat.zero_le _, fun j hj => absurd hj (Nat.not_lt_zero j)⟩
  case round =>
    obtain ⟨pos, rfl, hps, HA⟩ := hrel
    by_cases hp : pos < s.size
    · have hsp := decode_span s pos hp
      have hhi : letterQ (Utf8.decode s pos).1 = letterQ s[pos].toNat ∧ (letterQ s[pos].toNat = true → ∀ j, pos < j → j < pos + (Utf8.decode s pos).2 → ∀ h : j < s.size, letterQ s[j].toNat = true) ∧ 1 ≤ (Utf8.decode s pos).2 := by
        by_cases h8 : s[pos].toNat < 128
        · rw [decode_ascii s pos hp h8]
          exact ⟨rfl, fun _ j h1 h2 => by simp at h2; omega, Nat.le_refl _⟩
        · obtain ⟨d1, d2⟩ := decode_high s pos hp (by omega)
          refine ⟨?_, fun hq j h1 h2 h => ?_, d2⟩
          · simp only [letterQ, decide_eq_decide]; omega
          · have := hsp.2 (j - pos) (by omega) (by omega) (by omega)
            have e : s[pos + (j - pos)]'(by omega) = s[j] := by congr 1; omega
            rw [e] at this
            simp only [letterQ, decide_eq_true_eq] at hq ⊢; omega
      have hrl := decode_le s pos
      obtain ⟨r, hr⟩ : ∃ r, r = (Utf8.decode s pos).1 := ⟨_, rfl⟩
      obtain ⟨wd, hwd⟩ : ∃ wd, wd = (Utf8.decode s pos).2 := ⟨_, rfl⟩
      have hnx : ∀ ty, (Instr.next (.pointer (some ⟨w.heap.size, 0, none⟩)) true ty).run Try.prog (w.iter s pos) = .ok (.tuple #[.bool true, .int .i64 pos, .int .i32 r]) (w.iter s (pos + wd)) := fun ty => by
        rw [hr, hwd]; exact run_next_any w s pos ty hp
      rw [← hr, ← hwd] at hhi
      rw [← hr] at hrl
      rw [← hwd] at hsp
      have hw1 := hhi.2.2
      have hw2 := hsp.1
      have HQ := hide hhi
      have HS := hide hsp
      clear hhi hsp hr hwd
      have CL := fun w => hide (isLetter_any r w hrl)
      cases hq : letterQ r with
      | true =>
        rw [hq] at CL
        have HA2 : Hid (∀ j, j < pos + wd → ∀ h : j < s.size, letterQ s[j].toNat = true) := fun j hj h => by
          by_cases h1 : j < pos
          · exact HA.out j h1 h
          · by_cases h2 : j = pos
            · subst h2; rw [← HQ.out.1]; exact hq
            · exact HQ.out.2.1 (by rw [← HQ.out.1]; exact hq) j (by omega) hj h
        clear hq
        go_wp2_with (go_at_call 64; refine (unhide (CL _)).mono ?_; rintro e w1 ⟨rfl, rfl⟩)
        go_roundw
        case rel => exact ⟨pos + wd, rfl, hw2, HA2⟩
        case measure => simp; omega
      | false =>
        rw [hq] at CL
        have HF := hide (headN_in letterQ s pos HA.out hps (.inr ⟨hp, by rw [← HQ.out.1]; exact hq⟩))
        clear hq
        go_wp2_with (go_at_call 64; refine (unhide (CL _)).mono ?_; rintro e w1 ⟨rfl, rfl⟩)
        go_ret
        exact ⟨by rw [HF.out]; rfl, (Below.refl _ _).alloc (Nat.le_refl _) _⟩
    · have hnx : ∀ ty, (Instr.next (.pointer (some ⟨w.heap.size, 0, none⟩)) true ty).run Try.prog (w.iter s pos) = _ := fun ty => run_next_end w s pos ty hp
      have HF := hide (headN_in letterQ s pos HA.out hps (.inl (by omega)))
      have HE : Hid (pos = s.size) := show pos = s.size by omega
      go_wp2
      go_ret
      exact ⟨by rw [HF.out, HE.out]; rfl, (Below.refl _ _).alloc (Nat.le_refl _) _⟩

end Go.Proofs.Ytmckcbgdkjbpfaa

namespace Go.Proofs.Ytmckcbgdkjbpfaa
open Go.RowKit

def sizeB (s : ByteArray) : Bool := decide (1 ≤ s.size ∧ s.size ≤ 8)
def lettersB (s : ByteArray) : Bool := decide (headN letterQ s.data.toList = s.size)
def nameB (s : ByteArray) : Bool := sizeB s && (lettersB s && !keyB s)

theorem l01In_name (n : Nat) (w : World) (h : n ≤ 1048576) : Calls Try.prog 56 #[.int .i64 (n : Int), .int .i64 1, .int .i64 8] w fun e w' => e = .returned (.bool (decide (1 ≤ n ∧ n ≤ 8))) ∧ w' = w := by
  by_cases h1 : 1 ≤ n
  · have e : decide (1 ≤ n ∧ n ≤ 8) = decide ((n : Int) ≤ 8) := by simp only [decide_eq_decide]; omega
    rw [e]
    go_enter Try.func56, Try.ntmps56
    go_wp2
    go_ret
    exact ⟨rfl, rfl⟩
  · have e : decide (1 ≤ n ∧ n ≤ 8) = false := by simp; omega
    rw [e]
    go_enter Try.func56, Try.ntmps56
    go_wp2
    go_ret
    exact ⟨rfl, rfl⟩

set_option maxHeartbeats 2000000 in
theorem implNameOk_any (s : ByteArray) (w : World) (hs : s.size ≤ 1048576) : Calls Try.prog 49 #[.string s] w fun e w' => e = .returned (.bool (nameB s)) ∧ Below w.heap.size w w' := by
  have CK := fun w => hide (implKeyWord_any s w hs)
  have CL := fun w => hide (sizeOf_letter s w hs)
  by_cases h0 : s.size = 0
  · have e0 : s = ByteArray.empty := by
      apply ByteArray.ext; apply Array.ext'; apply List.length_eq_zero_iff.1; rw [Array.length_toList]; exact h0
    have HF : Hid (nameB s = false) := by show _ = _; simp [nameB, sizeB, h0]
    have hq : s.toList.isEmpty = true := by rw [e0, ByteArray.toList_eq]; rfl
    clear e0
    go_enter Try.func49, Try.ntmps49
    go_wp2_with fail
    go_ret
    exact ⟨by rw [HF.out]; rfl, Below.refl _ _⟩
  · have hq : s.toList.isEmpty = false := by
      rw [List.isEmpty_eq_false_iff, ByteArray.toList_eq]; intro h; apply h0; have := congrArg List.length h; rw [Array.length_toList] at this; exact this
    by_cases h8 : 8 < s.size
    · have HF : Hid (nameB s = false) := by show _ = _; simp [nameB, sizeB]; omega
      go_enter Try.func49, Try.ntmps49
      go_wp2_with fail
      go_ret
      exact ⟨by rw [HF.out]; rfl, Below.refl _ _⟩
    · obtain ⟨n, hn⟩ : ∃ n, n = headN letterQ s.data.toList := ⟨_, rfl⟩
      obtain ⟨b, hb⟩ : ∃ b, b = keyB s := ⟨_, rfl⟩
      rw [← hn] at CL
      rw [← hb] at CK
      by_cases hl : n = s.size
      · have HF : Hid (nameB s = !b) := by show _ = _; rw [nameB, lettersB, ← hn, ← hb]; simp [sizeB, hl]; omega
        have HL := hide hl
        clear hn hb
        subst hl
        clear HL
        go_enter Try.func49, Try.ntmps49
        go_wp2_with (first | (go_at_call 63; refine (unhide (CL _)).mono ?_; rintro e w1 ⟨rfl, hb1⟩) | (go_at_call 65; refine (unhide (CK _)).mono ?_; rintro e w2 ⟨rfl, hb2⟩))
        go_ret
        exact ⟨by rw [HF.out]; rfl, hb1.trans (hb2.mono hb1.size)⟩
      · have HF : Hid (nameB s = false) := by show _ = _; rw [nameB, lettersB, ← hn]; simp [hl]
        clear hn hb
        have hne : ((n : Int) == (s.size : Int)) = false := by simp; omega
        go_enter Try.func49, Try.ntmps49
        go_wp2_with (first | (go_at_call 63; refine (unhide (CL _)).mono ?_; rintro e w1 ⟨rfl, hb1⟩))
        go_ret
        exact ⟨by rw [HF.out]; rfl, hb1⟩

theorem takeWhile_all {α : Type} {p : α → Bool} : ∀ (l : List α) (b : α), b ∈ l.takeWhile p → p b = true
  | [], b, h => by simp at h
  | x :: l, b, h => by
    rw [List.takeWhile_cons] at h
    split at h
    · rename_i hx
      rcases List.mem_cons.1 h with rfl | h
      · exact hx
      · exact takeWhile_all l b h
    · simp at h
theorem lettersB_no {s : ByteArray} {k : Nat} (h : k < s.size) (hq : letterQ s[k].toNat = false) : lettersB s = false := by
  rw [lettersB, decide_eq_false_iff_not]
  intro e
  have : ∀ b ∈ s.data.toList, letterQ b.toNat = true := by
    have hl : s.data.toList.length = s.size := by rw [Array.length_toList]; rfl
    rw [← hl, headN] at e
    have h2 := (List.takeWhile_prefix (fun b : UInt8 => letterQ b.toNat) (l := s.data.toList)).eq_of_length e
    intro b hb
    rw [← h2] at hb
    exact takeWhile_all _ b hb
  have := this s[k] (by
    have : s[k] = s.data.toList[k]'(by simpa using h) := rfl
    rw [this]; exact List.getElem_mem _)
  rw [hq] at this; cases this

set_option maxHeartbeats 2000000 in
theorem specNameOk_any (s : ByteArray) (w : World) (hs : s.size ≤ 1048576) : Calls Try.prog 55 #[.string s] w fun e w' => e = .returned (.bool (nameB s)) ∧ Below w.heap.size w w' := by
  have CK := fun w => hide (specKeyWord_any s w hs)
  have CI := fun w => hide (l01In_name s.size w hs)
  go_enter Try.func55, Try.ntmps55
  go_wp2
  go_loop [3] (fun iv => ∃ k : Nat, k ≤ s.size ∧ iv = .int .i64 k ∧ Hid (∀ j, j < k → ∀ h : j < s.size, letterQ s[j].toNat = true)) (fun i => s.size - (intOf i).toNat)
  case atStart => exact ⟨0, Nat.zero_le _, rfl, fun j hj => absurd hj (Nat.not_lt_zero j)⟩
  case round =>
    obtain ⟨k, hk, rfl, HA⟩ := hrel
    by_cases hlt : k < s.size
    · obtain ⟨c, hc⟩ : ∃ c : Nat, c = s[k].toNat := ⟨_, rfl⟩
      have hb8 : c < 256 := by rw [hc]; exact s[k].toNat_lt
      have hix : ∀ wx : World, (Instr.index 9 (.string s) (.int .i64 (k : Int))).run Try.prog wx = .ok (.int .u8 (c : Int)) wx := fun wx => by
        rw [hc]; exact index_str9 Try.underlying9 s k hlt wx
      have HC := hide hc
      clear hc
      by_cases h97 : c < 97
      · have HF : Hid (nameB s = false) := by
          show _ = _
          rw [nameB, lettersB_no hlt (by rw [← HC.out, letterQ]; simp; omega)]; simp
        go_wp2
        go_ret
        exact ⟨by rw [HF.out]; rfl, Below.refl _ _⟩
      · by_cases h122 : 122 < c
        · have HF : Hid (nameB s = false) := by
            show _ = _
            rw [nameB, lettersB_no hlt (by rw [← HC.out, letterQ]; simp; omega)]; simp
          go_wp2
          go_ret
          exact ⟨by rw [HF.out]; rfl, Below.refl _ _⟩
        · have HA2 : Hid (∀ j, j < k + 1 → ∀ h : j < s.size, letterQ s[j].toNat = true) := fun j hj h => by
            rcases Nat.lt_succ_iff_lt_or_eq.1 hj with hj | hj
            · exact HA.out j hj h
            · subst hj; rw [← HC.out, letterQ]; simp; omega
          go_wp2
          go_round
          case rel => exact ⟨k + 1, by omega, by go_num, HA2⟩
          case measure => simp [intOf]; omega
    · have HE : Hid (lettersB s = true) := by
        show _ = _
        rw [lettersB, headN_in letterQ s k HA.out hk (.inl (by omega))]
        simp; omega
      obtain ⟨b, hb⟩ : ∃ b, b = keyB s := ⟨_, rfl⟩
      rw [← hb] at CK
      have HB := hide hb
      clear hb
      by_cases hz : 1 ≤ s.size ∧ s.size ≤ 8
      · have HF : Hid (nameB s = !b) := by show _ = _; rw [nameB, HE.out, ← HB.out]; simp [sizeB, hz]
        have e1 : decide (1 ≤ s.size ∧ s.size ≤ 8) = true := by simp [hz]
        rw [e1] at CI
        clear e1
        go_wp2_with (first | (go_at_call 56; refine (unhide (CI _)).mono ?_; rintro e w1 ⟨rfl, rfl⟩) | (go_at_call 66; refine (unhide (CK _)).mono ?_; rintro e w2 ⟨rfl, hb2⟩))
        go_ret
        exact ⟨by rw [HF.out]; rfl, hb2⟩
      · have HF : Hid (nameB s = false) := by show _ = _; rw [nameB]; simp [sizeB]; omega
        have e1 : decide (1 ≤ s.size ∧ s.size ≤ 8) = false := by simp; omega
        rw [e1] at CI
        clear e1
        go_wp2_with (first | (go_at_call 56; refine (unhide (CI _)).mono ?_; rintro e w1 ⟨rfl, rfl⟩) | (go_at_call 66; refine (unhide (CK _)).mono ?_; rintro e w2 ⟨rfl, hb2⟩))
        go_ret
        exact ⟨by rw [HF.out]; rfl, Below.refl _ _⟩

end Go.Proofs.Ytmckcbgdkjbpfaa
