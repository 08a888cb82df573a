/-
  Names: by the specification and by the program.
-/
import Derived.Test.YtdfahpachbhglaaGreatDoorImpI
import Derived.Deep.RegionHeld3
import Derived.Test.YtdfahpachbhglaaGreatDoorProg
import Derived.Test.YtdfahpachbhglaaGreatDoorAidCard
import Derived.WalkKit
namespace Go.Proofs.YtdfahpachbhglaaGreatDoor
open Go.RowKit

def sizeB (s : ByteArray) : Bool := decide (1 ≤ s.size ∧ s.size ≤ 8)
def lettersB (s : ByteArray) : Bool := decide (headN letterQ s.data.toList = s.size)
def nameB (s : ByteArray) : Bool := sizeB s && (lettersB s && !keyB s)

theorem l01In_name (n : Nat) (w : World) (h : n ≤ 1048576) : Calls Tryz.prog 30 #[.int .i64 (n : Int), .int .i64 1, .int .i64 8] w fun e w' => e = .returned (.bool (decide (1 ≤ n ∧ n ≤ 8))) ∧ w' = w := by
  by_cases h1 : 1 ≤ n
  · have e : decide (1 ≤ n ∧ n ≤ 8) = decide ((n : Int) ≤ 8) := by simp only [decide_eq_decide]; omega
    rw [e]
    go_enter Tryz.func30, Tryz.ntmps30
    go_wp2
    go_ret
    exact ⟨rfl, rfl⟩
  · have e : decide (1 ≤ n ∧ n ≤ 8) = false := by simp; omega
    rw [e]
    go_enter Tryz.func30, Tryz.ntmps30
    go_wp2
    go_ret
    exact ⟨rfl, rfl⟩

set_option maxHeartbeats 2000000 in
theorem implNameOk_any (s : ByteArray) (w : World) (hs : s.size ≤ 1048576) : Calls Tryz.prog 60 #[.string s] w fun e w' => e = .returned (.bool (nameB s)) ∧ Below w.heap.size w w' := by
  have CK := fun w => hide (implKeyWord_any s w hs)
  have CL := fun w => hide (sizeOf_letter s w hs)
  by_cases h0 : s.size = 0
  · have e0 : s = ByteArray.empty := by
      apply ByteArray.ext; apply Array.ext'; apply List.length_eq_zero_iff.1; rw [Array.length_toList]; exact h0
    have HF : Hid (nameB s = false) := by show _ = _; simp [nameB, sizeB, h0]
    have hq : s.toList.isEmpty = true := by rw [e0, ByteArray.toList_eq]; rfl
    clear e0
    go_enter Tryz.func60, Tryz.ntmps60
    go_wp2_with fail
    go_ret
    exact ⟨by rw [HF.out]; rfl, Below.refl _ _⟩
  · have hq : s.toList.isEmpty = false := by
      rw [List.isEmpty_eq_false_iff, ByteArray.toList_eq]; intro h; apply h0; have := congrArg List.length h; rw [Array.length_toList] at this; exact this
    by_cases h8 : 8 < s.size
    · have HF : Hid (nameB s = false) := by show _ = _; simp [nameB, sizeB]; omega
      go_enter Tryz.func60, Tryz.ntmps60
      go_wp2_with fail
      go_ret
      exact ⟨by rw [HF.out]; rfl, Below.refl _ _⟩
    · obtain ⟨n, hn⟩ : ∃ n, n = headN letterQ s.data.toList := ⟨_, rfl⟩
      obtain ⟨b, hb⟩ : ∃ b, b = keyB s := ⟨_, rfl⟩
      rw [← hn] at CL
      rw [← hb] at CK
      by_cases hl : n = s.size
      · have HF : Hid (nameB s = !b) := by show _ = _; rw [nameB, lettersB, ← hn, ← hb]; simp [sizeB, hl]; omega
        have HL := hide hl
        clear hn hb
        subst hl
        clear HL
        go_enter Tryz.func60, Tryz.ntmps60
        go_wp2_with (first | (go_at_call 84; refine (unhide (CL _)).mono ?_; rintro e w1 ⟨rfl, hb1⟩) | (go_at_call 86; refine (unhide (CK _)).mono ?_; rintro e w2 ⟨rfl, hb2⟩))
        go_ret
        exact ⟨by rw [HF.out]; rfl, hb1.trans (hb2.mono hb1.size)⟩
      · have HF : Hid (nameB s = false) := by show _ = _; rw [nameB, lettersB, ← hn]; simp [hl]
        clear hn hb
        have hne : ((n : Int) == (s.size : Int)) = false := by simp; omega
        go_enter Tryz.func60, Tryz.ntmps60
        go_wp2_with (first | (go_at_call 84; refine (unhide (CL _)).mono ?_; rintro e w1 ⟨rfl, hb1⟩))
        go_ret
        exact ⟨by rw [HF.out]; rfl, hb1⟩

theorem takeWhile_all {α : Type} {p : α → Bool} : ∀ (l : List α) (b : α), b ∈ l.takeWhile p → p b = true
  | [], b, h => by simp at h
  | x :: l, b, h => by
    rw [List.takeWhile_cons] at h
    split at h
    · rename_i hx
      rcases List.mem_cons.1 h with rfl | h
      · exact hx
      · exact takeWhile_all l b h
    · simp at h
theorem lettersB_no {s : ByteArray} {k : Nat} (h : k < s.size) (hq : letterQ s[k].toNat = false) : lettersB s = false := by
  rw [lettersB, decide_eq_false_iff_not]
  intro e
  have : ∀ b ∈ s.data.toList, letterQ b.toNat = true := by
    have hl : s.data.toList.length = s.size := by rw [Array.length_toList]; rfl
    rw [← hl, headN] at e
    have h2 := (List.takeWhile_prefix (fun b : UInt8 => letterQ b.toNat) (l := s.data.toList)).eq_of_length e
    intro b hb
    rw [← h2] at hb
    exact takeWhile_all _ b hb
  have := this s[k] (by
    have : s[k] = s.data.toList[k]'(by simpa using h) := rfl
    rw [this]; exact List.getElem_mem _)
  rw [hq] at this; cases this

set_option maxHeartbeats 2000000 in
theorem specNameOk_any (s : ByteArray) (w : World) (hs : s.size ≤ 1048576) : Calls Tryz.prog 51 #[.string s] w fun e w' => e = .returned (.bool (nameB s)) ∧ Below w.heap.size w w' := by
  have CK := fun w => hide (specKeyWord_any s w hs)
  have CI := fun w => hide (l01In_name s.size w hs)
  go_enter Tryz.func51, Tryz.ntmps51
  go_wp2
  go_loop [3] (fun iv => ∃ k : Nat, k ≤ s.size ∧ iv = .int .i64 k ∧ Hid (∀ j, j < k → ∀ h : j < s.size, letterQ s[j].toNat = true)) (fun i => s.size - (intOf i).toNat)
  case atStart => exact ⟨0, Nat.zero_le _, rfl, fun j hj => absurd hj (Nat.not_lt_zero j)⟩
  case round =>
    obtain ⟨k, hk, rfl, HA⟩ := hrel
    by_cases hlt : k < s.size
    · obtain ⟨c, hc⟩ : ∃ c : Nat, c = s[k].toNat := ⟨_, rfl⟩
      have hb8 : c < 256 := by rw [hc]; exact s[k].toNat_lt
      have hix : ∀ wx : World, (Instr.index 9 (.string s) (.int .i64 (k : Int))).run Tryz.prog wx = .ok (.int .u8 (c : Int)) wx := fun wx => by
        rw [hc]; exact index_str9 Tryz.underlying9 s k hlt wx
      have HC := hide hc
      clear hc
      by_cases h97 : c < 97
      · have HF : Hid (nameB s = false) := by
          show _ = _
          rw [nameB, lettersB_no hlt (by rw [← HC.out, letterQ]; simp; omega)]; simp
        go_wp2
        go_ret
        exact ⟨by rw [HF.out]; rfl, Below.refl _ _⟩
      · by_cases h122 : 122 < c
        · have HF : Hid (nameB s = false) := by
            show _ = _
            rw [nameB, lettersB_no hlt (by rw [← HC.out, letterQ]; simp; omega)]; simp
          go_wp2
          go_ret
          exact ⟨by rw [HF.out]; rfl, Below.refl _ _⟩
        · have HA2 : Hid (∀ j, j < k + 1 → ∀ h : j < s.size, letterQ s[j].toNat = true) := fun j hj h => by
            rcases Nat.lt_succ_iff_lt_or_eq.1 hj with hj | hj
            · exact HA.out j hj h
            · subst hj; rw [← HC.out, letterQ]; simp; omega
          go_wp2
          go_round
          case rel => exact ⟨k + 1, by omega, by go_num, HA2⟩
          case measure => simp [intOf]; omega
    · have HE : Hid (lettersB s = true) := by
        show _ = _
        rw [lettersB, headN_in letterQ s k HA.out hk (.inl (by omega))]
        simp; omega
      obtain ⟨b, hb⟩ : ∃ b, b = keyB s := ⟨_, rfl⟩
      rw [← hb] at CK
      have HB := hide hb
      clear hb
      by_cases hz : 1 ≤ s.size ∧ s.size ≤ 8
      · have HF : Hid (nameB s = !b) := by show _ = _; rw [nameB, HE.out, ← HB.out]; simp [sizeB, hz]
        have e1 : decide (1 ≤ s.size ∧ s.size ≤ 8) = true := by simp [hz]
        rw [e1] at CI
        clear e1
        go_wp2_with (first | (go_at_call 30; refine (unhide (CI _)).mono ?_; rintro e w1 ⟨rfl, rfl⟩) | (go_at_call 72; refine (unhide (CK _)).mono ?_; rintro e w2 ⟨rfl, hb2⟩))
        go_ret
        exact ⟨by rw [HF.out]; rfl, hb2⟩
      · have HF : Hid (nameB s = false) := by show _ = _; rw [nameB]; simp [sizeB]; omega
        have e1 : decide (1 ≤ s.size ∧ s.size ≤ 8) = false := by simp; omega
        rw [e1] at CI
        clear e1
        go_wp2_with (first | (go_at_call 30; refine (unhide (CI _)).mono ?_; rintro e w1 ⟨rfl, rfl⟩) | (go_at_call 72; refine (unhide (CK _)).mono ?_; rintro e w2 ⟨rfl, hb2⟩))
        go_ret
        exact ⟨by rw [HF.out]; rfl, Below.refl _ _⟩

end Go.Proofs.YtdfahpachbhglaaGreatDoor

namespace Go.Proofs.YtdfahpachbhglaaGreatDoor
open Go.RowKit

/-- A value. -/
def vok (n : Int) : Bool := decide (-1000000 ≤ n) && decide (n ≤ 1000000)
theorem vok_iff (n : Int) : vok n = true ↔ -1000000 ≤ n ∧ n ≤ 1000000 := by simp [vok]
theorem vok_not (n : Int) : vok n = false ↔ ¬ (-1000000 ≤ n ∧ n ≤ 1000000) := by rw [← vok_iff]; simp

theorem implValOk (n : Int) (w : World) : Calls Tryz.prog 100 #[.int .i64 n] w fun e w' => e = .returned (.bool (vok n)) ∧ w = w' := by
  by_cases h1 : -1000000 ≤ n
  · have b1 : decide (-1000000 ≤ n) = true := decide_eq_true h1
    have e : vok n = decide (n ≤ 1000000) := by simp [vok, b1]
    rw [e]
    clear h1 e
    go_enter Tryz.func100, Tryz.ntmps100
    go_wp2
    go_ret
    exact ⟨rfl, rfl⟩
  · have b1 : decide (-1000000 ≤ n) = false := decide_eq_false h1
    have e : vok n = false := by simp [vok, b1]
    rw [e]
    clear h1 e
    go_enter Tryz.func100, Tryz.ntmps100
    go_wp2
    go_ret
    exact ⟨rfl, rfl⟩
theorem specIn (n lo hi : Int) (w : World) : Calls Tryz.prog 30 #[.int .i64 n, .int .i64 lo, .int .i64 hi] w fun e w' => e = .returned (.bool (decide (lo ≤ n) && decide (n ≤ hi))) ∧ w = w' := by
  by_cases h1 : lo ≤ n
  · go_enter Tryz.func30, Tryz.ntmps30
    go_wp2
    go_ret
    exact ⟨by simp [h1], rfl⟩
  · go_enter Tryz.func30, Tryz.ntmps30
    go_wp2
    go_ret
    exact ⟨by simp; omega, rfl⟩
theorem implKnown (op : Int) (w : World) : Calls Tryz.prog 101 #[.int .i64 op] w fun e w' => e = .returned (.bool (decide (1 ≤ op) && decide (op ≤ 9))) ∧ w = w' := by
  by_cases h1 : 1 ≤ op
  · go_enter Tryz.func101, Tryz.ntmps101
    go_wp2
    go_ret
    exact ⟨by simp [h1], rfl⟩
  · go_enter Tryz.func101, Tryz.ntmps101
    go_wp2
    go_ret
    exact ⟨by simp; omega, rfl⟩
/-- What comes out of two values. -/
def calcO (op a b : Int) : Int :=
  if op = 1 then a + b else if op = 2 then a - b else if op = 3 then a * b else if op = 4 then a.tdiv b else if op = 5 then a.tmod b
  else if op = 6 then (if decide (a < b) then 1 else 0) else if op = 7 then (if decide (a = b) then 1 else 0)
  else if op = 8 then (if decide (a ≠ 0) && decide (b ≠ 0) then 1 else 0) else (if decide (a ≠ 0) || decide (b ≠ 0) then 1 else 0)

theorem mul_small {a b : Int} (ha1 : -1000000 ≤ a) (ha2 : a ≤ 1000000) (hb1 : -1000000 ≤ b) (hb2 : b ≤ 1000000) : -1000000000000 ≤ a * b ∧ a * b ≤ 1000000000000 := by
  have h : (a * b).natAbs ≤ 1000000 * 1000000 := by rw [Int.natAbs_mul]; exact Nat.mul_le_mul (by omega) (by omega)
  omega
theorem tdiv_small {a : Int} (b : Int) (ha1 : -1000000 ≤ a) (ha2 : a ≤ 1000000) : -1000000 ≤ a.tdiv b ∧ a.tdiv b ≤ 1000000 := by
  have h : (a.tdiv b).natAbs ≤ 1000000 := by rw [Int.natAbs_tdiv]; exact Nat.le_trans (Nat.div_le_self _ _) (by omega)
  omega
theorem wrap_mul {a b : Int} (ha1 : -1000000 ≤ a) (ha2 : a ≤ 1000000) (hb1 : -1000000 ≤ b) (hb2 : b ≤ 1000000) : wrap64 (a * b) = a * b := by
  have h := mul_small ha1 ha2 hb1 hb2
  exact IntWalk.wrap64_in _ (by omega)
theorem wrap_tdiv {a : Int} (b : Int) (ha1 : -1000000 ≤ a) (ha2 : a ≤ 1000000) : wrap64 (a.tdiv b) = a.tdiv b := by
  have h := tdiv_small b ha1 ha2
  exact IntWalk.wrap64_in _ (by omega)

end Go.Proofs.YtdfahpachbhglaaGreatDoor

namespace Go.Proofs.YtdfahpachbhglaaGreatDoor
end Go.Proofs.YtdfahpachbhglaaGreatDoor
