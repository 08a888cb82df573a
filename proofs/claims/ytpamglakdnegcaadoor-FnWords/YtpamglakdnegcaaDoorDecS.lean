/-
  Walks: decimal figures, by the specification.
-/
import Derived.Test.YtpamglakdnegcaaDoorRows
import Derived.Test.YtpamglakdnegcaaDoorAidD
import Derived.WalkKit
namespace Go.Proofs.YtpamglakdnegcaaDoor
open Go.RowKit

theorem strOfNums_cons (x : Int) (t : List Int) : strOfNums [x] ++ strOfNums t = strOfNums (x :: t) := by
  apply ByteArray.ext
  rw [ByteArray.data_append]
  apply Array.toList_inj.1
  rw [Array.toList_append, strOfNums_data, strOfNums_data, strOfNums_data]
  rfl

theorem conv_one (x : Int) (w : World) : (convert 28 9 (.slice (some ⟨w.heap.size, 0, none⟩) 1 1)).run Tryd.prog (w.alloc (.cells #[.int .u8 x] 5)) = .ok (.string (strOfNums [x])) (w.alloc (.cells #[.int .u8 x] 5)) := by
  refine conv_own (base := w.heap.size) (n := 1) 28 9 5 Tryd.underlying28 Tryd.underlying5 Tryd.underlying9 ?_
  exact World.ownsRow_lit w #[.int .u8 x] 1 (Nat.le_refl _) (by unfold maxLen; omega) rfl

theorem decFig (x : Int) (w : World) (h0 : 0 ≤ x) (h1 : x < 10) : Calls Tryd.prog 32 #[.int .i64 x] w fun e w' => e = .returned (.int .u8 (48 + x)) ∧ w = w' := by
  go_enter Tryd.func32, Tryd.ntmps32
  go_wp2
  go_ret
  exact ⟨rfl, rfl⟩

/-- What the loop keeps: the figures that are to come, and those that are there. -/
def DecRel (N : Nat) (of : Nat → Int) (w : World) (sv nv : Value) (wr : World) : Prop :=
  ∃ (m : Nat) (tail : List Int), m ≤ N ∧ nv = .int .i64 (of m) ∧ sv = .string (strOfNums tail) ∧ Hid (decR m ++ tail = decR N) ∧ Below w.heap.size w wr

theorem DecRel.step {N m : Nat} {tail : List Int} (hm : 0 < m) (h : decR m ++ tail = decR N) : decR (m / 10) ++ (((48 + m % 10 : Nat) : Int) :: tail) = decR N := by
  rw [← h, decR_pos hm]; simp
theorem DecRel.short {N m : Nat} {tail : List Int} (hN : N ≤ 9223372036854775808) (h : decR m ++ tail = decR N) : (strOfNums tail).size ≤ 20 := by
  rw [strOfNums_size]
  have h1 := decR_len 20 N (by omega)
  rw [← h, List.length_append] at h1
  omega

set_option maxHeartbeats 1000000 in
set_option maxRecDepth 100000 in
theorem specDecimal_pos (n : Nat) (w : World) (h0 : 0 < n) (h1 : n ≤ 9223372036854775807) :
    Calls Tryd.prog 17 #[.int .i64 n] w fun e w' => e = .returned (.string (strOfNums (decR n))) ∧ Below w.heap.size w w' := by
  have hb1 : ((n : Int) == 0) = false := by simp; omega
  have hb2 : decide ((n : Int) < 0) = false := by simp
  go_enter Tryd.func17, Tryd.ntmps17
  go_wp2
  go_loopw [4, 0] (fun sv nv wr => DecRel n (fun m => (m : Int)) w sv nv wr) (fun _ nv _ => (intOf nv).toNat)
  case atStart => exact ⟨n, [], Nat.le_refl _, by simp, rfl, by simp [Hid], Below.refl _ _⟩
  case round =>
    obtain ⟨m, tail, hm, rfl, rfl, HD, hb⟩ := hrel
    have hts := DecRel.short (by omega) HD.out
    obtain ⟨t, ht⟩ : ∃ t, t = strOfNums tail := ⟨_, rfl⟩
    rw [← ht] at hts ⊢
    have HT := hide ht
    clear ht
    have hsz := hb.size
    rcases Nat.eq_zero_or_pos m with hm0 | hm0
    · have HF : Hid (t = strOfNums (decR n)) := by
        show t = _
        rw [HT.out, ← HD.out, hm0, decR_zero, List.nil_append]
      have hm1 : ((m : Int) != 0) = false := by simp; omega
      clear hm0
      go_wp2
      go_ret
      exact ⟨by rw [← HF.out]; rfl, hb⟩
    · have hcv := conv_one (48 + (m : Int) % 10) wr
      have hx1 : (strOfNums [48 + (m : Int) % 10]).size ≤ 1 := by rw [strOfNums_size]; simp
      have HE := hide (strOfNums_cons (48 + (m : Int) % 10) tail)
      obtain ⟨x, hx⟩ : ∃ x, x = strOfNums [48 + (m : Int) % 10] := ⟨_, rfl⟩
      rw [← hx] at hcv hx1 HE
      have HX := hide hx
      clear hx
      go_wp2_with (go_at_call 32; refine (decFig _ _ (by omega) (by omega)).mono ?_; rintro e w1 ⟨rfl, rfl⟩)
      go_roundw
      case rel =>
        refine ⟨m / 10, ((48 + m % 10 : Nat) : Int) :: tail, by omega, by go_num, ?_, DecRel.step hm0 HD.out, hb.alloc hsz _⟩
        rw [HT.out, HE.out]
        simp
      case measure => simp [intOf]; omega

set_option maxRecDepth 100000 in
theorem specDecimal_zero (w : World) : Calls Tryd.prog 17 #[.int .i64 0] w fun e w' => e = .returned (.string (strOfNums [48])) ∧ Below w.heap.size w w' := by
  go_enter Tryd.func17, Tryd.ntmps17
  go_wp2
  go_ret
  exact ⟨rfl, Below.refl _ _⟩

set_option maxHeartbeats 1000000 in
set_option maxRecDepth 100000 in
theorem specDecimal_neg (n : Nat) (w : World) (h0 : 0 < n) (h1 : n ≤ 9223372036854775808) :
    Calls Tryd.prog 17 #[.int .i64 (-(n : Int))] w fun e w' => e = .returned (.string (strOfNums (45 :: decR n))) ∧ Below w.heap.size w w' := by
  have hb1 : ((-(n : Int)) == 0) = false := by simp; omega
  have hb2 : decide ((-(n : Int)) < 0) = true := by simp; omega
  go_enter Tryd.func17, Tryd.ntmps17
  go_wp2
  go_loopw [4, 0] (fun sv nv wr => DecRel n (fun m => -(m : Int)) w sv nv wr) (fun _ nv _ => (-(intOf nv)).toNat)
  case atStart => exact ⟨n, [], Nat.le_refl _, by simp, rfl, by simp [Hid], Below.refl _ _⟩
  case round =>
    obtain ⟨m, tail, hm, rfl, rfl, HD, hb⟩ := hrel
    have hts := DecRel.short (by omega) HD.out
    obtain ⟨t, ht⟩ : ∃ t, t = strOfNums tail := ⟨_, rfl⟩
    rw [← ht] at hts ⊢
    have HT := hide ht
    clear ht
    have hsz := hb.size
    rcases Nat.eq_zero_or_pos m with hm0 | hm0
    · have HF : Hid ((⟨#[45]⟩ : ByteArray) ++ t = strOfNums (45 :: decR n)) := by
        show _ = _
        rw [← strOfNums_cons, HT.out, ← HD.out, hm0, decR_zero, List.nil_append]
        rfl
      have hm1 : ((-(m : Int)) != 0) = false := by simp; omega
      clear hm0
      go_wp2
      go_ret
      exact ⟨by rw [← HF.out]; rfl, hb⟩
    · obtain ⟨d, hd, hd0, hd1⟩ : ∃ d : Int, d = (m : Int) % 10 ∧ 0 ≤ d ∧ d < 10 := ⟨_, rfl, by omega, by omega⟩
      have hcv := conv_one (48 + (m : Int) % 10) wr
      have hcv2 := conv_one (48 + -((m : Int) % 10)) wr
      have hx1 : (strOfNums [48 + (m : Int) % 10]).size ≤ 1 := by rw [strOfNums_size]; simp
      have HE := hide (strOfNums_cons (48 + (m : Int) % 10) tail)
      obtain ⟨x, hx⟩ : ∃ x, x = strOfNums [48 + (m : Int) % 10] := ⟨_, rfl⟩
      rw [← hx] at hcv hx1 HE
      have hm1 : ((-(m : Int)) != 0) = true := by simp; omega
      by_cases hq : 0 < (m : Int) % 10
      · have HX := hide hx
        clear hx hd hcv2
        go_wp2_with (go_at_call 32; refine (decFig _ _ (by omega) (by omega)).mono ?_; rintro e w1 ⟨rfl, rfl⟩)
        go_roundw
        case rel =>
          refine ⟨m / 10, ((48 + m % 10 : Nat) : Int) :: tail, by omega, by first | go_num | (congr 1; omega), ?_, DecRel.step hm0 HD.out, hb.alloc hsz _⟩
          rw [HT.out, HE.out]
          simp
        case measure => simp [intOf]; omega
      · have hx2 : strOfNums [48 + -((m : Int) % 10)] = x := by
          rw [hx, show -((m : Int) % 10) = (m : Int) % 10 by omega]
        rw [hx2] at hcv2
        have HX := hide hx
        clear hx hd hx2 hcv
        go_wp2_with (go_at_call 32; refine (decFig _ _ (by omega) (by omega)).mono ?_; rintro e w1 ⟨rfl, rfl⟩)
        go_roundw
        case rel =>
          refine ⟨m / 10, ((48 + m % 10 : Nat) : Int) :: tail, by omega, by first | go_num | (congr 1; omega), ?_, DecRel.step hm0 HD.out, hb.alloc hsz _⟩
          rw [HT.out, HE.out]
          simp
        case measure => simp [intOf]; omega
end Go.Proofs.YtpamglakdnegcaaDoor
