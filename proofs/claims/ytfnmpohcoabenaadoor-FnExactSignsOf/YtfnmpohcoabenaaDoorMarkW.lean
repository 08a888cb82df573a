/-
  Walks: the law's own helpers: marks, and rows of texts held against each other.
-/
import Derived.Test.YtfnmpohcoabenaaDoorAidRow
import Derived.Test.YtfnmpohcoabenaaDoorDecS
import Derived.BigQuiet
import Derived.WalkSmall
import Derived.Deep.RegionHeld3
namespace Go.Proofs.YtfnmpohcoabenaaDoor
open Go.RowKit

set_option maxHeartbeats 1000000 in
theorem markText_any (n : Nat) (w : World) (h0 : 0 < n) (h1 : n ≤ 9223372036854775807) :
    Calls Tryd.prog 15 #[.int .i64 n] w fun e w' => e = .returned (.string (markS n)) ∧ Below w.heap.size w w' := by
  have hb1 : decide ((n : Int) ≤ 0) = false := by simp; omega
  go_enter Tryd.func15, Tryd.ntmps15
  go_wp2
  go_loopw [3, 0] (fun sv nv wr => DecRel n (fun m => (m : Int)) w sv nv wr) (fun _ nv _ => (intOf nv).toNat)
  case atStart => exact ⟨n, [], Nat.le_refl _, by simp, rfl, by simp [Hid], Below.refl _ _⟩
  case round =>
    obtain ⟨m, tail, hm, rfl, rfl, HD, hb⟩ := hrel
    have hts := DecRel.short (by omega) HD.out
    obtain ⟨t, ht⟩ : ∃ t, t = strOfNums tail := ⟨_, rfl⟩
    rw [← ht] at hts ⊢
    have HT := hide ht
    clear ht
    have hsz := hb.size
    rcases Nat.eq_zero_or_pos m with hm0 | hm0
    · have HF : Hid ((⟨#[109]⟩ : ByteArray) ++ t = markS n) := by
        show _ = _
        rw [markS, ← strOfNums_cons, HT.out, ← HD.out, hm0, decR_zero, List.nil_append]
        rfl
      have hm1 : (m : Int) ≤ 0 := by omega
      clear hm0
      go_wp2
      go_ret
      exact ⟨by rw [← HF.out]; rfl, hb⟩
    · have hcv := conv_one (48 + (m : Int) % 10) wr
      have hx1 : (strOfNums [48 + (m : Int) % 10]).size ≤ 1 := by rw [strOfNums_size]; simp
      have HE := hide (strOfNums_cons (48 + (m : Int) % 10) tail)
      obtain ⟨x, hx⟩ : ∃ x, x = strOfNums [48 + (m : Int) % 10] := ⟨_, rfl⟩
      rw [← hx] at hcv hx1 HE
      have HX := hide hx
      clear hx
      have hm1 : (0 : Int) < (m : Int) := by omega
      go_wp2
      go_roundw
      case rel =>
        refine ⟨m / 10, ((48 + m % 10 : Nat) : Int) :: tail, by omega, by go_num, ?_, DecRel.step hm0 HD.out, hb.alloc hsz _⟩
        rw [HT.out, HE.out]
        simp
      case measure => simp [intOf]; omega

/-- Marking: behind it the row holds the marks. -/
def MkRel (w : World) (base : Nat) (v : Value) (n k0 : Nat) (xs : List ByteArray) (iv kv : Value) (wr : World) : Prop :=
  ∃ j : Nat, j ≤ n ∧ iv = .int .i64 j ∧ kv = .int .i64 ((k0 + j : Nat) : Int) ∧ wr.ownsRow base 9 1 v n ((marked xs k0 j).map S) ∧ Below base w wr

end Go.Proofs.YtfnmpohcoabenaaDoor
