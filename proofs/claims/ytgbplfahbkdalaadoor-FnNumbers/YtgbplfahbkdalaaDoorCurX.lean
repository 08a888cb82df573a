/-
  Walks: texts that are drawn.
-/
import Derived.Test.YtgbplfahbkdalaaDoorCurT
namespace Go.Proofs.YtgbplfahbkdalaaDoor
open Go.RowKit

/-- What the loop over drawn bytes keeps. -/
def TextRel (w : World) (base g n : Nat) (v i : Value) (wr : World) : Prop :=
  ∃ (k : Nat) (xs : List Int), k ≤ n ∧ i = .int .i64 k ∧ xs.length = k ∧ wr.ownsRow w.heap.size 5 1 v k (xs.map (Value.int .u8)) ∧ Far g w wr ∧ Cur wr base g

set_option maxHeartbeats 400000 in
/-- A text of so many bytes is drawn. -/
theorem text_any (w : World) (base g n : Nat) (hn : n ≤ 5000) (C : Cur w base g) :
    Calls Tryd.prog 22 #[.pointer (some ⟨g, 0, none⟩), .int .i64 n] w fun e w' => ∃ (s : ByteArray), s.size = n ∧ e = .returned (.string s) ∧ Far g w w' ∧ Cur w' base g := by
  have HC := hide C
  clear C
  go_enter Tryd.func22, Tryd.ntmps22
  go_wp2
  go_loopw [5, 6] (fun v i wr => TextRel w base g n v i wr) (fun _ i _ => n - (intOf i).toNat)
  case atStart => exact ⟨0, [], Nat.zero_le _, rfl, rfl, ownsRow_empty _ _ _ (Nat.le_refl _), Far.ofBelow ((Below.refl _ _).alloc (Nat.le_refl _) _), HC.out.below ((Below.refl _ _).alloc HC.out.lt _)⟩
  case round =>
    obtain ⟨k, xs, hk, rfl, hxl, hown, hf, hc⟩ := hrel
    have hsz := hf.size
    have hgl := HC.out.lt
    by_cases hlt : k < n
    · have HO := hide hown
      have HF := hide hf
      clear hown hf
      go_wp2_with (first | (go_at_call 26; refine (byte_any _ base g hc).mono ?_; rintro e w1 ⟨x, hx, rfl, hf1, hc1⟩; have hown1 := ownsRow_far HO.out hf1 hgl; have hsz1 := hf1.size) | (at_builtin; refine wpList_app1 rfl (.tmp 15) (.tmp 19) 22 rfl w.heap.size 5 (.int .u8 0) 1 Tryd.underlying22 Tryd.infoB rfl _ k _ _ rfl hown1 rfl rfl (by unfold maxLen; omega) (by omega) (by omega) ?_))
      intro v' w2 hown2 hb2
      have R : TextRel w base g n v' (.int .i64 ((k : Int) + 1)) w2 := ⟨k + 1, xs ++ [(x : Int)], hlt, rfl, by simp [hxl], by simpa using hown2, (Below.far' (HF.out.trans hf1) (Nat.le_refl _) hb2), hc1.below (hb2.mono hgl)⟩
      clear hown1 hown2 hb2 hf1
      go_wp2
      go_roundw
      case rel => exact R
      case measure => simp [intOf]; omega
    · obtain rfl : k = n := by omega
      have hcv := conv_own (P := Tryd.prog) 22 9 5 Tryd.underlying22 Tryd.underlying5 Tryd.underlying9 hown
      have HSZ : Hid ((strOfNums xs).size = k) := hide (by rw [strOfNums_size, hxl])
      clear hown
      go_wp2
      go_ret
      exact ⟨_, HSZ.out, rfl, hf, hc⟩
end Go.Proofs.YtgbplfahbkdalaaDoor
