/-
  Walk: where a text stands in a row (package slices).
-/
import Derived.Test.YtgeomgghecmkbaaCopE
namespace Go.Proofs.Ytgeomgghecmkbaa
open Go.RowKit

theorem str_cmp' (x s : ByteArray) : (s.toList == x.toList) = eqS s x := by
  by_cases h : x = s
  · rw [eqS, decide_eq_true h]; exact str_beq.2 h.symm
  · rw [eqS, decide_eq_false h, Bool.eq_false_iff]; exact fun q => h (str_beq.1 q).symm
def IxR (w : World) (xs : List ByteArray) (s : ByteArray) (iv : Value) (wr : World) : Prop :=
  ∃ i : Nat, i ≤ xs.length ∧ iv = .int .i64 i ∧ wr = w ∧ Hid (NoneTo (eqS s) xs i)

set_option maxRecDepth 100000 in
set_option maxHeartbeats 1000000 in
theorem indexS_any (v : Value) (xs : List ByteArray) (s : ByteArray) (w : World) (h1 : StrsAt w v xs) (hl : xs.length ≤ 1048576) :
    Calls Try.prog 13 #[v, .string s] w fun e w' => e = .returned (.int .i64 (firstAt (eqS s) xs)) ∧ w' = w := by
  have H1 := hide h1
  obtain ⟨ao, c, rfl, _⟩ := h1
  obtain ⟨n, en⟩ : ∃ n, xs.length = n := ⟨_, rfl⟩
  have EN := hide en
  rw [en] at H1 hl ⊢
  clear en
  go_enter Try.func13, Try.ntmps13
  go_wp2
  go_loopw [8] (IxR w xs s) (fun iv _ => n - (intOf iv).toNat)
  case atStart => exact ⟨0, by omega, rfl, rfl, NoneTo.zero _ _⟩
  case round =>
    obtain ⟨i, hi, rfl, rfl, HA⟩ := hrel
    rw [EN.out] at hi
    by_cases hlt : i < n
    · have hlt' : (i : Int) < (n : Int) := by omega
      have hi0 : (0 : Int) ≤ (i : Int) := by omega
      have hix : i < xs.length := by rw [EN.out]; exact hlt
      obtain ⟨ao', c', e1, hc1⟩ := H1.out
      injection e1 with e2 e3 e4
      subst e2
      obtain ⟨a, rfl, _, hx⟩ := hc1 i hix
      have HH := hide (HA.out.hit hix)
      have HST := hide (HA.out.step (i := i))
      have hcmp := str_cmp' xs[i] s
      have HX : Hid (∀ hi : i < xs.length, xs[i] = xs[i]) := fun _ => rfl
      obtain ⟨y, ey⟩ : ∃ y, xs[i] = y := ⟨_, rfl⟩
      rw [ey] at hx hcmp HH
      have HEY := hide ey
      clear hc1 e3 e4 ey HX
      obtain ⟨q, eq⟩ : ∃ q, eqS s y = q := ⟨_, rfl⟩
      rw [eq] at hcmp
      cases q with
      | true =>
        have HF := hide (HH.out eq)
        clear eq HH HST
        go_wp2
        go_ret
        exact ⟨by rw [HF.out]; rfl, rfl⟩
      | false =>
        have HS2 := hide (HST.out (fun _ => by rw [HEY.out]; exact eq))
        clear eq HH HST
        go_wp2
        go_roundw
        case rel => exact ⟨i + 1, by rw [EN.out]; omega, by go_num, rfl, HS2.out⟩
        case measure => simp [intOf]; omega
    · have hlt' : ¬ (i : Int) < (n : Int) := by omega
      have HF := hide (HA.out.none (by rw [EN.out]; omega))
      go_wp2
      go_ret
      exact ⟨by rw [HF.out]; rfl, rfl⟩
end Go.Proofs.Ytgeomgghecmkbaa
