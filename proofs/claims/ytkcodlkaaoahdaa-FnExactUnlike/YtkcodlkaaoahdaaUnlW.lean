/-
  Walks: Unlike, by the specification.
-/
import Derived.Test.YtkcodlkaaoahdaaChecked
import Derived.Test.YtkcodlkaaoahdaaUnlP
import Derived.BigQuiet
import Derived.WalkSmall
namespace Go.Proofs.Ytkcodlkaaoahdaa
open Go.RowKit

theorem is_result (x : ByteArray) : (x.toList == [114, 101, 115, 117, 108, 116]) = true ↔ x = resultN := by
  have e : resultN.toList = [114, 101, 115, 117, 108, 116] := by decide +kernel
  rw [← e]
  exact str_beq

def UnA (w : World) (xs : List ByteArray) (iv : Value) (wr : World) : Prop := ∃ i : Nat, i ≤ xs.length ∧ iv = .int .i64 i ∧ Hid (Below w.heap.size w wr) ∧ Hid (unlikeB (xs.take i) = true)
def UnB (w : World) (xs : List ByteArray) (i : Nat) (x : ByteArray) (kv : Value) (wr : World) : Prop := ∃ k : Nat, k ≤ i ∧ kv = .int .i64 k ∧ Hid (Below w.heap.size w wr) ∧ Hid (∀ j, j < k → xs[j]? ≠ some x)

set_option maxRecDepth 100000 in
set_option maxHeartbeats 2000000 in
theorem specUnlike_any (v : Value) (xs : List ByteArray) (w : World) (h : StrsAt w v xs) (hl : xs.length ≤ 1048576) :
    Calls Try.prog 7 #[v] w fun e w' => e = .returned (.bool (unlikeB xs)) ∧ Below w.heap.size w w' := by
  have H := hide h
  obtain ⟨ao, c, rfl, _⟩ := h
  obtain ⟨n, en⟩ : ∃ n, xs.length = n := ⟨_, rfl⟩
  have EN := hide en
  rw [en] at H hl ⊢
  clear en
  go_enter Try.func7, Try.ntmps7
  go_wp2
  go_loopw [3] (UnA w xs) (fun iv _ => n - (intOf iv).toNat)
  case atStart => exact ⟨0, by omega, rfl, Below.refl _ _, unlike_nil⟩
  case round =>
    obtain ⟨i, hi, rfl, HB, HU⟩ := hrel
    rw [EN.out] at hi
    by_cases hlt : i < n
    · have hlt' : (i : Int) < (n : Int) := by omega
      have hi0 : (0 : Int) ≤ (i : Int) := by omega
      have hix : i < xs.length := by rw [EN.out]; exact hlt
      obtain ⟨ao', c', e1, hc1⟩ := H.out.stays HB.out
      injection e1 with e2 e3 e4
      subst e2
      obtain ⟨a, rfl, _, hx⟩ := hc1 i hix
      have HS := hide (unlike_step hix HU.out)
      have HE := hide (unlike_stop hix)
      obtain ⟨x, ex⟩ : ∃ x, xs[i] = x := ⟨_, rfl⟩
      have EX := hide ex
      rw [ex] at hx HS HE
      clear e3 e4 ex
      by_cases hr : x = resultN
      · have HF := hide (HE.out (Or.inl hr))
        have hr' : (x.toList == [114, 101, 115, 117, 108, 116]) = true := (is_result x).2 hr
        clear hc1 hr
        go_wp2
        go_ret
        exact ⟨by rw [HF.out]; rfl, HB.out⟩
      · have hr' : (x.toList == [114, 101, 115, 117, 108, 116]) = false := by rw [Bool.eq_false_iff]; exact fun q => hr ((is_result x).1 q)
        have HR := hide hr
        have HC := hide hc1
        clear hc1 hr
        go_wp2
        go_loopw [4] (fun iv wr => UnB w xs i x iv wr) (fun iv _ => i - (intOf iv).toNat)
        case atStart => exact ⟨0, by omega, rfl, HB.out, fun j hj => absurd hj (Nat.not_lt_zero j)⟩
        case round =>
          clear hx
          obtain ⟨k, hk, rfl, HB2, HN⟩ := hrel
          by_cases hlk : k < i
          · have hlk' : (k : Int) < (i : Int) := by omega
            have hk0 : (0 : Int) ≤ (k : Int) := by omega
            have hkn : (k : Int) < (n : Int) := by omega
            have hkx : k < xs.length := by rw [EN.out]; omega
            obtain ⟨ao', c', e1, hc1⟩ := H.out.stays HB2.out
            injection e1 with e2 e3 e4
            subst e2
            obtain ⟨a', ea, _, hx⟩ := hc1 i hix
            cases ea
            obtain ⟨a', ea, _, hy⟩ := hc1 k hkx
            cases ea
            obtain ⟨y, ey⟩ : ∃ y, xs[k] = y := ⟨_, rfl⟩
            rw [EX.out] at hx
            rw [ey] at hy
            have EY : Hid (xs[k]? = some y) := by show _ = _; rw [List.getElem?_eq_getElem hkx, ey]
            have HM : Hid (y ∈ xs.take i) := by rw [← ey]; exact mem_take_of hlk hkx
            clear e3 e4 ey hc1
            by_cases hxy : y = x
            · have HF := hide (HE.out (Or.inr (by rw [← hxy]; exact HM.out)))
              subst hxy
              go_wp2
              go_quiet (fail)
              all_goals go_wp2
              all_goals go_ret
              all_goals exact ⟨by rw [HF.out]; rfl, below_drewN HB2.out _⟩
            · have hxy' : (y.toList == x.toList) = false := by rw [Bool.eq_false_iff]; exact fun h => hxy (str_beq.1 h)
              have HN2 : Hid (∀ j, j < k + 1 → xs[j]? ≠ some x) := fun j hj => by
                rcases Nat.lt_succ_iff_lt_or_eq.1 hj with hj | hj
                · exact HN.out j hj
                · subst hj; rw [EY.out]; exact fun q => hxy (Option.some.inj q)
              go_wp2
              go_quiet (fail)
              all_goals go_wp2
              all_goals go_roundw
              case rel => exact ⟨k + 1, by omega, by go_num, below_drewN HB2.out _, HN2⟩
              case measure => simp [intOf]; omega
          · have hlk' : ¬ (k : Int) < (i : Int) := by omega
            have HU2 := hide (HS.out HR.out (not_mem_take (fun j hj => HN.out j (by omega))))
            go_wp2
            go_roundw
            case rel => exact ⟨i + 1, by rw [EN.out]; omega, by go_num, HB2.out, HU2⟩
            case measure => simp [intOf]; omega
    · have hlt' : ¬ (i : Int) < (n : Int) := by omega
      have HF : Hid (unlikeB xs = true) := by
        have h := HU.out
        rw [List.take_of_length_le (by rw [EN.out]; omega)] at h
        exact h
      go_wp2
      go_ret
      exact ⟨by rw [HF.out]; rfl, HB.out⟩
end Go.Proofs.Ytkcodlkaaoahdaa
