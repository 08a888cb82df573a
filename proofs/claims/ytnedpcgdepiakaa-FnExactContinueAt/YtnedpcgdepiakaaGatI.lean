/-
  Whether a number is in a row, by the specification.
-/
import Derived.Test.YtnedpcgdepiakaaChecked
import Derived.Test.YtnedpcgdepiakaaTreeP
import Derived.WalkSmall
namespace Go.Proofs.Ytnedpcgdepiakaa
open Go.RowKit

def InZR (w : World) (xs : List Int) (s : Int) (n : Nat) (iv : Value) (wr : World) : Prop := ∃ i : Nat, i ≤ n ∧ iv = .int .i64 i ∧ wr = w ∧ Hid (∀ j, j < i → xs[j]? ≠ some s)

set_option maxRecDepth 100000 in
set_option maxHeartbeats 1000000 in
theorem l12In_any (v : Value) (xs : List Int) (s : Int) (w : World) (h : IntsAt w v xs) (hl : xs.length ≤ 1048576) :
    Calls Try.prog 32 #[v, .int .i64 s] w fun e w' => e = .returned (.bool (decide (s ∈ xs))) ∧ w' = w := by
  have H := hide h
  obtain ⟨ao, c, rfl, _⟩ := h
  obtain ⟨n, en⟩ : ∃ n, xs.length = n := ⟨_, rfl⟩
  have EN := hide en
  rw [en] at H hl ⊢
  clear en
  go_enter Try.func32, Try.ntmps32
  go_wp2
  go_loopw [5] (fun iv wr => InZR w xs s n iv wr) (fun iv _ => n - (intOf iv).toNat)
  case atStart => exact ⟨0, by omega, rfl, rfl, fun j hj => absurd hj (Nat.not_lt_zero j)⟩
  case round =>
    obtain ⟨i, hi, rfl, rfl, HN⟩ := hrel
    by_cases hlt : i < n
    · have hlt' : (i : Int) < (n : Int) := by omega
      have hi0 : (0 : Int) ≤ (i : Int) := by omega
      have hix : i < xs.length := by rw [EN.out]; exact hlt
      obtain ⟨ao', c', e1, hc1⟩ := H.out
      injection e1 with e2 e3 e4
      subst e2
      obtain ⟨a, rfl, _, hx⟩ := hc1 i hix
      have EX : Hid (xs[i]? = some xs[i]) := List.getElem?_eq_getElem hix
      have HM : Hid (xs[i] ∈ xs) := List.getElem_mem hix
      obtain ⟨x, ex⟩ : ∃ x, xs[i] = x := ⟨_, rfl⟩
      rw [ex] at hx EX HM
      clear hc1 e3 e4 ex
      by_cases hxs : x = s
      · have HF : Hid (decide (s ∈ xs) = true) := decide_eq_true (by rw [← hxs]; exact HM.out)
        subst hxs
        go_wp2
        go_ret
        exact ⟨by rw [HF.out]; rfl, rfl⟩
      · have hxs' : (x == s) = false := by simpa using hxs
        have HN2 : Hid (∀ j, j < i + 1 → xs[j]? ≠ some s) := fun j hj => by
          rcases Nat.lt_succ_iff_lt_or_eq.1 hj with hj | hj
          · exact HN.out j hj
          · subst hj; rw [EX.out]; exact fun q => hxs (Option.some.inj q)
        go_wp2
        go_roundw
        case rel => exact ⟨i + 1, by omega, by go_num, rfl, HN2⟩
        case measure => simp [intOf]; omega
    · have hlt' : ¬ (i : Int) < (n : Int) := by omega
      have HF : Hid (decide (s ∈ xs) = false) := decide_eq_false (fun q => by
        obtain ⟨j, hj, e⟩ := List.getElem_of_mem q
        exact HN.out j (by rw [EN.out] at hj; omega) (by rw [List.getElem?_eq_getElem hj, e]))
      go_wp2
      go_ret
      exact ⟨by rw [HF.out]; rfl, rfl⟩
end Go.Proofs.Ytnedpcgdepiakaa
