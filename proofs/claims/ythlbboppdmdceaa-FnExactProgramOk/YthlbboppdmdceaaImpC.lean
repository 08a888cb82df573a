/-
  Walks: rows of numbers: held against each other, looked through, copied.
-/
import Derived.Test.YthlbboppdmdceaaImpB
namespace Go.Proofs.Ythlbboppdmdceaa
open Go.RowKit

def EqlR (w : World) (xs ys : List Int) (iv : Value) (wr : World) : Prop :=
  ∃ i : Nat, i ≤ xs.length ∧ iv = .int .i64 i ∧ Hid (Below w.heap.size w wr) ∧ Hid (∀ j, j < i → xs[j]? = ys[j]?)

set_option maxHeartbeats 1000000 in
theorem equal_any (v1 v2 : Value) (xs ys : List Int) (w : World) (h1 : IntsAt w v1 xs) (h2 : IntsAt w v2 ys) (hl : xs.length ≤ 1048576) (_hm : ys.length ≤ 1048576) :
    Calls Try.prog 50 #[v1, v2] w fun e w' => e = .returned (.bool (decide (xs = ys))) ∧ Below w.heap.size w w' := by
  have H1 := hide h1
  have H2 := hide h2
  obtain ⟨ao, c, rfl, _⟩ := h1
  obtain ⟨bo, d, rfl, _⟩ := h2
  by_cases hn : xs.length = ys.length
  · obtain ⟨n, en⟩ : ∃ n, xs.length = n := ⟨_, rfl⟩
    have EN := hide en
    have EM := hide (hn.symm.trans en)
    rw [en] at H1 hl ⊢
    rw [hn.symm.trans en] at H2 ⊢
    clear hn en _hm
    go_enter Try.func50, Try.ntmps50
    go_wp2
    go_loopw [13] (EqlR w xs ys) (fun iv _ => n - (intOf iv).toNat)
    case atStart => exact ⟨0, by omega, rfl, Below.refl _ _, fun j hj => absurd hj (Nat.not_lt_zero j)⟩
    case round =>
      obtain ⟨i, hi, rfl, HB2, HA⟩ := hrel
      rw [EN.out] at hi
      by_cases hlt : i < n
      · have hlt' : (i : Int) < (n : Int) := by omega
        have hi0 : (0 : Int) ≤ (i : Int) := by omega
        have hix : i < xs.length := by rw [EN.out]; exact hlt
        have hiy : i < ys.length := by rw [EM.out]; exact hlt
        obtain ⟨ao', c', e1, hc1⟩ := H1.out.stays HB2.out
        injection e1 with e2 e3 e4
        subst e2
        obtain ⟨bo', d', e1, hc2⟩ := H2.out.stays HB2.out
        injection e1 with e2 e5 e6
        subst e2
        obtain ⟨a, rfl, _, hx⟩ := hc1 i hix
        obtain ⟨b, rfl, _, hy⟩ := hc2 i hiy
        have EX : Hid (xs[i]? = some xs[i]) := List.getElem?_eq_getElem hix
        have EY : Hid (ys[i]? = some ys[i]) := List.getElem?_eq_getElem hiy
        obtain ⟨x, ex⟩ : ∃ x, xs[i] = x := ⟨_, rfl⟩
        obtain ⟨y, ey⟩ : ∃ y, ys[i] = y := ⟨_, rfl⟩
        rw [ex] at hx EX
        rw [ey] at hy EY
        clear ex ey hc1 hc2 e3 e4 e5 e6
        by_cases hxy : x = y
        · subst hxy
          go_wp2
          go_region
          all_goals go_wp2
          go_roundw
          case rel => exact ⟨i + 1, by rw [EN.out]; omega, by go_num, HB2.out.drew, fun j hj => by
            rcases Nat.lt_succ_iff_lt_or_eq.1 hj with h | h
            · exact HA.out j h
            · subst h; rw [EX.out, EY.out]⟩
          case measure => simp [intOf]; omega
        · have HF : Hid (decide (xs = ys) = false) := by
            show _ = _
            rw [decide_eq_false_iff_not]
            intro h
            have hx2 := EX.out
            rw [h, EY.out] at hx2
            exact hxy (Option.some.inj hx2).symm
          go_wp2
          go_region
          all_goals go_wp2
          all_goals go_ret
          all_goals exact ⟨by rw [HF.out]; rfl, HB2.out.drew⟩
      · have hlt' : ¬ (i : Int) < (n : Int) := by omega
        have HF : Hid (decide (xs = ys) = true) := by
          show _ = _
          rw [decide_eq_true_eq]
          refine List.ext_getElem? fun j => ?_
          by_cases hj : j < i
          · exact HA.out j hj
          · rw [List.getElem?_eq_none (by rw [EN.out]; omega), List.getElem?_eq_none (by rw [EM.out]; omega)]
        go_wp2
        go_ret
        exact ⟨by rw [HF.out]; rfl, HB2.out⟩
  · have hn' : ¬ (xs.length : Int) = (ys.length : Int) := by omega
    have HF : Hid (decide (xs = ys) = false) := by
      show _ = _
      rw [decide_eq_false_iff_not]
      intro h
      exact hn (by rw [h])
    obtain ⟨n, en⟩ : ∃ n, xs.length = n := ⟨_, rfl⟩
    obtain ⟨m, em⟩ : ∃ m, ys.length = m := ⟨_, rfl⟩
    rw [en, em] at hn'
    rw [en] at H1 ⊢
    rw [em] at H2 ⊢
    clear en em hn hl _hm
    go_enter Try.func50, Try.ntmps50
    go_wp2
    go_ret
    exact ⟨by rw [HF.out]; rfl, Below.refl _ _⟩

def IdxR (w : World) (xs : List Int) (y : Int) (iv : Value) (wr : World) : Prop :=
  ∃ i : Nat, i ≤ xs.length ∧ iv = .int .i64 i ∧ wr = w ∧ Hid (∀ j x, j < i → xs[j]? = some x → y ≠ x)

set_option maxHeartbeats 1000000 in
theorem index_any (v : Value) (xs : List Int) (y : Int) (w : World) (h1 : IntsAt w v xs) (hl : xs.length ≤ 1048576) :
    Calls Try.prog 69 #[v, .int .i64 y] w fun e w' => ∃ i : Int, e = .returned (.int .i64 i) ∧ w' = w ∧ (0 ≤ i ↔ y ∈ xs) := by
  have H1 := hide h1
  obtain ⟨ao, c, rfl, _⟩ := h1
  obtain ⟨n, en⟩ : ∃ n, xs.length = n := ⟨_, rfl⟩
  have EN := hide en
  rw [en] at H1 hl ⊢
  clear en
  go_enter Try.func69, Try.ntmps69
  go_wp2
  go_loopw [8] (IdxR w xs y) (fun iv _ => n - (intOf iv).toNat)
  case atStart => exact ⟨0, by omega, rfl, rfl, fun j x hj => absurd hj (Nat.not_lt_zero j)⟩
  case round =>
    obtain ⟨i, hi, rfl, rfl, HA⟩ := hrel
    rw [EN.out] at hi
    by_cases hlt : i < n
    · have hlt' : (i : Int) < (n : Int) := by omega
      have hi0 : (0 : Int) ≤ (i : Int) := by omega
      have hix : i < xs.length := by rw [EN.out]; exact hlt
      obtain ⟨ao', c', e1, hc1⟩ := H1.out
      injection e1 with e2 e3 e4
      subst e2
      obtain ⟨a, rfl, _, hx⟩ := hc1 i hix
      have EX : Hid (xs[i]? = some xs[i]) := List.getElem?_eq_getElem hix
      obtain ⟨x, ex⟩ : ∃ x, xs[i] = x := ⟨_, rfl⟩
      rw [ex] at hx EX
      clear ex hc1 e3 e4
      by_cases hxy : y = x
      · subst hxy
        go_wp2
        go_ret
        exact ⟨_, rfl, rfl, ⟨fun _ => List.mem_iff_getElem?.2 ⟨i, EX.out⟩, fun _ => by omega⟩⟩
      · go_wp2
        go_roundw
        case rel => exact ⟨i + 1, by rw [EN.out]; omega, by go_num, rfl, fun j z hj hz => by
          rcases Nat.lt_succ_iff_lt_or_eq.1 hj with h | h
          · exact HA.out j z h hz
          · subst h; rw [EX.out] at hz; cases hz; exact hxy⟩
        case measure => simp [intOf]; omega
    · have hlt' : ¬ (i : Int) < (n : Int) := by omega
      go_wp2
      go_ret
      exact ⟨_, rfl, rfl, ⟨fun h => absurd h (by decide), fun h => by
        obtain ⟨j, hj⟩ := List.mem_iff_getElem?.1 h
        have hj2 := (List.getElem?_eq_some_iff.1 hj).1
        rw [EN.out] at hj2
        exact absurd rfl (HA.out j y (by omega) hj)⟩⟩

theorem contains_any (v : Value) (xs : List Int) (y : Int) (w : World) (h1 : IntsAt w v xs) (hl : xs.length ≤ 1048576) :
    Calls Try.prog 51 #[v, .int .i64 y] w fun e w' => e = .returned (.bool (decide (y ∈ xs))) ∧ w' = w := by
  have C := fun w h => hide (index_any v xs y w h hl)
  obtain ⟨b, hb⟩ : ∃ b, decide (y ∈ xs) = b := ⟨_, rfl⟩
  rw [hb]
  have HB := hide hb
  have H1 := hide h1
  clear hb h1
  go_enter Try.func51, Try.ntmps51
  go_wp2_with (go_at_call 69; refine (unhide (C _ H1.out)).mono ?_; rintro e w1 ⟨i, rfl, rfl, hi⟩; have HI := hide hi; clear hi)
  go_ret
  refine ⟨?_, rfl⟩
  rw [← HB.out]
  by_cases h : y ∈ xs
  · simp [h, HI.out.2 h]
  · have : ¬ 0 ≤ i := fun h2 => h (HI.out.1 h2)
    simp [h, this]
end Go.Proofs.Ythlbboppdmdceaa
