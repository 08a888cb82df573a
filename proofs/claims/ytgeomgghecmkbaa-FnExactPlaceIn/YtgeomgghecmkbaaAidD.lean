/-
  Plain mathematics: decimal figures.
-/
import Derived.Test.YtgeomgghecmkbaaAid
namespace Go.Proofs.Ytgeomgghecmkbaa

/-- The decimal figures of a number; of 0 none. -/
def decR (n : Nat) : List Int := if n = 0 then [] else decR (n / 10) ++ [((48 + n % 10 : Nat) : Int)]

theorem decR_zero : decR 0 = [] := by rw [decR, if_pos rfl]
theorem decR_pos {n : Nat} (h : 0 < n) : decR n = decR (n / 10) ++ [((48 + n % 10 : Nat) : Int)] := by rw [decR, if_neg (by omega)]
theorem decR_len : ∀ (k n : Nat), n < 10 ^ k → (decR n).length ≤ k
  | 0, n, h => by
    have : n = 0 := by simp at h; exact h
    rw [this, decR_zero]; simp
  | k + 1, n, h => by
    rcases Nat.eq_zero_or_pos n with h0 | h0
    · rw [h0, decR_zero]; simp
    · rw [decR_pos h0]
      have := decR_len k (n / 10) (by
        rw [Nat.div_lt_iff_lt_mul (by omega)]
        have e : 10 ^ (k + 1) = 10 ^ k * 10 := Nat.pow_succ ..
        omega)
      simp; omega
theorem decR_byte (n : Nat) : ∀ c ∈ decR n, 0 ≤ c ∧ c < 256 := by
  induction n using Nat.strongRecOn with
  | _ n ih =>
    intro c hc
    rcases Nat.eq_zero_or_pos n with h0 | h0
    · rw [h0, decR_zero] at hc; cases hc
    · rw [decR_pos h0] at hc
      rcases List.mem_append.1 hc with hc | hc
      · exact ih (n / 10) (by omega) c hc
      · simp at hc; omega

/-- The decimal figures of an int. -/
def decI (n : Int) : List Int := if n = 0 then [48] else if n < 0 then 45 :: decR n.natAbs else decR n.natAbs
theorem decI_zero : decI 0 = [48] := rfl
theorem decI_neg {n : Int} (h : n < 0) : decI n = 45 :: decR n.natAbs := by rw [decI, if_neg (by omega), if_pos h]
theorem decI_pos {n : Int} (h : 0 < n) : decI n = decR n.natAbs := by rw [decI, if_neg (by omega), if_neg (by omega)]
theorem decI_byte (n : Int) : ∀ c ∈ decI n, 0 ≤ c ∧ c < 256 := by
  intro c hc
  unfold decI at hc
  split at hc
  · simp at hc; omega
  · split at hc
    · rcases List.mem_cons.1 hc with rfl | hc
      · omega
      · exact decR_byte _ c hc
    · exact decR_byte _ c hc

/-- A number's figures do not begin with 0. -/
theorem decR_head (n : Nat) : ∀ r, decR n ≠ 48 :: r := by
  induction n using Nat.strongRecOn with
  | _ n ih =>
    intro r h
    rcases Nat.eq_zero_or_pos n with h0 | h0
    · rw [h0, decR_zero] at h; cases h
    · rw [decR_pos h0] at h
      rcases Nat.eq_zero_or_pos (n / 10) with h1 | h1
      · rw [h1, decR_zero, List.nil_append] at h
        simp only [List.cons.injEq] at h
        omega
      · cases e : decR (n / 10) with
        | nil =>
          have := decR_pos h1
          rw [e] at this
          simp at this
        | cons a t =>
          rw [e, List.cons_append] at h
          simp only [List.cons.injEq] at h
          exact ih (n / 10) (by omega) t (by rw [e, h.1])

/-- What figures are worth. -/
def val10 (ds : List Int) : Int := ds.foldl (fun n d => 10 * n + d) 0
theorem val10_snoc (ds : List Int) (d : Int) : val10 (ds ++ [d]) = 10 * val10 ds + d := by simp [val10]
theorem val10_in : ∀ (k : Nat) (ds : List Int), ds.length = k → (∀ d ∈ ds, 0 ≤ d ∧ d < 10) → 0 ≤ val10 ds ∧ val10 ds < 10 ^ k
  | 0, ds, h, _ => by
    have : ds = [] := List.length_eq_zero_iff.1 h
    subst this; simp [val10]
  | k + 1, ds, h, hd => by
    rcases List.eq_nil_or_concat ds with e | ⟨es, d, e⟩
    · subst e; simp at h
    · rw [List.concat_eq_append] at e
      subst e
      have ih := val10_in k es (by simp at h; exact h) (fun x hx => hd x (by simp [hx]))
      have h1 := hd d (by simp)
      rw [val10_snoc]
      have e : (10 : Int) ^ (k + 1) = 10 ^ k * 10 := Int.pow_succ ..
      omega

/-- Figures that do not begin with 0 are the figures of what they are worth. -/
theorem decR_val : ∀ (k : Nat) (ds : List Int), ds.length = k → (∀ d ∈ ds, 0 ≤ d ∧ d < 10) → (∀ r, ds ≠ 0 :: r) → decR (val10 ds).natAbs = ds.map (48 + ·) ∧ (0 < k → 0 < val10 ds)
  | 0, ds, h, _, _ => by
    have : ds = [] := List.length_eq_zero_iff.1 h
    subst this
    exact ⟨by show decR 0 = []; exact decR_zero, by omega⟩
  | k + 1, ds, h, hd, hz => by
    rcases List.eq_nil_or_concat ds with e | ⟨es, d, e⟩
    · subst e; simp at h
    · rw [List.concat_eq_append] at e
      subst e
      have hl : es.length = k := by simp at h; exact h
      have he : ∀ x ∈ es, 0 ≤ x ∧ x < 10 := fun x hx => hd x (by simp [hx])
      have h1 := hd d (by simp)
      have hb := val10_in k es hl he
      have ih := decR_val k es hl he (fun r hr => hz (r ++ [d]) (by rw [hr]; rfl))
      rw [val10_snoc]
      have hpos : 0 < 10 * val10 es + d := by
        cases k with
        | zero =>
          have : es = [] := List.length_eq_zero_iff.1 hl
          subst this
          have : d ≠ 0 := fun e0 => hz [] (by rw [e0]; rfl)
          have e0 : val10 [] = 0 := rfl
          omega
        | succ k => have := ih.2 (by omega); omega
      refine ⟨?_, fun _ => hpos⟩
      rw [decR_pos (by omega)]
      have e1 : (10 * val10 es + d).natAbs / 10 = (val10 es).natAbs := by omega
      have e2 : (10 * val10 es + d).natAbs % 10 = d.toNat := by omega
      rw [e1, e2, ih.1, List.map_append]
      congr 1
      simp; omega

theorem decI_val {ds : List Int} (hd : ∀ d ∈ ds, 0 ≤ d ∧ d < 10) (h0 : ds ≠ []) (hz : ds = [0] ∨ ∀ r, ds ≠ 0 :: r) : decI (val10 ds) = ds.map (48 + ·) := by
  rcases hz with rfl | hz
  · rfl
  · have h := decR_val ds.length ds rfl hd hz
    have hl : 0 < ds.length := List.length_pos_iff.2 h0
    rw [decI_pos (h.2 hl), h.1]
/-- Needless noughts: never the figures of a number. -/
theorem decI_needless {n d : Int} {r : List Int} : decI n ≠ 48 :: d :: r := by
  intro h
  unfold decI at h
  split at h
  · simp at h
  · split at h
    · simp at h
    · exact decR_head _ _ h
theorem decI_ne_nil (n : Int) : decI n ≠ [] := by
  unfold decI
  split
  · simp
  · split
    · simp
    · rw [decR_pos (by omega)]
      simp
end Go.Proofs.Ytgeomgghecmkbaa
