/-
  Plain mathematics: figures, and what they are worth.
-/
import Derived.Test.YtgbplfahbkdalaaDoorHexW
namespace Go.Proofs.YtgbplfahbkdalaaDoor

/-- What a byte is worth as a figure of the base. -/
def dv (base c : Nat) : Option Nat :=
  if 48 ≤ c ∧ c ≤ 57 ∧ c - 48 < base then some (c - 48) else if 97 ≤ c ∧ c ≤ 102 ∧ c - 87 < base then some (c - 87) else none

theorem dv_some {base c d : Nat} (h : dv base c = some d) : d < base ∧ d < 16 ∧ figI (d : Int) = (c : Int) := by
  unfold dv at h
  split at h
  · have := Option.some.inj h
    subst this
    refine ⟨by omega, by omega, ?_⟩
    rw [figI_lo (by omega)]; omega
  · split at h
    · have := Option.some.inj h
      subst this
      refine ⟨by omega, by omega, ?_⟩
      rw [figI_hi (by omega)]; omega
    · cases h
theorem dv_of {base c d : Nat} (hb : d < base) (h16 : d < 16) (h : figI (d : Int) = (c : Int)) : dv base c = some d := by
  unfold dv
  by_cases hd : (d : Int) < 10
  · rw [figI_lo hd] at h
    rw [if_pos (by omega)]
    congr 1; omega
  · rw [figI_hi hd] at h
    rw [if_neg (by omega), if_pos (by omega)]
    congr 1; omega
theorem dv_none {base c : Nat} (h : ∀ t : Nat, t < base → figI (t : Int) ≠ (c : Int)) : dv base c = none := by
  cases e : dv base c with
  | none => rfl
  | some d => exact absurd (dv_some e).2.2 (h d (dv_some e).1)

/-- What the figures of a text are worth; none where one is no figure. -/
def numsB (base : Nat) : List UInt8 → Option (List Int)
  | [] => some []
  | b :: l => match dv base b.toNat, numsB base l with
    | some d, some ds => some ((d : Int) :: ds)
    | _, _ => none

theorem numsB_append (base : Nat) : ∀ (l m : List UInt8) (ds es : List Int), numsB base l = some ds → numsB base m = some es → numsB base (l ++ m) = some (ds ++ es)
  | [], m, ds, es, h, h' => by
    simp only [numsB, Option.some.injEq] at h
    subst h; exact h'
  | b :: l, m, ds, es, h, h' => by
    rw [List.cons_append]
    unfold numsB at h ⊢
    cases e1 : dv base b.toNat with
    | none => rw [e1] at h; cases h
    | some d =>
      cases e2 : numsB base l with
      | none => rw [e1, e2] at h; cases h
      | some ds' =>
        rw [e1, e2] at h
        have := Option.some.inj h
        subst this
        rw [numsB_append base l m ds' es e2 h']
        rfl
theorem numsB_one {base : Nat} {b : UInt8} {d : Nat} (h : dv base b.toNat = some d) : numsB base [b] = some [(d : Int)] := by
  simp [numsB, h]
theorem numsB_bad {base : Nat} : ∀ (l : List UInt8) (b : UInt8), b ∈ l → dv base b.toNat = none → numsB base l = none
  | [], b, hb, _ => by cases hb
  | a :: l, b, hb, h => by
    unfold numsB
    rcases List.mem_cons.1 hb with rfl | hb
    · rw [h]
    · rw [numsB_bad l b hb h]
      cases dv base a.toNat <;> rfl
theorem numsB_length {base : Nat} : ∀ (l : List UInt8) (ds : List Int), numsB base l = some ds → ds.length = l.length
  | [], ds, h => by
    simp only [numsB, Option.some.injEq] at h
    subst h; rfl
  | b :: l, ds, h => by
    unfold numsB at h
    cases e1 : dv base b.toNat with
    | none => rw [e1] at h; cases h
    | some d =>
      cases e2 : numsB base l with
      | none => rw [e1, e2] at h; cases h
      | some ds' =>
        rw [e1, e2] at h
        have := Option.some.inj h
        subst this
        simp [numsB_length l ds' e2]
theorem numsB_in {base : Nat} : ∀ (l : List UInt8) (ds : List Int), numsB base l = some ds → ∀ d ∈ ds, 0 ≤ d ∧ d < 16 ∧ d < base
  | [], ds, h => by
    simp only [numsB, Option.some.injEq] at h
    subst h; intro d hd; cases hd
  | b :: l, ds, h => by
    unfold numsB at h
    cases e1 : dv base b.toNat with
    | none => rw [e1] at h; cases h
    | some d =>
      cases e2 : numsB base l with
      | none => rw [e1, e2] at h; cases h
      | some ds' =>
        rw [e1, e2] at h
        have := Option.some.inj h
        subst this
        intro x hx
        have hd := dv_some e1
        rcases List.mem_cons.1 hx with rfl | hx
        · omega
        · exact numsB_in l ds' e2 x hx
theorem numsB_step {base : Nat} {s : ByteArray} {k : Nat} {ds : List Int} {d : Nat} (hlt : k < s.size) (h : numsB base (s.data.toList.take k) = some ds) (hd : dv base s[k].toNat = some d) :
    numsB base (s.data.toList.take (k + 1)) = some (ds ++ [(d : Int)]) := by
  rw [take_at s k hlt]
  exact numsB_append base _ _ _ _ h (numsB_one hd)
theorem mem_at (s : ByteArray) (k : Nat) (h : k < s.size) : s[k] ∈ s.data.toList := by
  have : s[k] = s.data.toList[k]'(by simpa using h) := rfl
  rw [this]
  exact List.getElem_mem _
end Go.Proofs.YtgbplfahbkdalaaDoor
