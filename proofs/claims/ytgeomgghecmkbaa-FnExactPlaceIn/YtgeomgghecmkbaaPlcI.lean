/-
  Walk: where a name is, by the program.
-/
import Derived.Test.YtgeomgghecmkbaaIdxS
import Derived.Test.YtgeomgghecmkbaaMatP
namespace Go.Proofs.Ytgeomgghecmkbaa
open Go.RowKit

theorem first_takeP {α : Type} (f : α → Bool) (xs : List α) (m : Nat) : firstAt f (xs.take m) = if 0 ≤ firstAt f xs ∧ firstAt f xs < (m : Int) then firstAt f xs else -1 := by
  cases e : xs.findIdx? f with
  | none =>
    have e1 : firstAt f xs = -1 := by rw [firstAt, e]
    rw [e1, if_neg (by omega)]
    exact first_none fun j hj => by
      rw [List.getElem_take]
      have := List.findIdx?_eq_none_iff.1 e (xs[j]'(by rw [List.length_take] at hj; omega)) (List.getElem_mem _)
      simpa using this
  | some i =>
    have e1 : firstAt f xs = (i : Int) := by rw [firstAt, e]
    obtain ⟨hi, hx, hn⟩ := List.findIdx?_eq_some_iff_getElem.1 e
    rw [e1]
    by_cases hm : i < m
    · rw [if_pos ⟨by omega, by omega⟩]
      refine first_hit (by rw [List.length_take]; omega) (fun j hj hji => ?_) (by rw [List.getElem_take]; exact hx)
      rw [List.getElem_take]
      have := hn j hji
      simpa using this
    · rw [if_neg (by omega)]
      refine first_none fun j hj => ?_
      rw [List.length_take] at hj
      rw [List.getElem_take]
      have := hn j (by omega)
      simpa using this
theorem atPl_eq (x : Plc) (s : ByteArray) : atPl x s = if 0 ≤ firstAt (eqS s) x.names ∧ firstAt (eqS s) x.names < (x.ats.length : Int) then firstAt (eqS s) x.names else -1 := first_takeP _ _ _

set_option maxRecDepth 100000 in
set_option maxHeartbeats 2000000 in
theorem implPlaceIn_any (v0 v1 : Value) (x : Plc) (s : ByteArray) (w : World) (h : PlcAt w v0 v1 x) (hl : PlcLen x) :
    Calls Try.prog 7 #[.agg #[v0, v1], .string s] w fun e w' => e = .returned (.int .i64 (placeE x s)) ∧ Below w.heap.size w w' := by
  have L0 := hl.l0
  have L1 := hl.l1
  have hb1 : Below w.heap.size w (w.alloc (.cells #[v0, v1] 28)) := (Below.refl _ _).alloc (Nat.le_refl _) _
  have HA := hide (h.stays hb1)
  have CI := fun z h => hide (indexS_any v0 x.names s z h L0)
  have HLE := hide (first_le (eqS s) x.names)
  have HPE : Hid (placeE x s = if 0 ≤ atPl x s then x.ats.getD (atPl x s).toNat 0 else -1) := hide rfl
  rw [atPl_eq] at HPE
  obtain ⟨o0, c0, rfl, _⟩ := h.a0
  obtain ⟨o1, c1, rfl, _⟩ := h.a1
  clear h hl
  obtain ⟨k, ek⟩ : ∃ k, firstAt (eqS s) x.names = k := ⟨_, rfl⟩
  simp only [ek] at CI HPE ⊢
  rw [ek] at HLE
  clear ek
  obtain ⟨r, er⟩ : ∃ r, placeE x s = r := ⟨_, rfl⟩
  rw [er] at HPE ⊢
  clear er
  obtain ⟨n, en⟩ : ∃ n, x.names.length = n := ⟨_, rfl⟩
  obtain ⟨m, em⟩ : ∃ m, x.ats.length = m := ⟨_, rfl⟩
  have EM := hide em
  rw [en] at HLE L0
  rw [em] at L1 HPE
  simp only [en, em] at CI HA hb1 ⊢
  clear en em
  have HB := hide hb1
  clear hb1
  by_cases hk : 0 ≤ k
  · by_cases hlt : k < (m : Int)
    · have hge : ¬ (m : Int) ≤ k := by omega
      obtain ⟨i, rfl⟩ : ∃ i : Nat, k = (i : Int) := ⟨k.toNat, by omega⟩
      have hix : i < x.ats.length := by rw [EM.out]; omega
      have HR : Hid (r = x.ats[i]) := by
        have h := HPE.out
        rw [if_pos (show (0 : Int) ≤ (i : Int) ∧ (i : Int) < (m : Int) from ⟨hk, hlt⟩), if_pos hk, Int.toNat_natCast, List.getD_eq_getElem?_getD, List.getElem?_eq_getElem hix] at h
        exact h
      obtain ⟨ao', c', e1, hc1⟩ := HA.out.a1
      injection e1 with e2 e3 e4
      subst e2
      obtain ⟨a, rfl, _, hx⟩ := hc1 i hix
      rw [← HR.out] at hx
      clear hc1 e3 e4
      clear HPE
      go_enter Try.func7, Try.ntmps7
      go_wp2_with (go_at_call 13; refine (unhide (CI _ HA.out.a0)).mono ?_; rintro e w1 ⟨rfl, rfl⟩)
      go_ret
      exact ⟨rfl, HB.out⟩
    · have hge : (m : Int) ≤ k := by omega
      have HR : Hid (r = -1) := by
        have h := HPE.out
        rw [if_neg (show ¬ ((0 : Int) ≤ k ∧ k < (m : Int)) from fun q => hlt q.2), if_neg (by omega)] at h
        exact h
      clear HPE
      go_enter Try.func7, Try.ntmps7
      go_wp2_with (go_at_call 13; refine (unhide (CI _ HA.out.a0)).mono ?_; rintro e w1 ⟨rfl, rfl⟩)
      go_ret
      exact ⟨by rw [HR.out]; rfl, HB.out⟩
  · obtain rfl : k = -1 := by have := HLE.out; omega
    have HR : Hid (r = -1) := by
      have h := HPE.out
      rw [if_neg (show ¬ ((0 : Int) ≤ -1 ∧ (-1 : Int) < (m : Int)) from fun q => hk q.1), if_neg (by omega)] at h
      exact h
    clear hk HLE HPE
    go_enter Try.func7, Try.ntmps7
    go_wp2_with (go_at_call 13; refine (unhide (CI _ HA.out.a0)).mono ?_; rintro e w1 ⟨rfl, rfl⟩)
    go_ret
    exact ⟨by rw [HR.out]; rfl, HB.out⟩
end Go.Proofs.Ytgeomgghecmkbaa
