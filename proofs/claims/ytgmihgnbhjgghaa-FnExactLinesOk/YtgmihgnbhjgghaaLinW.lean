/-
  Walks: lines, counted and looked for, by the specification.
-/
import Derived.Test.YtgmihgnbhjgghaaCopE
import Derived.Test.YtgmihgnbhjgghaaCloW
namespace Go.Proofs.Ytgmihgnbhjgghaa
open Go.RowKit

def LfR (w : World) (xs : List Ln) (s : ByteArray) (iv : Value) (wr : World) : Prop :=
  ∃ i : Nat, i ≤ xs.length ∧ iv = .int .i64 (i : Int) ∧ wr = w ∧ Hid (NoneTo (isPlace s) xs i)

set_option maxRecDepth 100000 in
set_option maxHeartbeats 2000000 in
theorem specFirst_any (v : Value) (xs : List Ln) (s : ByteArray) (w : World) (h : LnsAt w v xs) (hl : xs.length ≤ 1048576) :
    Calls Try.prog 17 #[v, .string s] w fun e w' => e = .returned (.int .i64 (firstL xs s)) ∧ w' = w := by
  have H := hide h
  obtain ⟨ao, c, rfl, _⟩ := h
  obtain ⟨n, en⟩ : ∃ n, xs.length = n := ⟨_, rfl⟩
  have EN := hide en
  rw [en] at H hl ⊢
  clear en
  go_enter Try.func17, Try.ntmps17
  go_wp2
  go_loopw [5] (LfR w xs s) (fun iv _ => n - (intOf iv).toNat)
  case atStart => exact ⟨0, by omega, rfl, rfl, NoneTo.zero _ _⟩
  case round =>
    obtain ⟨i, hi, rfl, ewr, HN⟩ := hrel
    subst ewr
    rw [EN.out] at hi
    by_cases hlt : i < n
    · have hlt' : (i : Int) < (n : Int) := by omega
      have hi0 : (0 : Int) ≤ (i : Int) := by omega
      have hix : i < xs.length := by rw [EN.out]; exact hlt
      have hwi : wrap64 ((i : Int) + 1) = (i : Int) + 1 := by unfold wrap64; omega
      obtain ⟨ao', cc, e5, hc⟩ := H.out
      injection e5 with e6 e7 e8
      subst e6
      obtain ⟨a, rfl, hab, d0, d1, d2, d3, d4, d5⟩ := hc i hix
      have HP : Hid (isPlace s xs[i] = (decide (xs[i].op = 0) && eqS s xs[i].label)) := hide rfl
      have HS : Hid (NoneTo (isPlace s) xs i → isPlace s xs[i] = false → NoneTo (isPlace s) xs (i + 1)) := hide fun h k => h.step fun _ => k
      have HH : Hid (isPlace s xs[i] = true → firstL xs s = (i : Int)) := hide fun k => HN.out.hit hix k
      obtain ⟨y, ey⟩ : ∃ y, xs[i] = y := ⟨_, rfl⟩
      rw [ey] at d0 d1 HP HS HH
      clear hc e7 e8 ey d2 d3 d4 d5 hix
      by_cases ho : y.op = 0
      · by_cases hs : y.label = s
        · have HE := hide (HH.out (by rw [HP.out, decide_eq_true ho, eqS, decide_eq_true hs]; rfl))
          rw [ho] at d1
          rw [hs] at d0
          clear HS HH HP
          go_wp2
          go_ret
          rw [HE.out]
          exact ⟨rfl, rfl⟩
        · have HE := hide (HS.out HN.out (by rw [HP.out, eqS, decide_eq_false hs, Bool.and_false]))
          have hcmp : (y.label.toList == s.toList) = false := by rw [Bool.eq_false_iff]; exact fun q => hs (str_beq.1 q)
          rw [ho] at d1
          clear HS HH HP
          go_wp2
          go_roundw
          case rel => exact ⟨i + 1, by rw [EN.out]; omega, by go_num, rfl, HE⟩
          case measure => simp [intOf]; omega
      · have HE := hide (HS.out HN.out (by rw [HP.out, decide_eq_false ho]; rfl))
        clear HS HH HP
        go_wp2
        go_roundw
        case rel => exact ⟨i + 1, by rw [EN.out]; omega, by go_num, rfl, HE⟩
        case measure => simp [intOf]; omega
    · have hlt' : ¬ (i : Int) < (n : Int) := by omega
      have HE : Hid (firstL xs s = -1) := hide (HN.out.none (by rw [EN.out]; omega))
      go_wp2
      go_ret
      rw [HE.out]
      exact ⟨rfl, rfl⟩

def LcR (w : World) (xs : List Ln) (nv iv : Value) (wr : World) : Prop :=
  ∃ i : Nat, i ≤ xs.length ∧ nv = .int .i64 (countL (xs.take i)) ∧ iv = .int .i64 (i : Int) ∧ wr = w

set_option maxRecDepth 100000 in
set_option maxHeartbeats 2000000 in
theorem specCountOf_any (v : Value) (xs : List Ln) (w : World) (h : LnsAt w v xs) (hl : xs.length ≤ 1048576) :
    Calls Try.prog 11 #[v] w fun e w' => e = .returned (.int .i64 (countL xs)) ∧ w' = w := by
  have H := hide h
  obtain ⟨ao, c, rfl, _⟩ := h
  obtain ⟨n, en⟩ : ∃ n, xs.length = n := ⟨_, rfl⟩
  have EN := hide en
  rw [en] at H hl ⊢
  clear en
  go_enter Try.func11, Try.ntmps11
  go_wp2
  go_loopw [3, 4] (LcR w xs) (fun _ iv _ => n - (intOf iv).toNat)
  case atStart => exact ⟨0, by omega, by simp [countL], rfl, rfl⟩
  case round =>
    obtain ⟨i, hi, rfl, rfl, ewr⟩ := hrel
    subst ewr
    rw [EN.out] at hi
    by_cases hlt : i < n
    · have hlt' : (i : Int) < (n : Int) := by omega
      have hi0 : (0 : Int) ≤ (i : Int) := by omega
      have hix : i < xs.length := by rw [EN.out]; exact hlt
      have hwi : wrap64 ((i : Int) + 1) = (i : Int) + 1 := by unfold wrap64; omega
      have hcl := count_le (xs.take i)
      rw [List.length_take] at hcl
      have HT := hide (count_take hix)
      obtain ⟨ao', cc, e5, hc⟩ := H.out
      injection e5 with e6 e7 e8
      subst e6
      obtain ⟨a, rfl, hab, d0, d1, d2, d3, d4, d5⟩ := hc i hix
      obtain ⟨y, ey⟩ : ∃ y, xs[i] = y := ⟨_, rfl⟩
      rw [ey] at d1 HT
      obtain ⟨k, ek⟩ : ∃ k, countL (xs.take i) = k := ⟨_, rfl⟩
      rw [ek] at HT hcl ⊢
      have hk : wrap64 (k + 1) = k + 1 := by unfold wrap64; omega
      clear hc e7 e8 ey d0 d2 d3 d4 d5 hix ek hcl
      by_cases ho : y.op = 0
      · rw [if_pos ho, Int.add_zero] at HT
        rw [ho] at d1
        go_wp2
        go_roundw
        case rel => exact ⟨i + 1, by rw [EN.out]; omega, by rw [HT.out], by go_num, rfl⟩
        case measure => simp [intOf]; omega
      · rw [if_neg ho] at HT
        go_wp2
        go_roundw
        case rel => exact ⟨i + 1, by rw [EN.out]; omega, by rw [HT.out]; go_num, by go_num, rfl⟩
        case measure => simp [intOf]; omega
    · have hlt' : ¬ (i : Int) < (n : Int) := by omega
      have e9 : xs.take i = xs := List.take_of_length_le (by rw [EN.out]; omega)
      rw [e9]
      go_wp2
      go_ret
      exact ⟨rfl, rfl⟩

theorem LnsAt.take {w : World} {xs : List Ln} {k : Nat} {ao : Option Addr} {n c c' : Nat} (h : LnsAt w (.slice ao n c) xs) (hk : k ≤ xs.length) : LnsAt w (.slice ao k c') (xs.take k) := by
  obtain ⟨ao', c2, e, hc⟩ := h
  injection e with e1 _ _
  subst e1
  have hlen : (xs.take k).length = k := by rw [List.length_take]; omega
  refine ⟨ao, c', by rw [hlen], fun j hj => ?_⟩
  rw [hlen] at hj
  obtain ⟨a, ha, hb, hx⟩ := hc j (by omega)
  exact ⟨a, ha, hb, by rw [List.getElem_take]; exact hx⟩

set_option maxRecDepth 100000 in
set_option maxHeartbeats 2000000 in
theorem specPlaceOf_any (v : Value) (xs : List Ln) (s : ByteArray) (w : World) (h : LnsAt w v xs) (hl : xs.length ≤ 1048576) (hr : Room v) :
    Calls Try.prog 13 #[v, .string s] w fun e w' => e = .returned (.int .i64 (placeL xs s)) ∧ w' = w := by
  have H := hide h
  have CF := hide (specFirst_any v xs s w h hl)
  obtain ⟨ao, c, rfl, _⟩ := h
  have hfr := firstL_le xs s
  have HU : Hid (placeL xs s = if firstL xs s < 0 then -1 else countL (xs.take (firstL xs s).toNat)) := hide rfl
  obtain ⟨f, ef⟩ : ∃ f, firstL xs s = f := ⟨_, rfl⟩
  rw [ef] at CF hfr HU
  clear ef
  have hrm : xs.length ≤ c := hr
  obtain ⟨n, en⟩ : ∃ n, xs.length = n := ⟨_, rfl⟩
  have EN := hide en
  rw [en] at H hl hfr hrm CF ⊢
  clear en hr
  by_cases hf : f < 0
  · rw [if_pos hf] at HU
    go_enter Try.func13, Try.ntmps13
    go_wp2_with (go_at_call 17; refine CF.out.mono ?_; rintro e z ⟨rfl, ez⟩; rw [ez]; clear ez z)
    go_ret
    rw [HU.out]
    exact ⟨rfl, rfl⟩
  · rw [if_neg hf] at HU
    obtain ⟨k, rfl⟩ : ∃ k : Nat, f = (k : Int) := ⟨f.toNat, by omega⟩
    rw [Int.toNat_natCast] at HU
    have hk : k ≤ xs.length := by rw [EN.out]; omega
    have h1 : (0 : Int) ≤ (k : Int) := by omega
    have h2 : (k : Int) ≤ (c : Int) := by omega
    have CC := fun c' => hide (specCountOf_any (.slice ao k c') (xs.take k) w (H.out.take hk) (by rw [List.length_take]; omega))
    rw [← HU.out] at CC
    clear hk
    go_enter Try.func13, Try.ntmps13
    go_wp2_with (first
      | (go_at_call 17; refine CF.out.mono ?_; rintro e z ⟨rfl, ez⟩; rw [ez]; clear ez z)
      | (go_at_call 11; refine (unhide (CC _)).mono ?_; rintro e z ⟨rfl, ez⟩; rw [ez]; clear ez z))
    go_ret
    exact ⟨rfl, rfl⟩
end Go.Proofs.Ytgmihgnbhjgghaa
