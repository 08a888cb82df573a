/-
  Walks: reading the bytes of a number, by the specification.
-/
import Derived.Test.YtmenkckdabfkcaaReadVarW
import Derived.BigQuiet
import Derived.WalkSmall
import Derived.Deep.RegionHeld3
namespace Go.Proofs.Ytmenkckdabfkcaa
open Go.RowKit

theorem l01In_true (x a b : Int) (w : World) (h1 : a ≤ x) (h2 : x ≤ b) : Calls Try.prog 24 #[.int .i64 x, .int .i64 a, .int .i64 b] w fun e w' => e = .returned (.bool true) ∧ w = w' := by
  have h3 : decide (x ≤ b) = true := by simpa using h2
  go_enter Try.func24, Try.ntmps24
  go_wp2
  go_ret
  exact ⟨rfl, rfl⟩

set_option maxRecDepth 4000 in
set_option maxHeartbeats 1000000 in
theorem specReadVar_in (s : ByteArray) (a : Nat) (w : World) (ha : a ≤ s.size) (hs : s.size ≤ 1048576) :
    Calls Try.prog 12 #[.string s, .int .i64 a] w fun e w' => e = .returned (rvRes (rvGo (s.data.toList.drop a) true 1 0 a 5)) ∧ Below w.heap.size w w' := by
  go_enter Try.func12, Try.ntmps12
  go_wp2_with (go_at_call 24; refine (l01In_true _ _ _ _ (by omega) (by omega)).mono ?_; rintro e w1 ⟨rfl, rfl⟩)
  go_loop [7, 8, 9] (fun n u i => ∃ j N U : Nat, j ≤ 5 ∧ a + j ≤ s.size ∧ i = .int .i64 ((a + j : Nat) : Int) ∧ n = .int .i64 N ∧ u = .int .i64 U ∧ Hid (RvAt s a j N U) ∧ Hid (SpAt s a j N)) (fun _ _ i => s.size - (intOf i).toNat)
  case atStart => exact ⟨0, 0, 1, by omega, by omega, by simp, rfl, rfl, RvAt.start s a, SpAt.start s a⟩
  case round =>
    obtain ⟨j, N, U, hj, hjs, rfl, rfl, rfl, H, S⟩ := hrel
    obtain ⟨hU1, hU2, hU3, hU4⟩ := H.out.unit hj
    have hN : N < U := H.out.2.1
    by_cases hlt : a + j < s.size
    · by_cases h4 : j ≤ 4
      · have hU5 := hU3 h4
        clear hU3 hU4
        have hm := RvAt.mul (U := U) s[a + j].toNat
        have hb8 : s[a + j].toNat < 256 := s[a + j].toNat_lt
        by_cases hb : 128 ≤ s[a + j].toNat
        · have HR := hide (H.out.step h4 hlt hb)
          have HS := hide (S.out.step H.out hlt hb)
          go_wp2
          go_round
          case rel => exact ⟨j + 1, _, _, by omega, by omega, by go_num, by go_num, by go_num, unhide HR, unhide HS⟩
          case measure => simp [intOf]; omega
        · by_cases hn : 1000000000 < N + s[a + j].toNat % 128 * U
          · have HE := hide (H.out.over h4 hlt hb (.inr hn))
            have hn' := cast_over hn
            clear hn
            go_wp2
            go_quiet (fail)
            go_wp2
            go_ret3
            exact ⟨rv_ret (unhide HE) rfl rfl, below_drewN (Below.refl _ _) _⟩
          · have hn' := cast_fits (Nat.le_of_not_lt hn)
            have hd : decide ((1000000000 : Int) < (N : Int) + (s[a + j].toNat : Int) % 128 * (U : Int)) = false := by simp; omega
            have HN := hide (Nat.le_of_not_lt hn)
            clear hn
            go_wp2
            have hwr : IntKind.i64.wrap ((a : Int) + (j : Int) + 1) = (a : Int) + (j : Int) + 1 := IntWalk.i64_in _ (by omega)
            have hsl := slice_mid (P := Try.prog) (t := 9) Try.underlying9 s a j hlt
            go_region_held3 (fun w' => True) (trivial) ((go_at_call 25; rw [cast_sum]; refine (l01Var_any _ _ (unhide HN)).mono ?_; rintro e w1 ⟨rfl, hb1⟩))
            all_goals go_wp2
            · have HE := H.out.cmp_ne S.out h4 hlt hb (by assumption)
              go_ret3
              exact ⟨rv_ret HE rfl rfl, (Below.refl _ w).drew.trans hb1⟩
            · have HE := H.out.cmp_eq h4 hlt hb (unhide HN) (by assumption)
              go_ret3
              exact ⟨rv_ret HE (cast_sum _ _ _) (by omega), (Below.refl _ w).drew.trans hb1⟩
      · have HE := hide (H.out.ended (.inr (by omega)))
        have hU6 := hU4 (by omega)
        have hU7 : 1000000000 < U := by omega
        clear hU3 hU4 hU6
        go_wp2
        go_ret3
        exact ⟨rv_ret (unhide HE) rfl rfl, Below.refl _ _⟩
    · have HE := hide (H.out.ended (.inl (by omega)))
      clear hU3 hU4
      go_wp2
      go_ret3
      exact ⟨rv_ret (unhide HE) rfl rfl, Below.refl _ _⟩

theorem l01In_false (x b : Int) (w : World) (h : x < 0 ∨ b < x) : Calls Try.prog 24 #[.int .i64 x, .int .i64 0, .int .i64 b] w fun e w' => e = .returned (.bool false) ∧ w = w' := by
  rcases h with h | h
  · go_enter Try.func24, Try.ntmps24
    go_wp2
    go_ret
    exact ⟨rfl, rfl⟩
  · by_cases h0 : x < 0
    · go_enter Try.func24, Try.ntmps24
      go_wp2
      go_ret
      exact ⟨rfl, rfl⟩
    · have h3 : decide (x ≤ b) = false := by simp; omega
      go_enter Try.func24, Try.ntmps24
      go_wp2
      go_ret
      exact ⟨rfl, rfl⟩

theorem specReadVar_out (s : ByteArray) (a : Int) (w : World) (ha : a < 0 ∨ (s.size : Int) < a) (_hs : s.size ≤ 1048576) :
    Calls Try.prog 12 #[.string s, .int .i64 a] w fun e w' => e = .returned (rvRes (0, 0, false)) ∧ w = w' := by
  go_enter Try.func12, Try.ntmps12
  go_wp2_with (go_at_call 24; refine (l01In_false _ _ _ ha).mono ?_; rintro e w1 ⟨rfl, rfl⟩)
  go_ret3
  exact ⟨rfl, rfl⟩

theorem implReadVar_out (s : ByteArray) (a : Int) (w : World) (ha : a < 0 ∨ (s.size : Int) < a) (_hs : s.size ≤ 1048576) :
    Calls Try.prog 13 #[.string s, .int .i64 a] w fun e w' => e = .returned (rvRes (0, 0, false)) ∧ w = w' := by
  rcases ha with h | h
  · go_enter Try.func13, Try.ntmps13
    go_wp2
    go_ret3
    exact ⟨rfl, rfl⟩
  · have h' : ¬ a < 0 := by omega
    go_enter Try.func13, Try.ntmps13
    go_wp2
    go_ret3
    exact ⟨rfl, rfl⟩

theorem lawReadVar (s : ByteArray) (a : Int) (_ : s.size ≤ maxLen) (_ : (Lit.int .i64 a).wf = true) (w : World) : Calls Try.prog 4 #[.string s, .int .i64 a] w fun e w' => e = .returned (.bool true) ∧ Below w.heap.size w w' := by
  by_cases hs : s.size ≤ 1048576
  · by_cases h : a < 0 ∨ (s.size : Int) < a
    · go_enter Try.func4, Try.ntmps4
      go_wp2_with (first | (go_at_call 12; refine (specReadVar_out _ _ _ h hs).mono ?_; rintro e w1 ⟨rfl, rfl⟩; unfold rvRes) | (go_at_call 13; refine (implReadVar_out _ _ _ h hs).mono ?_; rintro e w2 ⟨rfl, rfl⟩; unfold rvRes))
      go_ret
      exact ⟨rfl, Below.refl _ _⟩
    · obtain ⟨k, rfl⟩ : ∃ k : Nat, a = k := ⟨a.toNat, by omega⟩
      have hk : k ≤ s.size := by omega
      obtain ⟨r, hr⟩ : ∃ r, r = rvGo (s.data.toList.drop k) true 1 0 k 5 := ⟨_, rfl⟩
      have I := fun w => hide (implReadVar_in s k w hk hs)
      have J := fun w => hide (specReadVar_in s k w hk hs)
      rw [← hr] at I J
      clear hr h
      go_enter Try.func4, Try.ntmps4
      go_wp2_with (first | (go_at_call 12; refine (unhide (J _)).mono ?_; rintro e w1 ⟨rfl, hb1⟩; unfold rvRes) | (go_at_call 13; refine (unhide (I _)).mono ?_; rintro e w2 ⟨rfl, rfl⟩; unfold rvRes))
      go_ret
      exact ⟨rfl, hb1⟩
  · go_enter Try.func4, Try.ntmps4
    go_wp2
    go_ret
    exact ⟨rfl, Below.refl _ _⟩
end Go.Proofs.Ytmenkckdabfkcaa
