/-
  Walks: reading the bytes of a number, by the specification and by the program.
-/
import Derived.Test.YtgbplfahbkdalaaDoorVarW
import Derived.Test.YtgbplfahbkdalaaDoorAidR
import Derived.Deep.RegionWith
namespace Go.Proofs.YtgbplfahbkdalaaDoor
open Go.RowKit

set_option maxHeartbeats 400000 in
theorem implReadVar_in (s : ByteArray) (a : Nat) (w : World) (ha : a ≤ s.size) (hs : s.size ≤ 1048576) :
    Calls Tryd.prog 7 #[.string s, .int .i64 a] w fun e w' => e = .returned (rvRes (rvGo (s.data.toList.drop a) true 1 0 a 5)) ∧ w = w' := by
  have ha0 : decide ((a : Int) < 0) = false := by simp
  have ha1 : decide (s.size < a) = false := by simp; omega
  go_enter Tryd.func7, Tryd.ntmps7
  go_wp2
  go_loop [7, 8, 9] (fun n u i => ∃ j N U : Nat, j ≤ 5 ∧ a + j ≤ s.size ∧ i = .int .i64 ((a + j : Nat) : Int) ∧ n = .int .i64 N ∧ u = .int .i64 U ∧ Hid (RvAt s a j N U)) (fun _ _ i => s.size - (intOf i).toNat)
  case atStart => exact ⟨0, 0, 1, by omega, by omega, by simp, rfl, rfl, RvAt.start s a⟩
  case round =>
    obtain ⟨j, N, U, hj, hjs, rfl, rfl, rfl, H⟩ := hrel
    obtain ⟨hU1, hU2, hU3, hU4⟩ := H.out.unit hj
    have hN : N < U := H.out.2.1
    by_cases hlt : a + j < s.size
    · by_cases h4 : j ≤ 4
      · have hU5 := hU3 h4
        clear hU3 hU4
        have hm := RvAt.mul (U := U) s[a + j].toNat
        have hb8 : s[a + j].toNat < 256 := s[a + j].toNat_lt
        by_cases hb : 128 ≤ s[a + j].toNat
        · have R := H.out.step h4 hlt hb
          have HR := hide R
          clear R
          go_wp2
          go_round
          case rel => exact ⟨j + 1, _, _, by omega, by omega, by go_num, by go_num, by go_num, unhide HR⟩
          case measure => simp [intOf]; omega
        · by_cases hn : 1000000000 < N + s[a + j].toNat % 128 * U
          · have HE := hide (H.out.over h4 hlt hb (.inr hn))
            have hn' := cast_over hn
            have hb0 := over_pos hn hN hU5
            clear hn
            go_wp2
            all_goals go_ret3
            all_goals exact ⟨rv_ret (unhide HE) rfl rfl, rfl⟩
          · have hn' := cast_fits (Nat.le_of_not_lt hn)
            by_cases hb0 : 1 ≤ s[a + j].toNat
            · have HE := hide (H.out.good h4 hlt hb (by omega))
              clear hn
              go_wp2
              all_goals go_ret3
              all_goals exact ⟨rv_ret (unhide HE) (cast_sum _ _ _) (by omega), rfl⟩
            · by_cases hj0 : 1 ≤ j
              · have HE := hide (H.out.over h4 hlt hb (.inl (by omega)))
                clear hn
                go_wp2
                all_goals go_ret3
                all_goals exact ⟨rv_ret (unhide HE) rfl rfl, rfl⟩
              · have HE := hide (H.out.good h4 hlt hb (by omega))
                clear hn
                go_wp2
                all_goals go_ret3
                all_goals exact ⟨rv_ret (unhide HE) (cast_none hb0) (by omega), rfl⟩
      · have HE := hide (H.out.ended (.inr (by omega)))
        have hU6 := hU4 (by omega)
        have hU7 : 1000000000 < U := by omega
        clear hU3 hU4 hU6
        go_wp2
        go_ret3
        exact ⟨by rw [unhide HE]; rfl, rfl⟩
    · have HE := hide (H.out.ended (.inl (by omega)))
      clear hU3 hU4
      go_wp2
      go_ret3
      exact ⟨by rw [unhide HE]; rfl, rfl⟩
end Go.Proofs.YtgbplfahbkdalaaDoor
