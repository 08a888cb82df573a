/-
  Walks: figures of the base 16, by the program; the law.
-/
import Derived.Test.YtgbplfahbkdalaaDoorHexW
namespace Go.Proofs.YtgbplfahbkdalaaDoor
open Go.RowKit

theorem tab_run {P : Program} {t : TypeId} (ht : P.underlying t = some .string) (x : Int) (h0 : 0 ≤ x) (h1 : x < 16) (w : World) :
    (Instr.index t (.string ⟨#[48, 49, 50, 51, 52, 53, 54, 55, 56, 57, 97, 98, 99, 100, 101, 102]⟩) (.int .u8 x)).run P w = .ok (.int .u8 (figI x)) w := by
  have : x = 0 ∨ x = 1 ∨ x = 2 ∨ x = 3 ∨ x = 4 ∨ x = 5 ∨ x = 6 ∨ x = 7 ∨ x = 8 ∨ x = 9 ∨ x = 10 ∨ x = 11 ∨ x = 12 ∨ x = 13 ∨ x = 14 ∨ x = 15 := by omega
  rcases this with h | h | h | h | h | h | h | h | h | h | h | h | h | h | h | h <;> subst h <;> (rw [run_index_string (h := ht)]; rfl)

theorem make_run (n : Nat) (hn : n ≤ 40000) : ∃ M : Array Value, M.size = n ∧ ∀ w : World, (Instr.makeSlice 22 (.int .i64 0) (.int .i64 (n : Int))).run Tryd.prog w = .ok (.slice (some ⟨w.heap.size, 0, none⟩) 0 n) (w.alloc (.cells M 5)) := by
  obtain ⟨i0, hi, hz0, hz1, hz2⟩ := info_parts Tryd.info5
  refine ⟨madeCells (Value.int .u8 0).cells (((n : Nat) : Int).toNat * i0.size), by rw [size_madeCells, hz1]; simp, fun w => ?_⟩
  have h := run_make (P := Tryd.prog) w 22 5 i0 (.int .u8 0) Tryd.underlying22 hi hz0 .i64 .i64 0 (n : Int) (by omega) (by omega) (by rw [hz2]; omega) (by omega)
  simpa using h

set_option maxRecDepth 100000 in
set_option maxHeartbeats 1000000 in
theorem implHex_yes (s : ByteArray) (w : World) (hs : s.size ≤ 20000) :
    Calls Tryd.prog 13 #[.string s] w fun e w' => e = .returned (.tuple #[.string (strOfNums (hexL s.data.toList)), .bool true]) ∧ Below w.heap.size w w' := by
  have hd : decide ((20000 : Int) < (s.size : Int)) = false := by simp; omega
  obtain ⟨M, hM, hmk⟩ := make_run (2 * s.size) (by omega)
  have ec : ((2 * s.size : Nat) : Int) = 2 * (s.size : Int) := by omega
  rw [ec] at hmk
  have HM := hide hM
  clear hM ec
  go_enter Tryd.func13, Tryd.ntmps13
  go_wp2
  go_loopw [4, 5] (fun v i wr => HexRel s w.heap.size w v i wr) (fun _ i _ => s.size - (intOf i).toNat)
  case atStart => exact ⟨0, Nat.zero_le _, rfl, World.ownsRow_made w M (2 * s.size) (Nat.le_refl _) (by unfold maxLen; omega) (by rw [HM.out]; omega), (Below.refl _ _).alloc (Nat.le_refl _) _⟩
  case round =>
    clear hmk
    obtain ⟨k, hk, rfl, hown, hb⟩ := hrel
    have hsz := hb.size
    by_cases hlt : k < s.size
    · obtain ⟨c, hc⟩ : ∃ c : Nat, c = s[k].toNat := ⟨_, rfl⟩
      have hb8 : c < 256 := by rw [hc]; exact s[k].toNat_lt
      have hix : ∀ wx : World, (Instr.index 9 (.string s) (.int .i64 (k : Int))).run Tryd.prog wx = .ok (.int .u8 (c : Int)) wx := fun wx => by
        rw [hc]; exact index_str Tryd.underlying9 s k hlt wx
      have hq : IntKind.u8.wrap ((c : Int) / 16) = (c : Int) / 16 := by simp [IntKind.wrap, IntKind.signed, IntKind.bits]; omega
      have hr : (c : Int).tmod 16 = (c : Int) % 16 := Int.tmod_eq_emod_of_nonneg (by omega)
      have ht1 := tab_run (P := Tryd.prog) Tryd.underlying9 ((c : Int) / 16) (by omega) (by omega)
      have ht2 := tab_run (P := Tryd.prog) Tryd.underlying9 ((c : Int) % 16) (by omega) (by omega)
      have HC := hide hc
      clear hc
      have HN := hide (two_new wr 5 (.int .u8 (figI ((c : Int) / 16))) (.int .u8 (figI ((c : Int) % 16))))
      have HO := hide ((hown.alloc (.cells #[.int .u8 (figI ((c : Int) / 16)), .int .u8 (figI ((c : Int) % 16))] 5)).drew)
      have HB := hide hb
      clear hown hb
      go_wp2
      go_region_held3 (fun w' => True) (trivial)
        ((refine step_appn ?_ (.tmp 19) (.tmp 30) 22 ?_ w.heap.size 5 (.int .u8 0) 1 Tryd.underlying22 Tryd.info5 rfl _ (2 * k) _ ?_ (unhide HO) ⟨wr.heap.size, 0, none⟩ 2 2 _ ?_ rfl (unhide HN) ?_ ?_ ?_ ?_ ?_; (rfl); (rfl); (rfl); (rfl); (simp [Value.oneCell']); (unfold maxLen; omega); (omega); (simp; omega); intro v' w1 hown1 hb1))
      all_goals
        have R := hide (HexRel.step hsz hlt HC.out HB.out hown1 hb1)
        clear hown1 hb1
        go_wp2
        go_roundw
        case rel => exact unhide R
        case measure => simp [intOf]; omega
    · have hc := HexRel.last (by omega) hown
      clear hown
      go_wp2
      go_ret2
      exact ⟨rfl, hb⟩

theorem implHex_no (s : ByteArray) (w : World) (hs : 20000 < s.size) (_h : s.size ≤ 1048576) :
    Calls Tryd.prog 13 #[.string s] w fun e w' => e = .returned (.tuple #[.string ⟨#[]⟩, .bool false]) ∧ w = w' := by
  go_enter Tryd.func13, Tryd.ntmps13
  go_wp2
  go_ret2
  exact ⟨rfl, rfl⟩

end Go.Proofs.YtgbplfahbkdalaaDoor
