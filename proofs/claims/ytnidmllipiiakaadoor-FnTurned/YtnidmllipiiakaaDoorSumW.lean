/-
  Walks: one byte more of a sum, by the program's table.
-/
import Derived.Test.YtnidmllipiiakaaDoorProg
import Derived.Test.YtnidmllipiiakaaDoorAid
import Derived.Test.YtnidmllipiiakaaDoorSumP
import Derived.WalkKit
import Derived.Deep.RegionWith
import Derived.Lib.LaidTab
import Derived.Lib.SmallJoins
namespace Go.Proofs.YtnidmllipiiakaaDoor
open Go.RowKit

theorem gSteps : Tryd.prog.globalNamed "loop.example/g00290/impl.sumSteps" = some 0 := by kernel_rfl
/-- The table stands. -/
def TabS (w : World) : Prop := Lib.TabIs Tryd.prog w "loop.example/g00290/impl.sumSteps" .u32 stepsI
theorem TabS.cell {w : World} (h : TabS w) (r : Nat) (hr : r < 16) : w.cell? ⟨0, r, none⟩ = some (.int .u32 ((steps.getD r 0 : Nat) : Int)) := by
  have := Lib.TabIs.cell h gSteps r (by simpa [stepsI] using hr)
  rw [this, stepsI_eq ⟨r, hr⟩]
theorem TabS.stays {w w' : World} (h : TabS w) (hb : Below w.heap.size w w') : TabS w' := Joins.tab_stays gSteps h hb (Nat.le_refl _)

theorem withByte (s : Nat) (b : UInt8) (w : World) (hs : s < 4294967296) (ht : TabS w) :
    Calls Tryd.prog 25 #[.int .u32 s, .int .u8 b.toNat] w fun e w' => e = .returned (.int .u32 (more1 s b : Nat)) ∧ w = w' := by
  have hb8 : b.toNat < 256 := b.toNat_lt
  have e0 : bits .xor .u32 (s : Int) (b.toNat : Int) = ((s ^^^ b.toNat : Nat) : Int) := u32_xor_nat _ _ hs (by omega)
  have hx : s ^^^ b.toNat < 4294967296 := xor_byte_lt s b hs
  have e1 : more1 s b = half4 (half4 (s ^^^ b.toNat)) := rfl
  generalize s ^^^ b.toNat = x at *
  have a1 : bits .and .u32 (x : Int) 15 = (x : Int) % 16 := by
    have := u32_and_nat x 15 hx (by omega)
    rw [nat_mask4] at this; simpa using this
  have c1 := ht.cell (x % 16) (by omega)
  have d1 := half4_tab x
  have f1 : steps.getD (x % 16) 0 < 4294967296 := steps_lt ⟨x % 16, by omega⟩
  have b1 : bits .xor .u32 ((x : Int) / 16) ((steps.getD (x % 16) 0 : Nat) : Int) = ((half4 x : Nat) : Int) := by
    rw [d1]; simpa using u32_xor_nat (x / 16) _ (by omega) f1
  have n1 : ((x : Int) % 16).toNat = x % 16 := by omega
  have hy := half4_lt x hx
  generalize steps.getD (x % 16) 0 = u1 at *
  generalize half4 x = y at *
  have a2 : bits .and .u32 (y : Int) 15 = (y : Int) % 16 := by
    have := u32_and_nat y 15 hy (by omega)
    rw [nat_mask4] at this; simpa using this
  have c2 := ht.cell (y % 16) (by omega)
  have d2 := half4_tab y
  have f2 : steps.getD (y % 16) 0 < 4294967296 := steps_lt ⟨y % 16, by omega⟩
  have b2 : bits .xor .u32 ((y : Int) / 16) ((steps.getD (y % 16) 0 : Nat) : Int) = ((half4 y : Nat) : Int) := by
    rw [d2]; simpa using u32_xor_nat (y / 16) _ (by omega) f2
  generalize steps.getD (y % 16) 0 = u2 at *
  have n2 : ((y : Int) % 16).toNat = y % 16 := by omega
  rw [e1]
  generalize half4 y = z at *
  clear d1 d2 ht
  go_enter Tryd.func25, Tryd.ntmps25
  go_wp2
  go_ret
  exact ⟨rfl, rfl⟩

/-- Where a sum stands behind i bytes. -/
def SumAt (s0 : Nat) (t : ByteArray) (i c : Nat) : Prop := i ≤ t.size ∧ c = sumL s0 (t.data.toList.take i) ∧ c < 4294967296
theorem SumAt.step {s0 : Nat} {t : ByteArray} {i c : Nat} (h : SumAt s0 t i c) (hi : i < t.size) : SumAt s0 t (i + 1) (more1 c t[i]) := by
  obtain ⟨h1, h2, h3⟩ := h
  refine ⟨hi, ?_, more1_lt _ _ h3⟩
  rw [sumL_take s0 _ i t[i] (by rw [List.getElem?_eq_getElem (by simpa using hi)]; rfl), h2]
theorem SumAt.done {s0 : Nat} {t : ByteArray} {c : Nat} (h : SumAt s0 t t.size c) : c = sumL s0 t.data.toList := by
  rw [h.2.1, List.take_of_length_le (by rw [Array.length_toList]; exact Nat.le_refl _)]

theorem implSumMore (s0 : Nat) (t : ByteArray) (w : World) (hs : s0 < 4294967296) (hz : t.size ≤ 2097152) (ht : TabS w) :
    Calls Tryd.prog 13 #[.int .u32 s0, .string t] w fun e w' => e = .returned (.int .u32 (sumL s0 t.data.toList : Nat)) ∧ w = w' := by
  have HT := hide ht
  clear ht
  go_enter Tryd.func13, Tryd.ntmps13
  go_wp2
  go_loop [5, 6] (fun c i => ∃ (j C : Nat), j ≤ t.size ∧ c = .int .u32 C ∧ i = .int .i64 j ∧ Hid (SumAt s0 t j C)) (fun _ i => t.size - (intOf i).toNat)
  case atStart => exact ⟨0, s0, by omega, rfl, rfl, ⟨by omega, rfl, hs⟩⟩
  case round =>
    obtain ⟨j, C, hj, rfl, rfl, H⟩ := hrel
    have hC : C < 4294967296 := H.out.2.2
    by_cases hlt : j < t.size
    · have HR := hide (H.out.step hlt)
      go_wp2_with (go_at_call 25; refine (withByte _ _ _ hC HT.out).mono ?_; rintro e w1 ⟨rfl, rfl⟩)
      go_round
      case rel => exact ⟨j + 1, _, by omega, rfl, by go_num, unhide HR⟩
      case measure => simp [intOf]; omega
    · obtain rfl : j = t.size := by omega
      have HR := hide (H.out.done)
      go_wp2
      go_ret
      exact ⟨congrArg (fun x : Nat => Ending.returned (Value.int .u32 (x : Int))) (unhide HR), rfl⟩


/-- k halvings. -/
def halves : Nat → Nat → Nat
  | 0, s => s
  | k + 1, s => half (halves k s)
theorem halves8 (s : Nat) : halves 8 s = half8 s := rfl
theorem halves_lt (k s : Nat) (h : s < 4294967296) : halves k s < 4294967296 := by
  induction k with
  | zero => exact h
  | succ k ih => exact half_lt _ ih
theorem half_even {C : Nat} (h : C % 2 = 0) : half C = C / 2 := by unfold half; rw [if_neg (by omega)]
theorem half_odd {C : Nat} (h : C % 2 = 1) : half C = C / 2 ^^^ 3558460437 := by unfold half; rw [if_pos h]

theorem specSumMore (s0 : Nat) (t : ByteArray) (w : World) (hs : s0 < 4294967296) (hz : t.size ≤ 2097152) :
    Calls Tryd.prog 15 #[.int .u32 s0, .string t] w fun e w' => e = .returned (.int .u32 (sumL s0 t.data.toList : Nat)) ∧ w = w' := by
  go_enter Tryd.func15, Tryd.ntmps15
  go_wp2
  go_loop [0, 5] (fun c i => ∃ (j C : Nat), j ≤ t.size ∧ c = .int .u32 C ∧ i = .int .i64 j ∧ Hid (SumAt s0 t j C)) (fun _ i => t.size - (intOf i).toNat)
  case atStart => exact ⟨0, s0, by omega, rfl, rfl, ⟨by omega, rfl, hs⟩⟩
  case round =>
    obtain ⟨j, C, hj, rfl, rfl, H⟩ := hrel
    have hC : C < 4294967296 := H.out.2.2
    by_cases hlt : j < t.size
    · have HR := hide (H.out.step hlt)
      have hx := xor_byte_lt C t[j] hC
      have hb8 : t[j].toNat < 256 := t[j].toNat_lt
      have e0 : bits .xor .u32 (C : Int) (t[j].toNat : Int) = ((C ^^^ t[j].toNat : Nat) : Int) := u32_xor_nat _ _ hC (by have := t[j].toNat_lt; omega)
      have HM : Hid (more1 C t[j] = halves 8 (C ^^^ t[j].toNat)) := hide rfl
      generalize C ^^^ t[j].toNat = X at *
      go_wp2
      go_loop [0, 6] (fun c k => ∃ (m D : Nat), m ≤ 8 ∧ c = .int .u32 D ∧ k = .int .i64 m ∧ D < 4294967296 ∧ Hid (D = halves m X)) (fun _ k => 8 - (intOf k).toNat)
      case atStart => exact ⟨0, X, by omega, rfl, rfl, hx, rfl⟩
      case round =>
        obtain ⟨m, D, hm, rfl, rfl, hD, K⟩ := hrel
        by_cases h8 : m < 8
        · rcases Nat.mod_two_eq_zero_or_one D with h2 | h2
          · have K2 : Hid (D / 2 = halves (m + 1) X) := by have := half_even h2; rw [K.out] at this ⊢; exact this.symm
            go_wp2
            go_round
            case rel => exact ⟨m + 1, D / 2, by omega, by go_num, by go_num, by omega, unhide K2⟩
            case measure => simp [intOf]; omega
          · have K2 : Hid (D / 2 ^^^ 3558460437 = halves (m + 1) X) := by have := half_odd h2; rw [K.out] at this ⊢; exact this.symm
            have e1 : bits .xor .u32 ((D : Int) / 2) 3558460437 = ((D / 2 ^^^ 3558460437 : Nat) : Int) := by simpa using u32_xor_nat (D / 2) 3558460437 (by omega) (by omega)
            have hy : D / 2 ^^^ 3558460437 < 4294967296 := Nat.xor_lt_two_pow (n := 32) (by omega) (by decide)
            generalize D / 2 ^^^ 3558460437 = Y at *
            go_wp2
            go_round
            case rel => exact ⟨m + 1, Y, by omega, by go_num, by go_num, hy, unhide K2⟩
            case measure => simp [intOf]; omega
        · obtain rfl : m = 8 := by omega
          rw [← K.out] at HM
          rw [HM.out] at HR
          go_wp2
          go_round
          case rel => exact ⟨j + 1, _, by omega, rfl, by go_num, unhide HR⟩
          case measure => simp [intOf]; omega
    · obtain rfl : j = t.size := by omega
      have HR := hide (H.out.done)
      go_wp2
      go_ret
      exact ⟨congrArg (fun x : Nat => Ending.returned (Value.int .u32 (x : Int))) (unhide HR), rfl⟩

end Go.Proofs.YtnidmllipiiakaaDoor
