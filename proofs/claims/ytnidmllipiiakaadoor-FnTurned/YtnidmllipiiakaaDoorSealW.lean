/-
  Walks: the sum of a text, its four bytes, a sealed text and an unsealed one, by the specification and by the program.
-/
import Derived.Test.YtnidmllipiiakaaDoorSumW
import Derived.Test.YtnidmllipiiakaaDoorShelfClone
import Derived.Deep.RegionHeld3
namespace Go.Proofs.YtnidmllipiiakaaDoor
open Go.RowKit

def sumT (t : ByteArray) : Nat := sumL 4294967295 t.data.toList
theorem sumT_lt (t : ByteArray) : sumT t < 4294967296 := sumL_lt _ _ (by decide)

theorem implSumOf (t : ByteArray) (w : World) (hz : t.size ≤ 2097152) (ht : TabS w) :
    Calls Tryd.prog 14 #[.string t] w fun e w' => e = .returned (.int .u32 (sumT t : Nat)) ∧ w = w' := by
  have HT := hide ht
  clear ht
  go_enter Tryd.func14, Tryd.ntmps14
  go_wp2_with (go_at_call 13; refine (implSumMore 4294967295 _ _ (by decide) hz HT.out).mono ?_; rintro e w1 ⟨rfl, rfl⟩)
  go_ret
  exact ⟨rfl, rfl⟩
theorem specSumOf (t : ByteArray) (w : World) (hz : t.size ≤ 2097152) :
    Calls Tryd.prog 16 #[.string t] w fun e w' => e = .returned (.int .u32 (sumT t : Nat)) ∧ w = w' := by
  go_enter Tryd.func16, Tryd.ntmps16
  go_wp2_with (go_at_call 15; refine (specSumMore 4294967295 _ _ (by decide) hz).mono ?_; rintro e w1 ⟨rfl, rfl⟩)
  go_ret
  exact ⟨rfl, rfl⟩

/-- The four bytes of a number, the highest first. -/
def four (x : Nat) : ByteArray := strOfNums [((x / 16777216 % 256 : Nat) : Int), ((x / 65536 % 256 : Nat) : Int), ((x / 256 % 256 : Nat) : Int), ((x % 256 : Nat) : Int)]

theorem four_conv (x : Nat) (w : World) (hx : x < 4294967296) :
    (convert 22 9 (.slice (some ⟨w.heap.size, 0, none⟩) 4 4)).run Tryd.prog (w.alloc (.cells #[.int .u8 ((x : Int) / 16777216), .int .u8 ((x : Int) / 65536 % 256), .int .u8 ((x : Int) / 256 % 256), .int .u8 ((x : Int) % 256)] 5)) = .ok (.string (four x)) (w.alloc (.cells #[.int .u8 ((x : Int) / 16777216), .int .u8 ((x : Int) / 65536 % 256), .int .u8 ((x : Int) / 256 % 256), .int .u8 ((x : Int) % 256)] 5)) := by
  have ho : (w.alloc (.cells #[.int .u8 ((x : Int) / 16777216), .int .u8 ((x : Int) / 65536 % 256), .int .u8 ((x : Int) / 256 % 256), .int .u8 ((x : Int) % 256)] 5)).ownsRow w.heap.size 5 1 (.slice (some ⟨w.heap.size, 0, none⟩) 4 4) 4 ([(x : Int) / 16777216, (x : Int) / 65536 % 256, (x : Int) / 256 % 256, (x : Int) % 256].map (Value.int .u8)) :=
    ⟨rfl, .inr ⟨w.heap.size, 4, _, rfl, Nat.le_refl _, heap_alloc_new w _, Nat.le_refl _, by simp [maxLen], rfl, rfl⟩⟩
  have := conv_own (P := Tryd.prog) 22 9 5 Tryd.underlying22 Tryd.underlying5 Tryd.underlying9 (xs := [(x : Int) / 16777216, (x : Int) / 65536 % 256, (x : Int) / 256 % 256, (x : Int) % 256]) ho
  rw [this]
  unfold four
  have e : ((x / 16777216 % 256 : Nat) : Int) = (x : Int) / 16777216 := by omega
  rw [e]
  simp

theorem specFour (x : Nat) (w : World) (hx : x < 4294967296) :
    Calls Tryd.prog 26 #[.int .u32 x] w fun e w' => e = .returned (.string (four x)) ∧ Below w.heap.size w w' := by
  have hc := four_conv x w hx
  go_enter Tryd.func26, Tryd.ntmps26
  go_wp2
  go_ret
  exact ⟨rfl, (Below.refl _ _).alloc (Nat.le_refl _) _⟩
theorem implFour (x : Nat) (w : World) (hx : x < 4294967296) :
    Calls Tryd.prog 23 #[.int .u32 x] w fun e w' => e = .returned (.string (four x)) ∧ Below w.heap.size w w' := by
  have hc := four_conv x w hx
  go_enter Tryd.func23, Tryd.ntmps23
  go_wp2
  go_ret
  exact ⟨rfl, (Below.refl _ _).alloc (Nat.le_refl _) _⟩

/-- What Sealed answers. -/
def sealV (t : ByteArray) : Value := if 20000 < t.size then .tuple #[.string ByteArray.empty, .bool false] else .tuple #[.string (t ++ four (sumT t)), .bool true]
theorem specSealed (t : ByteArray) (w : World) (hz : t.size ≤ 1048576) :
    Calls Tryd.prog 17 #[.string t] w fun e w' => e = .returned (sealV t) ∧ Below w.heap.size w w' := by
  have HX : Hid (sumT t < 4294967296) := hide (sumT_lt t)
  have h4 : (four (sumT t)).size = 4 := rfl
  by_cases hlong : 20000 < t.size
  · have HV : Hid (sealV t = .tuple #[.string ByteArray.empty, .bool false]) := hide (if_pos hlong)
    go_enter Tryd.func17, Tryd.ntmps17
    go_wp2
    go_ret2
    exact ⟨congrArg Ending.returned (unhide HV).symm, Below.refl _ _⟩
  · have HV : Hid (sealV t = .tuple #[.string (t ++ four (sumT t)), .bool true]) := hide (if_neg hlong)
    go_enter Tryd.func17, Tryd.ntmps17
    go_wp2_with (first | (go_at_call 16; refine (specSumOf _ _ (by omega)).mono ?_; rintro e w1 ⟨rfl, rfl⟩) | (go_at_call 26; refine (specFour _ _ HX.out).mono ?_; rintro e w2 ⟨rfl, hb2⟩))
    go_ret2
    exact ⟨congrArg Ending.returned (unhide HV).symm, by assumption⟩
theorem implSealed (t : ByteArray) (w : World) (hz : t.size ≤ 1048576) (ht : TabS w) :
    Calls Tryd.prog 11 #[.string t] w fun e w' => e = .returned (sealV t) ∧ Below w.heap.size w w' := by
  have HT := hide ht
  clear ht
  have HX : Hid (sumT t < 4294967296) := hide (sumT_lt t)
  have h4 : (four (sumT t)).size = 4 := rfl
  by_cases hlong : 20000 < t.size
  · have HV : Hid (sealV t = .tuple #[.string ByteArray.empty, .bool false]) := hide (if_pos hlong)
    go_enter Tryd.func11, Tryd.ntmps11
    go_wp2
    go_ret2
    exact ⟨congrArg Ending.returned (unhide HV).symm, Below.refl _ _⟩
  · have HV : Hid (sealV t = .tuple #[.string (t ++ four (sumT t)), .bool true]) := hide (if_neg hlong)
    go_enter Tryd.func11, Tryd.ntmps11
    go_wp2_with (first | (go_at_call 14; refine (implSumOf _ _ (by omega) HT.out).mono ?_; rintro e w1 ⟨rfl, rfl⟩) | (go_at_call 23; refine (implFour _ _ HX.out).mono ?_; rintro e w2 ⟨rfl, hb2⟩))
    go_ret2
    exact ⟨congrArg Ending.returned (unhide HV).symm, by assumption⟩
end Go.Proofs.YtnidmllipiiakaaDoor
