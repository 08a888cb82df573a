/-
  Walks: no rune of 128 or above is one of the marks.
-/
import Derived.Test.YtfnmpohcoabenaaDoorSignP
import Derived.Test.YtfnmpohcoabenaaDoorRuneW
import Derived.Test.YtfnmpohcoabenaaDoorShelfSign
import Derived.Deep.RegionHeld3
import Derived.BigQuiet
namespace Go.Proofs.YtfnmpohcoabenaaDoor
open Go.RowKit

abbrev marksB : ByteArray := ⟨#[59, 44, 46, 40, 41, 43, 45, 42, 47, 37, 60, 61]⟩

theorem indexByte_none (c : UInt8) : ∀ (l : List UInt8), (∀ b ∈ l, b ≠ c) → Lib.indexByte l c = -1
  | [], _ => rfl
  | b :: l, h => by
    have hb : (b == c) = false := by simpa using h b (by simp)
    rw [Lib.indexByte, hb, indexByte_none c l (fun x hx => h x (by simp [hx]))]
    rfl

theorem marksB_low : ∀ b ∈ marksB.data.toList, b.toNat < 128 := by decide
theorem marksB_at (k : Nat) (h : k < 12) : ∃ c : Nat, c < 128 ∧ marksB[k]'h = (c.toUInt8) ∧ (marksB[k]'h).toNat = c := by
  have hm : marksB[k]'h ∈ marksB.data.toList := by
    have : marksB[k]'h = marksB.data.toList[k]'(by simpa using h) := rfl
    rw [this]; exact List.getElem_mem _
  exact ⟨(marksB[k]'h).toNat, marksB_low _ hm, by simp, rfl⟩

set_option maxRecDepth 100000 in
set_option maxHeartbeats 2000000 in
theorem indexRune_high (r : Nat) (w : World) (h : 128 ≤ r) (h2 : r ≤ 1114111) (hv : Lib.validRune (r : Int) = true) (hne : r ≠ 65533) :
    Calls Tryd.prog 29 #[.string marksB, .int .i32 (r : Int)] w fun e w' => e = .returned (.int .i64 (-1)) ∧ Below w.heap.size w w' := by
  have h1 : ¬ ((r : Int) < 128) := by omega
  have h3 : ((r : Int) == 65533) = false := by simp; omega
  have CV := fun w => hide (Tryd.utf8_ValidRune (r : Int) w)
  rw [hv] at CV
  have hv2 : Utf8.valid (r : Int) = true := by rw [validRune_eq]; exact hv
  obtain ⟨e1, e2, e3⟩ := encode_facts (r : Int) hv2 (by omega)
  obtain ⟨rs, hrs⟩ : ∃ rs, Utf8.encode (r : Int) = rs := ⟨_, rfl⟩
  rw [hrs] at e1 e2
  simp only [hrs] at e3
  obtain ⟨m, hm⟩ : ∃ m, m = rs.size - 1 := ⟨_, rfl⟩
  have hms : (rs.size : Int) - 1 = (m : Int) := by omega
  have hm3 : m < 12 := by omega
  have hml : m < rs.size := by omega
  have hc2 : 128 ≤ rs[m].toNat := by
    have := e3 (by omega)
    simpa only [hm] using this
  obtain ⟨c1, hc1, hc1u, hc1e⟩ := marksB_at m hm3
  obtain ⟨c2, hc2e⟩ : ∃ c2 : Nat, c2 = rs[m].toNat := ⟨_, rfl⟩
  have hix1 : ∀ wx : World, (Instr.index 9 (.string marksB) (.int .i64 (m : Int))).run Tryd.prog wx = .ok (.int .u8 (c1 : Int)) wx := fun wx => by
    rw [← hc1e]; exact index_str9 Tryd.underlying9 marksB m hm3 wx
  have hix2 : ∀ wx : World, (Instr.index 9 (.string rs) (.int .i64 (m : Int))).run Tryd.prog wx = .ok (.int .u8 (c2 : Int)) wx := fun wx => by
    rw [hc2e]; exact index_str9 Tryd.underlying9 rs m hml wx
  have hb8 : c2 < 256 := by rw [hc2e]; exact rs[m].toNat_lt
  have hlt : ((m : Int) < 12) := by omega
  have hneq : ((c1 : Int) == (c2 : Int)) = false := by simp; omega
  have hsl : ∀ wx : World, (Instr.slice 9 (.string marksB) (some (.int .i64 ((m : Int) + 1))) none none).run Tryd.prog wx = .ok (.string (marksB.extract (m + 1) 12)) wx := fun wx => by
    rw [run_slice_string_from_if wx 9 marksB .i64 ((m : Int) + 1) Tryd.underlying9, if_pos ⟨by omega, by show _ ≤ ((12 : Nat) : Int); omega⟩]
    rfl
  have hwr : IntKind.i64.wrap ((m : Int) + 1) = (m : Int) + 1 := IntWalk.i64_in _ (by omega)
  have hwr2 : wrap64 ((m : Int) + 1) = (m : Int) + 1 := IntWalk.wrap64_in _ (by omega)
  have CB := fun w => hide (Tryd.strings_IndexByte (marksB.extract (m + 1) 12) (c2 : Int) w)
  rw [indexByte_none _ _ (fun b hb hbc => by
    have := marksB_low b (mem_extract hb)
    rw [hbc] at this
    have e4 : ((c2 : Int).toNat.toUInt8).toNat = c2 := by simp; omega
    omega)] at CB
  clear e1 e2 e3 hv hv2 hc2 hm hc2e hc1e h2 hne h hc1u
  go_enter Tryd.func29, Tryd.ntmps29
  go_wp2_with (go_at_call 31; refine (unhide (CV _)).mono ?_; rintro e w1 ⟨rfl, rfl⟩)
  clear h1 h3 CV
  go_step3
  go_wp2
  refine wp_loop_rounds 1 ?_
  rw [rounds_succ]
  go_wp2
  go_step3
  go_wp2
  go_quiet (fail)
  clear hrs hms hm3 hml hc1 hb8
  go_wp2
  go_region_held3 (fun _ => True) (trivial) ((go_at_call 30; refine (unhide (CB _)).mono ?_; rintro e w2 ⟨rfl, rfl⟩))
  all_goals
    go_wp2
    simp only [Exit.noGoto_ret, Exit.inBlock, Exit.then]
    go_ret
    exact ⟨rfl, by first | exact below_drewN (below_drewN (Below.refl _ _) _) _ | exact Below.drew (below_drewN (Below.refl _ _) _)⟩

set_option maxRecDepth 100000 in
set_option maxHeartbeats 2000000 in
theorem indexRune_error (w : World) : Calls Tryd.prog 29 #[.string marksB, .int .i32 65533] w fun e w' => e = .returned (.int .i64 (-1)) ∧ Below w.heap.size w w' := by
  go_enter Tryd.func29, Tryd.ntmps29
  go_wp2
  go_loopw [5] (fun _ wr => ∃ pos : Nat, wr = w.iter marksB pos ∧ pos ≤ 12) (fun _ wr => 12 - wr.iterPos w.heap.size)
  case atStart => exact ⟨0, rfl, by omega⟩
  case round =>
    obtain ⟨pos, rfl, hps⟩ := hrel
    by_cases hp : pos < 12
    · obtain ⟨c, hc, _, hce⟩ := marksB_at pos hp
      have hnx : ∀ ty, (Instr.next (.pointer (some ⟨w.heap.size, 0, none⟩)) true ty).run Tryd.prog (w.iter marksB pos) = .ok (.tuple #[.bool true, .int .i64 pos, .int .i32 c]) (w.iter marksB (pos + 1)) := fun ty => by
        rw [← hce]; exact run_next_ascii w marksB pos ty hp (by rw [hce]; exact hc)
      have hne : ((c : Int) == 65533) = false := by simp; omega
      clear hce
      go_wp2
      go_roundw
      case rel => exact ⟨pos + 1, rfl, by omega⟩
      case measure => simp; omega
    · have hnx : ∀ ty, (Instr.next (.pointer (some ⟨w.heap.size, 0, none⟩)) true ty).run Tryd.prog (w.iter marksB pos) = _ := fun ty => run_next_end w marksB pos ty (by show ¬ pos < 12; exact hp)
      go_wp2
      go_ret
      exact ⟨rfl, (Below.refl _ _).alloc (Nat.le_refl _) _⟩

set_option maxHeartbeats 1000000 in
theorem containsRune_high (r : Nat) (w : World) (h : 128 ≤ r) (h2 : r ≤ 1114111) (hv : Lib.validRune (r : Int) = true) :
    Calls Tryd.prog 25 #[.string marksB, .int .i32 (r : Int)] w fun e w' => e = .returned (.bool false) ∧ Below w.heap.size w w' := by
  have CI : ∀ w, Hid (Calls Tryd.prog 29 #[.string marksB, .int .i32 (r : Int)] w fun e w' => e = .returned (.int .i64 (-1)) ∧ Below w.heap.size w w') := fun w => by
    by_cases hr : r = 65533
    · subst hr; exact indexRune_error w
    · exact indexRune_high r w h h2 hv hr
  clear h h2 hv
  go_enter Tryd.func25, Tryd.ntmps25
  go_wp2_with (go_at_call 29; refine (unhide (CI _)).mono ?_; rintro e w1 ⟨rfl, hb1⟩)
  go_ret
  exact ⟨rfl, hb1⟩
end Go.Proofs.YtfnmpohcoabenaaDoor
