/-
  Walks: an unsealed text, by the specification and by the program.
-/
import Derived.Test.YtnidmllipiiakaaDoorSealW
import Derived.BigQuiet
namespace Go.Proofs.YtnidmllipiiakaaDoor
open Go.RowKit

/-- What Unsealed answers. -/
def unsV (t : ByteArray) : Value :=
  if 4 ≤ t.size ∧ t.size ≤ 20004 ∧ four (sumT (t.extract 0 (t.size - 4))) = t.extract (t.size - 4) t.size then .tuple #[.string (t.extract 0 (t.size - 4)), .bool true] else .tuple #[.string ByteArray.empty, .bool false]

theorem slice_hi {k : Nat} (t : ByteArray) (h : k ≤ t.size) (w : World) : (Instr.slice 9 (.string t) none (some (.int .i64 (k : Int))) none).run Tryd.prog w = .ok (.string (t.extract 0 k)) w := by
  rw [run_slice_string_h (P := Tryd.prog) (w := w) 9 t Tryd.underlying9 .i64 (k : Int) (by omega) (by omega)]; rfl
theorem slice_lo {k : Nat} (t : ByteArray) (h : k ≤ t.size) (w : World) : (Instr.slice 9 (.string t) (some (.int .i64 (k : Int))) none none).run Tryd.prog w = .ok (.string (t.extract k t.size)) w := by
  rw [run_slice_string_l (P := Tryd.prog) (w := w) 9 t Tryd.underlying9 .i64 (k : Int) (by omega) (by omega)]; rfl
theorem clone_str (s : ByteArray) (w : World) (h : s.size ≤ 1048576) : Calls Tryd.prog 24 #[.string s] w fun e w' => e = .returned (.string s) ∧ Below w.heap.size w w' := by
  go_enter Tryd.func24, Tryd.ntmps24
  go_wp2_with (go_at_call 27; refine (Tryd.stringslite_Clone _ _ (by omega)).mono ?_; rintro e w1 ⟨rfl, hb⟩)
  go_ret
  exact ⟨rfl, by assumption⟩

theorem implUns_in (t : ByteArray) (k : Nat) (w : World) (hk : t.size = k + 4) (hm : k ≤ 20000) (ht : TabS w) :
    Calls Tryd.prog 12 #[.string t] w fun e w' => e = .returned (if four (sumT (t.extract 0 k)) = t.extract k t.size then .tuple #[.string (t.extract 0 k), .bool true] else .tuple #[.string ByteArray.empty, .bool false]) ∧ Below w.heap.size w w' := by
  have HT := hide ht
  clear ht
  have s1 := slice_hi (k := k) t (by omega)
  have s2 := slice_lo (k := k) t (by omega)
  have hz : (t.extract 0 k).size ≤ 20000 := by rw [ByteArray.size_extract]; omega
  have hw : IntKind.i64.wrap ((t.size : Int) - 4) = (k : Int) := by rw [IntWalk.i64_in _ (by omega)]; omega
  have hk' : (t.size : Int) - 4 = (k : Int) := by omega
  generalize t.extract 0 k = a at *
  generalize t.extract k t.size = b at *
  have HX : Hid (sumT a < 4294967296) := hide (sumT_lt a)
  have h4 : (four (sumT a)).size = 4 := rfl
  have HTd : Hid (TabS w.drew) := HT.out.stays (Below.drew (Below.refl _ _))
  have ha : a.size ≤ 1048576 := by omega
  by_cases heq : four (sumT a) = b
  · rw [if_pos heq]
    have hq : ((four (sumT a)).toList == b.toList) = true := str_beq.2 heq
    go_enter Tryd.func12, Tryd.ntmps12
    go_wp2
    go_region_held3 (fun w' => True) (trivial) ((first | (go_at_call 14; refine (implSumOf _ _ ?_ HTd.out).mono ?_; (omega); rintro e w1 ⟨rfl, rfl⟩) | (go_at_call 23; refine (implFour _ _ HX.out).mono ?_; rintro e w2 ⟨rfl, hb2⟩)))
    all_goals
      have HB2 : Hid (Below w.heap.size w w2) := (Below.drew (Below.refl _ _)).trans hb2
      clear hb2
      go_wp2_with (go_at_call 24; refine (clone_str _ _ ha).mono ?_; rintro e w3 ⟨rfl, hb3⟩)
      go_ret2
      exact ⟨rfl, HB2.out.trans (hb3.mono HB2.out.size)⟩
  · rw [if_neg heq]
    have hq : ((four (sumT a)).toList == b.toList) = false := Bool.eq_false_iff.2 fun h => heq (str_beq.1 h)
    go_enter Tryd.func12, Tryd.ntmps12
    go_wp2
    go_region_held3 (fun w' => True) (trivial) ((first | (go_at_call 14; refine (implSumOf _ _ ?_ HTd.out).mono ?_; (omega); rintro e w1 ⟨rfl, rfl⟩) | (go_at_call 23; refine (implFour _ _ HX.out).mono ?_; rintro e w2 ⟨rfl, hb2⟩)))
    all_goals
      have HB2 : Hid (Below w.heap.size w w2) := (Below.drew (Below.refl _ _)).trans hb2
      clear hb2
      go_wp2
      go_ret2
      exact ⟨rfl, HB2.out⟩

theorem implUns (t : ByteArray) (w : World) (hz : t.size ≤ 1048576) (ht : TabS w) :
    Calls Tryd.prog 12 #[.string t] w fun e w' => e = .returned (unsV t) ∧ Below w.heap.size w w' := by
  by_cases h : 4 ≤ t.size ∧ t.size ≤ 20004
  · refine (implUns_in t (t.size - 4) w (by omega) (by omega) ht).mono fun e w' h2 => ?_
    unfold unsV
    simpa only [h, true_and] using h2
  · have HV : Hid (unsV t = .tuple #[.string ByteArray.empty, .bool false]) := hide (if_neg fun x => h ⟨x.1, x.2.1⟩)
    have hw : IntKind.i64.wrap ((t.size : Int) - 4) = (t.size : Int) - 4 := IntWalk.i64_in _ (by omega)
    by_cases h4 : t.size < 4
    · go_enter Tryd.func12, Tryd.ntmps12
      go_wp2
      go_ret2
      exact ⟨congrArg Ending.returned (unhide HV).symm, Below.refl _ _⟩
    · have h5 : 20004 < t.size := by omega
      go_enter Tryd.func12, Tryd.ntmps12
      go_wp2
      go_ret2
      exact ⟨congrArg Ending.returned (unhide HV).symm, Below.refl _ _⟩

theorem specUns_in (t : ByteArray) (k : Nat) (w : World) (hk : t.size = k + 4) (hm : k ≤ 20000) :
    Calls Tryd.prog 18 #[.string t] w fun e w' => e = .returned (if four (sumT (t.extract 0 k)) = t.extract k t.size then .tuple #[.string (t.extract 0 k), .bool true] else .tuple #[.string ByteArray.empty, .bool false]) ∧ Below w.heap.size w w' := by
  have s1 := slice_hi (k := k) t (by omega)
  have s2 := slice_lo (k := k) t (by omega)
  have hz : (t.extract 0 k).size ≤ 20000 := by rw [ByteArray.size_extract]; omega
  have hw : IntKind.i64.wrap ((t.size : Int) - 4) = (k : Int) := by rw [IntWalk.i64_in _ (by omega)]; omega
  have hk' : (t.size : Int) - 4 = (k : Int) := by omega
  generalize t.extract 0 k = a at *
  generalize t.extract k t.size = b at *
  have HX : Hid (sumT a < 4294967296) := hide (sumT_lt a)
  have h4 : (four (sumT a)).size = 4 := rfl
  have g1 : decide ((k : Int) < 0) = false := by simp
  have g2 : decide (20000 < (k : Int)) = false := by simp; omega
  by_cases heq : four (sumT a) = b
  · rw [if_pos heq]
    have hq : (b.toList == (four (sumT a)).toList) = true := str_beq.2 heq.symm
    go_enter Tryd.func18, Tryd.ntmps18
    go_wp2
    go_region_held3 (fun w' => True) (trivial) ((first | (go_at_call 16; refine (specSumOf _ _ ?_).mono ?_; (omega); rintro e w1 ⟨rfl, rfl⟩) | (go_at_call 26; refine (specFour _ _ HX.out).mono ?_; rintro e w2 ⟨rfl, hb2⟩)))
    all_goals
      have HB2 : Hid (Below w.heap.size w w2) := (Below.drew (Below.refl _ _)).trans hb2
      clear hb2
      go_wp2
      go_ret2
      exact ⟨rfl, HB2.out⟩
  · rw [if_neg heq]
    have hq : (b.toList == (four (sumT a)).toList) = false := Bool.eq_false_iff.2 fun h => heq (str_beq.1 h).symm
    go_enter Tryd.func18, Tryd.ntmps18
    go_wp2
    go_region_held3 (fun w' => True) (trivial) ((first | (go_at_call 16; refine (specSumOf _ _ ?_).mono ?_; (omega); rintro e w1 ⟨rfl, rfl⟩) | (go_at_call 26; refine (specFour _ _ HX.out).mono ?_; rintro e w2 ⟨rfl, hb2⟩)))
    all_goals
      have HB2 : Hid (Below w.heap.size w w2) := (Below.drew (Below.refl _ _)).trans hb2
      clear hb2
      go_wp2
      go_ret2
      exact ⟨rfl, HB2.out⟩

theorem specUns (t : ByteArray) (w : World) (hz : t.size ≤ 1048576) :
    Calls Tryd.prog 18 #[.string t] w fun e w' => e = .returned (unsV t) ∧ Below w.heap.size w w' := by
  by_cases h : 4 ≤ t.size ∧ t.size ≤ 20004
  · refine (specUns_in t (t.size - 4) w (by omega) (by omega)).mono fun e w' h2 => ?_
    unfold unsV
    simpa only [h, true_and] using h2
  · have HV : Hid (unsV t = .tuple #[.string ByteArray.empty, .bool false]) := hide (if_neg fun x => h ⟨x.1, x.2.1⟩)
    have hw : IntKind.i64.wrap ((t.size : Int) - 4) = (t.size : Int) - 4 := IntWalk.i64_in _ (by omega)
    by_cases h4 : t.size < 4
    · obtain ⟨z, ez⟩ : ∃ z : Int, (t.size : Int) - 4 = z := ⟨_, rfl⟩
      rw [ez] at hw
      have g1 : decide (z < 0) = true := by simp; omega
      go_enter Tryd.func18, Tryd.ntmps18
      go_wp2
      go_quiet (fail)
      all_goals
        go_wp2
        go_ret2
        exact ⟨congrArg Ending.returned (unhide HV).symm, ⟨rfl, rfl, rfl, Nat.le_refl _, fun _ _ => rfl⟩⟩
    · have h5 : 20004 < t.size := by omega
      have g1 : decide ((t.size : Int) - 4 < 0) = false := by simp; omega
      have g2 : decide (20000 < (t.size : Int) - 4) = true := by simp; omega
      go_enter Tryd.func18, Tryd.ntmps18
      go_wp2
      go_quiet (fail)
      all_goals
        go_wp2
        go_ret2
        exact ⟨congrArg Ending.returned (unhide HV).symm, ⟨rfl, rfl, rfl, Nat.le_refl _, fun _ _ => rfl⟩⟩
end Go.Proofs.YtnidmllipiiakaaDoor
