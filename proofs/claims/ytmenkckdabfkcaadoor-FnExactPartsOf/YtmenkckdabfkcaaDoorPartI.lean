/-
  Walks: the parts of a line, by the program.
-/
import Derived.Test.YtmenkckdabfkcaaDoorPartS
import Derived.Test.YtmenkckdabfkcaaDoorShelfParts
import Derived.Lib.SmallJoins
namespace Go.Proofs.YtmenkckdabfkcaaDoor
open Go.RowKit

set_option maxHeartbeats 1000000 in
theorem plain_any (s : ByteArray) (w : World) (hs : s.size ≤ 1048576) : Calls Tryd.prog 14 #[.string s] w fun e w' => e = .returned (.bool (plainL s.data.toList)) ∧ w = w' := by
  go_enter Tryd.func14, Tryd.ntmps14
  go_wp2
  go_loop [3] (fun iv => ∃ k : Nat, k ≤ s.size ∧ iv = .int .i64 k ∧ Hid (∀ j, j < k → ∀ h : j < s.size, 32 ≤ s[j].toNat ∧ s[j].toNat ≤ 126)) (fun i => s.size - (intOf i).toNat)
  case atStart => exact ⟨0, Nat.zero_le _, rfl, fun j hj => absurd hj (Nat.not_lt_zero j)⟩
  case round =>
    obtain ⟨k, hk, rfl, HA⟩ := hrel
    by_cases hlt : k < s.size
    · obtain ⟨c, hc⟩ : ∃ c : Nat, c = s[k].toNat := ⟨_, rfl⟩
      have hb8 : c < 256 := by rw [hc]; exact s[k].toNat_lt
      have hix : ∀ wx : World, (Instr.index 9 (.string s) (.int .i64 (k : Int))).run Tryd.prog wx = .ok (.int .u8 (c : Int)) wx := fun wx => by
        rw [hc]; exact index_str9 Tryd.underlying9 s k hlt wx
      have HC := hide hc
      clear hc
      have hmem : s[k] ∈ s.data.toList := by
        have : s[k] = s.data.toList[k]'(by simpa using hlt) := rfl
        rw [this]; exact List.getElem_mem _
      by_cases h32 : c < 32
      · have HF := hide (plainL_bad hmem (.inl (by rw [← HC.out]; exact h32)))
        clear hmem
        go_wp2
        go_ret
        exact ⟨by rw [HF.out]; rfl, rfl⟩
      · by_cases h126 : 126 < c
        · have HF := hide (plainL_bad hmem (.inr (by rw [← HC.out]; exact h126)))
          clear hmem
          go_wp2
          go_ret
          exact ⟨by rw [HF.out]; rfl, rfl⟩
        · have HA2 : Hid (∀ j, j < k + 1 → ∀ h : j < s.size, 32 ≤ s[j].toNat ∧ s[j].toNat ≤ 126) := fun j hj h => by
            rcases Nat.lt_succ_iff_lt_or_eq.1 hj with hj | hj
            · exact HA.out j hj h
            · subst hj; rw [← HC.out]; omega
          clear hmem
          go_wp2
          go_round
          case rel => exact ⟨k + 1, by omega, by go_num, HA2⟩
          case measure => simp [intOf]; omega
    · have HPl : Hid (plainL s.data.toList = true) := by
        show _ = _
        rw [plainL, List.all_eq_true]
        intro x hx
        obtain ⟨j, hj, rfl⟩ := List.getElem_of_mem hx
        have hl : s.data.toList.length = s.size := by rw [Array.length_toList]; rfl
        have := HA.out j (by omega) (by omega)
        have e : s.data.toList[j] = s[j]'(by omega) := rfl
        rw [e]
        simp only [Bool.and_eq_true, decide_eq_true_eq]
        exact this
      go_wp2
      go_ret
      exact ⟨by rw [HPl.out]; rfl, rfl⟩

theorem clone_text (s : ByteArray) (w : World) (h : s.size ≤ 1048576) : Calls Tryd.prog 16 #[.string s] w fun e w' => e = .returned (.string s) ∧ Below w.heap.size w w' := by
  go_enter Tryd.func16, Tryd.ntmps16
  go_wp2_with (go_at_call 21; refine (Tryd.stringslite_Clone _ _ (by omega)).mono ?_; rintro e w1 ⟨rfl, hb⟩)
  go_ret
  exact ⟨rfl, by assumption⟩

/-- No part is longer than the line. -/
theorem fieldsGo_size : ∀ (l cur : List UInt8) (f : List UInt8), f ∈ Lib.fieldsGo cur l → f.length ≤ cur.length + l.length
  | [], cur, f, h => by
    rw [Lib.fieldsGo] at h
    split at h
    · cases h
    · simp at h; subst h; simp
  | b :: l, cur, f, h => by
    rw [Lib.fieldsGo] at h
    split at h
    · split at h
      · have := fieldsGo_size l [] f h
        simp at this ⊢; omega
      · rcases List.mem_cons.1 h with rfl | h
        · simp
        · have := fieldsGo_size l [] f h
          simp at this ⊢; omega
    · have := fieldsGo_size l (cur ++ [b]) f h
      simp at this ⊢; omega

/-- What the loop keeps: the row is what it was. -/
def CloneRel (w w1 : World) (v : Value) (xs : List ByteArray) (iv : Value) (wr : World) : Prop :=
  ∃ k : Nat, k ≤ xs.length ∧ iv = .int .i64 k ∧ wr.ownsRow w.heap.size 9 1 v xs.length (xs.map S) ∧ Below w.heap.size w wr ∧ w1.heap.size ≤ wr.heap.size

set_option maxRecDepth 100000 in
set_option maxHeartbeats 2000000 in
theorem implPartsOf_yes (s : ByteArray) (w : World) (hs : s.size ≤ 600) (hpl : plainL s.data.toList = true) (htab : Lib.TabIs Tryd.prog w "strings.asciiSpace" .u8 Lib.asciiSpaceTab) : Calls Tryd.prog 8 #[.string s] w (PartEnd s w) := by
  have hd : decide ((600 : Int) < (s.size : Int)) = false := by simp; omega
  have hasc : ∀ (j : Nat) b, s.data.toList[j]? = some b → b.toNat < 128 := fun j b hj => by
    have h := List.all_eq_true.1 hpl b (List.mem_of_getElem? hj)
    simp only [Bool.and_eq_true, decide_eq_true_eq] at h
    omega
  have CP := fun w => hide (plain_any s w (by omega))
  rw [hpl] at CP
  have CF := hide (Tryd.strings_Fields s w (by omega) hasc htab)
  have hsz : ∀ f ∈ Lib.fields s.data.toList, f.length ≤ 1048576 := fun f hf => by
    have h := fieldsGo_size _ _ f hf
    have hl : s.data.toList.length = s.size := by rw [Array.length_toList]; rfl
    simp at h; omega
  have HZ := hide hsz
  have HPl := hide hpl
  clear hasc htab hsz hpl
  obtain ⟨xs, hxs⟩ : ∃ xs : List ByteArray, xs = (Lib.fields s.data.toList).map mkS := ⟨_, rfl⟩
  have hxl : xs.length = (Lib.fields s.data.toList).length := by rw [hxs, List.length_map]
  have hxv : ((Lib.fields s.data.toList).map fun l => Value.string ⟨l.toArray⟩) = xs.map S := by
    rw [hxs, List.map_map]; rfl
  have HX : Hid (∀ x ∈ xs, x.size ≤ 1048576) := fun x hx => by
    rw [hxs] at hx
    obtain ⟨f, hf, rfl⟩ := List.mem_map.1 hx
    exact HZ.out f hf
  rw [hxv, ← hxl] at CF
  have HXs := hide hxs
  have HXl := hide hxl
  clear hxs hxl hxv HZ
  by_cases h10 : 10 < xs.length
  · go_enter Tryd.func8, Tryd.ntmps8
    go_wp2_with (first | (go_at_call 14; refine (unhide (CP _)).mono ?_; rintro e w1 ⟨rfl, rfl⟩) | (go_at_call 15; refine (unhide CF).mono ?_; rintro e w2 ⟨rfl, rfl⟩))
    go_ret2
    have hb1 : Below w.heap.size w (w.alloc (.cells (xs.map S).toArray 9)) := (Below.refl _ _).alloc (Nat.le_refl _) _
    have := PartEnd.none (s := s) (w := w) (wr := w.alloc (.cells (xs.map S).toArray 9)) (.inr (.inr (by rw [← HXl.out]; exact h10))) (by simp) hb1
    simpa using this
  · go_enter Tryd.func8, Tryd.ntmps8
    go_wp2_with (first | (go_at_call 14; refine (unhide (CP _)).mono ?_; rintro e w1 ⟨rfl, rfl⟩) | (go_at_call 15; refine (unhide CF).mono ?_; rintro e w2 ⟨rfl, rfl⟩))
    go_loopw [24] (fun iv wr => CloneRel w (w.alloc (.cells (xs.map S).toArray 9)) (.slice (some ⟨w.heap.size, 0, none⟩) xs.length xs.length) xs iv wr) (fun iv _ => xs.length - (intOf iv).toNat)
    case atStart =>
      refine ⟨0, Nat.zero_le _, rfl, ?_, (Below.refl _ _).alloc (Nat.le_refl _) _, Nat.le_refl _⟩
      have := World.ownsRow_lit (base := w.heap.size) (e := 9) (size := 1) w (xs.map S).toArray xs.length (Nat.le_refl _) (by unfold maxLen; omega) (by simp)
      simpa using this
    case round =>
      obtain ⟨k, hk, rfl, hown, hb, hsz⟩ := hrel
      have hsz1 : w.heap.size < wr.heap.size := by simp at hsz; omega
      by_cases hlt : k < xs.length
      · have hi0 : (0 : Int) ≤ (k : Int) := by omega
        have hi1 : (k : Int) < (xs.length : Int) := by omega
        have hx : xs[k]? = some (xs.getD k ByteArray.empty) := by rw [List.getD_eq_getElem?_getD, List.getElem?_eq_getElem hlt]; rfl
        have hcell : wr.cell? ⟨w.heap.size, k, none⟩ = some (.string (xs.getD k ByteArray.empty)) := by
          rw [hown.cellAt k (by omega), List.getElem?_map, hx]; rfl
        have hz := HX.out _ (List.mem_of_getElem? hx)
        obtain ⟨x, ex⟩ : ∃ x, x = xs.getD k ByteArray.empty := ⟨_, rfl⟩
        rw [← ex] at hx hcell hz
        have HK := hide hx
        have HO := hide hown
        have HB := hide hb
        clear hx ex hown hb
        go_wp2_with (go_at_call 16; refine (clone_text _ _ hz).mono ?_; rintro e w3 ⟨rfl, hb3⟩; have hown3 := ownsRow_stays HO.out hb3; have hfz := hown3.frozenAt k; have hc3 := (hb3.cell (p := ⟨w.heap.size, k, none⟩) hsz1).trans hcell)
        have HR : Hid ((w3.setCell ⟨w.heap.size, k, none⟩ (.string x)).ownsRow w.heap.size 9 1 (.slice (some ⟨w.heap.size, 0, none⟩) xs.length xs.length) xs.length (xs.map S) ∧ Below w.heap.size w (w3.setCell ⟨w.heap.size, k, none⟩ (.string x)) ∧ wr.heap.size ≤ w3.heap.size) := by
          refine ⟨?_, (HB.out.trans (hb3.mono (by omega))).setCell (Nat.le_refl _) _, hb3.size⟩
          have h := (hown3.stored k (S x)).1
          have e : (xs.map S).set k (S x) = xs.map S := by
            rw [← List.map_set]
            congr 1
            apply List.ext_getElem?
            intro i
            rw [List.getElem?_set]
            split
            · rename_i hik
              subst hik
              exact HK.out.symm
            · rfl
          rw [e] at h
          exact h
        go_roundw
        case rel => exact ⟨k + 1, by omega, by go_num, HR.out.1, HR.out.2.1, by have := HR.out.2.2; simp at *; omega⟩
        case measure => simp [intOf]; omega
      · have HR := hide (partsR_yes hs HPl.out (by rw [← HXl.out]; omega))
        go_wp2
        go_ret2
        refine ⟨.slice (some ⟨w.heap.size, 0, none⟩) xs.length xs.length, by rw [HR.out]; rfl, ?_, hb⟩
        rw [HR.out]
        show wr.ownsRow _ _ _ _ ((Lib.fields s.data.toList).map mkS).length (((Lib.fields s.data.toList).map mkS).map S)
        rw [← HXs.out]
        exact hown

theorem implPartsOf_long (s : ByteArray) (w : World) (hs : 600 < s.size) (_h : s.size ≤ 1048576) : Calls Tryd.prog 8 #[.string s] w (PartEnd s w) := by
  go_enter Tryd.func8, Tryd.ntmps8
  go_wp2
  go_ret2
  exact PartEnd.none (.inl hs) (Nat.le_refl _) (Below.refl _ _)
theorem implPartsOf_odd (s : ByteArray) (w : World) (hs : s.size ≤ 600) (hpl : plainL s.data.toList = false) : Calls Tryd.prog 8 #[.string s] w (PartEnd s w) := by
  have hd : decide ((600 : Int) < (s.size : Int)) = false := by simp; omega
  have CP := fun w => hide (plain_any s w (by omega))
  rw [hpl] at CP
  have HPl := hide hpl
  clear hpl
  go_enter Tryd.func8, Tryd.ntmps8
  go_wp2_with (go_at_call 14; refine (unhide (CP _)).mono ?_; rintro e w1 ⟨rfl, rfl⟩)
  go_ret2
  exact PartEnd.none (.inr (.inl HPl.out)) (Nat.le_refl _) (Below.refl _ _)

theorem implPartsOf_any (s : ByteArray) (w : World) (hs : s.size ≤ 1048576) (htab : Lib.TabIs Tryd.prog w "strings.asciiSpace" .u8 Lib.asciiSpaceTab) : Calls Tryd.prog 8 #[.string s] w (PartEnd s w) := by
  by_cases h : s.size ≤ 600
  · cases hp : plainL s.data.toList with
    | true => exact implPartsOf_yes s w h hp htab
    | false => exact implPartsOf_odd s w h hp
  · exact implPartsOf_long s w (by omega) hs
theorem specPartsOf_any (s : ByteArray) (w : World) (hs : s.size ≤ 1048576) : Calls Tryd.prog 7 #[.string s] w (PartEnd s w) := by
  by_cases h : s.size ≤ 600
  · exact specPartsOf_yes s w h
  · exact specPartsOf_no s w (by omega) hs
end Go.Proofs.YtmenkckdabfkcaaDoor
