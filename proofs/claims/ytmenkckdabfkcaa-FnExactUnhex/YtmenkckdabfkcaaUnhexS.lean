/-
  Walks: figures of the base 16 read, by the specification.
-/
import Derived.Test.YtmenkckdabfkcaaFigW
namespace Go.Proofs.Ytmenkckdabfkcaa
open Go.RowKit

/-- Two figures are worth a byte. -/
def pairsL : List Int → List Int
  | h :: l :: r => (16 * h + l) :: pairsL r
  | _ => []
theorem pairsL_snoc : ∀ (k : Nat) (ds : List Int) (h l : Int), ds.length = 2 * k → pairsL (ds ++ [h, l]) = pairsL ds ++ [16 * h + l]
  | 0, ds, h, l, e => by
    have : ds = [] := List.length_eq_zero_iff.1 (by omega)
    subst this; rfl
  | k + 1, [], h, l, e => by simp at e <;> omega
  | k + 1, [a], h, l, e => by simp at e <;> omega
  | k + 1, a :: b :: ds, h, l, e => by
    have := pairsL_snoc k ds h l (by simp at e; omega)
    simp [pairsL, this]
theorem pairsL_length : ∀ (k : Nat) (ds : List Int), ds.length = 2 * k → (pairsL ds).length = k
  | 0, ds, e => by
    have : ds = [] := List.length_eq_zero_iff.1 (by omega)
    subst this; rfl
  | k + 1, [], e => by simp at e <;> omega
  | k + 1, [a], e => by simp at e <;> omega
  | k + 1, a :: b :: ds, e => by
    have := pairsL_length k ds (by simp at e; omega)
    simp [pairsL, this]

/-- What a byte is worth, or -1. -/
def vI (c : Nat) : Int := match dv 16 c with
  | some d => (d : Int)
  | none => -1
theorem vI_some {c d : Nat} (h : dv 16 c = some d) : vI c = (d : Int) := by unfold vI; rw [h]
theorem vI_none {c : Nat} (h : dv 16 c = none) : vI c = -1 := by unfold vI; rw [h]
theorem vI_neg {c : Nat} (h : vI c < 0) : dv 16 c = none := by
  cases e : dv 16 c with
  | none => rfl
  | some d => rw [vI_some e] at h; omega
theorem vI_pos {c : Nat} (h : ¬ vI c < 0) : ∃ d : Nat, dv 16 c = some d ∧ vI c = (d : Int) ∧ d < 16 := by
  cases e : dv 16 c with
  | none => rw [vI_none e] at h; omega
  | some d => exact ⟨d, rfl, vI_some e, (dv_some e).1⟩

theorem value_any (c : Nat) (w : World) (hc : c < 256) : Calls Try.prog 28 #[.int .u8 c] w fun e w' => e = .returned (.int .i64 (vI c)) ∧ w = w' := by
  by_cases h1 : 48 ≤ c
  · by_cases h2 : c ≤ 57
    · have e : vI c = (c : Int) - 48 := by rw [vI_some (d := c - 48) (by unfold dv; rw [if_pos (by omega)])]; omega
      have d1 : decide ((c : Int) ≤ 57) = true := by simp; omega
      rw [e]
      go_enter Try.func28, Try.ntmps28
      go_wp2
      go_ret
      exact ⟨rfl, rfl⟩
    · have d1 : decide ((c : Int) ≤ 57) = false := by simp; omega
      by_cases h3 : 97 ≤ c
      · by_cases h4 : c ≤ 102
        · have e : vI c = (c : Int) - 97 + 10 := by rw [vI_some (d := c - 87) (by unfold dv; rw [if_neg (by omega), if_pos (by omega)])]; omega
          have d2 : decide ((c : Int) ≤ 102) = true := by simp; omega
          rw [e]
          go_enter Try.func28, Try.ntmps28
          go_wp2
          go_ret
          exact ⟨rfl, rfl⟩
        · have e : vI c = -1 := vI_none (by unfold dv; rw [if_neg (by omega), if_neg (by omega)])
          have d2 : decide ((c : Int) ≤ 102) = false := by simp; omega
          rw [e]
          go_enter Try.func28, Try.ntmps28
          go_wp2
          go_ret
          exact ⟨rfl, rfl⟩
      · have e : vI c = -1 := vI_none (by unfold dv; rw [if_neg (by omega), if_neg (by omega)])
        rw [e]
        go_enter Try.func28, Try.ntmps28
        go_wp2
        go_ret
        exact ⟨rfl, rfl⟩
  · have e : vI c = -1 := vI_none (by unfold dv; rw [if_neg (by omega), if_neg (by omega)])
    rw [e]
    go_enter Try.func28, Try.ntmps28
    go_wp2
    go_ret
    exact ⟨rfl, rfl⟩

/-- What the loop keeps. -/
def UnRel (s : ByteArray) (w : World) (v i : Value) (wr : World) : Prop :=
  ∃ (k : Nat) (ds : List Int), 2 * k ≤ s.size ∧ i = .int .i64 ((2 * k : Nat) : Int) ∧ ds.length = 2 * k ∧ Hid (numsB 16 (s.data.toList.take (2 * k)) = some ds) ∧ wr.ownsRow w.heap.size 5 1 v k ((pairsL ds).map (Value.int .u8)) ∧ Below w.heap.size w wr

/-- What is handed back: the text that the figures are of, or that there is none. -/
def UnEnd (s : ByteArray) (w : World) (e : Ending) (w' : World) : Prop :=
  ((∃ ds, numsB 16 s.data.toList = some ds ∧ e = .returned (.tuple #[.string (strOfNums (pairsL ds)), .bool true])) ∨ (numsB 16 s.data.toList = none ∧ e = .returned (.tuple #[.string ⟨#[]⟩, .bool false]))) ∧ Below w.heap.size w w'

set_option maxRecDepth 100000 in
set_option maxHeartbeats 1000000 in
theorem specUnhex_yes (s : ByteArray) (w : World) (hs : s.size ≤ 40000) (he : s.size % 2 = 0) : Calls Try.prog 20 #[.string s] w (UnEnd s w) := by
  have hd : decide ((40000 : Int) < (s.size : Int)) = false := by simp; omega
  have hd2 : ((s.size : Int) % 2 != 0) = false := by simp; omega
  go_enter Try.func20, Try.ntmps20
  go_wp2
  go_loopw [4, 5] (fun v i wr => UnRel s w v i wr) (fun _ i _ => s.size - (intOf i).toNat)
  case atStart => exact ⟨0, [], by omega, rfl, rfl, rfl, ownsRow_empty _ _ _ (Nat.le_refl _), (Below.refl _ _).alloc (Nat.le_refl _) _⟩
  case round =>
    obtain ⟨k, ds, hk, rfl, hds, hnums, hown, hb⟩ := hrel
    have hsz := hb.size
    by_cases hlt : 2 * k < s.size
    · have hlt2 : 2 * k + 1 < s.size := by omega
      obtain ⟨c, hc⟩ : ∃ c : Nat, c = s[2 * k].toNat := ⟨_, rfl⟩
      obtain ⟨d, hd'⟩ : ∃ d : Nat, d = s[2 * k + 1].toNat := ⟨_, rfl⟩
      have hc8 : c < 256 := by rw [hc]; exact s[2 * k].toNat_lt
      have hd8 : d < 256 := by rw [hd']; exact s[2 * k + 1].toNat_lt
      have hix : ∀ wx : World, (Instr.index 9 (.string s) (.int .i64 (2 * (k : Int)))).run Try.prog wx = .ok (.int .u8 (c : Int)) wx := fun wx => by
        have := index_str (P := Try.prog) Try.underlying9 s (2 * k) hlt wx
        rw [hc]; simpa using this
      have hiy : ∀ wx : World, (Instr.index 9 (.string s) (.int .i64 (2 * (k : Int) + 1))).run Try.prog wx = .ok (.int .u8 (d : Int)) wx := fun wx => by
        have := index_str (P := Try.prog) Try.underlying9 s (2 * k + 1) hlt2 wx
        rw [hd']; simpa using this
      have HC := hide hc
      have HD := hide hd'
      clear hc hd'
      by_cases hx : vI c < 0
      · have HF := hide (numsB_bad (base := 16) s.data.toList s[2 * k] (mem_at s (2 * k) hlt) (by rw [← HC.out]; exact vI_neg hx))
        by_cases hy : vI d < 0
        · go_wp2_with (go_at_call 28; refine (value_any _ _ (by assumption)).mono ?_; rintro e w1 ⟨rfl, rfl⟩)
          go_ret2
          exact ⟨.inr ⟨HF.out, rfl⟩, hb⟩
        · go_wp2_with (go_at_call 28; refine (value_any _ _ (by assumption)).mono ?_; rintro e w1 ⟨rfl, rfl⟩)
          go_ret2
          exact ⟨.inr ⟨HF.out, rfl⟩, hb⟩
      · by_cases hy : vI d < 0
        · have HF := hide (numsB_bad (base := 16) s.data.toList s[2 * k + 1] (mem_at s (2 * k + 1) hlt2) (by rw [← HD.out]; exact vI_neg hy))
          go_wp2_with (go_at_call 28; refine (value_any _ _ (by assumption)).mono ?_; rintro e w1 ⟨rfl, rfl⟩)
          go_ret2
          exact ⟨.inr ⟨HF.out, rfl⟩, hb⟩
        · obtain ⟨x, ex, hxv, hx16⟩ := vI_pos hx
          obtain ⟨y, ey, hyv, hy16⟩ := vI_pos hy
          have cx := fun w => hide (value_any c w hc8)
          have cy := fun w => hide (value_any d w hd8)
          rw [hxv] at cx
          rw [hyv] at cy
          have HN : Hid (numsB 16 (s.data.toList.take (2 * k + 1 + 1)) = some (ds ++ [(x : Int), (y : Int)])) := by
            have h1 := numsB_step hlt hnums.out (by rw [← HC.out]; exact ex)
            have h2 := numsB_step hlt2 h1 (by rw [← HD.out]; exact ey)
            have : ds ++ [(x : Int), (y : Int)] = ds ++ [(x : Int)] ++ [(y : Int)] := by simp
            rw [this]; exact h2
          clear hx hy hxv hyv ex ey
          go_wp2_with (first | (go_at_call_of 28 (Value.int IntKind.u8 (c : Int)); refine (unhide (cx _)).mono ?_; rintro e w1 ⟨rfl, rfl⟩) | (go_at_call_of 28 (Value.int IntKind.u8 (d : Int)); refine (unhide (cy _)).mono ?_; rintro e w1 ⟨rfl, rfl⟩) | (at_builtin; refine wpList_app1 rfl (.tmp 39) (.tmp 45) 36 rfl w.heap.size 5 (.int .u8 0) 1 Try.underlying36 Try.info5 rfl _ k _ _ rfl hown rfl rfl (by unfold maxLen; omega) (by omega) (by omega) ?_))
          intro v' w1 hown' hb1
          have HO := hide hown'
          have HB := hide hb1
          clear hown hown' hb1
          go_wp2
          go_roundw
          case rel =>
            refine ⟨k + 1, ds ++ [(x : Int), (y : Int)], by omega, by go_num, by simp; omega, HN, ?_, hb.trans HB.out⟩
            rw [pairsL_snoc k ds _ _ hds]
            have := HO.out
            simpa using this
          case measure => simp [intOf]; omega
    · have hf : numsB 16 s.data.toList = some ds := by rw [← hnums.out, take_all s (2 * k) (by omega)]
      have HF := hide hf
      have hc : (convert 36 9 u4).run Try.prog wr = .ok (.string (strOfNums (pairsL ds))) wr := conv_own 36 9 5 Try.underlying36 Try.underlying5 Try.underlying9 hown
      clear hown hf
      go_wp2
      go_ret2
      exact ⟨.inl ⟨ds, HF.out, rfl⟩, hb⟩
end Go.Proofs.Ytmenkckdabfkcaa
