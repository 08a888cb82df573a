/-
  Walks: whether a sign fits, and what it is worth.
-/
import Derived.Test.YtfnmpohcoabenaaDoorBegW
import Derived.Test.YtfnmpohcoabenaaDoorAidRow
import Derived.Test.YtfnmpohcoabenaaDoorWrtP
namespace Go.Proofs.YtfnmpohcoabenaaDoor
open Go.RowKit

set_option maxHeartbeats 1000000 in
theorem fits_any (x : Sg) (w : World) : Calls Tryd.prog 12 #[x.val] w fun e w' => e = .returned (.bool (fitsQ x.kind x.text.size)) ∧ Below w.heap.size w w' := by
  by_cases h1 : x.kind = 1
  · have e1 : fitsQ x.kind x.text.size = decide ((x.text.size : Int) ≤ 8) := by rw [fitsQ, if_pos h1]; simp only [decide_eq_decide]; omega
    rw [e1]
    go_enter Tryd.func12, Tryd.ntmps12
    go_wp2
    go_ret
    exact ⟨rfl, (Below.refl _ _).alloc (Nat.le_refl _) _⟩
  · have h1' : (x.kind == 1) = false := by simpa using h1
    by_cases h2 : x.kind = 2
    · have e1 : fitsQ x.kind x.text.size = decide ((x.text.size : Int) ≤ 6) := by rw [fitsQ, if_neg h1, if_pos h2]; simp only [decide_eq_decide]; omega
      rw [e1]
      go_enter Tryd.func12, Tryd.ntmps12
      go_wp2
      go_ret
      exact ⟨rfl, (Below.refl _ _).alloc (Nat.le_refl _) _⟩
    · have h2' : (x.kind == 2) = false := by simpa using h2
      have e1 : fitsQ x.kind x.text.size = decide (x.kind = 3) := by rw [fitsQ, if_neg h1, if_neg h2]
      rw [e1]
      go_enter Tryd.func12, Tryd.ntmps12
      go_wp2
      go_ret
      exact ⟨by first | rfl | simp, (Below.refl _ _).alloc (Nat.le_refl _) _⟩

set_option maxHeartbeats 1000000 in
theorem worth_any (x : Sg) (w : World) (hd : x.kind = 2 → x.text.size ≤ 6 ∧ ∀ j, (h : j < x.text.size) → 48 ≤ x.text[j].toNat ∧ x.text[j].toNat ≤ 57) :
    Calls Tryd.prog 13 #[x.val] w fun e w' => e = .returned (.int .i64 (worthQ x.kind x.text.data.toList)) ∧ Below w.heap.size w w' := by
  by_cases h2 : x.kind = 2
  · obtain ⟨h6, hdig⟩ := hd h2
    rw [worthQ, if_pos h2]
    obtain ⟨t, ht⟩ : ∃ t, t = x.text := ⟨_, rfl⟩
    rw [← ht] at h6 hdig ⊢
    have hx : x.val = .agg #[.int .i64 x.kind, .string t, .int .i64 x.num, .int .i64 x.place] := by rw [ht]
    rw [hx]
    have HD := hide hdig
    clear hd hdig ht hx
    go_enter Tryd.func13, Tryd.ntmps13
    go_wp2
    obtain ⟨wb, hwb⟩ : ∃ wb, w.alloc (.cells #[.int .i64 2, .string t, .int .i64 x.num, .int .i64 x.place] 36) = wb := ⟨_, rfl⟩
    have hsz : w.heap.size + 1 = wb.heap.size := by rw [← hwb]; simp
    have HB : Hid (Below w.heap.size w wb) := by rw [← hwb]; exact (Below.refl _ _).alloc (Nat.le_refl _) _
    simp only [hwb, hsz]
    clear hwb
    go_loopw [3] (fun nv wr => ∃ pos : Nat, wr = wb.iter t pos ∧ pos ≤ t.size ∧ nv = .int .i64 (figN (t.data.toList.take pos))) (fun _ wr => t.size - wr.iterPos wb.heap.size)
    case atStart => exact ⟨0, rfl, Nat.zero_le _, by simp [figN]⟩
    case round =>
      obtain ⟨pos, rfl, hps, rfl⟩ := hrel
      by_cases hp : pos < t.size
      · obtain ⟨hd1, hd2⟩ := HD.out pos hp
        have hst := hide (figN_take t pos hp)
        have hlt := figN_lt t HD.out pos hps
        have hpw : 10 ^ pos ≤ 10 ^ 6 := Nat.pow_le_pow_right (by omega) (by omega)
        obtain ⟨c, hc⟩ : ∃ c : Nat, c = t[pos].toNat := ⟨_, rfl⟩
        obtain ⟨n, hn⟩ : ∃ n : Nat, n = figN (t.data.toList.take pos) := ⟨_, rfl⟩
        have hnx : ∀ ty, (Instr.next (.pointer (some ⟨wb.heap.size, 0, none⟩)) true ty).run Tryd.prog (wb.iter t pos) = .ok (.tuple #[.bool true, .int .i64 pos, .int .i32 c]) (wb.iter t (pos + 1)) := fun ty => by
          rw [hc]; exact run_next_ascii wb t pos ty hp (by omega)
        rw [← hn] at hst hlt ⊢
        rw [← hc] at hst hd1 hd2
        have hn6 : n ≤ 1000000 := by omega
        have e1 : wrap64 ((n : Int) * 10) = (n : Int) * 10 := IntWalk.wrap64_in _ (by omega)
        have e2 : wrap32 ((c : Int) - 48) = (c : Int) - 48 := IntWalk.wrap32_in _ (by omega)
        have e3 : wrap64 ((n : Int) * 10 + ((c : Int) - 48)) = (n : Int) * 10 + ((c : Int) - 48) := IntWalk.wrap64_in _ (by omega)
        have e4 : wrap64 ((c : Int) - 48) = (c : Int) - 48 := IntWalk.wrap64_in _ (by omega)
        have HV : Hid ((n : Int) * 10 + ((c : Int) - 48) = ((n * 10 + (c - 48) : Nat) : Int)) := by show _ = _; omega
        clear hc hn hlt hpw
        go_wp2
        go_roundw
        case rel => exact ⟨pos + 1, rfl, by omega, by rw [hst.out, ← HV.out]⟩
        case measure => simp; omega
      · have hnx : ∀ ty, (Instr.next (.pointer (some ⟨wb.heap.size, 0, none⟩)) true ty).run Tryd.prog (wb.iter t pos) = _ := fun ty => run_next_end wb t pos ty hp
        have HE : Hid (t.data.toList.take pos = t.data.toList) := List.take_of_length_le (by rw [Array.length_toList]; show t.size ≤ pos; omega)
        go_wp2
        go_ret
        exact ⟨congrArg (fun l => Ending.returned (.int .i64 (figN l : Int))) HE.out, HB.out.alloc HB.out.size _⟩
  · have h2' : (x.kind == 2) = false := by simpa using h2
    rw [worthQ, if_neg h2]
    go_enter Tryd.func13, Tryd.ntmps13
    go_wp2
    go_ret
    exact ⟨rfl, (Below.refl _ _).alloc (Nat.le_refl _) _⟩
end Go.Proofs.YtfnmpohcoabenaaDoor
