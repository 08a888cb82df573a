/-
  Walk: what is printed, by the program.
-/
import Derived.Test.YtlfhoeogjipakaaPrtW
import Derived.Test.YtlfhoeogjipakaaLwPr
namespace Go.Proofs.Ytlfhoeogjipakaa
open Go.RowKit

set_option maxRecDepth 100000 in
set_option maxHeartbeats 4000000 in
theorem implPrintsOf_any (v : Value) (xs : List Vt) (w : World) (h : VtsAt w v xs) (hl : xs.length ≤ 1048576) :
    Calls Try.prog 7 #[v] w fun e w' => ∃ r, e = .returned r ∧ RiOwn w.heap.size w' r ⟨prints xs⟩ ∧ Below w.heap.size w w' := by
  have H := hide h
  obtain ⟨ao, c, rfl, _⟩ := h
  obtain ⟨n, en⟩ : ∃ n, xs.length = n := ⟨_, rfl⟩
  have EN := hide en
  rw [en] at H hl ⊢
  clear en
  have Z0 : Hid (PrZ w xs 0 (.slice (some ⟨w.heap.size, 0, none⟩) 0 0) (w.alloc (.cells #[] 3))) :=
    hide ⟨ownsRow_empty w w.heap.size 3 (Nat.le_refl _), (Below.refl _ _).alloc (Nat.le_refl _) _⟩
  go_enter Try.func7, Try.ntmps7
  go_wp2
  go_loopw [3, 9] (fun rv iv z => PrR w xs rv iv z) (fun _ iv _ => n - (intOf iv).toNat)
  case atStart => exact ⟨0, by omega, rfl, Z0⟩
  case round =>
    clear Z0
    obtain ⟨i, hi, rfl, Z⟩ := hrel
    rw [EN.out] at hi
    obtain ⟨rp, rk, rfl⟩ := form_own Z.out.own
    by_cases hlt : i < n
    · have hlt' : (i : Int) < (n : Int) := by omega
      have hi0 : (0 : Int) ≤ (i : Int) := by omega
      have hix : i < xs.length := by rw [EN.out]; exact hlt
      have hwi : wrap64 ((i : Int) + 1) = (i : Int) + 1 := by unfold wrap64; omega
      obtain ⟨ao', cc, e5, hc⟩ := H.out.stays Z.out.bel
      injection e5 with e6 e7 e8
      subst e6
      obtain ⟨a, rfl, hab, d0, d1, d2⟩ := hc i hix
      have HPT := hide (prints_take hix)
      have HLE := hide (prints_take_le xs i)
      obtain ⟨y, ey⟩ : ∃ y, xs[i] = y := ⟨_, rfl⟩
      rw [ey] at d0 d1 d2 HPT
      clear hc e7 e8 ey
      have HL : Hid (((prints (xs.take i)).map I64).length = (prints (xs.take i)).length) := hide (List.length_map ..)
      by_cases hk : y.kind = 5
      · rw [if_pos hk] at HPT
        rw [hk] at d1
        have ZE := hide (Z.out.stays ((Below.refl _ _).alloc (Nat.le_refl _) (.cells #[.int .i64 y.process, .int .i64 5, .int .i64 y.num] 34)))
        go_upto_region 6 with fail
        obtain ⟨w1, hw1⟩ : ∃ w1, wr.alloc (.cells #[.int .i64 y.process, .int .i64 5, .int .i64 y.num] 34) = w1 := ⟨_, rfl⟩
        have BE : Hid (Box w1 wr.heap.size #[.int .i64 y.process, .int .i64 5, .int .i64 y.num] 34) := hide (hw1 ▸ Box.made wr _ _)
        rw [hw1] at ZE ⊢
        have HS : Hid (wr.heap.size < w1.heap.size) := hide (by rw [← hw1]; simp)
        clear hw1
        have f2 := Lib.cell_of_heap BE.out 2
        have BP := hide (Box.made w1 #[.int .i64 y.num] 3)
        have ZA := hide (ZE.out.stays ((Below.refl _ _).alloc (Nat.le_refl _) (.cells #[.int .i64 y.num] 3)))
        go_wp2_with (at_builtin; refine wpList_more rfl (.tmp 16) (.tmp 19) 24 rfl w.heap.size 3 (.int .i64 0) 8 Try.underlying24 Try.infoInt rfl (.slice rp ((prints (xs.take i)).map I64).length rk) ((prints (xs.take i)).map I64) rfl ?_ w1.heap.size (.int .i64 y.num) rfl ?_ rfl ?_ ?_ ?_ ?_)
        · exact ZA.out.own
        · exact Lib.cell_of_heap BP.out 0
        · rw [HL.out]; have := HLE.out; rw [EN.out] at this; unfold maxLen; omega
        · rw [HL.out]; have := HLE.out; rw [EN.out] at this; omega
        · exact Nat.le_trans ZE.out.bel.size (by simp)
        intro v' w' hm
        have Z9 : Hid (PrZ w xs (i + 1) v' w') := hide ⟨by
          rw [HPT.out, List.map_append]
          have h9 := hm.own
          rw [List.length_append]
          exact h9, ZA.out.bel.trans (hm.bel.mono (Nat.le_refl _))⟩
        clear hm ZA BP
        go_wp2
        go_roundw
        case rel => exact ⟨i + 1, by rw [EN.out]; omega, by go_num, Z9⟩
        case measure => simp [intOf]; omega
      · rw [if_neg hk, List.append_nil] at HPT
        have Z2 : Hid (PrZ w xs (i + 1) (.slice rp ((prints (xs.take i)).map I64).length rk) (wr.alloc (.cells #[.int .i64 y.process, .int .i64 y.kind, .int .i64 y.num] 34))) := hide ((⟨by rw [HPT.out]; exact Z.out.own, Z.out.bel⟩ : PrZ w xs (i + 1) _ wr).stays ((Below.refl _ _).alloc (Nat.le_refl _) _))
        go_wp2
        go_roundw
        case rel => exact ⟨i + 1, by rw [EN.out]; omega, by go_num, Z2⟩
        case measure => simp [intOf]; omega
    · have hlt' : ¬ (i : Int) < (n : Int) := by omega
      have e9 : xs.take i = xs := List.take_of_length_le (by rw [EN.out]; omega)
      have HO := hide Z.out.own
      rw [e9, List.length_map] at HO
      rw [e9, List.length_map]
      clear e9
      go_wp2
      go_ret
      exact ⟨_, rfl, ⟨HO.out⟩, Z.out.bel⟩
end Go.Proofs.Ytlfhoeogjipakaa

namespace Go.Proofs.Ytlfhoeogjipakaa
open Go.RowKit

theorem lawPrintsOf_whole (v : Value) (x : Rvt) (w : World) (h : RvtAt w v x) (m : RvtMax x) :
    Calls Try.prog 3 #[v] w fun e w' => e = .returned (.bool true) ∧ Below w.heap.size w w' :=
  lawPrintsOf v x w h m (fun hl a z _ hc => specPrintsOf_any a x.row z hc.at.a0 (szRvt_len hl).l0) (fun hl a z _ hc => implPrintsOf_any a x.row z hc.at.a0 (szRvt_len hl).l0) (fun hl => ⟨Nat.le_trans (prints_len _) (szRvt_len hl).l0⟩)
end Go.Proofs.Ytlfhoeogjipakaa
