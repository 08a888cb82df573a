/-
  Walk: what is printed, by the specification.
-/
import Derived.Test.YtlfhoeogjipakaaPrtP
import Derived.Test.YtlfhoeogjipakaaFlK
import Derived.Test.YtlfhoeogjipakaaScoI
namespace Go.Proofs.Ytlfhoeogjipakaa
open Go.RowKit

/-- While what is printed is told. -/
structure PrZ (w : World) (xs : List Vt) (i : Nat) (r : Value) (z : World) : Prop where
  own : z.ownsRow w.heap.size 3 1 r ((prints (xs.take i)).map I64).length ((prints (xs.take i)).map I64)
  bel : Below w.heap.size w z
theorem PrZ.stays {w : World} {xs : List Vt} {i : Nat} {r : Value} {z z' : World} (h : PrZ w xs i r z) (hb : Below z.heap.size z z') : PrZ w xs i r z' :=
  ⟨owns_eq h.own fun g hg => hb.block g (h.own.lt g hg).2, h.bel.trans (hb.mono h.bel.size)⟩
theorem prints_take {xs : List Vt} {i : Nat} (h : i < xs.length) : prints (xs.take (i + 1)) = prints (xs.take i) ++ (if xs[i].kind = 5 then [xs[i].num] else []) := by
  rw [List.take_succ_eq_append_getElem h, prints_snoc]
theorem prints_take_le (xs : List Vt) (i : Nat) : (prints (xs.take i)).length ≤ xs.length := Nat.le_trans (prints_len _) (by rw [List.length_take]; omega)
def PrR (w : World) (xs : List Vt) (rv iv : Value) (z : World) : Prop := ∃ (i : Nat), i ≤ xs.length ∧ iv = .int .i64 (i : Int) ∧ Hid (PrZ w xs i rv z)

set_option maxRecDepth 100000 in
set_option maxHeartbeats 4000000 in
theorem specPrintsOf_any (v : Value) (xs : List Vt) (w : World) (h : VtsAt w v xs) (hl : xs.length ≤ 1048576) :
    Calls Try.prog 5 #[v] w fun e w' => ∃ r, e = .returned r ∧ RiOwn w.heap.size w' r ⟨prints xs⟩ ∧ Below w.heap.size w w' := by
  have H := hide h
  obtain ⟨ao, c, rfl, _⟩ := h
  obtain ⟨n, en⟩ : ∃ n, xs.length = n := ⟨_, rfl⟩
  have EN := hide en
  rw [en] at H hl ⊢
  clear en
  have Z0 : Hid (PrZ w xs 0 (.slice (some ⟨w.heap.size, 0, none⟩) 0 0) (w.alloc (.cells #[] 3))) :=
    hide ⟨ownsRow_empty w w.heap.size 3 (Nat.le_refl _), (Below.refl _ _).alloc (Nat.le_refl _) _⟩
  go_enter Try.func5, Try.ntmps5
  go_wp2
  go_loopw [3, 4] (fun rv iv z => PrR w xs rv iv z) (fun _ iv _ => n - (intOf iv).toNat)
  case atStart => exact ⟨0, by omega, rfl, Z0⟩
  case round =>
    clear Z0
    obtain ⟨i, hi, rfl, Z⟩ := hrel
    rw [EN.out] at hi
    obtain ⟨rp, rk, rfl⟩ := form_own Z.out.own
    by_cases hlt : i < n
    · have hlt' : (i : Int) < (n : Int) := by omega
      have hi0 : (0 : Int) ≤ (i : Int) := by omega
      have hix : i < xs.length := by rw [EN.out]; exact hlt
      have hwi : wrap64 ((i : Int) + 1) = (i : Int) + 1 := by unfold wrap64; omega
      obtain ⟨ao', cc, e5, hc⟩ := H.out.stays Z.out.bel
      injection e5 with e6 e7 e8
      subst e6
      obtain ⟨a, rfl, hab, d0, d1, d2⟩ := hc i hix
      have HPT := hide (prints_take hix)
      have HLE := hide (prints_take_le xs i)
      obtain ⟨y, ey⟩ : ∃ y, xs[i] = y := ⟨_, rfl⟩
      rw [ey] at d0 d1 d2 HPT
      clear hc e7 e8 ey
      have HL : Hid (((prints (xs.take i)).map I64).length = (prints (xs.take i)).length) := hide (List.length_map ..)
      by_cases hk : y.kind = 5
      · rw [if_pos hk] at HPT
        rw [hk] at d1
        have e2 : ∀ o, (wr.alloc o).cell? { block := (a.add (i * 3)).block, off := (a.add (i * 3)).off + 2 } = some (.int .i64 y.num) := fun o => by
          rw [World.cell?_alloc_lt _ _ _ (by rw [block_add]; exact hab)]
          exact d2
        have BP := hide (Box.made wr #[.int .i64 y.num] 3)
        have ZA := hide (Z.out.stays ((Below.refl _ _).alloc (Nat.le_refl _) (.cells #[.int .i64 y.num] 3)))
        go_wp2_with (at_builtin; refine wpList_more rfl (.tmp 18) (.tmp 24) 24 rfl w.heap.size 3 (.int .i64 0) 8 Try.underlying24 Try.infoInt rfl (.slice rp ((prints (xs.take i)).map I64).length rk) ((prints (xs.take i)).map I64) rfl ?_ wr.heap.size (.int .i64 y.num) rfl ?_ rfl ?_ ?_ ?_ ?_)
        · exact ZA.out.own
        · exact Lib.cell_of_heap BP.out 0
        · rw [HL.out]; have := HLE.out; rw [EN.out] at this; unfold maxLen; omega
        · rw [HL.out]; have := HLE.out; rw [EN.out] at this; omega
        · exact Nat.le_trans Z.out.bel.size (by simp)
        intro v' w' hm
        have Z9 : Hid (PrZ w xs (i + 1) v' w') := hide ⟨by
          rw [HPT.out, List.map_append]
          have h9 := hm.own
          rw [List.length_append]
          exact h9, ZA.out.bel.trans (hm.bel.mono (Nat.le_refl _))⟩
        clear hm ZA BP
        go_wp2
        go_roundw
        case rel => exact ⟨i + 1, by rw [EN.out]; omega, by go_num, Z9⟩
        case measure => simp [intOf]; omega
      · rw [if_neg hk, List.append_nil] at HPT
        have Z2 : Hid (PrZ w xs (i + 1) (.slice rp ((prints (xs.take i)).map I64).length rk) wr) := hide ⟨by rw [HPT.out]; exact Z.out.own, Z.out.bel⟩
        go_wp2
        go_roundw
        case rel => exact ⟨i + 1, by rw [EN.out]; omega, by go_num, Z2⟩
        case measure => simp [intOf]; omega
    · have hlt' : ¬ (i : Int) < (n : Int) := by omega
      have e9 : xs.take i = xs := List.take_of_length_le (by rw [EN.out]; omega)
      have HO := hide Z.out.own
      rw [e9, List.length_map] at HO
      rw [e9, List.length_map]
      clear e9
      go_wp2
      go_ret
      exact ⟨_, rfl, ⟨HO.out⟩, Z.out.bel⟩
end Go.Proofs.Ytlfhoeogjipakaa
