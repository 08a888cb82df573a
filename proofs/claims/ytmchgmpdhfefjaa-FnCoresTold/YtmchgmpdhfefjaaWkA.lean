/-
  Walks: the state of a core, by the program: out of a core that is handed in.
-/
import Derived.Test.YtmchgmpdhfefjaaCorQ
import Derived.Test.YtmchgmpdhfefjaaCloW
import Derived.Test.YtmchgmpdhfefjaaInsP
import Derived.Laws.CopyOwn
import Derived.Deep.RegionLaw
import Derived.Deep.RegionHeld3
import Derived.Deep.Cut
namespace Go.Proofs.Ytmchgmpdhfefjaa
open Go.RowKit

theorem eight {xs : List Int} (h : xs.length = 8) : ∃ r0 r1 r2 r3 r4 r5 r6 r7, xs = [r0, r1, r2, r3, r4, r5, r6, r7] := by
  match xs, h with
  | [r0, r1, r2, r3, r4, r5, r6, r7], _ => exact ⟨_, _, _, _, _, _, _, _, rfl⟩
/-- Ten cells of a box are written. -/
theorem put10 {z : World} {g T : Nat} {c0 c1 c2 c3 c4 c5 c6 c7 c8 c9 : Value} (h : Box z g #[c0, c1, c2, c3, c4, c5, c6, c7, c8, c9] T) (u0 u1 u2 u3 u4 u5 u6 u7 u8 u9 : Value) :
    ∃ W, ((((((((((z.setCell ⟨g, 0, none⟩ (u0)).setCell ⟨g, 1, none⟩ (u1)).setCell ⟨g, 2, none⟩ (u2)).setCell ⟨g, 3, none⟩ (u3)).setCell ⟨g, 4, none⟩ (u4)).setCell ⟨g, 5, none⟩ (u5)).setCell ⟨g, 6, none⟩ (u6)).setCell ⟨g, 7, none⟩ (u7)).setCell ⟨g, 8, none⟩ (u8)).setCell ⟨g, 9, none⟩ (u9)) = W ∧ Box W g #[u0, u1, u2, u3, u4, u5, u6, u7, u8, u9] T ∧ Below g z W :=
  ⟨_, rfl, by simpa using (((((((((h.set 0 u0).set 1 u1).set 2 u2).set 3 u3).set 4 u4).set 5 u5).set 6 u6).set 7 u7).set 8 u8).set 9 u9,
    (((((((((((Below.refl _ _).setCell (p := ⟨g, 0, none⟩) (Nat.le_refl _) _).setCell (p := ⟨g, 1, none⟩) (Nat.le_refl _) _).setCell (p := ⟨g, 2, none⟩) (Nat.le_refl _) _).setCell (p := ⟨g, 3, none⟩) (Nat.le_refl _) _).setCell (p := ⟨g, 4, none⟩) (Nat.le_refl _) _).setCell (p := ⟨g, 5, none⟩) (Nat.le_refl _) _).setCell (p := ⟨g, 6, none⟩) (Nat.le_refl _) _).setCell (p := ⟨g, 7, none⟩) (Nat.le_refl _) _).setCell (p := ⟨g, 8, none⟩) (Nat.le_refl _) _).setCell (p := ⟨g, 9, none⟩) (Nat.le_refl _) _)⟩

set_option maxRecDepth 100000 in
set_option maxHeartbeats 2000000 in
theorem implStateOf_no (v : Value) (x : Co) (w : World) (h : CoAt w v x) (hl : CoLen x) (h8 : x.regs.length ≠ 8) :
    Calls Try.prog 29 #[.agg #[v, .int .i64 x.pc, .int .i64 x.process]] w fun e w' => e = .returned (.tuple #[.agg #[.int .i64 0, .int .i64 0, .int .i64 0, .int .i64 0, .int .i64 0, .int .i64 0, .int .i64 0, .int .i64 0, .int .i64 0, .int .i64 0], .bool false]) ∧ Below w.heap.size w w' := by
  have L0 := hl.l0
  obtain ⟨o, c, rfl, _⟩ := h.a0
  clear h hl
  obtain ⟨n, en⟩ : ∃ n, x.regs.length = n := ⟨_, rfl⟩
  rw [en] at h8 L0 ⊢
  clear en
  have h8' : ((n : Int) != 8) = true := by simp; omega
  obtain ⟨p, ep⟩ : ∃ p, x.pc = p := ⟨_, rfl⟩
  obtain ⟨q, eq⟩ : ∃ q, x.process = q := ⟨_, rfl⟩
  rw [ep, eq]
  clear ep eq
  go_enter Try.func29, Try.ntmps29
  go_wp2
  refine box_retV (g := w.heap.size + 1) (t := 57) (cs := #[.int .i64 0, .int .i64 0, .int .i64 0, .int .i64 0, .int .i64 0, .int .i64 0, .int .i64 0, .int .i64 0, .int .i64 0, .int .i64 0]) rfl rfl ?_ _ Try.underlying57 rfl (by kernel_rfl) rfl ?_
  · exact (Box.madeAt (by simp) _ _).stays ((Below.refl _ _).alloc (Nat.le_refl _) _)
  · exact ⟨rfl, by go_grown⟩

set_option maxRecDepth 100000 in
set_option maxHeartbeats 4000000 in
theorem implStateOf_yes (v : Value) (r0 r1 r2 r3 r4 r5 r6 r7 p q : Int) (w : World) (h : IntsAt w v [r0, r1, r2, r3, r4, r5, r6, r7]) :
    Calls Try.prog 29 #[.agg #[v, .int .i64 p, .int .i64 q]] w fun e w' => e = .returned (.tuple #[.agg #[.int .i64 r0, .int .i64 r1, .int .i64 r2, .int .i64 r3, .int .i64 r4, .int .i64 r5, .int .i64 r6, .int .i64 r7, .int .i64 p, .int .i64 q], .bool true]) ∧ Below w.heap.size w w' := by
  obtain ⟨W3, hW⟩ : ∃ W3, ((w.alloc (.cells #[v, .int .i64 p, .int .i64 q] 26)).alloc (.cells #[.int .i64 0, .int .i64 0, .int .i64 0, .int .i64 0, .int .i64 0, .int .i64 0, .int .i64 0, .int .i64 0, .int .i64 0, .int .i64 0] 57)).alloc (.cells #[.int .i64 0, .int .i64 0, .int .i64 0, .int .i64 0, .int .i64 0, .int .i64 0, .int .i64 0, .int .i64 0, .int .i64 p, .int .i64 q] 57) = W3 := ⟨_, rfl⟩
  have HB : Hid (Below w.heap.size w W3) := by rw [← hW]; show Below w.heap.size w _; go_grown
  have B0 : Hid (Box W3 w.heap.size #[v, .int .i64 p, .int .i64 q] 26) := by rw [← hW]; exact hide (((Box.made _ _ _).stays ((Below.refl _ _).alloc (Nat.le_refl _) _)).stays ((Below.refl _ _).alloc (Nat.le_refl _) _))
  have B1 : Hid (Box W3 (w.heap.size + 1) #[.int .i64 0, .int .i64 0, .int .i64 0, .int .i64 0, .int .i64 0, .int .i64 0, .int .i64 0, .int .i64 0, .int .i64 0, .int .i64 0] 57) := by rw [← hW]; exact hide ((Box.madeAt (by simp) _ _).stays ((Below.refl _ _).alloc (Nat.le_refl _) _))
  have B2 : Hid (Box W3 (w.heap.size + 1 + 1) #[.int .i64 0, .int .i64 0, .int .i64 0, .int .i64 0, .int .i64 0, .int .i64 0, .int .i64 0, .int .i64 0, .int .i64 p, .int .i64 q] 57) := by rw [← hW]; exact hide (Box.madeAt (by simp) _ _)
  have HS : Hid (W3.heap.size = w.heap.size + 1 + 1 + 1) := by rw [← hW]; show _ = _; simp
  have HA := hide (h.stays HB.out)
  have HW := hide hW
  clear hW h
  obtain ⟨o, c, ev, _⟩ := HA.out
  obtain rfl : v = .slice o 8 c := ev
  obtain ⟨X, eX⟩ : ∃ X, ([r0, r1, r2, r3, r4, r5, r6, r7].map I64) = X := ⟨_, rfl⟩
  have EX := hide eX
  have HX : Hid (X.length = 8) := by rw [← EX.out]; rfl
  have H1 : Hid (∀ u ∈ X, u.oneCell' = true) := by
    refine hide ?_
    rw [← EX.out]
    intro u hu
    obtain ⟨y, _, rfl⟩ := List.mem_map.1 hu
    rfl
  have HP : Hid (∀ z : World, z.heap = W3.heap → 0 < X.length → ∃ ad, o = some ad ∧ ∀ j u, X[j]? = some u → z.cell? (ad.add j) = some u) := by
    refine hide fun z hz _ => ?_
    obtain ⟨o', c', e, hc⟩ := HA.out
    injection e with e1 e2 e3
    subst e1
    obtain ⟨a, ha, _⟩ := hc 0 (by simp)
    refine ⟨a, ha, fun j u hj => ?_⟩
    rw [← EX.out, List.getElem?_map] at hj
    obtain ⟨x, hx, rfl⟩ := Option.map_eq_some_iff.1 hj
    obtain ⟨hj2, rfl⟩ := List.getElem?_eq_some_iff.1 hx
    obtain ⟨a', ha', hb', hcell⟩ := hc j hj2
    obtain rfl : a = a' := by rw [ha] at ha'; injection ha'
    rw [← hcell]
    exact World.cell?_of_block (by rw [hz])
  clear eX
  go_enter Try.func29, Try.ntmps29
  go_upto_region 4 with fail
  rw [HW.out]
  clear HW
  have q0 := Lib.cell_of_heap B0.out 0
  have q1 := Lib.cell_of_heap B0.out 1
  have q2 := Lib.cell_of_heap B0.out 2
  simp at q0 q1 q2
  go_region_law (refine step_copy_splice rfl (.tmp 16) (.tmp 18) 24 24 rfl 3 Try.underlying24 (by kernel_rfl) _ _ _ _ _ _ rfl rfl (w.heap.size + 1 + 1) 0 [.int .i64 0, .int .i64 0, .int .i64 0, .int .i64 0, .int .i64 0, .int .i64 0, .int .i64 0, .int .i64 0, .int .i64 p, .int .i64 q] 57 B2.out X (by rw [HX.out]; rfl) (fun h => ⟨rfl, HP.out _ rfl h⟩) (by rw [HX.out]; simp) H1.out (w.heap.size + 1 + 1) W3 ⟨rfl, rfl, rfl, Nat.le_refl _, fun _ _ => rfl⟩ (Nat.le_refl _) ?_; intro w2 HG2 hB2)
  all_goals
    have Y2 : Box w2 (w.heap.size + 1 + 1) #[.int .i64 r0, .int .i64 r1, .int .i64 r2, .int .i64 r3, .int .i64 r4, .int .i64 r5, .int .i64 r6, .int .i64 r7, .int .i64 p, .int .i64 q] 57 := by
      have h := HG2.out
      rw [← EX.out] at h
      exact h
    have Y1 := (hB2.block (w.heap.size + 1) (by omega)).trans B1.out
    have hb := hide (HB.out.trans (hB2.mono (by omega)))
    obtain ⟨W9, e9, hB9, hk9⟩ := put10 Y1 (.int .i64 r0) (.int .i64 r1) (.int .i64 r2) (.int .i64 r3) (.int .i64 r4) (.int .i64 r5) (.int .i64 r6) (.int .i64 r7) (.int .i64 p) (.int .i64 q)
    have E9 := hide e9
    have F9 := hide (And.intro hB9 (hb.out.trans (hk9.mono (by omega))))
    have HY1 : Hid (Box w2 (w.heap.size + 1) #[.int .i64 0, .int .i64 0, .int .i64 0, .int .i64 0, .int .i64 0, .int .i64 0, .int .i64 0, .int .i64 0, .int .i64 0, .int .i64 0] 57) := hide Y1
    clear e9 hB9 hk9 Y1 HG2 hB2 q0 q1 q2 HP H1 HX EX B0 B1 B2 HA HB
    have q0 := Lib.cell_of_heap Y2 0
    have q1 := Lib.cell_of_heap Y2 1
    have q2 := Lib.cell_of_heap Y2 2
    have q3 := Lib.cell_of_heap Y2 3
    have q4 := Lib.cell_of_heap Y2 4
    have q5 := Lib.cell_of_heap Y2 5
    have q6 := Lib.cell_of_heap Y2 6
    have q7 := Lib.cell_of_heap Y2 7
    have q8 := Lib.cell_of_heap Y2 8
    have q9 := Lib.cell_of_heap Y2 9
    simp at q0 q1 q2 q3 q4 q5 q6 q7 q8 q9
    have c0 := Lib.cell_of_heap HY1.out 0
    have c1 := Lib.cell_of_heap HY1.out 1
    have c2 := Lib.cell_of_heap HY1.out 2
    have c3 := Lib.cell_of_heap HY1.out 3
    have c4 := Lib.cell_of_heap HY1.out 4
    have c5 := Lib.cell_of_heap HY1.out 5
    have c6 := Lib.cell_of_heap HY1.out 6
    have c7 := Lib.cell_of_heap HY1.out 7
    have c8 := Lib.cell_of_heap HY1.out 8
    have c9 := Lib.cell_of_heap HY1.out 9
    simp at c0 c1 c2 c3 c4 c5 c6 c7 c8 c9
    have f0 := Lib.frozen_of_heap HY1.out 0
    have f1 := Lib.frozen_of_heap HY1.out 1
    have f2 := Lib.frozen_of_heap HY1.out 2
    have f3 := Lib.frozen_of_heap HY1.out 3
    have f4 := Lib.frozen_of_heap HY1.out 4
    have f5 := Lib.frozen_of_heap HY1.out 5
    have f6 := Lib.frozen_of_heap HY1.out 6
    have f7 := Lib.frozen_of_heap HY1.out 7
    have f8 := Lib.frozen_of_heap HY1.out 8
    have f9 := Lib.frozen_of_heap HY1.out 9
    clear Y2
    go_wp2
    rw [E9.out]
    refine box_retV (g := w.heap.size + 1) (t := 57) (cs := #[.int .i64 r0, .int .i64 r1, .int .i64 r2, .int .i64 r3, .int .i64 r4, .int .i64 r5, .int .i64 r6, .int .i64 r7, .int .i64 p, .int .i64 q]) rfl rfl ?_ _ Try.underlying57 rfl (by kernel_rfl) rfl ?_
    · exact F9.out.1
    · exact ⟨rfl, F9.out.2⟩
end Go.Proofs.Ytmchgmpdhfefjaa
