/-
  Walks: who is let in, who lines up, by the program.
-/
import Derived.Test.YtnedpcgdepiakaaGmiD
namespace Go.Proofs.Ytnedpcgdepiakaa
open Go.RowKit

set_option maxRecDepth 100000 in
set_option maxHeartbeats 4000000 in
theorem letIn_any (w : World) (o : Int) (v1 v2 : Value) (G : Nat) (r1 r2 : Value) (y : Gt) (z : World) (h : GaZ w o v1 v2 G r1 r2 y z) (hl : GtLen y) :
    Calls Try.prog 43 #[.pointer (some ⟨G, 0, none⟩)] z fun e w' => ∃ r1', e = .returned (.int .i64 (nextG y).owner) ∧ GaZ w o v1 v2 G r1' r2 (nextG y) w' := by
  have L1 := hl.l1
  have Z0 := hide h
  obtain ⟨p1, k1, rfl⟩ := form_own h.own.o1
  obtain ⟨p2, k2, rfl⟩ := form_own h.own.o2
  have c0 := Lib.cell_of_heap h.bO 0
  have c1 := Lib.cell_of_heap h.bO 1
  have f0 := Lib.frozen_of_heap h.bO 0
  simp at c0 c1
  clear h hl
  by_cases hn : y.waits.length = 0
  · have hw : y.waits = [] := List.eq_nil_of_length_eq_zero hn
    have HN : Hid (nextG y = { y with owner := -1 }) := by
      show _ = _
      unfold nextG
      rw [hw]
      rfl
    have Z1 := hide (Z0.out.owner (-1))
    rw [hn] at c1
    clear hw
    go_enter Try.func43, Try.ntmps43
    go_wp2
    go_ret
    exact ⟨_, by rw [HN.out]; rfl, by rw [HN.out]; exact Z1.out⟩
  · obtain ⟨x, ws, hw⟩ : ∃ x ws, y.waits = x :: ws := by
      cases e : y.waits with
      | nil => rw [e] at hn; exact absurd rfl hn
      | cons x ws => exact ⟨x, ws, rfl⟩
    have hlen : y.waits.length = ws.length + 1 := by rw [hw]; rfl
    have HN : Hid (nextG y = { y with owner := x, waits := ws }) := by
      show _ = _
      unfold nextG
      rw [hw]
      rfl
    obtain ⟨q, rfl⟩ : ∃ q, p1 = some ⟨q, 0, none⟩ := by
      rcases Z0.out.own.o1.2 with ⟨e, h0⟩ | ⟨g, cap, cur, e, _⟩
      · omega
      · injection e with e1 _ _
        exact ⟨g, e1⟩
    have Z1 := hide (Z0.out.owner x)
    have hroom : Room (.slice (some ⟨q, 0, none⟩) y.waits.length k1) := (CellsIn.own Z0.out.own.o1 : IntsIn _ _ _ y.waits).room
    have hrm : y.waits.length ≤ k1 := hroom
    have cx : z.cell? ⟨q, 0, none⟩ = some (.int .i64 x) := by
      have h9 := Z0.out.own.o1.cellAt 0 (by show 0 < y.waits.length * 1; omega)
      rw [List.getElem?_map, hw] at h9
      exact h9
    have d1 := Lib.cell_of_heap Z1.out.bO 1
    have d0 := Lib.cell_of_heap Z1.out.bO 0
    simp at d0 d1
    obtain ⟨Z, eZ⟩ : ∃ Z, z.setCell ⟨G, 0, none⟩ (.int .i64 x) = Z := ⟨_, rfl⟩
    have EZ := hide eZ
    have hcw : ∀ j (hj : j < ws.length), Z.cell? ⟨q, j + 1, none⟩ = some (.int .i64 ws[j]) := fun j hj => by
      rw [← eZ]
      have h9 := Z1.out.own.o1.cellAt (j + 1) (by show j + 1 < y.waits.length * 1; omega)
      rw [List.getElem?_map, show ({ y with owner := x } : Gt).waits = x :: ws from hw, List.getElem?_cons_succ, List.getElem?_eq_getElem hj] at h9
      exact h9
    have hql : q < Z.heap.size := by rw [← eZ]; exact (Z1.out.own.o1.lt q rfl).2
    have HI : Hid (∀ c, IntsAt Z (.slice (some ⟨q, 1, none⟩) ws.length c) ws) := hide fun c => ⟨_, _, rfl, fun j hj => ⟨_, rfl, hql, by
      have e8 : (⟨q, 1, none⟩ : Addr).add j = ⟨q, j + 1, none⟩ := by simp only [Addr.add]; split <;> simp_all <;> omega
      rw [e8]
      exact hcw j hj⟩⟩
    have CM := fun v h => hide (moved_any v ws Z h (by omega))
    rw [eZ] at Z1
    rw [hlen] at hrm c1 d1 L1
    clear hroom hn eZ hcw hql hw hlen
    have wf : ∀ (v' : Value) (w' : World), Below Z.heap.size Z w' → w'.ownsRow Z.heap.size 3 1 v' ws.length (ws.map I64) → Hid (GaZ w o v1 v2 G v' (.slice p2 y.queues.length k2) (nextG y) (w'.setCell ⟨G, 1, none⟩ v')) := fun v' w' hb hn => by
      rw [HN.out]
      exact hide (Z1.out.waits hb hn)
    by_cases hk : ws.length = 0
    · have hI0 : Hid (∀ c, IntsAt Z (.slice (some ⟨q, 0, none⟩) 0 c) ws) := hide fun c => ⟨_, _, by rw [hk], fun j hj => by omega⟩
      rw [hk] at c1 d1
      go_enter Try.func43, Try.ntmps43
      go_wp2_with fail
      rw [EZ.out]
      refine (unhide (CM _ (hI0.out _))).mono ?_
      rintro e w6 ⟨v', rfl, hn, hb, _⟩
      have ZS := hide (Z1.out.stays hb)
      have ZF := wf _ _ hb hn
      rw [hk] at hn
      obtain ⟨pv, kv, rfl⟩ := form_own hn
      have e1 := Lib.cell_of_heap ZS.out.bO 1
      have g1 := Lib.frozen_of_heap ZS.out.bO 1
      have e0 := Lib.cell_of_heap ZS.out.bO 0
      simp at e0 e1
      have EO : Hid ((nextG y).owner = x) := hide (by rw [HN.out])
      clear hb hn wf CM
      go_wp2
      go_ret
      rw [EO.out]
      exact ⟨_, rfl, ZF.out⟩
    · have hk2 : 1 ≤ ws.length := by omega
      obtain ⟨m, em⟩ : ∃ m, ws.length = m + 1 := ⟨ws.length - 1, by omega⟩
      rw [em] at HI c1 d1 hrm L1
      go_enter Try.func43, Try.ntmps43
      go_wp2_with fail
      rw [EZ.out]
      refine (unhide (CM _ (HI.out _))).mono ?_
      rintro e w6 ⟨v', rfl, hn, hb, _⟩
      have ZS := hide (Z1.out.stays hb)
      have ZF := wf _ _ hb hn
      rw [em] at hn
      obtain ⟨pv, kv, rfl⟩ := form_own hn
      have e1 := Lib.cell_of_heap ZS.out.bO 1
      have g1 := Lib.frozen_of_heap ZS.out.bO 1
      have e0 := Lib.cell_of_heap ZS.out.bO 0
      simp at e0 e1
      have EO : Hid ((nextG y).owner = x) := hide (by rw [HN.out])
      clear hb hn wf CM
      go_wp2
      go_ret
      rw [EO.out]
      exact ⟨_, rfl, ZF.out⟩
set_option maxRecDepth 100000 in
set_option maxHeartbeats 4000000 in
theorem line_any (w : World) (o : Int) (v1 v2 : Value) (G : Nat) (r1 r2 : Value) (y : Gt) (p : Int) (z : World) (h : GaZ w o v1 v2 G r1 r2 y z) (hl : GtLen y) (hf : FullV r1 y.waits.length) :
    Calls Try.prog 40 #[.pointer (some ⟨G, 0, none⟩), .int .i64 p] z fun e w' => ∃ r1', e = .returned (.tuple #[]) ∧ GaZ w o v1 v2 G r1' r2 { y with waits := y.waits ++ [p] } w' := by
  have L1 := hl.l1
  obtain ⟨b, rfl⟩ := hf
  have Z1 := hide (h.stays ((Below.refl _ _).alloc (Nat.le_refl _) (.cells #[.int .i64 p] 3)))
  have BP := hide (Box.made z #[.int .i64 p] 3)
  have c1 := Lib.cell_of_heap h.bO 1
  simp at c1
  have HL : Hid ((y.waits.map I64).length = y.waits.length) := hide (List.length_map ..)
  have hg := h.gl
  have hbl := h.bO.lt
  have HGL := hide (show w.heap.size + 2 ≤ z.heap.size by omega)
  clear h hl hg hbl
  go_enter Try.func40, Try.ntmps40
  go_wp2_with (at_builtin; refine wpList_more rfl (.tmp 17) (.tmp 19) 22 rfl (w.heap.size + 2) 3 (.int .i64 0) 8 Try.underlying22 Try.infoInt rfl (.slice (some ⟨b, 0, none⟩) y.waits.length y.waits.length) (y.waits.map I64) rfl ?_ z.heap.size (.int .i64 p) rfl ?_ rfl ?_ ?_ ?_ ?_)
  · rw [HL.out]; exact Z1.out.own.o1
  · exact Lib.cell_of_heap BP.out 0
  · rw [HL.out]; unfold maxLen; omega
  · rw [HL.out]; omega
  · have := HGL.out; show w.heap.size + 2 ≤ (z.alloc _).heap.size; simp; omega
  intro v' w' hm
  have hown : (z.alloc (.cells #[.int .i64 p] 3)).ownsRow (w.heap.size + 2) 3 1 (.slice (some ⟨b, 0, none⟩) y.waits.length y.waits.length) (y.waits.map I64).length (y.waits.map I64) := by rw [HL.out]; exact Z1.out.own.o1
  have HBX := hide (box_more hm hown Z1.out.bO (by decide))
  have Z9 := hide (Z1.out.more hm)
  obtain ⟨po, co, rfl⟩ := form_own hm.own
  have kc := (Lib.cell_of_heap HBX.out 1).trans rfl
  have kf := Lib.frozen_of_heap HBX.out 1
  simp at kc
  clear hm hown
  go_wp2
  go_end0
  rw [HL.out] at Z9
  exact ⟨_, rfl, Z9.out⟩
end Go.Proofs.Ytnedpcgdepiakaa
