/-
  Walks: what a gate is asked for, by the program.
-/
import Derived.Test.YtbikdpljhnhcaaaGmiC
import Derived.Test.YtbikdpljhnhcaaaBoxR
namespace Go.Proofs.Ytbikdpljhnhcaaa
open Go.RowKit

/-- Right, and somebody is in. -/
def ledB (x : Gt) : Bool := gateOkB x && decide (x.owner ≠ -1)
theorem ok_owner {x : Gt} (h : gateOkB x = true) : -1 ≤ x.owner ∧ x.owner ≤ 3 := by
  simp only [gateOkB, Bool.and_eq_true] at h
  exact inZ_yes.1 h.1.1.1.1.1
theorem ledB_no {x : Gt} (h : ledB x = false) : gateOkB x = false ∨ x.owner < 0 := by
  unfold ledB at h
  cases e : gateOkB x with
  | false => exact .inl rfl
  | true =>
    rw [e, Bool.true_and] at h
    have := of_decide_eq_false h
    right
    omega
theorem ledB_yes {x : Gt} (h : ledB x = true) : gateOkB x = true ∧ 0 ≤ x.owner := by
  unfold ledB at h
  rw [Bool.and_eq_true] at h
  have h1 := ok_owner h.1
  have h2 := of_decide_eq_true h.2
  exact ⟨h.1, by omega⟩

set_option maxRecDepth 100000 in
set_option maxHeartbeats 2000000 in
theorem isLed_any (v1 v2 : Value) (x : Gt) (w : World) (h : GtAt w v1 v2 x) (hl : GtLen x) :
    Calls Try.prog 33 #[.agg #[.int .i64 x.owner, v1, v2]] w fun e w' => e = .returned (.bool (ledB x)) ∧ Below w.heap.size w w' := by
  have HAW := hide h
  have CK := fun z h => hide (implGateOk_any v1 v2 x z h hl)
  obtain ⟨o1, c1, rfl, _⟩ := h.a1
  obtain ⟨o2, c2, rfl, _⟩ := h.a2
  clear h hl
  obtain ⟨W1, hW⟩ : ∃ W1, w.alloc (.cells #[.int .i64 x.owner, .slice o1 x.waits.length c1, .slice o2 x.queues.length c2] 26) = W1 := ⟨_, rfl⟩
  have B1 : Hid (Below w.heap.size w W1) := by rw [← hW]; exact hide ((Below.refl _ _).alloc (Nat.le_refl _) _)
  have BA : Hid (Box W1 w.heap.size #[.int .i64 x.owner, .slice o1 x.waits.length c1, .slice o2 x.queues.length c2] 26) := by rw [← hW]; exact hide (Box.made w _ _)
  have HW := hide hW
  clear hW
  go_enter Try.func33, Try.ntmps33
  go_wp2_with fail
  rw [HW.out]
  refine (unhide (CK _ (HAW.out.stays B1.out))).mono ?_
  rintro e z ⟨rfl, hb⟩
  have BA2 := hide (BA.out.stays hb)
  have a0 := Lib.cell_of_heap BA2.out 0
  simp at a0
  have HB : Hid (Below w.heap.size w z) := hide (B1.out.trans (hb.mono B1.out.size))
  clear hb CK
  cases hk : gateOkB x with
  | false =>
    have HE : Hid (ledB x = false) := hide (by unfold ledB; rw [hk]; rfl)
    clear hk
    go_wp2
    go_ret
    rw [HE.out]
    exact ⟨rfl, HB.out⟩
  | true =>
    by_cases ho : x.owner = -1
    · have HE : Hid (ledB x = false) := hide (by unfold ledB; rw [hk, ho]; rfl)
      clear hk
      go_wp2
      go_ret
      rw [HE.out]
      exact ⟨rfl, HB.out⟩
    · have HE : Hid (ledB x = true) := hide (by unfold ledB; rw [hk, decide_eq_true ho]; rfl)
      have HN : Hid ((x.owner != -1) = true) := hide (by simp [ho])
      clear hk
      go_wp2
      go_ret
      rw [HE.out]
      refine ⟨?_, HB.out⟩
      show Ending.returned (Value.bool (x.owner != -1)) = _
      rw [HN.out]

set_option maxRecDepth 100000 in
set_option maxHeartbeats 2000000 in
theorem hasQueue_any (v1 v2 : Value) (x : Gt) (q : Int) (w : World) (h : GtAt w v1 v2 x) (hl : GtLen x) :
    Calls Try.prog 37 #[.agg #[.int .i64 x.owner, v1, v2], .int .i64 q] w fun e w' => e = .returned (.bool (inZ 0 ((x.queues.length : Int) - 1) q)) ∧ Below w.heap.size w w' := by
  have L2 := hl.l2
  obtain ⟨o1, c1, rfl, _⟩ := h.a1
  obtain ⟨o2, c2, rfl, _⟩ := h.a2
  clear h hl
  obtain ⟨n, en⟩ : ∃ n, x.queues.length = n := ⟨_, rfl⟩
  rw [en] at L2 ⊢
  clear en
  by_cases h0 : 0 ≤ q
  · by_cases h1 : q < (n : Int)
    · have HE : Hid (inZ 0 ((n : Int) - 1) q = true) := hide (inZ_yes.2 ⟨h0, by omega⟩)
      go_enter Try.func37, Try.ntmps37
      go_wp2
      go_ret
      rw [HE.out]
      exact ⟨rfl, by go_grown⟩
    · have HE : Hid (inZ 0 ((n : Int) - 1) q = false) := hide (by rw [Bool.eq_false_iff]; intro k; have := inZ_yes.1 k; omega)
      go_enter Try.func37, Try.ntmps37
      go_wp2
      go_ret
      rw [HE.out]
      exact ⟨rfl, by go_grown⟩
  · have HE : Hid (inZ 0 ((n : Int) - 1) q = false) := hide (by rw [Bool.eq_false_iff]; intro k; have := inZ_yes.1 k; omega)
    go_enter Try.func37, Try.ntmps37
    go_wp2
    go_ret
    rw [HE.out]
    exact ⟨rfl, by go_grown⟩

set_option maxRecDepth 100000 in
set_option maxHeartbeats 2000000 in
theorem gateHas_any (v1 v2 : Value) (x : Gt) (p : Int) (w : World) (h : GtAt w v1 v2 x) (hl : GtLen x) :
    Calls Try.prog 31 #[.agg #[.int .i64 x.owner, v1, v2], .int .i64 p] w fun e w' => e = .returned (.bool (isIn x p)) ∧ Below w.heap.size w w' := by
  have HAW := hide h
  have C1 := fun z h => hide (contains_any v1 x.waits p z h hl.l1)
  have C2 := fun z h => hide (contains_any v2 x.queues p z h hl.l2)
  obtain ⟨o1, c1, rfl, _⟩ := h.a1
  obtain ⟨o2, c2, rfl, _⟩ := h.a2
  clear h hl
  obtain ⟨W1, hW⟩ : ∃ W1, w.alloc (.cells #[.int .i64 x.owner, .slice o1 x.waits.length c1, .slice o2 x.queues.length c2] 26) = W1 := ⟨_, rfl⟩
  have B1 : Hid (Below w.heap.size w W1) := by rw [← hW]; exact hide ((Below.refl _ _).alloc (Nat.le_refl _) _)
  have HW := hide hW
  clear hW
  by_cases h0 : x.owner = p
  · have HE : Hid (isIn x p = true) := hide (by unfold isIn; rw [decide_eq_true h0]; rfl)
    clear C1 C2
    go_enter Try.func31, Try.ntmps31
    go_wp2
    go_ret
    rw [HE.out]
    exact ⟨rfl, by go_grown⟩
  · have HE : Hid (isIn x p = (decide (p ∈ x.waits) || decide (p ∈ x.queues))) := hide (by unfold isIn; rw [decide_eq_false h0]; rfl)
    go_enter Try.func31, Try.ntmps31
    go_wp2_with fail
    rw [HW.out]
    refine (unhide (C1 _ (HAW.out.stays B1.out).a1)).mono ?_
    rintro e z1 ⟨rfl, ez⟩
    rw [ez, ← HW.out]
    clear ez z1 C1
    cases hm : decide (p ∈ x.waits) with
    | true =>
      rw [hm] at HE
      clear C2
      go_wp2
      go_ret
      rw [HE.out]
      exact ⟨rfl, by go_grown⟩
    | false =>
      rw [hm] at HE
      go_wp2_with fail
      rw [HW.out]
      refine (unhide (C2 _ (HAW.out.stays B1.out).a2)).mono ?_
      rintro e z1 ⟨rfl, ez⟩
      rw [ez, ← HW.out]
      clear ez z1 C2
      obtain ⟨b, eb⟩ : ∃ b, decide (p ∈ x.queues) = b := ⟨_, rfl⟩
      rw [eb] at HE ⊢
      have HN : Hid ((x.owner == p) = false) := hide (by simp [h0])
      clear eb hm
      go_wp2
      go_ret
      rw [HE.out]
      refine ⟨?_, by go_grown⟩
      show Ending.returned (Value.bool (x.owner == p || b)) = _
      rw [HN.out]
end Go.Proofs.Ytbikdpljhnhcaaa

namespace Go.Proofs.Ytbikdpljhnhcaaa
open Go.RowKit

set_option maxRecDepth 100000 in
set_option maxHeartbeats 4000000 in
theorem letIn_any (w : World) (o : Int) (v1 v2 : Value) (G : Nat) (r1 r2 : Value) (y : Gt) (z : World) (h : GaZ w o v1 v2 G r1 r2 y z) (hl : GtLen y) :
    Calls Try.prog 34 #[.pointer (some ⟨G, 0, none⟩)] z fun e w' => ∃ r1', e = .returned (.int .i64 (nextG y).owner) ∧ GaZ w o v1 v2 G r1' r2 (nextG y) w' := by
  have L1 := hl.l1
  have Z0 := hide h
  obtain ⟨p1, k1, rfl⟩ := form_own h.own.o1
  obtain ⟨p2, k2, rfl⟩ := form_own h.own.o2
  have c0 := Lib.cell_of_heap h.bO 0
  have c1 := Lib.cell_of_heap h.bO 1
  have f0 := Lib.frozen_of_heap h.bO 0
  simp at c0 c1
  clear h hl
  by_cases hn : y.waits.length = 0
  · have hw : y.waits = [] := List.eq_nil_of_length_eq_zero hn
    have HN : Hid (nextG y = { y with owner := -1 }) := by
      show _ = _
      unfold nextG
      rw [hw]
      rfl
    have Z1 := hide (Z0.out.owner (-1))
    rw [hn] at c1
    clear hw
    go_enter Try.func34, Try.ntmps34
    go_wp2
    go_ret
    exact ⟨_, by rw [HN.out]; rfl, by rw [HN.out]; exact Z1.out⟩
  · obtain ⟨x, ws, hw⟩ : ∃ x ws, y.waits = x :: ws := by
      cases e : y.waits with
      | nil => rw [e] at hn; exact absurd rfl hn
      | cons x ws => exact ⟨x, ws, rfl⟩
    have hlen : y.waits.length = ws.length + 1 := by rw [hw]; rfl
    have HN : Hid (nextG y = { y with owner := x, waits := ws }) := by
      show _ = _
      unfold nextG
      rw [hw]
      rfl
    obtain ⟨q, rfl⟩ : ∃ q, p1 = some ⟨q, 0, none⟩ := by
      rcases Z0.out.own.o1.2 with ⟨e, h0⟩ | ⟨g, cap, cur, e, _⟩
      · omega
      · injection e with e1 _ _
        exact ⟨g, e1⟩
    have Z1 := hide (Z0.out.owner x)
    have hroom : Room (.slice (some ⟨q, 0, none⟩) y.waits.length k1) := (CellsIn.own Z0.out.own.o1 : IntsIn _ _ _ y.waits).room
    have hrm : y.waits.length ≤ k1 := hroom
    have cx : z.cell? ⟨q, 0, none⟩ = some (.int .i64 x) := by
      have h9 := Z0.out.own.o1.cellAt 0 (by show 0 < y.waits.length * 1; omega)
      rw [List.getElem?_map, hw] at h9
      exact h9
    have d1 := Lib.cell_of_heap Z1.out.bO 1
    have d0 := Lib.cell_of_heap Z1.out.bO 0
    simp at d0 d1
    obtain ⟨Z, eZ⟩ : ∃ Z, z.setCell ⟨G, 0, none⟩ (.int .i64 x) = Z := ⟨_, rfl⟩
    have EZ := hide eZ
    have hcw : ∀ j (hj : j < ws.length), Z.cell? ⟨q, j + 1, none⟩ = some (.int .i64 ws[j]) := fun j hj => by
      rw [← eZ]
      have h9 := Z1.out.own.o1.cellAt (j + 1) (by show j + 1 < y.waits.length * 1; omega)
      rw [List.getElem?_map, show ({ y with owner := x } : Gt).waits = x :: ws from hw, List.getElem?_cons_succ, List.getElem?_eq_getElem hj] at h9
      exact h9
    have hql : q < Z.heap.size := by rw [← eZ]; exact (Z1.out.own.o1.lt q rfl).2
    have HI : Hid (∀ c, IntsAt Z (.slice (some ⟨q, 1, none⟩) ws.length c) ws) := hide fun c => ⟨_, _, rfl, fun j hj => ⟨_, rfl, hql, by
      have e8 : (⟨q, 1, none⟩ : Addr).add j = ⟨q, j + 1, none⟩ := by simp only [Addr.add]; split <;> simp_all <;> omega
      rw [e8]
      exact hcw j hj⟩⟩
    have CM := fun v h => hide (moved_any v ws Z h (by omega))
    rw [eZ] at Z1
    rw [hlen] at hrm c1 d1 L1
    clear hroom hn eZ hcw hql hw hlen
    have wf : ∀ (v' : Value) (w' : World), Below Z.heap.size Z w' → w'.ownsRow Z.heap.size 3 1 v' ws.length (ws.map I64) → Hid (GaZ w o v1 v2 G v' (.slice p2 y.queues.length k2) (nextG y) (w'.setCell ⟨G, 1, none⟩ v')) := fun v' w' hb hn => by
      rw [HN.out]
      exact hide (Z1.out.waits hb hn)
    by_cases hk : ws.length = 0
    · have hI0 : Hid (∀ c, IntsAt Z (.slice (some ⟨q, 0, none⟩) 0 c) ws) := hide fun c => ⟨_, _, by rw [hk], fun j hj => by omega⟩
      rw [hk] at c1 d1
      go_enter Try.func34, Try.ntmps34
      go_wp2_with fail
      rw [EZ.out]
      refine (unhide (CM _ (hI0.out _))).mono ?_
      rintro e w6 ⟨v', rfl, hn, hb, _⟩
      have ZS := hide (Z1.out.stays hb)
      have ZF := wf _ _ hb hn
      rw [hk] at hn
      obtain ⟨pv, kv, rfl⟩ := form_own hn
      have e1 := Lib.cell_of_heap ZS.out.bO 1
      have g1 := Lib.frozen_of_heap ZS.out.bO 1
      have e0 := Lib.cell_of_heap ZS.out.bO 0
      simp at e0 e1
      have EO : Hid ((nextG y).owner = x) := hide (by rw [HN.out])
      clear hb hn wf CM
      go_wp2
      go_ret
      rw [EO.out]
      exact ⟨_, rfl, ZF.out⟩
    · have hk2 : 1 ≤ ws.length := by omega
      obtain ⟨m, em⟩ : ∃ m, ws.length = m + 1 := ⟨ws.length - 1, by omega⟩
      rw [em] at HI c1 d1 hrm L1
      go_enter Try.func34, Try.ntmps34
      go_wp2_with fail
      rw [EZ.out]
      refine (unhide (CM _ (HI.out _))).mono ?_
      rintro e w6 ⟨v', rfl, hn, hb, _⟩
      have ZS := hide (Z1.out.stays hb)
      have ZF := wf _ _ hb hn
      rw [em] at hn
      obtain ⟨pv, kv, rfl⟩ := form_own hn
      have e1 := Lib.cell_of_heap ZS.out.bO 1
      have g1 := Lib.frozen_of_heap ZS.out.bO 1
      have e0 := Lib.cell_of_heap ZS.out.bO 0
      simp at e0 e1
      have EO : Hid ((nextG y).owner = x) := hide (by rw [HN.out])
      clear hb hn wf CM
      go_wp2
      go_ret
      rw [EO.out]
      exact ⟨_, rfl, ZF.out⟩
set_option maxRecDepth 100000 in
set_option maxHeartbeats 4000000 in
theorem line_any (w : World) (o : Int) (v1 v2 : Value) (G : Nat) (r1 r2 : Value) (y : Gt) (p : Int) (z : World) (h : GaZ w o v1 v2 G r1 r2 y z) (hl : GtLen y) (hf : FullV r1 y.waits.length) :
    Calls Try.prog 32 #[.pointer (some ⟨G, 0, none⟩), .int .i64 p] z fun e w' => ∃ r1', e = .returned (.tuple #[]) ∧ GaZ w o v1 v2 G r1' r2 { y with waits := y.waits ++ [p] } w' := by
  have L1 := hl.l1
  obtain ⟨b, rfl⟩ := hf
  have Z1 := hide (h.stays ((Below.refl _ _).alloc (Nat.le_refl _) (.cells #[.int .i64 p] 3)))
  have BP := hide (Box.made z #[.int .i64 p] 3)
  have c1 := Lib.cell_of_heap h.bO 1
  simp at c1
  have HL : Hid ((y.waits.map I64).length = y.waits.length) := hide (List.length_map ..)
  have hg := h.gl
  have hbl := h.bO.lt
  have HGL := hide (show w.heap.size + 2 ≤ z.heap.size by omega)
  clear h hl hg hbl
  go_enter Try.func32, Try.ntmps32
  go_wp2_with (at_builtin; refine wpList_more rfl (.tmp 17) (.tmp 19) 24 rfl (w.heap.size + 2) 3 (.int .i64 0) 8 Try.underlying24 Try.infoInt rfl (.slice (some ⟨b, 0, none⟩) y.waits.length y.waits.length) (y.waits.map I64) rfl ?_ z.heap.size (.int .i64 p) rfl ?_ rfl ?_ ?_ ?_ ?_)
  · rw [HL.out]; exact Z1.out.own.o1
  · exact Lib.cell_of_heap BP.out 0
  · rw [HL.out]; unfold maxLen; omega
  · rw [HL.out]; omega
  · have := HGL.out; show w.heap.size + 2 ≤ (z.alloc _).heap.size; simp; omega
  intro v' w' hm
  have hown : (z.alloc (.cells #[.int .i64 p] 3)).ownsRow (w.heap.size + 2) 3 1 (.slice (some ⟨b, 0, none⟩) y.waits.length y.waits.length) (y.waits.map I64).length (y.waits.map I64) := by rw [HL.out]; exact Z1.out.own.o1
  have HBX := hide (box_more hm hown Z1.out.bO (by decide))
  have Z9 := hide (Z1.out.more hm)
  obtain ⟨po, co, rfl⟩ := form_own hm.own
  have kc := (Lib.cell_of_heap HBX.out 1).trans rfl
  have kf := Lib.frozen_of_heap HBX.out 1
  simp at kc
  clear hm hown
  go_wp2
  go_end0
  rw [HL.out] at Z9
  exact ⟨_, rfl, Z9.out⟩
end Go.Proofs.Ytbikdpljhnhcaaa
