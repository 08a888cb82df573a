/-
  Walks: what a gate is asked for, by the program.
-/
import Derived.Test.YtnedpcgdepiakaaGmiC
import Derived.Test.YtnedpcgdepiakaaGatA
namespace Go.Proofs.Ytnedpcgdepiakaa
open Go.RowKit

/-- Right, and somebody is in. -/
def ledB (x : Gt) : Bool := gateOkB x && decide (x.owner ≠ -1)
theorem ok_owner {x : Gt} (h : gateOkB x = true) : -1 ≤ x.owner ∧ x.owner ≤ 3 := by
  simp only [gateOkB, Bool.and_eq_true] at h
  exact inZ_yes.1 h.1.1.1.1.1
theorem ledB_no {x : Gt} (h : ledB x = false) : gateOkB x = false ∨ x.owner < 0 := by
  unfold ledB at h
  cases e : gateOkB x with
  | false => exact .inl rfl
  | true =>
    rw [e, Bool.true_and] at h
    have := of_decide_eq_false h
    right
    omega
theorem ledB_yes {x : Gt} (h : ledB x = true) : gateOkB x = true ∧ 0 ≤ x.owner := by
  unfold ledB at h
  rw [Bool.and_eq_true] at h
  have h1 := ok_owner h.1
  have h2 := of_decide_eq_true h.2
  exact ⟨h.1, by omega⟩

set_option maxRecDepth 100000 in
set_option maxHeartbeats 2000000 in
theorem isLed_any (v1 v2 : Value) (x : Gt) (w : World) (h : GtAt w v1 v2 x) (hl : GtLen x) :
    Calls Try.prog 42 #[.agg #[.int .i64 x.owner, v1, v2]] w fun e w' => e = .returned (.bool (ledB x)) ∧ Below w.heap.size w w' := by
  have HAW := hide h
  have CK := fun z h => hide (implGateOk_any v1 v2 x z h hl)
  obtain ⟨o1, c1, rfl, _⟩ := h.a1
  obtain ⟨o2, c2, rfl, _⟩ := h.a2
  clear h hl
  obtain ⟨W1, hW⟩ : ∃ W1, w.alloc (.cells #[.int .i64 x.owner, .slice o1 x.waits.length c1, .slice o2 x.queues.length c2] 24) = W1 := ⟨_, rfl⟩
  have B1 : Hid (Below w.heap.size w W1) := by rw [← hW]; exact hide ((Below.refl _ _).alloc (Nat.le_refl _) _)
  have BA : Hid (Box W1 w.heap.size #[.int .i64 x.owner, .slice o1 x.waits.length c1, .slice o2 x.queues.length c2] 24) := by rw [← hW]; exact hide (Box.made w _ _)
  have HW := hide hW
  clear hW
  go_enter Try.func42, Try.ntmps42
  go_wp2_with fail
  rw [HW.out]
  refine (unhide (CK _ (HAW.out.stays B1.out))).mono ?_
  rintro e z ⟨rfl, hb⟩
  have BA2 := hide (BA.out.stays hb)
  have a0 := Lib.cell_of_heap BA2.out 0
  simp at a0
  have HB : Hid (Below w.heap.size w z) := hide (B1.out.trans (hb.mono B1.out.size))
  clear hb CK
  cases hk : gateOkB x with
  | false =>
    have HE : Hid (ledB x = false) := hide (by unfold ledB; rw [hk]; rfl)
    clear hk
    go_wp2
    go_ret
    rw [HE.out]
    exact ⟨rfl, HB.out⟩
  | true =>
    by_cases ho : x.owner = -1
    · have HE : Hid (ledB x = false) := hide (by unfold ledB; rw [hk, ho]; rfl)
      clear hk
      go_wp2
      go_ret
      rw [HE.out]
      exact ⟨rfl, HB.out⟩
    · have HE : Hid (ledB x = true) := hide (by unfold ledB; rw [hk, decide_eq_true ho]; rfl)
      have HN : Hid ((x.owner != -1) = true) := hide (by simp [ho])
      clear hk
      go_wp2
      go_ret
      rw [HE.out]
      refine ⟨?_, HB.out⟩
      show Ending.returned (Value.bool (x.owner != -1)) = _
      rw [HN.out]

set_option maxRecDepth 100000 in
set_option maxHeartbeats 2000000 in
theorem hasQueue_any (v1 v2 : Value) (x : Gt) (q : Int) (w : World) (h : GtAt w v1 v2 x) (hl : GtLen x) :
    Calls Try.prog 44 #[.agg #[.int .i64 x.owner, v1, v2], .int .i64 q] w fun e w' => e = .returned (.bool (inZ 0 ((x.queues.length : Int) - 1) q)) ∧ Below w.heap.size w w' := by
  have L2 := hl.l2
  obtain ⟨o1, c1, rfl, _⟩ := h.a1
  obtain ⟨o2, c2, rfl, _⟩ := h.a2
  clear h hl
  obtain ⟨n, en⟩ : ∃ n, x.queues.length = n := ⟨_, rfl⟩
  rw [en] at L2 ⊢
  clear en
  by_cases h0 : 0 ≤ q
  · by_cases h1 : q < (n : Int)
    · have HE : Hid (inZ 0 ((n : Int) - 1) q = true) := hide (inZ_yes.2 ⟨h0, by omega⟩)
      go_enter Try.func44, Try.ntmps44
      go_wp2
      go_ret
      rw [HE.out]
      exact ⟨rfl, by go_grown⟩
    · have HE : Hid (inZ 0 ((n : Int) - 1) q = false) := hide (by rw [Bool.eq_false_iff]; intro k; have := inZ_yes.1 k; omega)
      go_enter Try.func44, Try.ntmps44
      go_wp2
      go_ret
      rw [HE.out]
      exact ⟨rfl, by go_grown⟩
  · have HE : Hid (inZ 0 ((n : Int) - 1) q = false) := hide (by rw [Bool.eq_false_iff]; intro k; have := inZ_yes.1 k; omega)
    go_enter Try.func44, Try.ntmps44
    go_wp2
    go_ret
    rw [HE.out]
    exact ⟨rfl, by go_grown⟩

set_option maxRecDepth 100000 in
set_option maxHeartbeats 2000000 in
theorem gateHas_any (v1 v2 : Value) (x : Gt) (p : Int) (w : World) (h : GtAt w v1 v2 x) (hl : GtLen x) :
    Calls Try.prog 39 #[.agg #[.int .i64 x.owner, v1, v2], .int .i64 p] w fun e w' => e = .returned (.bool (isIn x p)) ∧ Below w.heap.size w w' := by
  have HAW := hide h
  have C1 := fun z h => hide (contains_any v1 x.waits p z h hl.l1)
  have C2 := fun z h => hide (contains_any v2 x.queues p z h hl.l2)
  obtain ⟨o1, c1, rfl, _⟩ := h.a1
  obtain ⟨o2, c2, rfl, _⟩ := h.a2
  clear h hl
  obtain ⟨W1, hW⟩ : ∃ W1, w.alloc (.cells #[.int .i64 x.owner, .slice o1 x.waits.length c1, .slice o2 x.queues.length c2] 24) = W1 := ⟨_, rfl⟩
  have B1 : Hid (Below w.heap.size w W1) := by rw [← hW]; exact hide ((Below.refl _ _).alloc (Nat.le_refl _) _)
  have HW := hide hW
  clear hW
  by_cases h0 : x.owner = p
  · have HE : Hid (isIn x p = true) := hide (by unfold isIn; rw [decide_eq_true h0]; rfl)
    clear C1 C2
    go_enter Try.func39, Try.ntmps39
    go_wp2
    go_ret
    rw [HE.out]
    exact ⟨rfl, by go_grown⟩
  · have HE : Hid (isIn x p = (decide (p ∈ x.waits) || decide (p ∈ x.queues))) := hide (by unfold isIn; rw [decide_eq_false h0]; rfl)
    go_enter Try.func39, Try.ntmps39
    go_wp2_with fail
    rw [HW.out]
    refine (unhide (C1 _ (HAW.out.stays B1.out).a1)).mono ?_
    rintro e z1 ⟨rfl, ez⟩
    rw [ez, ← HW.out]
    clear ez z1 C1
    cases hm : decide (p ∈ x.waits) with
    | true =>
      rw [hm] at HE
      clear C2
      go_wp2
      go_ret
      rw [HE.out]
      exact ⟨rfl, by go_grown⟩
    | false =>
      rw [hm] at HE
      go_wp2_with fail
      rw [HW.out]
      refine (unhide (C2 _ (HAW.out.stays B1.out).a2)).mono ?_
      rintro e z1 ⟨rfl, ez⟩
      rw [ez, ← HW.out]
      clear ez z1 C2
      obtain ⟨b, eb⟩ : ∃ b, decide (p ∈ x.queues) = b := ⟨_, rfl⟩
      rw [eb] at HE ⊢
      have HN : Hid ((x.owner == p) = false) := hide (by simp [h0])
      clear eb hm
      go_wp2
      go_ret
      rw [HE.out]
      refine ⟨?_, by go_grown⟩
      show Ending.returned (Value.bool (x.owner == p || b)) = _
      rw [HN.out]
end Go.Proofs.Ytnedpcgdepiakaa
