/-
  Walks: who is next, by the specification.
-/
import Derived.Test.YtbikdpljhnhcaaaBoxR
namespace Go.Proofs.Ytbikdpljhnhcaaa
open Go.RowKit

set_option maxRecDepth 100000 in
set_option maxHeartbeats 4000000 in
theorem next_any (w : World) (o : Int) (v1 v2 : Value) (G : Nat) (r1 r2 : Value) (y : Gt) (z : World) (h : GaZ w o v1 v2 G r1 r2 y z) (hl : GtLen y) :
    Calls Try.prog 44 #[.pointer (some ⟨G, 0, none⟩)] z fun e w' => ∃ r1', e = .returned (.int .i64 (nextG y).owner) ∧ GaZ w o v1 v2 G r1' r2 (nextG y) w' := by
  have L1 := hl.l1
  have Z0 := hide h
  have Z1 := hide (h.owner (-1))
  obtain ⟨p1, k1, rfl⟩ := form_own h.own.o1
  obtain ⟨p2, k2, rfl⟩ := form_own h.own.o2
  have c0 := Lib.cell_of_heap h.bO 0
  have f0 := Lib.frozen_of_heap h.bO 0
  simp at c0
  have d0 := Lib.cell_of_heap Z1.out.bO 0
  have d1 := Lib.cell_of_heap Z1.out.bO 1
  have g0 := Lib.frozen_of_heap Z1.out.bO 0
  simp at d0 d1
  clear h hl
  by_cases hn : y.waits.length = 0
  · have hw : y.waits = [] := List.eq_nil_of_length_eq_zero hn
    have HN : Hid (nextG y = { y with owner := -1 }) := by
      show _ = _
      unfold nextG
      rw [hw]
      rfl
    rw [hn] at d1
    clear hw
    go_enter Try.func44, Try.ntmps44
    go_wp2
    go_ret
    exact ⟨_, by rw [HN.out]; rfl, by rw [HN.out]; exact Z1.out⟩
  · obtain ⟨x, ws, hw⟩ : ∃ x ws, y.waits = x :: ws := by
      cases e : y.waits with
      | nil => rw [e] at hn; exact absurd rfl hn
      | cons x ws => exact ⟨x, ws, rfl⟩
    have hlen : y.waits.length = ws.length + 1 := by rw [hw]; rfl
    have HN : Hid (nextG y = { y with owner := x, waits := ws }) := by
      show _ = _
      unfold nextG
      rw [hw]
      rfl
    obtain ⟨q, rfl⟩ : ∃ q, p1 = some ⟨q, 0, none⟩ := by
      rcases Z0.out.own.o1.2 with ⟨e, h0⟩ | ⟨g, cap, cur, e, _⟩
      · omega
      · injection e with e1 _ _
        exact ⟨g, e1⟩
    have Z2 := hide (Z1.out.owner x)
    have hroom : Room (.slice (some ⟨q, 0, none⟩) y.waits.length k1) := (CellsIn.own Z0.out.own.o1 : IntsIn _ _ _ y.waits).room
    have hrm : y.waits.length ≤ k1 := hroom
    have hcx : ∀ j (hj : j < y.waits.length), (z.setCell ⟨G, 0, none⟩ (.int .i64 (-1))).cell? ⟨q, j, none⟩ = some (.int .i64 y.waits[j]) := fun j hj => by
      have h9 := Z1.out.own.o1.cellAt j (by show j < y.waits.length * 1; omega)
      rw [List.getElem?_map, List.getElem?_eq_getElem hj] at h9
      exact h9
    have HCX := hide hcx
    have cx := hcx 0 (by omega)
    have ex : y.waits[0]'(by omega) = x := by simp [hw]
    rw [ex] at cx
    rw [hlen] at hrm d1 L1
    clear hcx ex hroom hn
    have h1 : (1 : Int) ≤ (k1 : Int) := by omega
    have hVs : ((z.setCell ⟨G, 0, none⟩ (.int .i64 (-1))).setCell ⟨G, 0, none⟩ (.int .i64 x)).heap.size = z.heap.size := by simp
    have HO : Hid ((((z.setCell ⟨G, 0, none⟩ (.int .i64 (-1))).setCell ⟨G, 0, none⟩ (.int .i64 x)).alloc (.cells #[] 3)).ownsRow z.heap.size 3 1 (.slice (some ⟨z.heap.size, 0, none⟩) 0 0) 0 []) := by
      have h9 := ownsRow_empty ((z.setCell ⟨G, 0, none⟩ (.int .i64 (-1))).setCell ⟨G, 0, none⟩ (.int .i64 x)) z.heap.size 3 (by omega)
      rw [hVs] at h9
      exact hide h9
    have HC : Hid (∀ j u, (ws.map I64)[j]? = some u → (((z.setCell ⟨G, 0, none⟩ (.int .i64 (-1))).setCell ⟨G, 0, none⟩ (.int .i64 x)).alloc (.cells #[] 3)).cell? ((⟨q, 1, none⟩ : Addr).add j) = some u) := by
      intro j u hj
      rw [List.getElem?_map] at hj
      obtain ⟨t, ht, rfl⟩ := Option.map_eq_some_iff.1 hj
      have hj2 : j < ws.length := (List.getElem?_eq_some_iff.1 ht).1
      have h8 := Z2.out.own.o1.cellAt (j + 1) (by show j + 1 < y.waits.length * 1; omega)
      rw [List.getElem?_map, show ({ y with owner := x } : Gt).waits = x :: ws from hw, List.getElem?_cons_succ, ht] at h8
      have e8 : (⟨q, 1, none⟩ : Addr).add j = ⟨q, j + 1, none⟩ := by simp only [Addr.add]; split <;> simp_all <;> omega
      rw [e8, World.cell?_alloc_lt _ _ _ (by rw [hVs]; exact (Z0.out.own.o1.lt q rfl).2)]
      exact h8
    have HL : Hid ((ws.map I64).length = ws.length) := List.length_map ..
    have HVV := hide (Z2.out.stays ((Below.refl _ _).alloc (Nat.le_refl _) (.cells #[] 3)))
    have e1 := Lib.cell_of_heap HVV.out.bO 1
    simp [hlen] at e1
    have HB : Hid (Below z.heap.size ((z.setCell ⟨G, 0, none⟩ (.int .i64 (-1))).setCell ⟨G, 0, none⟩ (.int .i64 x)) (((z.setCell ⟨G, 0, none⟩ (.int .i64 (-1))).setCell ⟨G, 0, none⟩ (.int .i64 x)).alloc (.cells #[] 3))) := by
      exact hide ((Below.refl _ _).alloc (by omega) _)
    have HVS := hide hVs
    have b1 : Hid (0 + ws.length ≤ maxLen) := by show _ ≤ _; unfold maxLen; omega
    have b2 : Hid ((0 + ws.length) * 8 ≤ 140737488355328) := by show _ ≤ _; omega
    have hf1 := Lib.frozen_of_heap HVV.out.bO 1
    by_cases hk : k1 = 1
    · have hws : ws = [] := List.eq_nil_of_length_eq_zero (by omega)
      subst hk hws
      have Z3 := hide (Z2.out.waits (w' := ((z.setCell ⟨G, 0, none⟩ (.int .i64 (-1))).setCell ⟨G, 0, none⟩ (.int .i64 x)).alloc (.cells #[] 3)) (ws := []) (v' := .slice (some ⟨z.heap.size, 0, none⟩) 0 0) ((Below.refl _ _).alloc (Nat.le_refl _) _) (by rw [hVs]; exact HO.out))
      have y0 := Lib.cell_of_heap Z3.out.bO 0
      simp at y0
      clear hw hlen hVs
      go_enter Try.func44, Try.ntmps44
      go_wp2
      go_ret
      exact ⟨by rw [HN.out]; rfl, _, by rw [HN.out]; exact Z3.out⟩
    have hk2 : 1 < k1 := by omega
    have hk3 : ¬ k1 ≤ 1 := by omega
    have hk4 : ¬ k1 - 1 = 0 := by omega
    clear hw hlen hVs
    go_enter Try.func44, Try.ntmps44
    go_wp2_with (at_builtin; refine wpList_appM rfl (.tmp 22) (.tmp 27) 24 rfl z.heap.size 3 (.int .i64 0) 8 Try.underlying24 Try.infoInt rfl _ _ _ rfl HO.out ⟨q, 1, none⟩ _ _ (ws.map I64) rfl HL.out HC.out (by intro u hu; obtain ⟨x, _, rfl⟩ := List.mem_map.1 hu; rfl) b1.out b2.out (by simp) ?_; intro v' w' hw9 hb9; have hw8 : w'.ownsRow z.heap.size 3 1 v' ws.length (ws.map I64) := (by simpa using hw9); clear hw9; obtain ⟨po, co, e9⟩ := form_own hw8; subst e9; have HW9 := hide hw8; have HB9 := hide (HB.out.trans hb9); clear hw8 hb9; rw [← HVS.out] at HB9 HW9; have Z3 := hide (Z2.out.waits HB9.out HW9.out); have y0 := Lib.cell_of_heap Z3.out.bO 0; simp at y0; have X9 := hide (Z2.out.stays HB9.out); have y1 := Lib.cell_of_heap X9.out.bO 1; have y2 := Lib.frozen_of_heap X9.out.bO 1; simp at y1)
    go_ret
    exact ⟨by rw [HN.out]; rfl, _, by rw [HN.out]; exact Z3.out⟩
end Go.Proofs.Ytbikdpljhnhcaaa

namespace Go.Proofs.Ytbikdpljhnhcaaa
open Go.RowKit

set_option maxRecDepth 100000 in
set_option maxHeartbeats 4000000 in
theorem specLeave_any (v1 v2 : Value) (x : Gt) (w : World) (h : GtAt w v1 v2 x) (hl : GtLen x) :
    Calls Try.prog 22 #[.agg #[.int .i64 x.owner, v1, v2]] w fun e w' => ∃ r1 r2, e = .returned (.tuple #[.agg #[.int .i64 (leaveE x).1.owner, r1, r2], .int .i64 (leaveE x).2]) ∧ GtOwn w.heap.size w' r1 r2 (leaveE x).1 ∧ Below w.heap.size w w' := by
  have L1 := hl.l1
  have L2 := hl.l2
  have HAW := hide h
  have HLN := hide hl
  have CC := fun z h => hide (copyGt_any v1 v2 x z h hl)
  have CK := fun z h => hide (specGateOk_any v1 v2 x z h hl)
  obtain ⟨W1, hW⟩ : ∃ W1, (w.alloc (.cells #[.int .i64 x.owner, v1, v2] 26)).alloc (.cells #[.int .i64 0, .slice none 0 0, .slice none 0 0] 26) = W1 := ⟨_, rfl⟩
  have B1 : Hid (Below w.heap.size w W1) := by rw [← hW]; show Below w.heap.size w _; go_grown
  have BA1 : Hid (Box W1 w.heap.size #[.int .i64 x.owner, v1, v2] 26) := by rw [← hW]; exact hide ((Box.made w _ _).stays ((Below.refl _ _).alloc (Nat.le_refl _) _))
  have BR1 : Hid (Box W1 (w.heap.size + 1) #[.int .i64 0, .slice none 0 0, .slice none 0 0] 26) := by rw [← hW]; exact hide (Box.madeAt (by simp) _ _)
  have HZ1 : Hid (W1.heap.size = w.heap.size + 2) := by rw [← hW]; show _ = _; simp
  have HW := hide hW
  obtain ⟨o1, c1, rfl, _⟩ := h.a1
  obtain ⟨o2, c2, rfl, _⟩ := h.a2
  clear h hl hW
  have q0 := Lib.cell_of_heap BA1.out 0
  have q1 := Lib.cell_of_heap BA1.out 1
  have q2 := Lib.cell_of_heap BA1.out 2
  simp at q0 q1 q2
  rw [← HW.out] at q0 q1 q2
  go_enter Try.func22, Try.ntmps22
  go_wp2_with fail
  rw [HW.out]
  refine (unhide (CC _ (HAW.out.stays B1.out))).mono ?_
  rintro e zc ⟨r1, r2, rfl, ho, hb⟩
  obtain ⟨p1, k1, rfl⟩ := form_own ho.o1
  obtain ⟨p2, k2, rfl⟩ := form_own ho.o2
  have hba : Below zc.heap.size zc (zc.alloc (.cells #[.int .i64 x.owner, .slice p1 x.waits.length k1, .slice p2 x.queues.length k2] 26)) := (Below.refl _ _).alloc (Nat.le_refl _) _
  have Z1 : Hid (GaZ w x.owner (.slice o1 x.waits.length c1) (.slice o2 x.queues.length c2) zc.heap.size (.slice p1 x.waits.length k1) (.slice p2 x.queues.length k2) x (zc.alloc (.cells #[.int .i64 x.owner, .slice p1 x.waits.length k1, .slice p2 x.queues.length k2] 26))) :=
    ⟨(BA1.out.stays hb).stays hba, ⟨_, _, _, (BR1.out.stays hb).stays hba⟩, Box.made _ _ _, (ho.lo (by have := HZ1.out; omega)).stays hba, (B1.out.trans (hb.mono B1.out.size)).trans (hba.mono (Nat.le_trans B1.out.size hb.size)), by have := HZ1.out; have := hb.size; omega⟩
  clear hb ho hba q0 q1 q2 CC B1 BA1 BR1
  obtain ⟨Z, hZ⟩ : ∃ Z, zc.alloc (.cells #[.int .i64 x.owner, .slice p1 x.waits.length k1, .slice p2 x.queues.length k2] 26) = Z := ⟨_, rfl⟩
  obtain ⟨G, eG⟩ : ∃ G, zc.heap.size = G := ⟨_, rfl⟩
  have HZ := hide hZ
  have EG := hide eG
  rw [hZ, eG] at Z1
  clear hZ eG
  have t0 := Lib.cell_of_heap Z1.out.bA 0
  have t1 := Lib.cell_of_heap Z1.out.bA 1
  have t2 := Lib.cell_of_heap Z1.out.bA 2
  simp at t0 t1 t2
  rw [← HZ.out] at t0 t1 t2
  go_wp2_with fail
  rw [HZ.out, EG.out]
  refine (unhide (CK _ (HAW.out.stays Z1.out.bel))).mono ?_
  rintro e z2 ⟨rfl, hb2⟩
  have Z2 := hide (Z1.out.stays hb2)
  clear hb2 t0 t1 t2 HZ EG Z1 CK
  have a0 := Lib.cell_of_heap Z2.out.bA 0
  have a1 := Lib.cell_of_heap Z2.out.bA 1
  have a2 := Lib.cell_of_heap Z2.out.bA 2
  have b0 := Lib.cell_of_heap Z2.out.bO 0
  have b1 := Lib.cell_of_heap Z2.out.bO 1
  have b2 := Lib.cell_of_heap Z2.out.bO 2
  have g0 := Lib.frozen_of_heap Z2.out.bO 0
  have g1 := Lib.frozen_of_heap Z2.out.bO 1
  obtain ⟨ra, rb, rc, hrr⟩ := Z2.out.bR
  have s0 := Lib.cell_of_heap hrr 0
  have s1 := Lib.cell_of_heap hrr 1
  have s2 := Lib.cell_of_heap hrr 2
  have f0 := Lib.frozen_of_heap hrr 0
  have f1 := Lib.frozen_of_heap hrr 1
  have f2 := Lib.frozen_of_heap hrr 2
  simp at a0 a1 a2 b0 b1 b2 s0 s1 s2
  clear hrr
  obtain ⟨ok, eok⟩ : ∃ b, gateOkB x = b := ⟨_, rfl⟩
  rw [eok]
  by_cases hno : ok = false ∨ x.owner < 0
  · have HE : Hid (leaveE x = (x, -1)) := by show _ = _; unfold leaveE; rw [eok, if_pos hno]
    cases ok with
    | false =>
      go_wp2
      obtain ⟨W, eW, hB, hO, hF⟩ := Z2.out.fin
      rw [eW]
      refine box_retV (g := w.heap.size + 1) (t := 26) (cs := #[.int .i64 x.owner, .slice p1 x.waits.length k1, .slice p2 x.queues.length k2]) rfl rfl ?_ _ Try.underlying26 rfl (by kernel_rfl) rfl ?_
      · exact hB
      · rw [HE.out]
        exact ⟨_, _, rfl, hO, hF⟩
    | true =>
      have hn : x.owner < 0 := hno.resolve_left (by decide)
      go_wp2
      obtain ⟨W, eW, hB, hO, hF⟩ := Z2.out.fin
      rw [eW]
      refine box_retV (g := w.heap.size + 1) (t := 26) (cs := #[.int .i64 x.owner, .slice p1 x.waits.length k1, .slice p2 x.queues.length k2]) rfl rfl ?_ _ Try.underlying26 rfl (by kernel_rfl) rfl ?_
      · exact hB
      · rw [HE.out]
        exact ⟨_, _, rfl, hO, hF⟩
  · have eok2 : ok = true := by cases ok with
      | true => rfl
      | false => exact absurd (.inl rfl) hno
    subst eok2
    have hn : ¬ x.owner < 0 := fun h => hno (.inr h)
    have HE : Hid (leaveE x = (nextG x, (nextG x).owner)) := by show _ = _; unfold leaveE; rw [eok, if_neg hno]
    have CN := hide (next_any _ _ _ _ _ _ _ _ _ Z2.out HLN.out)
    clear hno eok
    go_wp2_with (go_at_call 44; refine CN.out.mono ?_; rintro e z3 ⟨rn, rfl, hz3⟩; have Z3 := hide hz3; clear hz3; obtain ⟨pn, kn, ern⟩ := form_own Z3.out.own.o1; subst ern; obtain ⟨gg, egg⟩ : ∃ g, nextG x = g := ⟨_, rfl⟩; rw [egg] at Z3 HE ⊢; clear b0 b1 b2 s0 s1 s2 f0 f1 f2; have b0 := Lib.cell_of_heap Z3.out.bO 0; have b1 := Lib.cell_of_heap Z3.out.bO 1; have b2 := Lib.cell_of_heap Z3.out.bO 2; obtain ⟨ra, rb, rc, hrr⟩ := Z3.out.bR; have s0 := Lib.cell_of_heap hrr 0; have s1 := Lib.cell_of_heap hrr 1; have s2 := Lib.cell_of_heap hrr 2; have f0 := Lib.frozen_of_heap hrr 0; have f1 := Lib.frozen_of_heap hrr 1; have f2 := Lib.frozen_of_heap hrr 2; simp at b0 b1 b2 s0 s1 s2; clear hrr)
    obtain ⟨W, eW, hB, hO, hF⟩ := Z3.out.fin
    rw [eW]
    refine box_retV (g := w.heap.size + 1) (t := 26) (cs := #[.int .i64 gg.owner, .slice pn gg.waits.length kn, .slice p2 x.queues.length k2]) rfl rfl ?_ _ Try.underlying26 rfl (by kernel_rfl) rfl ?_
    · exact hB
    · rw [HE.out]
      exact ⟨_, _, rfl, hO, hF⟩

end Go.Proofs.Ytbikdpljhnhcaaa
