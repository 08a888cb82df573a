/-
  Walks: a thread copied, by the specification.
-/
import Derived.Test.YtipmgmmchmdajaaThrP
import Derived.Test.YtipmgmmchmdajaaCopE
namespace Go.Proofs.Ytipmgmmchmdajaa
open Go.RowKit

structure CpTr (w W : World) (a : Array Value) (z : World) : Prop where
  bA : Box z w.heap.size a 34
  bR : ∃ r0 r1 r2 r3, Box z (w.heap.size + 1) #[r0, r1, r2, r3] 34
  bel : Below w.heap.size w z
  le : w.heap.size + 2 ≤ z.heap.size
theorem CpTr.go {w W : World} {a : Array Value} {z z' : World} (h : CpTr w W a z) (hb : Below (w.heap.size + 2) z z') : CpTr w W a z' :=
  ⟨(hb.block _ (by omega)).trans h.bA, by
    obtain ⟨r0, r1, r2, r3, hr⟩ := h.bR
    exact ⟨r0, r1, r2, r3, (hb.block _ (by omega)).trans hr⟩, h.bel.trans (hb.mono (by omega)), Nat.le_trans h.le hb.size⟩
theorem CpTr.store {w W : World} {a : Array Value} {z : World} (h : CpTr w W a z) (t0 t1 t2 t3 : Value) : CpTr w W a ((((z.setCell ⟨w.heap.size + 1, 0, none⟩ t0).setCell ⟨w.heap.size + 1, 1, none⟩ t1).setCell ⟨w.heap.size + 1, 2, none⟩ t2).setCell ⟨w.heap.size + 1, 3, none⟩ t3) ∧ Box ((((z.setCell ⟨w.heap.size + 1, 0, none⟩ t0).setCell ⟨w.heap.size + 1, 1, none⟩ t1).setCell ⟨w.heap.size + 1, 2, none⟩ t2).setCell ⟨w.heap.size + 1, 3, none⟩ t3) (w.heap.size + 1) #[t0, t1, t2, t3] 34 ∧ (∀ g, w.heap.size + 2 ≤ g → ((((z.setCell ⟨w.heap.size + 1, 0, none⟩ t0).setCell ⟨w.heap.size + 1, 1, none⟩ t1).setCell ⟨w.heap.size + 1, 2, none⟩ t2).setCell ⟨w.heap.size + 1, 3, none⟩ t3).heap[g]? = z.heap[g]?) := by
  obtain ⟨r0, r1, r2, r3, hr⟩ := h.bR
  have hs : Box ((((z.setCell ⟨w.heap.size + 1, 0, none⟩ t0).setCell ⟨w.heap.size + 1, 1, none⟩ t1).setCell ⟨w.heap.size + 1, 2, none⟩ t2).setCell ⟨w.heap.size + 1, 3, none⟩ t3) (w.heap.size + 1) #[t0, t1, t2, t3] 34 := by simpa using ((((hr.set 0 t0).set 1 t1).set 2 t2).set 3 t3)
  have ne : ∀ g i, g ≠ w.heap.size + 1 → g ≠ (⟨w.heap.size + 1, i, none⟩ : Addr).block := fun g i h => h
  have e : ∀ g, g ≠ w.heap.size + 1 → ((((z.setCell ⟨w.heap.size + 1, 0, none⟩ t0).setCell ⟨w.heap.size + 1, 1, none⟩ t1).setCell ⟨w.heap.size + 1, 2, none⟩ t2).setCell ⟨w.heap.size + 1, 3, none⟩ t3).heap[g]? = z.heap[g]? := fun g hg =>
    (Below.heap_setCell _ _ _ g (ne g 3 hg)).trans ((Below.heap_setCell _ _ _ g (ne g 2 hg)).trans ((Below.heap_setCell _ _ _ g (ne g 1 hg)).trans (Below.heap_setCell _ _ _ g (ne g 0 hg))))
  refine ⟨⟨(e _ (by omega)).trans h.bA, ⟨t0, t1, t2, t3, hs⟩, ?_, ?_⟩, hs, fun g hg => e g (by omega)⟩
  · have hw : w.heap.size ≤ w.heap.size + 1 := by omega
    exact (((h.bel.setCell (p := ⟨w.heap.size + 1, 0, none⟩) hw t0).setCell (p := ⟨w.heap.size + 1, 1, none⟩) hw t1).setCell (p := ⟨w.heap.size + 1, 2, none⟩) hw t2).setCell (p := ⟨w.heap.size + 1, 3, none⟩) hw t3
  · have := h.le
    simpa [World.setCell] using this

set_option maxRecDepth 100000 in
set_option maxHeartbeats 8000000 in
theorem copyTr_any (v0 v1 v2 : Value) (x : Tr) (w : World) (h : TrAt w v0 v1 v2 x) (hl : TrLen x) :
    Calls Try.prog 52 #[.agg #[v0, v1, v2, .int .i64 x.fault]] w fun e w' => ∃ r0 r1 r2, e = .returned (.agg #[r0, r1, r2, .int .i64 x.fault]) ∧ TrOwn w.heap.size w' r0 r1 r2 x ∧ Below w.heap.size w w' := by
  have HA := hide h
  have L0 := hl.l0
  have L1 := hl.l1
  have L2 := hl.l2
  have C1 := fun z (h : EvAt z v1 v2 ⟨x.names, x.vals⟩) => hide (copyEv_any v1 v2 ⟨x.names, x.vals⟩ z h ⟨hl.l1, hl.l2⟩)
  obtain ⟨o0, c0, rfl, _⟩ := h.a0
  obtain ⟨o1, c1, rfl, _⟩ := h.a1
  obtain ⟨o2, c2, rfl, _⟩ := h.a2
  clear h hl
  obtain ⟨n, en⟩ : ∃ n, x.todo.length = n := ⟨_, rfl⟩
  obtain ⟨m, em⟩ : ∃ m, x.names.length = m := ⟨_, rfl⟩
  obtain ⟨q, eq⟩ : ∃ m, x.vals.length = m := ⟨_, rfl⟩
  have EN := hide en
  rw [en] at HA L0
  rw [em] at HA L1 C1
  rw [eq] at HA L2 C1
  rw [en, em, eq]
  clear en em eq
  obtain ⟨ft, eft⟩ : ∃ f, x.fault = f := ⟨_, rfl⟩
  rw [eft]
  clear eft
  obtain ⟨W0, hW⟩ : ∃ W0, (w.alloc (.cells #[.slice o0 n c0, .slice o1 m c1, .slice o2 q c2, .int .i64 ft] 34)).alloc (.cells #[.slice none 0 0, .slice none 0 0, .slice none 0 0, .int .i64 0] 34) = W0 := ⟨_, rfl⟩
  have C0 : Hid (CpTr w W0 #[.slice o0 n c0, .slice o1 m c1, .slice o2 q c2, .int .i64 ft] W0) := by
    rw [← hW]
    exact hide ⟨(Box.made w _ 34).stays ((Below.refl _ _).alloc (Nat.le_refl _) _), ⟨_, _, _, _, Box.madeAt (by simp) _ _⟩, by go_grown, by simp⟩
  have HZ : Hid (W0.heap.size = w.heap.size + 2) := by rw [← hW]; show _ = _; simp
  have HW := hide hW
  clear hW
  obtain ⟨Sc, eSc⟩ : ∃ Sc : World → Prop, ∀ z, Sc z ↔ CpTr w W0 #[.slice o0 n c0, .slice o1 m c1, .slice o2 q c2, .int .i64 ft] z := ⟨_, fun _ => Iff.rfl⟩
  have HSC := hide eSc
  clear eSc
  have KC : Hid (∀ z : World, Sc z → (z.cell? ⟨w.heap.size, 0, none⟩ = some (.slice o0 n c0) ∧ z.cell? ⟨w.heap.size, 1, none⟩ = some (.slice o1 m c1) ∧ z.cell? ⟨w.heap.size, 2, none⟩ = some (.slice o2 q c2) ∧ z.cell? ⟨w.heap.size, 3, none⟩ = some (.int .i64 ft) ∧ Sc z)) := fun z hz => ⟨Lib.cell_of_heap ((HSC.out z).1 hz).bA 0, Lib.cell_of_heap ((HSC.out z).1 hz).bA 1, Lib.cell_of_heap ((HSC.out z).1 hz).bA 2, Lib.cell_of_heap ((HSC.out z).1 hz).bA 3, hz⟩
  have KV : Hid (∀ z : World, (z.cell? ⟨w.heap.size, 0, none⟩ = some (.slice o0 n c0) ∧ z.cell? ⟨w.heap.size, 1, none⟩ = some (.slice o1 m c1) ∧ z.cell? ⟨w.heap.size, 2, none⟩ = some (.slice o2 q c2) ∧ z.cell? ⟨w.heap.size, 3, none⟩ = some (.int .i64 ft) ∧ Sc z) → CpTr w W0 #[.slice o0 n c0, .slice o1 m c1, .slice o2 q c2, .int .i64 ft] z) := fun z hz => (HSC.out z).1 hz.2.2.2.2
  have KP : Hid (∀ z z' : World, (z.cell? ⟨w.heap.size, 0, none⟩ = some (.slice o0 n c0) ∧ z.cell? ⟨w.heap.size, 1, none⟩ = some (.slice o1 m c1) ∧ z.cell? ⟨w.heap.size, 2, none⟩ = some (.slice o2 q c2) ∧ z.cell? ⟨w.heap.size, 3, none⟩ = some (.int .i64 ft) ∧ Sc z) → Below (w.heap.size + 2) z z' → (z'.cell? ⟨w.heap.size, 0, none⟩ = some (.slice o0 n c0) ∧ z'.cell? ⟨w.heap.size, 1, none⟩ = some (.slice o1 m c1) ∧ z'.cell? ⟨w.heap.size, 2, none⟩ = some (.slice o2 q c2) ∧ z'.cell? ⟨w.heap.size, 3, none⟩ = some (.int .i64 ft) ∧ Sc z')) := fun z z' hz hb => KC.out _ ((HSC.out z').2 ((KV.out _ hz).go hb))
  have KA : Hid (∀ (z : World) (o : Obj), (z.cell? ⟨w.heap.size, 0, none⟩ = some (.slice o0 n c0) ∧ z.cell? ⟨w.heap.size, 1, none⟩ = some (.slice o1 m c1) ∧ z.cell? ⟨w.heap.size, 2, none⟩ = some (.slice o2 q c2) ∧ z.cell? ⟨w.heap.size, 3, none⟩ = some (.int .i64 ft) ∧ Sc z) → ((z.alloc o).cell? ⟨w.heap.size, 0, none⟩ = some (.slice o0 n c0) ∧ (z.alloc o).cell? ⟨w.heap.size, 1, none⟩ = some (.slice o1 m c1) ∧ (z.alloc o).cell? ⟨w.heap.size, 2, none⟩ = some (.slice o2 q c2) ∧ (z.alloc o).cell? ⟨w.heap.size, 3, none⟩ = some (.int .i64 ft) ∧ Sc (z.alloc o))) := fun z o hz => KP.out _ _ hz ((Below.refl _ _).alloc (KV.out _ hz).le _)
  have K0 := hide (KC.out _ ((HSC.out _).2 (C0.out.go (Below.refl _ _).drew)))
  have KR0 : Hid (∀ z : World, (z.cell? ⟨w.heap.size, 0, none⟩ = some (.slice o0 n c0) ∧ z.cell? ⟨w.heap.size, 1, none⟩ = some (.slice o1 m c1) ∧ z.cell? ⟨w.heap.size, 2, none⟩ = some (.slice o2 q c2) ∧ z.cell? ⟨w.heap.size, 3, none⟩ = some (.int .i64 ft) ∧ Sc z) → RowAt z (.slice o0 n c0) (x.todo.map I64)) := fun z hz => (HA.out.stays (KV.out _ hz).bel).a0.row
  have KE : Hid (∀ z : World, (z.cell? ⟨w.heap.size, 0, none⟩ = some (.slice o0 n c0) ∧ z.cell? ⟨w.heap.size, 1, none⟩ = some (.slice o1 m c1) ∧ z.cell? ⟨w.heap.size, 2, none⟩ = some (.slice o2 q c2) ∧ z.cell? ⟨w.heap.size, 3, none⟩ = some (.int .i64 ft) ∧ Sc z) → EvAt z (.slice o1 m c1) (.slice o2 q c2) ⟨x.names, x.vals⟩) := fun z hz => ⟨(HA.out.stays (KV.out _ hz).bel).a1, (HA.out.stays (KV.out _ hz).bel).a2⟩
  have KO0 : Hid (∀ u ∈ x.todo.map I64, u.oneCell' = true) := fun u hu => by obtain ⟨y, _, rfl⟩ := List.mem_map.1 hu; rfl
  have KL0 : Hid ((x.todo.map I64).length ≤ maxLen) := by rw [List.length_map, EN.out]; show _ ≤ _; unfold maxLen; omega
  have KM0 : Hid ((x.todo.map I64).length * 8 ≤ 140737488355328) := by rw [List.length_map, EN.out]; show _ ≤ _; omega
  go_enter Try.func52, Try.ntmps52
  go_wp2_with fail
  rw [HW.out]
  have HE : Hid (∀ z : World, (z.cell? ⟨w.heap.size, 0, none⟩ = some (.slice o0 n c0) ∧ z.cell? ⟨w.heap.size, 1, none⟩ = some (.slice o1 m c1) ∧ z.cell? ⟨w.heap.size, 2, none⟩ = some (.slice o2 q c2) ∧ z.cell? ⟨w.heap.size, 3, none⟩ = some (.int .i64 ft) ∧ Sc z) → w.heap.size + 2 ≤ z.heap.size) := fun z hz => (KV.out z hz).le
  go_region_held3 (fun z => z.cell? ⟨w.heap.size, 0, none⟩ = some (.slice o0 n c0) ∧ z.cell? ⟨w.heap.size, 1, none⟩ = some (.slice o1 m c1) ∧ z.cell? ⟨w.heap.size, 2, none⟩ = some (.slice o2 q c2) ∧ z.cell? ⟨w.heap.size, 3, none⟩ = some (.int .i64 ft) ∧ Sc z) (first | exact K0.out | with_reducible exact KP.out _ _ (by assumption) HM6.out | with_reducible exact KP.out _ _ (by assumption) HM7.out | exact KC.out _ ((HSC.out _).2 (CW.out.store _ _ _ _).1) | exact KA.out _ _ (by assumption))
    (first
      | (go_at_call 70; refine (unhide (C1 _ (KE.out _ (by assumption)))).mono ?_; rintro e w7 ⟨r1, r2, rfl, ho7, hb7⟩; obtain ⟨p1, k1, e8⟩ := form_own ho7.o0; subst e8; obtain ⟨p2, k2, e9⟩ := form_own ho7.o1; subst e9; have HM7 := hide (hb7.mono (HE.out _ (by assumption))); have CW := hide (KV.out _ (KP.out _ _ (by assumption) HM7.out)); obtain ⟨rr0, rr1, rr2, rr3, hrr⟩ := CW.out.bR; have y0 := Lib.cell_of_heap hrr 0; have y1 := Lib.cell_of_heap hrr 1; have y2 := Lib.cell_of_heap hrr 2; have y3 := Lib.cell_of_heap hrr 3; simp at y0 y1 y2 y3; have f0 := Lib.frozen_of_heap hrr 0; have f1 := Lib.frozen_of_heap hrr 1; have f2 := Lib.frozen_of_heap hrr 2; have f3 := Lib.frozen_of_heap hrr 3; clear hrr)
      | (refine step_copy rfl _ _ 30 rfl (w.heap.size + 2) 3 (.int .i64 0) 8 Try.underlying30 Try.infoInt rfl _ rfl (by first | (show Box (W0.alloc _) _ _ _; exact box_one _ _) | (show Box (w7.alloc _) _ _ _; exact box_one _ _) | (exact (box_one W0 3).stays hb7)) (by first | (have := HZ.out; simp; omega) | (have := HM7.out.size; have := HZ.out; simp at this ⊢; omega)) _ (x.todo.map I64) rfl (KR0.out _ (by assumption)) KO0.out KL0.out KM0.out ?_; intro u6 w6 hq6; obtain ⟨po6, pc6, e6⟩ := form_own hq6.own; subst e6; have HM6 := hide (hq6.bel.mono (show w.heap.size + 2 ≤ _ by first | (have := HZ.out; simp; omega) | (have := HM7.out.size; have := HZ.out; simp at this ⊢; omega))); have CW := hide (KV.out _ (KP.out _ _ (by assumption) HM6.out)); obtain ⟨rr0, rr1, rr2, rr3, hrr⟩ := CW.out.bR; have y0 := Lib.cell_of_heap hrr 0; have y1 := Lib.cell_of_heap hrr 1; have y2 := Lib.cell_of_heap hrr 2; have y3 := Lib.cell_of_heap hrr 3; simp at y0 y1 y2 y3; have f0 := Lib.frozen_of_heap hrr 0; have f1 := Lib.frozen_of_heap hrr 1; have f2 := Lib.frozen_of_heap hrr 2; have f3 := Lib.frozen_of_heap hrr 3; clear hrr))
  have HS := CW.out.store (.slice po6 (x.todo.map I64).length pc6) (.slice p1 x.names.length k1) (.slice p2 x.vals.length k2) (.int .i64 ft)
  have E6 := ownsInts_stays hq6.own hb7
  have hs7 := HM6.out.size
  have hle := HZ.out
  have hw6 : w.heap.size + 2 ≤ w6.heap.size := by simp at hs7; omega
  have RES : Hid (TrOwn w.heap.size ((((w7.setCell ⟨w.heap.size + 1, 0, none⟩ (.slice po6 (x.todo.map I64).length pc6)).setCell ⟨w.heap.size + 1, 1, none⟩ (.slice p1 x.names.length k1)).setCell ⟨w.heap.size + 1, 2, none⟩ (.slice p2 x.vals.length k2)).setCell ⟨w.heap.size + 1, 3, none⟩ (.int .i64 ft)) (.slice po6 (x.todo.map I64).length pc6) (.slice p1 x.names.length k1) (.slice p2 x.vals.length k2) x) := by
    refine ⟨?_, owns_lo (owns_eq ho7.o0 fun g hg => HS.2.2 g (Nat.le_trans hw6 (ho7.o0.lt g hg).1)) (by omega), owns_lo (owns_eq ho7.o1 fun g hg => HS.2.2 g (Nat.le_trans hw6 (ho7.o1.lt g hg).1)) (by omega), fun i h6 h7 => ?_⟩
    · have h9 := owns_lo (a := w.heap.size) (owns_eq (z' := ((((w7.setCell ⟨w.heap.size + 1, 0, none⟩ (.slice po6 (x.todo.map I64).length pc6)).setCell ⟨w.heap.size + 1, 1, none⟩ (.slice p1 x.names.length k1)).setCell ⟨w.heap.size + 1, 2, none⟩ (.slice p2 x.vals.length k2)).setCell ⟨w.heap.size + 1, 3, none⟩ (.int .i64 ft))) E6 fun g hg => HS.2.2 g (E6.lt g hg).1) (by omega)
      rw [List.length_map] at h9 ⊢
      exact h9
    · have h8 := (hq6.own.lt i h6).2
      have h9 := (ho7.o1.lt i h7).1
      omega
  have HBX := hide HS.2.1
  have HBL := hide HS.1.bel
  clear HS E6 hs7 hle hw6
  go_wp2
  refine box_ret (g := w.heap.size + 1) (t := 34) (cs := #[.slice po6 (x.todo.map I64).length pc6, .slice p1 x.names.length k1, .slice p2 x.vals.length k2, .int .i64 ft]) rfl rfl ?_ _ Try.underlying34 rfl (by kernel_rfl) rfl ?_
  · first | exact HBX.out | (have h9 := HBX.out; rw [List.length_map] at h9 ⊢; exact h9)
  · first | exact ⟨_, _, _, rfl, RES.out, HBL.out⟩ | (have h9 := RES.out; have h8 := HBL.out; rw [List.length_map] at h9 h8 ⊢; exact ⟨_, _, _, rfl, h9, h8⟩)
end Go.Proofs.Ytipmgmmchmdajaa
