/-
  A row copied into a new one: 'append([]T{}, xs...)' in a region that draws its order.
-/
import Derived.Test.YtmchgmpdhfefjaaSgP
import Derived.Test.YtmchgmpdhfefjaaCorY
import Derived.Maps.AppendAt
import Derived.Deep.RegionHeld3
import Derived.Test.YtmchgmpdhfefjaaFlC
import Derived.Test.YtmchgmpdhfefjaaFlG
namespace Go.Proofs.Ytmchgmpdhfefjaa
open Go.RowKit

/-- A row of values that can be read. -/
def RowAt (w : World) (v : Value) (us : List Value) : Prop := ∃ ao c, v = .slice ao us.length c ∧ ∀ j u, us[j]? = some u → ∃ a, ao = some a ∧ a.block < w.heap.size ∧ w.cell? (a.add j) = some u
theorem IntsAt.row {w : World} {v : Value} {xs : List Int} (h : IntsAt w v xs) : RowAt w v (xs.map I64) := by
  obtain ⟨ao, c, rfl, hc⟩ := h
  refine ⟨ao, c, by rw [List.length_map], fun j u hj => ?_⟩
  rw [List.getElem?_map] at hj
  obtain ⟨y, hy, rfl⟩ := Option.map_eq_some_iff.1 hj
  obtain ⟨hj2, rfl⟩ := List.getElem?_eq_some_iff.1 hy
  exact hc j hj2
theorem StrsAt.row {w : World} {v : Value} {xs : List ByteArray} (h : StrsAt w v xs) : RowAt w v (xs.map Value.string) := by
  obtain ⟨ao, c, rfl, hc⟩ := h
  refine ⟨ao, c, by rw [List.length_map], fun j u hj => ?_⟩
  rw [List.getElem?_map] at hj
  obtain ⟨y, hy, rfl⟩ := Option.map_eq_some_iff.1 hj
  obtain ⟨hj2, rfl⟩ := List.getElem?_eq_some_iff.1 hy
  exact hc j hj2
/-- What such a copy leaves: its row, all else as it was. -/
structure CopyR (B e b : Nat) (W : World) (us : List Value) (v : Value) (w' : World) : Prop where
  own : w'.ownsRow B e 1 v us.length us
  bel : Below b W w'
  oth : ∀ g, g ≠ b → g < W.heap.size → w'.heap[g]? = W.heap[g]?
  pos : v.ownBlock = some b ∨ v.ownBlock = some W.heap.size
theorem CopyR.box {B e b : Nat} {W : World} {us : List Value} {v : Value} {w' : World} (h : CopyR B e b W us v w') {g : Nat} {cs : Array Value} {T : TypeId} (hb : Box W g cs T) (hne : g ≠ b) : Box w' g cs T := (h.oth g hne hb.lt).trans hb
theorem box_one (W : World) (e : TypeId) : Box (W.alloc (.cells #[] e)) W.heap.size #[] e := Box.made _ _ _
theorem box_two1 (W : World) (o : Obj) (e : TypeId) : Box ((W.alloc (.cells #[] e)).alloc o) W.heap.size #[] e := (Box.made _ _ _).stays ((Below.refl _ _).alloc (Nat.le_refl _) _)
theorem box_two2 (W : World) (o : Obj) (e : TypeId) : Box ((W.alloc o).alloc (.cells #[] e)) (W.heap.size + 1) #[] e := Box.madeAt (by simp) _ _
theorem owns_nil {W : World} {b B : Nat} {e : TypeId} (h : Box W b #[] e) (hB : B ≤ b) : W.ownsRow B e 1 (.slice (some ⟨b, 0, none⟩) 0 0) 0 [] := by
  refine ⟨by simp, .inr ⟨b, 0, #[], rfl, hB, h, by simp, by simp [maxLen], by simp, by simp⟩⟩
theorem step_copy {P : Program} {W : World} {ops : Array Oper} {o : Oper} {a : Act} {K : Act → World → Prop} {Q : Exit → Act → World → Prop} {E : Prop} (hgd : o.guard = none) (s x : Operand) (t : TypeId)
    (ho : o.op = .call { callee := .builtin .append, args := #[s, x], argTypes := #[t, t] })
    (B : Nat) (e : TypeId) (z : Value) (bytes : Nat) (ht : P.underlying t = some (.slice e)) (hi : (P.info? e).map (fun i => (i.zero, i.size, i.bytes)) = some (some z, 1, bytes)) (hzs : z.cells.size = 1)
    (b : Nat) (hs : a.eval s = .slice (some ⟨b, 0, none⟩) 0 0) (hbox : Box W b #[] e) (hB : B ≤ b) (xv : Value) (us : List Value) (hx : a.eval x = xv) (hat : RowAt W xv us) (h1 : ∀ u ∈ us, u.oneCell' = true)
    (h63 : us.length ≤ maxLen) (hbytes : us.length * bytes ≤ 140737488355328)
    (h : ∀ v' w', CopyR B e b W us v' w' → K (a.put o.dst v') w') :
    if Region.wanted o (yielded ops a.tmps) = true then Oper.wp P o a W K Q else E := by
  have hw : Region.wanted o (yielded ops a.tmps) = true := by simp [Region.wanted, hgd]
  rw [if_pos hw]
  obtain ⟨i, hi', hz0, hz1, hz2⟩ := info_parts hi
  have hlt := hbox.lt
  obtain ⟨ao, c, rfl, hc⟩ := hat
  cases ao with
  | some ad =>
    obtain ⟨v', w', hr, h2, h3, _, h5⟩ := run_append_own_at (P := P) W B t o.type e i z 1 bytes ht hi' hz0 hz1 hz2 hzs (by decide) (.slice (some ⟨b, 0, none⟩) 0 0) 0 [] (owns_nil hbox hB) ad us.length c us (by omega) (fun j u hj => by
      obtain ⟨a', ha, _, hcell⟩ := hc j u hj
      cases ha
      exact hcell) h1 (by omega) (by rw [Nat.zero_add]; exact hbytes) (by omega)
    unfold Oper.wp execOp
    simp only [ho, resolve, invoke, builtin, Sem.run_bind, Sem.run_pure, Result.andThen_ok, List.map_toArray, List.map_cons, List.map_nil, hs, hx, hr]
    refine h v' w' ⟨by rw [Nat.zero_add] at h2; simpa using h2, (Below.refl b W).grown h3 (Nat.le_of_lt hlt) (fun j hj => by cases hj; exact Nat.le_refl _), fun g hg hgl => h3.block g hgl (fun e => hg (by injection e)), h5⟩
  | none =>
    have h0 : us = [] := by
      rcases us with _ | ⟨y, us⟩
      · rfl
      · obtain ⟨a', ha, _⟩ := hc 0 y rfl
        cases ha
    subst h0
    have hr := run_append_none (P := P) W t o.type e i ht hi' (some ⟨b, 0, none⟩) 0 0 c (Nat.le_refl _)
    unfold Oper.wp execOp
    simp only [ho, resolve, invoke, builtin, Sem.run_bind, Sem.run_pure, Result.andThen_ok, List.map_toArray, List.map_cons, List.map_nil, hs, hx, List.length_nil, hr]
    exact h _ _ ⟨owns_nil hbox hB, Below.refl _ _, fun _ _ _ => rfl, .inl rfl⟩
/-- What one value more leaves. -/
structure MoreR (B e : Nat) (W : World) (v : Value) (xs : List Value) (u : Value) (v' : Value) (w' : World) : Prop where
  own : w'.ownsRow B e 1 v' (xs.length + 1) (xs ++ [u])
  bel : Below B W w'
  oth : ∀ g, v.ownBlock ≠ some g → g < W.heap.size → w'.heap[g]? = W.heap[g]?
  pos : v'.ownBlock = v.ownBlock ∨ v'.ownBlock = some W.heap.size
theorem step_more {P : Program} {W : World} {ops : Array Oper} {o : Oper} {a : Act} {K : Act → World → Prop} {Q : Exit → Act → World → Prop} {E : Prop} (hgd : o.guard = none) (s x : Operand) (t : TypeId)
    (ho : o.op = .call { callee := .builtin .append, args := #[s, x], argTypes := #[t, t] })
    (B : Nat) (e : TypeId) (z : Value) (bytes : Nat) (ht : P.underlying t = some (.slice e)) (hi : (P.info? e).map (fun i => (i.zero, i.size, i.bytes)) = some (some z, 1, bytes)) (hzs : z.cells.size = 1)
    (v : Value) (xs : List Value) (hs : a.eval s = v) (hown : W.ownsRow B e 1 v xs.length xs) (g : Nat) (u : Value) (hx : a.eval x = .slice (some ⟨g, 0, none⟩) 1 1) (hu : W.cell? ⟨g, 0, none⟩ = some u) (h1 : u.oneCell' = true)
    (h63 : xs.length + 1 ≤ maxLen) (hbytes : (xs.length + 1) * bytes ≤ 140737488355328) (hB : B ≤ W.heap.size)
    (h : ∀ v' w', MoreR B e W v xs u v' w' → K (a.put o.dst v') w') :
    if Region.wanted o (yielded ops a.tmps) = true then Oper.wp P o a W K Q else E := by
  have hw : Region.wanted o (yielded ops a.tmps) = true := by simp [Region.wanted, hgd]
  rw [if_pos hw]
  obtain ⟨i, hi', hz0, hz1, hz2⟩ := info_parts hi
  obtain ⟨v', w', hr, h2, h3, _, h5⟩ := run_append_own_at (P := P) W B t o.type e i z 1 bytes ht hi' hz0 hz1 hz2 hzs (by decide) v xs.length xs hown ⟨g, 0, none⟩ 1 1 [u] rfl (fun j w hj => by
    rcases j with _ | j
    · simp at hj
      subst hj
      rw [add_zero_at]
      exact hu
    · simp at hj) (by intro w hw; simp at hw; subst hw; exact h1) h63 hbytes hB
  unfold Oper.wp execOp
  simp only [ho, resolve, invoke, builtin, Sem.run_bind, Sem.run_pure, Result.andThen_ok, List.map_toArray, List.map_cons, List.map_nil, hs, hx, hr]
  exact h v' w' ⟨h2, (Below.refl B W).grown h3 hB (fun j hj => (hown.lt j hj).1), fun g' hg hgl => h3.block g' hgl (fun e => hg e.symm), h5⟩
end Go.Proofs.Ytmchgmpdhfefjaa

namespace Go.Proofs.Ytmchgmpdhfefjaa
open Go.RowKit

structure CpCo (w W : World) (a : Array Value) (z : World) : Prop where
  bA : Box z w.heap.size a 26
  bR : ∃ r0 r1 r2, Box z (w.heap.size + 1) #[r0, r1, r2] 26
  bel : Below w.heap.size w z
  le : w.heap.size + 2 ≤ z.heap.size
theorem CpCo.go {w W : World} {a : Array Value} {z z' : World} (h : CpCo w W a z) (hb : Below (w.heap.size + 2) z z') : CpCo w W a z' :=
  ⟨(hb.block _ (by omega)).trans h.bA, by
    obtain ⟨r0, r1, r2, hr⟩ := h.bR
    exact ⟨r0, r1, r2, (hb.block _ (by omega)).trans hr⟩, h.bel.trans (hb.mono (by omega)), Nat.le_trans h.le hb.size⟩
theorem CpCo.store {w W : World} {a : Array Value} {z : World} (h : CpCo w W a z) (t0 t1 t2 : Value) : CpCo w W a ((((z.setCell ⟨w.heap.size + 1, 0, none⟩ t0).setCell ⟨w.heap.size + 1, 1, none⟩ t1).setCell ⟨w.heap.size + 1, 2, none⟩ t2)) ∧ Box ((((z.setCell ⟨w.heap.size + 1, 0, none⟩ t0).setCell ⟨w.heap.size + 1, 1, none⟩ t1).setCell ⟨w.heap.size + 1, 2, none⟩ t2)) (w.heap.size + 1) #[t0, t1, t2] 26 := by
  obtain ⟨r0, r1, r2, hr⟩ := h.bR
  have hs : Box ((((z.setCell ⟨w.heap.size + 1, 0, none⟩ t0).setCell ⟨w.heap.size + 1, 1, none⟩ t1).setCell ⟨w.heap.size + 1, 2, none⟩ t2)) (w.heap.size + 1) #[t0, t1, t2] 26 := by simpa using (((hr.set 0 t0).set 1 t1).set 2 t2)
  refine ⟨⟨?_, ⟨t0, t1, t2, hs⟩, ?_, ?_⟩, hs⟩
  · exact (((h.bA.other ⟨w.heap.size + 1, 0, none⟩ t0 (by show w.heap.size ≠ _; simp)).other ⟨w.heap.size + 1, 1, none⟩ t1 (by show w.heap.size ≠ _; simp)).other ⟨w.heap.size + 1, 2, none⟩ t2 (by show w.heap.size ≠ _; simp))
  · exact (((h.bel.setCell (p := ⟨w.heap.size + 1, 0, none⟩) (by show w.heap.size ≤ w.heap.size + 1; omega) t0).setCell (p := ⟨w.heap.size + 1, 1, none⟩) (by show w.heap.size ≤ w.heap.size + 1; omega) t1).setCell (p := ⟨w.heap.size + 1, 2, none⟩) (by show w.heap.size ≤ w.heap.size + 1; omega) t2)
  · have := h.le
    simpa [World.setCell] using this

set_option maxRecDepth 100000 in
set_option maxHeartbeats 8000000 in
theorem copyCo_any (v0 : Value) (x : Co) (w : World) (h : CoAt w v0 x) (hl : CoLen x) :
    Calls Try.prog 32 #[.agg #[v0, .int .i64 x.pc, .int .i64 x.process]] w fun e w' => ∃ r0, e = .returned (.agg #[r0, .int .i64 x.pc, .int .i64 x.process]) ∧ CoOwn w.heap.size w' r0 x ∧ Below w.heap.size w w' := by
  have HA := hide h
  have L0 := hl.l0
  obtain ⟨o0, c0, rfl, _⟩ := h.a0
  clear h hl
  obtain ⟨W0, hW⟩ : ∃ W0, (w.alloc (.cells #[.slice o0 x.regs.length c0, .int .i64 x.pc, .int .i64 x.process] 26)).alloc (.cells #[.slice none 0 0, .int .i64 0, .int .i64 0] 26) = W0 := ⟨_, rfl⟩
  have C0 : Hid (CpCo w W0 #[.slice o0 x.regs.length c0, .int .i64 x.pc, .int .i64 x.process] W0) := by
    rw [← hW]
    exact hide ⟨(Box.made w #[.slice o0 x.regs.length c0, .int .i64 x.pc, .int .i64 x.process] 26).stays ((Below.refl _ _).alloc (Nat.le_refl _) _), ⟨_, _, _, Box.madeAt (by simp) _ _⟩, by go_grown, by simp⟩
  have HZ : Hid (W0.heap.size = w.heap.size + 2) := by rw [← hW]; show _ = _; simp
  have HW := hide hW
  clear hW
  have KC : Hid (∀ z : World, CpCo w W0 #[.slice o0 x.regs.length c0, .int .i64 x.pc, .int .i64 x.process] z → (z.cell? ⟨w.heap.size, 0, none⟩ = some (.slice o0 x.regs.length c0) ∧ z.cell? ⟨w.heap.size, 1, none⟩ = some (.int .i64 x.pc) ∧ z.cell? ⟨w.heap.size, 2, none⟩ = some (.int .i64 x.process) ∧ Hid (CpCo w W0 #[.slice o0 x.regs.length c0, .int .i64 x.pc, .int .i64 x.process] z))) := fun z hz => ⟨Lib.cell_of_heap hz.bA 0, Lib.cell_of_heap hz.bA 1, Lib.cell_of_heap hz.bA 2, hz⟩
  have KV : Hid (∀ z : World, (z.cell? ⟨w.heap.size, 0, none⟩ = some (.slice o0 x.regs.length c0) ∧ z.cell? ⟨w.heap.size, 1, none⟩ = some (.int .i64 x.pc) ∧ z.cell? ⟨w.heap.size, 2, none⟩ = some (.int .i64 x.process) ∧ Hid (CpCo w W0 #[.slice o0 x.regs.length c0, .int .i64 x.pc, .int .i64 x.process] z)) → CpCo w W0 #[.slice o0 x.regs.length c0, .int .i64 x.pc, .int .i64 x.process] z) := fun z hz => hz.2.2.2.out
  have KP : Hid (∀ z z' : World, (z.cell? ⟨w.heap.size, 0, none⟩ = some (.slice o0 x.regs.length c0) ∧ z.cell? ⟨w.heap.size, 1, none⟩ = some (.int .i64 x.pc) ∧ z.cell? ⟨w.heap.size, 2, none⟩ = some (.int .i64 x.process) ∧ Hid (CpCo w W0 #[.slice o0 x.regs.length c0, .int .i64 x.pc, .int .i64 x.process] z)) → Below (w.heap.size + 2) z z' → (z'.cell? ⟨w.heap.size, 0, none⟩ = some (.slice o0 x.regs.length c0) ∧ z'.cell? ⟨w.heap.size, 1, none⟩ = some (.int .i64 x.pc) ∧ z'.cell? ⟨w.heap.size, 2, none⟩ = some (.int .i64 x.process) ∧ Hid (CpCo w W0 #[.slice o0 x.regs.length c0, .int .i64 x.pc, .int .i64 x.process] z'))) := fun z z' hz hb => KC.out _ ((KV.out _ hz).go hb)
  have KA : Hid (∀ (z : World) (o : Obj), (z.cell? ⟨w.heap.size, 0, none⟩ = some (.slice o0 x.regs.length c0) ∧ z.cell? ⟨w.heap.size, 1, none⟩ = some (.int .i64 x.pc) ∧ z.cell? ⟨w.heap.size, 2, none⟩ = some (.int .i64 x.process) ∧ Hid (CpCo w W0 #[.slice o0 x.regs.length c0, .int .i64 x.pc, .int .i64 x.process] z)) → ((z.alloc o).cell? ⟨w.heap.size, 0, none⟩ = some (.slice o0 x.regs.length c0) ∧ (z.alloc o).cell? ⟨w.heap.size, 1, none⟩ = some (.int .i64 x.pc) ∧ (z.alloc o).cell? ⟨w.heap.size, 2, none⟩ = some (.int .i64 x.process) ∧ Hid (CpCo w W0 #[.slice o0 x.regs.length c0, .int .i64 x.pc, .int .i64 x.process] (z.alloc o)))) := fun z o hz => KP.out _ _ hz ((Below.refl _ _).alloc (KV.out _ hz).le _)
  have K0 := hide (KC.out _ (C0.out.go (Below.refl _ _).drew))
  have KR0 : Hid (∀ z : World, (z.cell? ⟨w.heap.size, 0, none⟩ = some (.slice o0 x.regs.length c0) ∧ z.cell? ⟨w.heap.size, 1, none⟩ = some (.int .i64 x.pc) ∧ z.cell? ⟨w.heap.size, 2, none⟩ = some (.int .i64 x.process) ∧ Hid (CpCo w W0 #[.slice o0 x.regs.length c0, .int .i64 x.pc, .int .i64 x.process] z)) → RowAt z (.slice o0 x.regs.length c0) (x.regs.map I64)) := fun z hz => (HA.out.a0.stays (KV.out _ hz).bel).row
  have KO0 : Hid (∀ u ∈ x.regs.map I64, u.oneCell' = true) := fun u hu => by obtain ⟨y, _, rfl⟩ := List.mem_map.1 hu; rfl
  have KL0 : Hid ((x.regs.map I64).length ≤ maxLen) := by rw [List.length_map]; show _ ≤ _; unfold maxLen; omega
  have KM0 : Hid ((x.regs.map I64).length * 8 ≤ 140737488355328) := by rw [List.length_map]; show _ ≤ _; omega
  go_enter Try.func32, Try.ntmps32
  go_wp2_with fail
  rw [HW.out]
  go_region_held3 (fun z => z.cell? ⟨w.heap.size, 0, none⟩ = some (.slice o0 x.regs.length c0) ∧ z.cell? ⟨w.heap.size, 1, none⟩ = some (.int .i64 x.pc) ∧ z.cell? ⟨w.heap.size, 2, none⟩ = some (.int .i64 x.process) ∧ Hid (CpCo w W0 #[.slice o0 x.regs.length c0, .int .i64 x.pc, .int .i64 x.process] z)) (first | exact K0.out | exact KA.out _ _ (by assumption) | exact KP.out _ _ (by assumption) (hq6.bel.mono (by have := HZ.out; simp; omega)) | exact KC.out _ (CW.out.store _ _ _).1)
    (first
      | (refine step_copy rfl _ _ 24 rfl (w.heap.size + 2) 3 (.int .i64 0) 8 Try.underlying24 Try.infoInt rfl _ rfl (by first | (first | (show Box (W0.alloc _) _ _ _; exact box_one _ _) | (show Box ((W0.alloc _).alloc _) _ _ _; exact box_two1 _ _ _) | (show Box ((W0.alloc _).alloc _) _ _ _; exact box_two2 _ _ _))) (by have := HZ.out; simp; omega) _ (x.regs.map I64) rfl (KR0.out _ (by assumption)) KO0.out KL0.out KM0.out ?_; intro u6 w6 hq6; obtain ⟨po6, pc6, rfl⟩ := form_own hq6.own; have CW := hide ((KV.out _ (by assumption)).go (hq6.bel.mono (by have := HZ.out; simp; omega))); obtain ⟨rr0, rr1, rr2, hrr⟩ := CW.out.bR; have y0 := Lib.cell_of_heap hrr 0; simp at y0; have f0 := Lib.frozen_of_heap hrr 0; have y1 := Lib.cell_of_heap hrr 1; simp at y1; have f1 := Lib.frozen_of_heap hrr 1; have y2 := Lib.cell_of_heap hrr 2; simp at y2; have f2 := Lib.frozen_of_heap hrr 2; clear hrr))
  all_goals go_wp2
  all_goals
    have HS := CW.out.store (.slice po6 x.regs.length pc6) (.int .i64 x.pc) (.int .i64 x.process)
    have Q6 := hq6.own
    have S6 := hq6.pos
    simp only [List.length_map] at Q6 S6
    refine box_ret (g := w.heap.size + 1) (t := 26) (cs := #[.slice po6 x.regs.length pc6, .int .i64 x.pc, .int .i64 x.process]) rfl rfl ?_ _ Try.underlying26 rfl (by kernel_rfl) rfl ?_
    · exact HS.2
    · exact ⟨_, rfl, ⟨owns_lo (owns_eq Q6 fun g hg => by have hg2 := (Q6.lt g hg).1; exact (Below.heap_setCell _ ⟨w.heap.size + 1, 2, none⟩ _ g (by show g ≠ w.heap.size + 1; omega)).trans ((Below.heap_setCell _ ⟨w.heap.size + 1, 1, none⟩ _ g (by show g ≠ w.heap.size + 1; omega)).trans (Below.heap_setCell _ ⟨w.heap.size + 1, 0, none⟩ _ g (by show g ≠ w.heap.size + 1; omega)))) (by omega)⟩, HS.1.bel⟩
end Go.Proofs.Ytmchgmpdhfefjaa

namespace Go.Proofs.Ytmchgmpdhfefjaa
open Go.RowKit

end Go.Proofs.Ytmchgmpdhfefjaa
