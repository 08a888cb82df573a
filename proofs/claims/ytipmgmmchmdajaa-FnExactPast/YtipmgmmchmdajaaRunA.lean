/-
  Walks: a thread on its way, by the program: begun, handed back.
-/
import Derived.Test.YtipmgmmchmdajaaTodP
import Derived.Test.YtipmgmmchmdajaaEniA
import Derived.Deep.RegionHeld3
namespace Go.Proofs.Ytipmgmmchmdajaa
open Go.RowKit

/-- How a thread on its way lies in memory. -/
structure RnAt (w : World) (B b : Nat) (nv mv pv : Value) (t : Option Addr) (e0 e1 : Value) (x : Tr) : Prop where
  box : Box w b #[nv, mv, pv, .pointer t, .int .i64 (x.todo.length : Int), e0, e1, .int .i64 x.fault] 86
  ch : Chain w (.pointer t) x.todo.reverse
  env : EvOwn B w e0 e1 ⟨x.names, x.vals⟩
  le : B ≤ b
theorem RnAt.stays {w w' : World} {B b : Nat} {nv mv pv : Value} {t : Option Addr} {e0 e1 : Value} {x : Tr} (h : RnAt w B b nv mv pv t e0 e1 x) (hb : Below w.heap.size w w') : RnAt w' B b nv mv pv t e0 e1 x := ⟨h.box.stays hb, h.ch.stays hb, h.env.stays hb, h.le⟩
/-- The boxes of what came in. -/
structure RnZ (w : World) (ps ts : Array Value) (z : World) : Prop where
  bP : Box z w.heap.size ps 40
  bT : Box z (w.heap.size + 1) ts 34
  bel : Below w.heap.size w z
theorem RnZ.go {w : World} {ps ts : Array Value} {z z' : World} (h : RnZ w ps ts z) (hb : Below z.heap.size z z') : RnZ w ps ts z' := ⟨h.bP.stays hb, h.bT.stays hb, h.bel.trans (hb.mono h.bel.size)⟩

set_option maxRecDepth 100000 in
set_option maxHeartbeats 8000000 in
theorem runnerOf_any (nv mv pv v0 v1 v2 : Value) (x : Tr) (w : World) (h : TrAt w v0 v1 v2 x) (hl : TrLen x) (hp : ∃ a b c a' b' c' a'' b'' c'', nv = .slice a b c ∧ mv = .slice a' b' c' ∧ pv = .slice a'' b'' c'') :
    Calls Try.prog 50 #[.agg #[nv, mv, pv], .agg #[v0, v1, v2, .int .i64 x.fault]] w fun e w' => ∃ b t e0 e1, e = .returned (.pointer (some ⟨b, 0, none⟩)) ∧ RnAt w' w.heap.size b nv mv pv t e0 e1 x ∧ Below w.heap.size w w' := by
  obtain ⟨pa, pb, pc, qa, qb, qc, ra, rb, rc, rfl, rfl, rfl⟩ := hp
  have HA := hide h
  have C1 := fun z h => hide (todoOf_any v0 x.todo z h hl.l0)
  have C2 := fun z h => hide (copied_any v1 v2 ⟨x.names, x.vals⟩ z h ⟨hl.l1, hl.l2⟩)
  obtain ⟨o0, c0, rfl, _⟩ := h.a0
  obtain ⟨o1, c1, rfl, _⟩ := h.a1
  obtain ⟨o2, c2, rfl, _⟩ := h.a2
  clear h hl
  obtain ⟨W0, hW⟩ : ∃ W0, (w.alloc (.cells #[.slice pa pb pc, .slice qa qb qc, .slice ra rb rc] 40)).alloc (.cells #[.slice o0 x.todo.length c0, .slice o1 x.names.length c1, .slice o2 x.vals.length c2, .int .i64 x.fault] 34) = W0 := ⟨_, rfl⟩
  have C0 : Hid (RnZ w #[.slice pa pb pc, .slice qa qb qc, .slice ra rb rc] #[.slice o0 x.todo.length c0, .slice o1 x.names.length c1, .slice o2 x.vals.length c2, .int .i64 x.fault] W0) := by
    rw [← hW]
    exact hide ⟨(Box.made w _ _).stays ((Below.refl _ _).alloc (Nat.le_refl _) _), Box.madeAt (by simp) _ _, by go_grown⟩
  have HW := hide hW
  clear hW
  obtain ⟨S, hS⟩ : ∃ S : World → Prop, S = fun z => z.cell? ⟨w.heap.size, 0, none⟩ = some (.slice pa pb pc) ∧ z.cell? ⟨w.heap.size, 1, none⟩ = some (.slice qa qb qc) ∧ z.cell? ⟨w.heap.size, 2, none⟩ = some (.slice ra rb rc) ∧ z.cell? ⟨w.heap.size + 1, 0, none⟩ = some (.slice o0 x.todo.length c0) ∧ z.cell? ⟨w.heap.size + 1, 1, none⟩ = some (.slice o1 x.names.length c1) ∧ z.cell? ⟨w.heap.size + 1, 2, none⟩ = some (.slice o2 x.vals.length c2) ∧ z.cell? ⟨w.heap.size + 1, 3, none⟩ = some (.int .i64 x.fault) ∧ Hid (RnZ w #[.slice pa pb pc, .slice qa qb qc, .slice ra rb rc] #[.slice o0 x.todo.length c0, .slice o1 x.names.length c1, .slice o2 x.vals.length c2, .int .i64 x.fault] z) := ⟨_, rfl⟩
  have KC : Hid (∀ z : World, RnZ w #[.slice pa pb pc, .slice qa qb qc, .slice ra rb rc] #[.slice o0 x.todo.length c0, .slice o1 x.names.length c1, .slice o2 x.vals.length c2, .int .i64 x.fault] z → S z) := by
    rw [hS]
    exact fun z hz => ⟨Lib.cell_of_heap hz.bP 0, Lib.cell_of_heap hz.bP 1, Lib.cell_of_heap hz.bP 2, Lib.cell_of_heap hz.bT 0, Lib.cell_of_heap hz.bT 1, Lib.cell_of_heap hz.bT 2, Lib.cell_of_heap hz.bT 3, hz⟩
  have KV : Hid (∀ z : World, S z → RnZ w #[.slice pa pb pc, .slice qa qb qc, .slice ra rb rc] #[.slice o0 x.todo.length c0, .slice o1 x.names.length c1, .slice o2 x.vals.length c2, .int .i64 x.fault] z) := by
    rw [hS]
    exact fun z hz => hz.2.2.2.2.2.2.2.out
  have KP : Hid (∀ z z' : World, S z → Below z.heap.size z z' → S z') := fun z z' hz hb => KC.out _ ((KV.out _ hz).go hb)
  have K0 := hide (KC.out _ (C0.out.go (Below.refl _ _).drew))
  subst hS
  go_enter Try.func50, Try.ntmps50
  go_wp2_with fail
  rw [HW.out]
  go_region_held3 (fun z => z.cell? ⟨w.heap.size, 0, none⟩ = some (.slice pa pb pc) ∧ z.cell? ⟨w.heap.size, 1, none⟩ = some (.slice qa qb qc) ∧ z.cell? ⟨w.heap.size, 2, none⟩ = some (.slice ra rb rc) ∧ z.cell? ⟨w.heap.size + 1, 0, none⟩ = some (.slice o0 x.todo.length c0) ∧ z.cell? ⟨w.heap.size + 1, 1, none⟩ = some (.slice o1 x.names.length c1) ∧ z.cell? ⟨w.heap.size + 1, 2, none⟩ = some (.slice o2 x.vals.length c2) ∧ z.cell? ⟨w.heap.size + 1, 3, none⟩ = some (.int .i64 x.fault) ∧ Hid (RnZ w #[.slice pa pb pc, .slice qa qb qc, .slice ra rb rc] #[.slice o0 x.todo.length c0, .slice o1 x.names.length c1, .slice o2 x.vals.length c2, .int .i64 x.fault] z)) (first | exact K0.out | exact KP.out _ _ (by assumption) hb6 | exact KP.out _ _ (by assumption) hb7 | exact KP.out _ _ (by assumption) ((Below.refl _ _).alloc (Nat.le_refl _) _))
    (first
      | (go_at_call 67; refine (unhide (C1 _ (HA.out.stays (KV.out _ (by assumption)).bel).a0)).mono ?_; rintro e w6 ⟨t6, rfl, hq6, hb6⟩)
      | (go_at_call 68; refine (unhide (C2 _ ⟨(HA.out.stays (KV.out _ (by assumption)).bel).a1, (HA.out.stays (KV.out _ (by assumption)).bel).a2⟩)).mono ?_; rintro e w7 ⟨p7, q7, rfl, hq7, hb7⟩))
  have hs0 := C0.out.bel.size
  have hs6 : W0.heap.size ≤ w6.heap.size := hb6.size
  have hs7 := hb7.size
  have RES : Hid (RnAt (w7.alloc (.cells #[.slice pa pb pc, .slice qa qb qc, .slice ra rb rc, .pointer t6, .int .i64 (x.todo.length : Int), p7, q7, .int .i64 x.fault] 86)) w.heap.size w7.heap.size (.slice pa pb pc) (.slice qa qb qc) (.slice ra rb rc) t6 p7 q7 x ∧ Below w.heap.size w (w7.alloc (.cells #[.slice pa pb pc, .slice qa qb qc, .slice ra rb rc, .pointer t6, .int .i64 (x.todo.length : Int), p7, q7, .int .i64 x.fault] 86))) := by
    have hb8 : Below w7.heap.size w7 (w7.alloc (.cells #[.slice pa pb pc, .slice qa qb qc, .slice ra rb rc, .pointer t6, .int .i64 (x.todo.length : Int), p7, q7, .int .i64 x.fault] 86)) := (Below.refl _ _).alloc (Nat.le_refl _) _
    exact ⟨⟨Box.made _ _ _, (hq6.stays hb7).stays hb8, (hq7.lo (by omega)).stays hb8, by omega⟩, ((C0.out.bel.trans ((Below.refl _ _).drew.mono hs0)).trans (hb6.mono hs0)).trans ((hb7.mono (by omega)).trans (hb8.mono (by omega)))⟩
  go_wp2
  go_ret
  exact ⟨_, _, _, _, rfl, RES.out.1, RES.out.2⟩

/-- The box of the result. -/
structure RtZ (w : World) (z : World) : Prop where
  bR : ∃ a b c d, Box z w.heap.size #[a, b, c, d] 34
  bel : Below w.heap.size w z
  le : w.heap.size + 1 ≤ z.heap.size
theorem RtZ.go {w z z' : World} (h : RtZ w z) (hb : Below z.heap.size z z') : RtZ w z' := by
  obtain ⟨a, b, c, d, hr⟩ := h.bR
  exact ⟨⟨a, b, c, d, hr.stays hb⟩, h.bel.trans (hb.mono h.bel.size), Nat.le_trans h.le hb.size⟩
theorem RtZ.store {w z : World} (h : RtZ w z) (t0 t1 t2 t3 : Value) : RtZ w ((((z.setCell ⟨w.heap.size, 0, none⟩ t0).setCell ⟨w.heap.size, 1, none⟩ t1).setCell ⟨w.heap.size, 2, none⟩ t2).setCell ⟨w.heap.size, 3, none⟩ t3) ∧ Box ((((z.setCell ⟨w.heap.size, 0, none⟩ t0).setCell ⟨w.heap.size, 1, none⟩ t1).setCell ⟨w.heap.size, 2, none⟩ t2).setCell ⟨w.heap.size, 3, none⟩ t3) w.heap.size #[t0, t1, t2, t3] 34 := by
  obtain ⟨a, b, c, d, hr⟩ := h.bR
  have hs : Box ((((z.setCell ⟨w.heap.size, 0, none⟩ t0).setCell ⟨w.heap.size, 1, none⟩ t1).setCell ⟨w.heap.size, 2, none⟩ t2).setCell ⟨w.heap.size, 3, none⟩ t3) w.heap.size #[t0, t1, t2, t3] 34 := by simpa using (((hr.set 0 t0).set 1 t1).set 2 t2).set 3 t3
  exact ⟨⟨⟨_, _, _, _, hs⟩, (((h.bel.setCell (p := ⟨w.heap.size, 0, none⟩) (Nat.le_refl _) _).setCell (p := ⟨w.heap.size, 1, none⟩) (Nat.le_refl _) _).setCell (p := ⟨w.heap.size, 2, none⟩) (Nat.le_refl _) _).setCell (p := ⟨w.heap.size, 3, none⟩) (Nat.le_refl _) _, by simpa [World.setCell] using h.le⟩, hs⟩

set_option maxRecDepth 100000 in
set_option maxHeartbeats 8000000 in
theorem thread_any (B b : Nat) (nv mv pv : Value) (t : Option Addr) (e0 e1 : Value) (x : Tr) (w : World) (h : RnAt w B b nv mv pv t e0 e1 x) (hl : TrLen x) :
    Calls Try.prog 54 #[.pointer (some ⟨b, 0, none⟩)] w fun e w' => ∃ r0 r1 r2, e = .returned (.agg #[r0, r1, r2, .int .i64 x.fault]) ∧ TrOwn w.heap.size w' r0 r1 r2 x ∧ Below w.heap.size w w' := by
  have HA := hide h
  have C1 := fun z (hz : RnAt z B b nv mv pv t e0 e1 x) => hide (places_any b 3 t x.todo _ _ z hz.box rfl rfl hz.ch hl.l0)
  have C2 := fun z h => hide (copied_any e0 e1 ⟨x.names, x.vals⟩ z h ⟨hl.l1, hl.l2⟩)
  obtain ⟨p0, k0, rfl⟩ := form_own h.env.o0
  obtain ⟨p1, k1, rfl⟩ := form_own h.env.o1
  clear h hl
  obtain ⟨W0, hW⟩ : ∃ W0, w.alloc (.cells #[.slice none 0 0, .slice none 0 0, .slice none 0 0, .int .i64 0] 34) = W0 := ⟨_, rfl⟩
  have C0 : Hid (RtZ w W0) := by
    rw [← hW]
    exact hide ⟨⟨_, _, _, _, Box.made w _ _⟩, (Below.refl _ _).alloc (Nat.le_refl _) _, by simp⟩
  have HW := hide hW
  clear hW
  have KC : Hid (∀ z : World, RtZ w z → z.cell? ⟨b, 5, none⟩ = some (.slice p0 x.names.length k0) ∧ z.cell? ⟨b, 6, none⟩ = some (.slice p1 x.vals.length k1) ∧ z.cell? ⟨b, 7, none⟩ = some (.int .i64 x.fault) ∧ Hid (RtZ w z)) := fun z hz => by
    have bx := (HA.out.stays hz.bel).box
    exact ⟨Lib.cell_of_heap bx 5, Lib.cell_of_heap bx 6, Lib.cell_of_heap bx 7, hz⟩
  have KV : Hid (∀ z : World, (z.cell? ⟨b, 5, none⟩ = some (.slice p0 x.names.length k0) ∧ z.cell? ⟨b, 6, none⟩ = some (.slice p1 x.vals.length k1) ∧ z.cell? ⟨b, 7, none⟩ = some (.int .i64 x.fault) ∧ Hid (RtZ w z)) → RtZ w z) := fun z hz => hz.2.2.2.out
  have KP : Hid (∀ z z' : World, (z.cell? ⟨b, 5, none⟩ = some (.slice p0 x.names.length k0) ∧ z.cell? ⟨b, 6, none⟩ = some (.slice p1 x.vals.length k1) ∧ z.cell? ⟨b, 7, none⟩ = some (.int .i64 x.fault) ∧ Hid (RtZ w z)) → Below z.heap.size z z' → (z'.cell? ⟨b, 5, none⟩ = some (.slice p0 x.names.length k0) ∧ z'.cell? ⟨b, 6, none⟩ = some (.slice p1 x.vals.length k1) ∧ z'.cell? ⟨b, 7, none⟩ = some (.int .i64 x.fault) ∧ Hid (RtZ w z'))) := fun z z' hz hb => KC.out _ ((KV.out _ hz).go hb)
  have K0 := hide (KC.out _ (C0.out.go (Below.refl _ _).drew))
  go_enter Try.func54, Try.ntmps54
  go_wp2_with fail
  rw [HW.out]
  go_region_held3 (fun z => z.cell? ⟨b, 5, none⟩ = some (.slice p0 x.names.length k0) ∧ z.cell? ⟨b, 6, none⟩ = some (.slice p1 x.vals.length k1) ∧ z.cell? ⟨b, 7, none⟩ = some (.int .i64 x.fault) ∧ Hid (RtZ w z)) (first | exact K0.out | exact KP.out _ _ (by assumption) hb6 | exact KP.out _ _ (by assumption) hb7 | exact KC.out _ (CW.out.store _ _ _ _).1)
    (first
      | (go_at_call 71; refine (unhide (C1 _ (HA.out.stays (KV.out _ (by assumption)).bel))).mono ?_; rintro e w6 ⟨u6, rfl, hq6, hb6⟩; obtain ⟨po6, pc6, rfl⟩ := form_own hq6; have CW := hide (KV.out _ (KP.out _ _ (by assumption) hb6)); obtain ⟨rr0, rr1, rr2, rr3, hrr⟩ := CW.out.bR; have y0 := Lib.cell_of_heap hrr 0; have y1 := Lib.cell_of_heap hrr 1; have y2 := Lib.cell_of_heap hrr 2; have y3 := Lib.cell_of_heap hrr 3; simp at y0 y1 y2 y3; have f0 := Lib.frozen_of_heap hrr 0; have f1 := Lib.frozen_of_heap hrr 1; have f2 := Lib.frozen_of_heap hrr 2; have f3 := Lib.frozen_of_heap hrr 3; clear hrr)
      | (go_at_call 68; refine (unhide (C2 _ (HA.out.stays (KV.out _ (by assumption)).bel).env.at)).mono ?_; rintro e w7 ⟨u7, v7, rfl, hq7, hb7⟩; obtain ⟨po7, pc7, rfl⟩ := form_own hq7.o0; obtain ⟨po8, pc8, rfl⟩ := form_own hq7.o1; have CW := hide (KV.out _ (KP.out _ _ (by assumption) hb7)); obtain ⟨rr0, rr1, rr2, rr3, hrr⟩ := CW.out.bR; have y0 := Lib.cell_of_heap hrr 0; have y1 := Lib.cell_of_heap hrr 1; have y2 := Lib.cell_of_heap hrr 2; have y3 := Lib.cell_of_heap hrr 3; simp at y0 y1 y2 y3; have f0 := Lib.frozen_of_heap hrr 0; have f1 := Lib.frozen_of_heap hrr 1; have f2 := Lib.frozen_of_heap hrr 2; have f3 := Lib.frozen_of_heap hrr 3; clear hrr))
  have HS := CW.out.store (.slice po6 x.todo.length pc6) (.slice po7 x.names.length pc7) (.slice po8 x.vals.length pc8) (.int .i64 x.fault)
  have E6 := ownsInts_stays hq6 hb7
  have hs0 : w.heap.size + 1 ≤ W0.drew.heap.size := C0.out.le
  have hs7 := hb6.size
  have AP : ∀ i, ((.slice po6 x.todo.length pc6) : Value).ownBlock = some i → ((.slice po8 x.vals.length pc8) : Value).ownBlock ≠ some i := fun i h6 h7 => by
    have h8 := (hq6.lt i h6).2
    have h9 := (hq7.o1.lt i h7).1
    omega
  have EQ : ∀ g, w.heap.size + 1 ≤ g → ((((w7.setCell ⟨w.heap.size, 0, none⟩ (.slice po6 x.todo.length pc6)).setCell ⟨w.heap.size, 1, none⟩ (.slice po7 x.names.length pc7)).setCell ⟨w.heap.size, 2, none⟩ (.slice po8 x.vals.length pc8)).setCell ⟨w.heap.size, 3, none⟩ (.int .i64 x.fault)).heap[g]? = w7.heap[g]? := fun g hg => by
    have ne : ∀ i, g ≠ (⟨w.heap.size, i, none⟩ : Addr).block := fun i => by show g ≠ w.heap.size; omega
    exact (Below.heap_setCell _ _ _ g (ne 3)).trans ((Below.heap_setCell _ _ _ g (ne 2)).trans ((Below.heap_setCell _ _ _ g (ne 1)).trans (Below.heap_setCell _ _ _ g (ne 0))))
  have R6 := owns_lo (a := w.heap.size) (owns_eq E6 fun g hg => EQ g (by have := (E6.lt g hg).1; omega)) (by omega)
  have R7 := owns_lo (a := w.heap.size) (owns_eq hq7.o0 fun g hg => EQ g (by have := (hq7.o0.lt g hg).1; omega)) (by omega)
  have R8 := owns_lo (a := w.heap.size) (owns_eq hq7.o1 fun g hg => EQ g (by have := (hq7.o1.lt g hg).1; omega)) (by omega)
  have RES := hide (And.intro HS.2 (And.intro (show TrOwn w.heap.size _ _ _ _ x from ⟨R6, R7, R8, AP⟩) HS.1.bel))
  clear HS E6 hs0 hs7 AP R6 R7 R8 EQ
  go_wp2
  refine box_ret (g := w.heap.size) (t := 34) (cs := #[.slice po6 x.todo.length pc6, .slice po7 x.names.length pc7, .slice po8 x.vals.length pc8, .int .i64 x.fault]) rfl rfl ?_ _ Try.underlying34 rfl (by kernel_rfl) rfl ?_
  · exact RES.out.1
  · exact ⟨_, _, _, rfl, RES.out.2.1, RES.out.2.2⟩
end Go.Proofs.Ytipmgmmchmdajaa
