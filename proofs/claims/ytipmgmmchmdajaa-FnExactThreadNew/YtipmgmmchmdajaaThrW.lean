/-
  Walks: a thread without what comes, by the specification.
-/
import Derived.Test.YtipmgmmchmdajaaCopT
namespace Go.Proofs.Ytipmgmmchmdajaa
open Go.RowKit

theorem owns_less {w : World} {B e n m cap g : Nat} {xs : List Value} (h : w.ownsRow B e 1 (.slice (some ⟨g, 0, none⟩) n cap) n xs) (hm : m ≤ n) : w.ownsRow B e 1 (.slice (some ⟨g, 0, none⟩) m cap) m (xs.take m) := by
  obtain ⟨h0, h1⟩ := h
  refine ⟨by rw [List.length_take, h0]; omega, ?_⟩
  rcases h1 with ⟨h1, _⟩ | ⟨g', cap', cur, h1, h2, h3, h4, h5, h6, h7⟩
  · cases h1
  · injection h1 with e1 _ e3
    injection e1 with e1
    injection e1 with e1 _ _
    subst e1 e3
    exact .inr ⟨g, cap, cur, rfl, h2, h3, by omega, h5, h6, by rw [← h7, List.take_take]; congr 1; omega⟩
/-- The copy under way, the result, what came in. -/
structure PaZ (w : World) (r0 r1 r2 : Value) (y : Tr) (z : World) : Prop where
  bR : ∃ a b c d, Box z (w.heap.size + 1) #[a, b, c, d] 34
  own : TrOwn (w.heap.size + 2) z r0 r1 r2 y
  bel : Below w.heap.size w z
theorem PaZ.fin {w : World} {r0 r1 r2 : Value} {y : Tr} {z : World} (h : PaZ w r0 r1 r2 y z) :
    ∃ W, (((z.setCell ⟨w.heap.size + 1, 0, none⟩ r0).setCell ⟨w.heap.size + 1, 1, none⟩ r1).setCell ⟨w.heap.size + 1, 2, none⟩ r2).setCell ⟨w.heap.size + 1, 3, none⟩ (.int .i64 y.fault) = W ∧ Box W (w.heap.size + 1) #[r0, r1, r2, .int .i64 y.fault] 34 ∧ TrOwn w.heap.size W r0 r1 r2 y ∧ Below w.heap.size w W := by
  obtain ⟨a, b, c, d, hr⟩ := h.bR
  have ne : ∀ g i, g ≠ w.heap.size + 1 → g ≠ (⟨w.heap.size + 1, i, none⟩ : Addr).block := fun g i h => h
  have e : ∀ g, w.heap.size + 2 ≤ g → ((((z.setCell ⟨w.heap.size + 1, 0, none⟩ r0).setCell ⟨w.heap.size + 1, 1, none⟩ r1).setCell ⟨w.heap.size + 1, 2, none⟩ r2).setCell ⟨w.heap.size + 1, 3, none⟩ (.int .i64 y.fault)).heap[g]? = z.heap[g]? := fun g hg =>
    (Below.heap_setCell _ _ _ g (ne g 3 (by omega))).trans ((Below.heap_setCell _ _ _ g (ne g 2 (by omega))).trans ((Below.heap_setCell _ _ _ g (ne g 1 (by omega))).trans (Below.heap_setCell _ _ _ g (ne g 0 (by omega)))))
  have hw : w.heap.size ≤ w.heap.size + 1 := by omega
  exact ⟨_, rfl, by simpa using ((((hr.set 0 r0).set 1 r1).set 2 r2).set 3 (.int .i64 y.fault)), ⟨owns_lo (owns_eq h.own.o0 fun k hk => e k (h.own.o0.lt k hk).1) (by omega), owns_lo (owns_eq h.own.o1 fun k hk => e k (h.own.o1.lt k hk).1) (by omega), owns_lo (owns_eq h.own.o2 fun k hk => e k (h.own.o2.lt k hk).1) (by omega), h.own.ap⟩, (((h.bel.setCell (p := ⟨w.heap.size + 1, 0, none⟩) hw _).setCell (p := ⟨w.heap.size + 1, 1, none⟩) hw _).setCell (p := ⟨w.heap.size + 1, 2, none⟩) hw _).setCell (p := ⟨w.heap.size + 1, 3, none⟩) hw _⟩
/-- Fewer to do. -/
theorem PaZ.less {w : World} {g n cap : Nat} {r1 r2 : Value} {y : Tr} {z : World} (h : PaZ w (.slice (some ⟨g, 0, none⟩) y.todo.length cap) r1 r2 y z) (hn : y.todo.length = n + 1) : PaZ w (.slice (some ⟨g, 0, none⟩) n cap) r1 r2 (pastE y) z := by
  refine ⟨h.bR, ⟨?_, h.own.o1, h.own.o2, fun i hi => h.own.ap i hi⟩, h.bel⟩
  have h9 := owns_less h.own.o0 (m := n) (by omega)
  have e2 : y.todo.dropLast.length = n := by rw [List.length_dropLast]; omega
  show World.ownsRow _ _ _ _ _ y.todo.dropLast.length (y.todo.dropLast.map I64)
  rw [e2, List.dropLast_eq_take, List.map_take, show y.todo.length - 1 = n by omega]
  exact h9
theorem past_nil {x : Tr} (h : x.todo.length = 0) : pastE x = x := by
  obtain ⟨a, b, c, d⟩ := x
  have : a = [] := List.eq_nil_of_length_eq_zero h
  subst this
  rfl

set_option maxRecDepth 100000 in
set_option maxHeartbeats 4000000 in
theorem specPast_any (v0 v1 v2 : Value) (x : Tr) (w : World) (h : TrAt w v0 v1 v2 x) (hl : TrLen x) :
    Calls Try.prog 23 #[.agg #[v0, v1, v2, .int .i64 x.fault]] w fun e w' => ∃ r0 r1 r2, e = .returned (.agg #[r0, r1, r2, .int .i64 (pastE x).fault]) ∧ TrOwn w.heap.size w' r0 r1 r2 (pastE x) ∧ Below w.heap.size w w' := by
  have HAW := hide h
  have L0 := hl.l0
  have CC := fun z h => hide (copyTr_any v0 v1 v2 x z h hl)
  obtain ⟨W1, hW⟩ : ∃ W1, (w.alloc (.cells #[v0, v1, v2, .int .i64 x.fault] 34)).alloc (.cells #[.slice none 0 0, .slice none 0 0, .slice none 0 0, .int .i64 0] 34) = W1 := ⟨_, rfl⟩
  have B1 : Hid (Below w.heap.size w W1) := by rw [← hW]; show Below w.heap.size w _; go_grown
  have BA1 : Hid (Box W1 w.heap.size #[v0, v1, v2, .int .i64 x.fault] 34) := by rw [← hW]; exact hide ((Box.made w _ _).stays ((Below.refl _ _).alloc (Nat.le_refl _) _))
  have BR1 : Hid (Box W1 (w.heap.size + 1) #[.slice none 0 0, .slice none 0 0, .slice none 0 0, .int .i64 0] 34) := by rw [← hW]; exact hide (Box.madeAt (by simp) _ _)
  have HZ1 : Hid (W1.heap.size = w.heap.size + 2) := by rw [← hW]; show _ = _; simp
  have HW := hide hW
  obtain ⟨o0, c0, rfl, _⟩ := h.a0
  obtain ⟨o1, c1, rfl, _⟩ := h.a1
  obtain ⟨o2, c2, rfl, _⟩ := h.a2
  clear h hl hW
  have q0 := Lib.cell_of_heap BA1.out 0
  have q1 := Lib.cell_of_heap BA1.out 1
  have q2 := Lib.cell_of_heap BA1.out 2
  have q3 := Lib.cell_of_heap BA1.out 3
  simp at q0 q1 q2 q3
  rw [← HW.out] at q0 q1 q2 q3
  go_enter Try.func23, Try.ntmps23
  go_wp2_with fail
  rw [HW.out]
  refine (unhide (CC _ (HAW.out.stays B1.out))).mono ?_
  rintro e zc ⟨r0, r1, r2, rfl, ho, hb⟩
  obtain ⟨p0, k0, rfl⟩ := form_own ho.o0
  obtain ⟨p1, k1, rfl⟩ := form_own ho.o1
  obtain ⟨p2, k2, rfl⟩ := form_own ho.o2
  have hs1 := HZ1.out
  have Z1 : Hid (PaZ w (.slice p0 x.todo.length k0) (.slice p1 x.names.length k1) (.slice p2 x.vals.length k2) x zc) := ⟨⟨_, _, _, _, BR1.out.stays hb⟩, ho.lo (by omega), B1.out.trans (hb.mono B1.out.size)⟩
  obtain ⟨ra, rb, rc, rd, hrr⟩ := Z1.out.bR
  have s0 := Lib.cell_of_heap hrr 0
  have s1 := Lib.cell_of_heap hrr 1
  have s2 := Lib.cell_of_heap hrr 2
  have s3 := Lib.cell_of_heap hrr 3
  have f0 := Lib.frozen_of_heap hrr 0
  have f1 := Lib.frozen_of_heap hrr 1
  have f2 := Lib.frozen_of_heap hrr 2
  have f3 := Lib.frozen_of_heap hrr 3
  have hrl := hrr.lt
  simp at s0 s1 s2 s3
  clear hb ho q0 q1 q2 q3 CC B1 BA1 BR1 hrr hs1
  by_cases hn : x.todo.length = 0
  · have HPE := hide (past_nil hn)
    obtain ⟨W, eW, hB, hO, hF⟩ := Z1.out.fin
    rw [hn] at eW hB hO
    have HR := hide (And.intro hB (And.intro hO hF))
    have EW := hide eW
    rw [hn]
    clear hB hO hF eW hn
    go_wp2
    rw [EW.out]
    refine box_ret (g := w.heap.size + 1) (t := 34) (cs := #[.slice p0 0 k0, .slice p1 x.names.length k1, .slice p2 x.vals.length k2, .int .i64 x.fault]) rfl rfl ?_ _ Try.underlying34 rfl (by kernel_rfl) rfl ?_
    · exact HR.out.1.stays ((Below.refl _ _).alloc (Nat.le_refl _) _)
    · rw [HPE.out]
      exact ⟨_, _, _, rfl, HR.out.2.1.stays ((Below.refl _ _).alloc (Nat.le_refl _) _), HR.out.2.2.alloc HR.out.2.2.size _⟩
  · obtain ⟨n, en⟩ : ∃ n, x.todo.length = n + 1 := ⟨x.todo.length - 1, by omega⟩
    obtain ⟨g, rfl⟩ : ∃ g, p0 = some ⟨g, 0, none⟩ := by
      rcases Z1.out.own.o0.2 with ⟨e, h0⟩ | ⟨g, cap, cur, e, _⟩
      · omega
      · injection e with e1 _ _
        exact ⟨g, e1⟩
    have hroom : Room (.slice (some ⟨g, 0, none⟩) x.todo.length k0) := (CellsIn.own Z1.out.own.o0 : IntsIn _ _ _ x.todo).room
    have hrm : x.todo.length ≤ k0 := hroom
    have Z2 := hide (Z1.out.less en)
    obtain ⟨W, eW, hB, hO, hF⟩ := Z2.out.fin
    have HR := hide (And.intro hB (And.intro hO hF))
    have EW := hide eW
    rw [en] at hrm L0 ⊢
    have hwr : wrap64 (n : Int) = (n : Int) := by unfold wrap64; omega
    have h1 : (n : Int) ≤ (k0 : Int) := by omega
    have h0 : (0 : Int) ≤ (n : Int) := by omega
    have hsub : ((n + 1 : Nat) : Int) - 1 = (n : Int) := by omega
    clear hB hO hF eW hn en hroom Z1
    go_wp2
    have e9 := EW.out
    rw [show (pastE x).fault = x.fault from rfl] at e9
    rw [e9]
    refine box_ret (g := w.heap.size + 1) (t := 34) (cs := #[.slice (some ⟨g, 0, none⟩) n k0, .slice p1 x.names.length k1, .slice p2 x.vals.length k2, .int .i64 x.fault]) rfl rfl ?_ _ Try.underlying34 rfl (by kernel_rfl) rfl ?_
    · exact HR.out.1.stays ((Below.refl _ _).alloc (Nat.le_refl _) _)
    · exact ⟨_, _, _, rfl, HR.out.2.1.stays ((Below.refl _ _).alloc (Nat.le_refl _) _), HR.out.2.2.alloc HR.out.2.2.size _⟩
end Go.Proofs.Ytipmgmmchmdajaa
