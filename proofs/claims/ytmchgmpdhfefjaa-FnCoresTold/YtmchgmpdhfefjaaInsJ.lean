/-
  Walks: words of a machine as numbers, by the program.
-/
import Derived.Test.YtmchgmpdhfefjaaInsI
namespace Go.Proofs.Ytmchgmpdhfefjaa
open Go.RowKit

theorem implOp_any (n : Int) (w : World) : Calls Try.prog 60 #[.int .i64 n] w fun e w' => e = .returned (.int .i64 (decOp n)) ∧ w = w' := by
  have hO : n / 268435456 = decOp n := rfl
  go_enter Try.func60, Try.ntmps60
  go_wp2
  go_ret
  exact ⟨rfl, rfl⟩
theorem implA_any (n : Int) (w : World) : Calls Try.prog 61 #[.int .i64 n] w fun e w' => e = .returned (.int .i64 (decA n)) ∧ w = w' := by
  have hA : bits BinOp.and IntKind.i64 (n / 33554432) 7 = decA n := band7 _
  go_enter Try.func61, Try.ntmps61
  go_wp2
  go_ret
  exact ⟨rfl, rfl⟩
theorem implB_any (n : Int) (w : World) : Calls Try.prog 62 #[.int .i64 n] w fun e w' => e = .returned (.int .i64 (decBb n)) ∧ w = w' := by
  have hBb : bits BinOp.and IntKind.i64 (n / 4194304) 7 = decBb n := band7 _
  go_enter Try.func62, Try.ntmps62
  go_wp2
  go_ret
  exact ⟨rfl, rfl⟩
theorem implC_any (n : Int) (w : World) : Calls Try.prog 63 #[.int .i64 n] w fun e w' => e = .returned (.int .i64 (decC n)) ∧ w = w' := by
  have hC : bits BinOp.and IntKind.i64 n 4194303 = decC n := band22 _
  go_enter Try.func63, Try.ntmps63
  go_wp2
  go_ret
  exact ⟨rfl, rfl⟩

def fieldsV (n : Int) : Array Value := #[.func (.func 60) #[.int .i64 n] #[], .func (.func 61) #[.int .i64 n] #[], .func (.func 62) #[.int .i64 n] #[], .func (.func 63) #[.int .i64 n] #[]]

set_option maxRecDepth 100000 in
set_option maxHeartbeats 2000000 in
theorem implFields_any (n : Int) (w : World) : Calls Try.prog 50 #[.int .i64 n] w fun e w' => e = .returned (.agg (fieldsV n)) ∧ Below w.heap.size w w' := by
  have hmf : ∀ (fn : Fn) (first cap : Array Value) (w : World), (Instr.makeFunc fn first cap).run Try.prog w = .ok (.func fn first cap) w := fun _ _ _ _ => rfl
  have hsf : ∀ (fn : Fn) (first cap : Array Value) (a : Addr) (w : World), (store a (.func fn first cap)).run Try.prog w = stored Try.prog w a (.func fn first cap) .plain := fun _ _ _ _ _ => run_store _ _ _ _ _ rfl
  go_enter Try.func50, Try.ntmps50
  go_wp2
  refine box_ret (g := w.heap.size) (t := 85) (cs := fieldsV n) rfl rfl (Box.made w (fieldsV n) _) _ Try.underlying85 rfl (by kernel_rfl) rfl ?_
  exact ⟨rfl, by go_grown⟩

/-- How things stand while a word's fields are asked. -/
structure FdZ (w : World) (n : Int) (z : World) : Prop where
  bF : Box z w.heap.size (fieldsV n) 85
  bR : ∃ c0 c1 c2 c3, Box z (w.heap.size + 1) #[c0, c1, c2, c3] 34
  bel : Below w.heap.size w z
theorem FdZ.store {w z : World} {n : Int} (h : FdZ w n z) (u0 u1 u2 u3 : Value) : FdZ w n ((((z.setCell ⟨w.heap.size + 1, 0, none⟩ u0).setCell ⟨w.heap.size + 1, 1, none⟩ u1).setCell ⟨w.heap.size + 1, 2, none⟩ u2).setCell ⟨w.heap.size + 1, 3, none⟩ u3) ∧ Box ((((z.setCell ⟨w.heap.size + 1, 0, none⟩ u0).setCell ⟨w.heap.size + 1, 1, none⟩ u1).setCell ⟨w.heap.size + 1, 2, none⟩ u2).setCell ⟨w.heap.size + 1, 3, none⟩ u3) (w.heap.size + 1) #[u0, u1, u2, u3] 34 := by
  obtain ⟨c0, c1, c2, c3, hx⟩ := h.bR
  have h2 : Box ((((z.setCell ⟨w.heap.size + 1, 0, none⟩ u0).setCell ⟨w.heap.size + 1, 1, none⟩ u1).setCell ⟨w.heap.size + 1, 2, none⟩ u2).setCell ⟨w.heap.size + 1, 3, none⟩ u3) (w.heap.size + 1) #[u0, u1, u2, u3] 34 := by simpa using (((hx.set 0 u0).set 1 u1).set 2 u2).set 3 u3
  refine ⟨⟨?_, ⟨_, _, _, _, h2⟩, (((h.bel.setCell (p := ⟨w.heap.size + 1, 0, none⟩) (by show _ ≤ w.heap.size + 1; omega) _).setCell (p := ⟨w.heap.size + 1, 1, none⟩) (by show _ ≤ w.heap.size + 1; omega) _).setCell (p := ⟨w.heap.size + 1, 2, none⟩) (by show _ ≤ w.heap.size + 1; omega) _).setCell (p := ⟨w.heap.size + 1, 3, none⟩) (by show _ ≤ w.heap.size + 1; omega) _⟩, h2⟩
  have ne : ∀ i, w.heap.size ≠ (⟨w.heap.size + 1, i, none⟩ : Addr).block := fun i => by show w.heap.size ≠ w.heap.size + 1; omega
  show _ = _
  exact ((Below.heap_setCell _ _ _ _ (ne 3)).trans ((Below.heap_setCell _ _ _ _ (ne 2)).trans ((Below.heap_setCell _ _ _ _ (ne 1)).trans (Below.heap_setCell _ _ _ _ (ne 0))))).trans h.bF

set_option maxRecDepth 100000 in
set_option maxHeartbeats 2000000 in
theorem implIns_any (n : Int) (w : World) : Calls Try.prog 51 #[.agg (fieldsV n)] w fun e w' => e = .returned (.agg #[.int .i64 (decOp n), .int .i64 (decA n), .int .i64 (decBb n), .int .i64 (decC n)]) ∧ Below w.heap.size w w' := by
  have C1 := fun z => hide (implOp_any n z)
  have C2 := fun z => hide (implA_any n z)
  have C3 := fun z => hide (implB_any n z)
  have C4 := fun z => hide (implC_any n z)
  obtain ⟨W0, hW⟩ : ∃ W0, (w.alloc (.cells (fieldsV n) 85)).alloc (.cells #[.int .i64 0, .int .i64 0, .int .i64 0, .int .i64 0] 34) = W0 := ⟨_, rfl⟩
  have C0 : Hid (FdZ w n W0) := by
    rw [← hW]
    exact hide ⟨(Box.made w _ _).stays ((Below.refl _ _).alloc (Nat.le_refl _) _), ⟨_, _, _, _, Box.madeAt (by simp) _ _⟩, by go_grown⟩
  have HW := hide hW
  clear hW
  have KC : Hid (∀ z : World, FdZ w n z → z.cell? ⟨w.heap.size, 0, none⟩ = some (.func (.func 60) #[.int .i64 n] #[]) ∧ z.cell? ⟨w.heap.size, 1, none⟩ = some (.func (.func 61) #[.int .i64 n] #[]) ∧ z.cell? ⟨w.heap.size, 2, none⟩ = some (.func (.func 62) #[.int .i64 n] #[]) ∧ z.cell? ⟨w.heap.size, 3, none⟩ = some (.func (.func 63) #[.int .i64 n] #[]) ∧ Hid (FdZ w n z)) := fun z hz => ⟨Lib.cell_of_heap hz.bF 0, Lib.cell_of_heap hz.bF 1, Lib.cell_of_heap hz.bF 2, Lib.cell_of_heap hz.bF 3, hz⟩
  have KV : Hid (∀ z : World, (z.cell? ⟨w.heap.size, 0, none⟩ = some (.func (.func 60) #[.int .i64 n] #[]) ∧ z.cell? ⟨w.heap.size, 1, none⟩ = some (.func (.func 61) #[.int .i64 n] #[]) ∧ z.cell? ⟨w.heap.size, 2, none⟩ = some (.func (.func 62) #[.int .i64 n] #[]) ∧ z.cell? ⟨w.heap.size, 3, none⟩ = some (.func (.func 63) #[.int .i64 n] #[]) ∧ Hid (FdZ w n z)) → FdZ w n z) := fun z hz => hz.2.2.2.2.out
  have D0 : Hid (FdZ w n W0.drew) := hide ⟨C0.out.bF, C0.out.bR, C0.out.bel.drew⟩
  have K0 := hide (KC.out _ D0.out)
  unfold fieldsV at HW ⊢
  go_enter Try.func51, Try.ntmps51
  go_wp2_with fail
  rw [HW.out]
  go_region_held3 (fun z => z.cell? ⟨w.heap.size, 0, none⟩ = some (.func (.func 60) #[.int .i64 n] #[]) ∧ z.cell? ⟨w.heap.size, 1, none⟩ = some (.func (.func 61) #[.int .i64 n] #[]) ∧ z.cell? ⟨w.heap.size, 2, none⟩ = some (.func (.func 62) #[.int .i64 n] #[]) ∧ z.cell? ⟨w.heap.size, 3, none⟩ = some (.func (.func 63) #[.int .i64 n] #[]) ∧ Hid (FdZ w n z)) (first | exact K0.out | exact KC.out _ CW.out | exact KC.out _ (CW.out.store _ _ _ _).1)
    (first
      | (go_at_call 60; refine (unhide (C1 _)).mono ?_; rintro e w6 ⟨rfl, hw6⟩; have CW : Hid (FdZ w n w6) := (by rw [← hw6]; exact hide (KV.out _ (by assumption))); clear hw6)
      | (go_at_call 61; refine (unhide (C2 _)).mono ?_; rintro e w6 ⟨rfl, hw6⟩; have CW : Hid (FdZ w n w6) := (by rw [← hw6]; exact hide (KV.out _ (by assumption))); clear hw6)
      | (go_at_call 62; refine (unhide (C3 _)).mono ?_; rintro e w6 ⟨rfl, hw6⟩; have CW : Hid (FdZ w n w6) := (by rw [← hw6]; exact hide (KV.out _ (by assumption))); clear hw6)
      | (go_at_call 63; refine (unhide (C4 _)).mono ?_; rintro e w6 ⟨rfl, hw6⟩; have CW : Hid (FdZ w n w6) := (by rw [← hw6]; exact hide (KV.out _ (by assumption))); clear hw6; obtain ⟨rr0, rr1, rr2, rr3, hrr⟩ := CW.out.bR; have y0 := Lib.cell_of_heap hrr 0; have y1 := Lib.cell_of_heap hrr 1; have y2 := Lib.cell_of_heap hrr 2; have y3 := Lib.cell_of_heap hrr 3; simp at y0 y1 y2 y3; have f0 := Lib.frozen_of_heap hrr 0; have f1 := Lib.frozen_of_heap hrr 1; have f2 := Lib.frozen_of_heap hrr 2; have f3 := Lib.frozen_of_heap hrr 3; clear hrr))
  have HS := hide (CW.out.store (.int .i64 (decOp n)) (.int .i64 (decA n)) (.int .i64 (decBb n)) (.int .i64 (decC n)))
  go_wp2
  refine box_ret (g := w.heap.size + 1) (t := 34) (cs := #[.int .i64 (decOp n), .int .i64 (decA n), .int .i64 (decBb n), .int .i64 (decC n)]) rfl rfl ?_ _ Try.underlying34 rfl (by kernel_rfl) rfl ?_
  · exact HS.out.2
  · exact ⟨rfl, HS.out.1.bel⟩

end Go.Proofs.Ytmchgmpdhfefjaa

namespace Go.Proofs.Ytmchgmpdhfefjaa
open Go.RowKit

theorem setBox4 (w z : World) (u0 u1 u2 u3 c0 c1 c2 c3 : Value) {t : Nat} (hb : Below w.heap.size w z) (hx : Box z w.heap.size #[c0, c1, c2, c3] t) : Box ((((z.setCell ⟨w.heap.size, 0, none⟩ u0).setCell ⟨w.heap.size, 1, none⟩ u1).setCell ⟨w.heap.size, 2, none⟩ u2).setCell ⟨w.heap.size, 3, none⟩ u3) w.heap.size #[u0, u1, u2, u3] t ∧ Below w.heap.size w ((((z.setCell ⟨w.heap.size, 0, none⟩ u0).setCell ⟨w.heap.size, 1, none⟩ u1).setCell ⟨w.heap.size, 2, none⟩ u2).setCell ⟨w.heap.size, 3, none⟩ u3) := ⟨by simpa using (((hx.set 0 u0).set 1 u1).set 2 u2).set 3 u3, (((hb.setCell (p := ⟨w.heap.size, 0, none⟩) (Nat.le_refl _) _).setCell (p := ⟨w.heap.size, 1, none⟩) (Nat.le_refl _) _).setCell (p := ⟨w.heap.size, 2, none⟩) (Nat.le_refl _) _).setCell (p := ⟨w.heap.size, 3, none⟩) (Nat.le_refl _) _⟩

set_option maxRecDepth 100000 in
set_option maxHeartbeats 2000000 in
theorem implDecode_any (n : Int) (w : World) :
    Calls Try.prog 44 #[.int .i64 n] w fun e w' => e = .returned (.tuple #[.agg #[.int .i64 (decE n).op, .int .i64 (decE n).a, .int .i64 (decE n).b, .int .i64 (decE n).c], .bool (decB n)]) ∧ Below w.heap.size w w' := by
  have hr : decB n = insB (decOp n) (decA n) (decBb n) (decC n) := by
    rw [decB]
    cases h : insB (decOp n) (decA n) (decBb n) (decC n) with
    | false => rw [Bool.and_false]
    | true =>
      have := (insB_in h).1
      have e := enc_dec n
      have h2 := insB_in h
      rw [Bool.and_true, inZ_yes]
      unfold encI at e
      omega
  have C1 := fun z => hide (implFields_any n z)
  have C2 := fun z => hide (implIns_any n z)
  have HE : Hid (decE n = if insB (decOp n) (decA n) (decBb n) (decC n) = true then ⟨decOp n, decA n, decBb n, decC n⟩ else ⟨0, 0, 0, 0⟩) := by
    show _ = _
    rw [decE, hr]
  rw [hr]
  clear hr
  obtain ⟨y, ey⟩ : ∃ y, decE n = y := ⟨_, rfl⟩
  rw [ey] at HE ⊢
  clear ey
  generalize decOp n = p0 at *
  generalize decA n = p1 at *
  generalize decBb n = p2 at *
  generalize decC n = p3 at *
  have CO := fun z => hide (implInsOk_any p0 p1 p2 p3 z)
  have W0 : Hid (Box (w.alloc (.cells #[.int .i64 0, .int .i64 0, .int .i64 0, .int .i64 0] 34)) w.heap.size #[.int .i64 0, .int .i64 0, .int .i64 0, .int .i64 0] 34 ∧ Below w.heap.size w (w.alloc (.cells #[.int .i64 0, .int .i64 0, .int .i64 0, .int .i64 0] 34))) := ⟨Box.made w _ _, by go_grown⟩
  go_enter Try.func44, Try.ntmps44
  go_wp2_with (first
    | (go_at_call 50; refine (unhide (C1 _)).mono ?_; rintro e z ⟨rfl, hb1⟩; have W1 := hide (And.intro (W0.out.1.stays hb1) (W0.out.2.trans (hb1.mono W0.out.2.size))); clear hb1)
    | (go_at_call 51; refine (unhide (C2 _)).mono ?_; rintro e z2 ⟨rfl, hb2⟩; have W2 := hide (And.intro (W1.out.1.stays hb2) (W1.out.2.trans (hb2.mono W1.out.2.size))); clear hb2))
  have hb3 : Below z2.heap.size z2 (z2.alloc (.cells #[.int .i64 p0, .int .i64 p1, .int .i64 p2, .int .i64 p3] 34)) := (Below.refl _ _).alloc (Nat.le_refl _) _
  have W3 := hide (And.intro (W2.out.1.stays hb3) (And.intro (W2.out.2.trans (hb3.mono W2.out.2.size)) (Box.made z2 #[.int .i64 p0, .int .i64 p1, .int .i64 p2, .int .i64 p3] 34)))
  clear W0 W1 W2 hb3
  generalize z2.alloc (.cells #[.int .i64 p0, .int .i64 p1, .int .i64 p2, .int .i64 p3] 34) = z3 at *
  obtain ⟨g, hg⟩ : ∃ g, z2.heap.size = g := ⟨_, rfl⟩
  rw [hg] at W3 ⊢
  clear hg
  refine (unhide (CO _)).mono ?_
  rintro e z4 ⟨rfl, hz⟩
  have hb4 : Below z3.heap.size z3 z4 := by (rw [hz]; go_grown)
  have W4 := hide (And.intro (W3.out.1.stays hb4) (And.intro (W3.out.2.1.trans (hb4.mono W3.out.2.1.size)) (W3.out.2.2.stays hb4)))
  clear W3 hz hb4
  have q0 := Lib.cell_of_heap W4.out.2.2 0
  have q1 := Lib.cell_of_heap W4.out.2.2 1
  have q2 := Lib.cell_of_heap W4.out.2.2 2
  have q3 := Lib.cell_of_heap W4.out.2.2 3
  have r0 := Lib.cell_of_heap W4.out.1 0
  have r1 := Lib.cell_of_heap W4.out.1 1
  have r2 := Lib.cell_of_heap W4.out.1 2
  have r3 := Lib.cell_of_heap W4.out.1 3
  have f0 := Lib.frozen_of_heap W4.out.1 0
  have f1 := Lib.frozen_of_heap W4.out.1 1
  have f2 := Lib.frozen_of_heap W4.out.1 2
  have f3 := Lib.frozen_of_heap W4.out.1 3
  simp at q0 q1 q2 q3 r0 r1 r2 r3
  cases hi : insB p0 p1 p2 p3 with
  | true =>
    obtain rfl : y = ⟨p0, p1, p2, p3⟩ := by rw [HE.out, if_pos hi]
    have S9 := hide (setBox4 w z4 (.int .i64 p0) (.int .i64 p1) (.int .i64 p2) (.int .i64 p3) _ _ _ _ W4.out.2.1 W4.out.1)
    clear HE
    go_wp2
    refine box_retV (g := w.heap.size) (t := 34) (cs := #[.int .i64 p0, .int .i64 p1, .int .i64 p2, .int .i64 p3]) rfl rfl ?_ _ Try.underlying34 rfl (by kernel_rfl) rfl ?_
    · exact S9.out.1
    · exact ⟨rfl, S9.out.2⟩
  | false =>
    obtain rfl : y = ⟨0, 0, 0, 0⟩ := by rw [HE.out, if_neg (by rw [hi]; simp)]
    have S9 := hide (setBox4 w z4 (.int .i64 0) (.int .i64 0) (.int .i64 0) (.int .i64 0) _ _ _ _ W4.out.2.1 W4.out.1)
    clear HE
    go_wp2
    refine box_retV (g := w.heap.size) (t := 34) (cs := #[.int .i64 0, .int .i64 0, .int .i64 0, .int .i64 0]) rfl rfl ?_ _ Try.underlying34 rfl (by kernel_rfl) rfl ?_
    · exact S9.out.1
    · exact ⟨rfl, S9.out.2⟩
end Go.Proofs.Ytmchgmpdhfefjaa
