/-
  Walks: a word of a machine out of its number, by the program.
-/
import Derived.Test.YtoageggcbpjlmaaInsJ
namespace Go.Proofs.Ytoageggcbpjlmaa
open Go.RowKit

theorem setBox4 (w z : World) (u0 u1 u2 u3 c0 c1 c2 c3 : Value) {t : Nat} (hb : Below w.heap.size w z) (hx : Box z w.heap.size #[c0, c1, c2, c3] t) : Box ((((z.setCell ⟨w.heap.size, 0, none⟩ u0).setCell ⟨w.heap.size, 1, none⟩ u1).setCell ⟨w.heap.size, 2, none⟩ u2).setCell ⟨w.heap.size, 3, none⟩ u3) w.heap.size #[u0, u1, u2, u3] t ∧ Below w.heap.size w ((((z.setCell ⟨w.heap.size, 0, none⟩ u0).setCell ⟨w.heap.size, 1, none⟩ u1).setCell ⟨w.heap.size, 2, none⟩ u2).setCell ⟨w.heap.size, 3, none⟩ u3) := ⟨by simpa using (((hx.set 0 u0).set 1 u1).set 2 u2).set 3 u3, (((hb.setCell (p := ⟨w.heap.size, 0, none⟩) (Nat.le_refl _) _).setCell (p := ⟨w.heap.size, 1, none⟩) (Nat.le_refl _) _).setCell (p := ⟨w.heap.size, 2, none⟩) (Nat.le_refl _) _).setCell (p := ⟨w.heap.size, 3, none⟩) (Nat.le_refl _) _⟩

set_option maxRecDepth 100000 in
set_option maxHeartbeats 2000000 in
theorem implDecode_any (n : Int) (w : World) :
    Calls Try.prog 40 #[.int .i64 n] w fun e w' => e = .returned (.tuple #[.agg #[.int .i64 (decE n).op, .int .i64 (decE n).a, .int .i64 (decE n).b, .int .i64 (decE n).c], .bool (decB n)]) ∧ Below w.heap.size w w' := by
  have hr : decB n = insB (decOp n) (decA n) (decBb n) (decC n) := by
    rw [decB]
    cases h : insB (decOp n) (decA n) (decBb n) (decC n) with
    | false => rw [Bool.and_false]
    | true =>
      have := (insB_in h).1
      have e := enc_dec n
      have h2 := insB_in h
      rw [Bool.and_true, inZ_yes]
      unfold encI at e
      omega
  have C1 := fun z => hide (implFields_any n z)
  have C2 := fun z => hide (implIns_any n z)
  have HE : Hid (decE n = if insB (decOp n) (decA n) (decBb n) (decC n) = true then ⟨decOp n, decA n, decBb n, decC n⟩ else ⟨0, 0, 0, 0⟩) := by
    show _ = _
    rw [decE, hr]
  rw [hr]
  clear hr
  obtain ⟨y, ey⟩ : ∃ y, decE n = y := ⟨_, rfl⟩
  rw [ey] at HE ⊢
  clear ey
  generalize decOp n = p0 at *
  generalize decA n = p1 at *
  generalize decBb n = p2 at *
  generalize decC n = p3 at *
  have CO := fun z => hide (implInsOk_any p0 p1 p2 p3 z)
  have W0 : Hid (Box (w.alloc (.cells #[.int .i64 0, .int .i64 0, .int .i64 0, .int .i64 0] 54)) w.heap.size #[.int .i64 0, .int .i64 0, .int .i64 0, .int .i64 0] 54 ∧ Below w.heap.size w (w.alloc (.cells #[.int .i64 0, .int .i64 0, .int .i64 0, .int .i64 0] 54))) := ⟨Box.made w _ _, by go_grown⟩
  go_enter Try.func40, Try.ntmps40
  go_wp2_with (first
    | (go_at_call 48; refine (unhide (C1 _)).mono ?_; rintro e z ⟨rfl, hb1⟩; have W1 := hide (And.intro (W0.out.1.stays hb1) (W0.out.2.trans (hb1.mono W0.out.2.size))); clear hb1)
    | (go_at_call 49; refine (unhide (C2 _)).mono ?_; rintro e z2 ⟨rfl, hb2⟩; have W2 := hide (And.intro (W1.out.1.stays hb2) (W1.out.2.trans (hb2.mono W1.out.2.size))); clear hb2))
  have hb3 : Below z2.heap.size z2 (z2.alloc (.cells #[.int .i64 p0, .int .i64 p1, .int .i64 p2, .int .i64 p3] 54)) := (Below.refl _ _).alloc (Nat.le_refl _) _
  have W3 := hide (And.intro (W2.out.1.stays hb3) (And.intro (W2.out.2.trans (hb3.mono W2.out.2.size)) (Box.made z2 #[.int .i64 p0, .int .i64 p1, .int .i64 p2, .int .i64 p3] 54)))
  clear W0 W1 W2 hb3
  generalize z2.alloc (.cells #[.int .i64 p0, .int .i64 p1, .int .i64 p2, .int .i64 p3] 54) = z3 at *
  obtain ⟨g, hg⟩ : ∃ g, z2.heap.size = g := ⟨_, rfl⟩
  rw [hg] at W3 ⊢
  clear hg
  refine (unhide (CO _)).mono ?_
  rintro e z4 ⟨rfl, hz⟩
  have hb4 : Below z3.heap.size z3 z4 := by (rw [hz]; go_grown)
  have W4 := hide (And.intro (W3.out.1.stays hb4) (And.intro (W3.out.2.1.trans (hb4.mono W3.out.2.1.size)) (W3.out.2.2.stays hb4)))
  clear W3 hz hb4
  have q0 := Lib.cell_of_heap W4.out.2.2 0
  have q1 := Lib.cell_of_heap W4.out.2.2 1
  have q2 := Lib.cell_of_heap W4.out.2.2 2
  have q3 := Lib.cell_of_heap W4.out.2.2 3
  have r0 := Lib.cell_of_heap W4.out.1 0
  have r1 := Lib.cell_of_heap W4.out.1 1
  have r2 := Lib.cell_of_heap W4.out.1 2
  have r3 := Lib.cell_of_heap W4.out.1 3
  have f0 := Lib.frozen_of_heap W4.out.1 0
  have f1 := Lib.frozen_of_heap W4.out.1 1
  have f2 := Lib.frozen_of_heap W4.out.1 2
  have f3 := Lib.frozen_of_heap W4.out.1 3
  simp at q0 q1 q2 q3 r0 r1 r2 r3
  cases hi : insB p0 p1 p2 p3 with
  | true =>
    obtain rfl : y = ⟨p0, p1, p2, p3⟩ := by rw [HE.out, if_pos hi]
    have S9 := hide (setBox4 w z4 (.int .i64 p0) (.int .i64 p1) (.int .i64 p2) (.int .i64 p3) _ _ _ _ W4.out.2.1 W4.out.1)
    clear HE
    go_wp2
    refine box_retV (g := w.heap.size) (t := 54) (cs := #[.int .i64 p0, .int .i64 p1, .int .i64 p2, .int .i64 p3]) rfl rfl ?_ _ Try.underlying54 rfl (by kernel_rfl) rfl ?_
    · exact S9.out.1
    · exact ⟨rfl, S9.out.2⟩
  | false =>
    obtain rfl : y = ⟨0, 0, 0, 0⟩ := by rw [HE.out, if_neg (by rw [hi]; simp)]
    have S9 := hide (setBox4 w z4 (.int .i64 0) (.int .i64 0) (.int .i64 0) (.int .i64 0) _ _ _ _ W4.out.2.1 W4.out.1)
    clear HE
    go_wp2
    refine box_retV (g := w.heap.size) (t := 54) (cs := #[.int .i64 0, .int .i64 0, .int .i64 0, .int .i64 0]) rfl rfl ?_ _ Try.underlying54 rfl (by kernel_rfl) rfl ?_
    · exact S9.out.1
    · exact ⟨rfl, S9.out.2⟩
end Go.Proofs.Ytoageggcbpjlmaa
