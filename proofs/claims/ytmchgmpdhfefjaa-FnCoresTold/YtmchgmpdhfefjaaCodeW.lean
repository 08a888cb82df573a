/-
  A row of bytes that comes in, as the drawing reads it.
-/
import Derived.Test.YtmchgmpdhfefjaaCurW
import Derived.Test.YtmchgmpdhfefjaaChecked
import Derived.ProofKit
import Derived.OpenShut
import Derived.Test.YtmchgmpdhfefjaaDrwS
import Derived.Test.YtmchgmpdhfefjaaInsP
namespace Go.Proofs.Ytmchgmpdhfefjaa
open Go.ChangeShapes Go.WideShapes Go.ChangeAt Go.RowKit

theorem code_of {H : Type} {enc : TypeId × Value → H} {W : World} {a : Option Addr} {len cap : Nat} {d : DataW H} {ps : List MemPlace}
    (h : DataW.Trod enc Try.prog W 0 (fun _ => true) true 22 (.slice a len cap) d ps) : CodeAt W W.heap.size (.slice a len cap) len := by
  obtain ⟨fuel, hf⟩ := h
  rcases open_ints Try.underlying22 Try.underlying5 (by kernel_rfl) hf with ⟨hcs, _⟩ | ⟨x, l, c, zs, hcs, _, hl, hm, hz, _, hcell, hwz⟩
  · simp [Value.cells] at hcs
    obtain ⟨rfl, rfl, rfl⟩ := hcs
    exact .inl ⟨rfl, rfl⟩
  · simp [Value.cells] at hcs
    obtain ⟨rfl, rfl, rfl⟩ := hcs
    refine .inr ⟨x, cap, zs.map Int.toNat, rfl, hl, fun j hj => ?_⟩
    have hz' : zs.length = cap := by simpa using hz
    have hj' : j < zs.length := by omega
    have hc := hcell j hj'
    have hw := hwz zs[j] (List.getElem_mem hj')
    have hb : 0 ≤ zs[j] ∧ zs[j] ≤ 255 := by simpa [Lit.wf, IntKind.min, IntKind.max, IntKind.signed, IntKind.bits] using hw
    have e1 : (zs.map Int.toNat).getD j 0 = zs[j].toNat := by simp [List.getD, hj']
    have e2 : zs.getD j 0 = zs[j] := by simp [List.getD, hj']
    have hblk : x.block < W.heap.size := by
      have h1 := World.block_lt_of_cell? _ _ hc
      have h2 : (x.add j).block = x.block := by simp only [Addr.add]; split <;> rfl
      rw [h2] at h1; exact h1
    refine ⟨hblk, by rw [e1]; omega, ?_⟩
    rw [hc, e1, e2]
    congr 2
    omega
end Go.Proofs.Ytmchgmpdhfefjaa

namespace Go.Proofs.Ytmchgmpdhfefjaa
open Go.RowKit

set_option maxRecDepth 100000 in
set_option maxHeartbeats 1000000 in
theorem placeK_any (w : World) (base g m : Nat) (hm : m ≤ 250) (C : Cur w base g) :
    Calls Try.prog 36 #[.pointer (some ⟨g, 0, none⟩), .int .i64 m] w fun e w' => ∃ x : Int, e = .returned (.int .i64 x) ∧ Far g w w' ∧ Cur w' base g := by
  have B := hide (once_any w base g 15 (by omega) C)
  clear C
  have CP : ∀ z : World, Cur z base g → Hid (Calls Try.prog 23 #[.pointer (some ⟨g, 0, none⟩), .slice (some ⟨z.heap.size, 0, none⟩) 5 5] (z.alloc (.cells #[.int .i64 (-1), .int .i64 (m : Int), .int .i64 ((m : Int) + 1), .int .i64 9223372036854775807, .int .i64 (-9223372036854775808)] 3)) fun e w' => ∃ n : Int, e = .returned (.int .i64 n) ∧ Far g z w' ∧ Cur w' base g) := fun z C => hide ((pickInt_made z _ base g [-1, (m : Int), (m : Int) + 1, 9223372036854775807, -9223372036854775808] 3 (by simp) (by simp) C rfl).mono fun e w' ⟨n, _, h⟩ => ⟨n, h⟩)
  have CB := fun z C => hide (below_any z base g m (by omega) C)
  go_enter Try.func36, Try.ntmps36
  go_wp2_with fail
  refine (unhide B).mono ?_
  rintro e z1 ⟨b, rfl, hf1, hc1⟩
  have F1 := hide hf1
  have C1 := hide hc1
  clear hf1 hc1 B
  cases b with
  | true =>
    go_wp2_with fail
    refine (unhide (CP _ C1.out)).mono ?_
    rintro e z2 ⟨n, rfl, hf2, hc2⟩
    have F2 := hide (F1.out.trans hf2)
    have C2 := hide hc2
    clear hf2 hc2
    go_wp2
    go_ret
    exact ⟨n, rfl, F2.out, C2.out⟩
  | false =>
    go_wp2_with fail
    refine (unhide (CB _ C1.out)).mono ?_
    rintro e z2 ⟨n, _, rfl, hf2, hc2⟩
    have F2 := hide (F1.out.trans hf2)
    have C2 := hide hc2
    clear hf2 hc2
    go_wp2
    go_ret
    exact ⟨n, rfl, F2.out, C2.out⟩

set_option maxRecDepth 100000 in
set_option maxHeartbeats 1000000 in
theorem drawTouch_any (w : World) (base : Nat) (v : Value) (n : Nat) (hn : n ≤ 1048576) (H : CodeAt w base v n) (hb : base ≤ w.heap.size) :
    Calls Try.prog 13 #[v] w fun e w' => ∃ (tv : Value) (text : List Int) (pc : Int), e = .returned (.tuple #[tv, .int .i64 pc]) ∧ IntsFrom w.heap.size w' tv text ∧ text.length ≤ 8 ∧ Below w.heap.size w w' := by
  have NW := hide (new_any w base v n hn H hb)
  clear H
  have CP := fun z C => hide (placeK_any z base w.heap.size 6 (by omega) C)
  have CT := fun z C => hide (l15Text_any z base w.heap.size C)
  go_enter Try.func13, Try.ntmps13
  go_wp2_with fail
  refine (unhide NW).mono ?_
  rintro e z1 ⟨rfl, hb1, hc1⟩
  have B1 := hide hb1
  have C1 := hide hc1
  clear hb1 hc1 NW
  go_wp2_with fail
  refine (unhide (CP _ C1.out)).mono ?_
  rintro e z2 ⟨pc, rfl, hf2, hc2⟩
  have B2 := hide (B1.out.trans (hf2.below (Nat.le_refl _) B1.out.size))
  have C2 := hide hc2
  clear hf2 hc2 B1 C1 CP
  go_wp2_with fail
  refine (unhide (CT _ C2.out)).mono ?_
  rintro e z3 ⟨tv, text, rfl, hl, hz⟩
  have HZ := hide hz
  have HL := hide hl
  clear hz hl
  go_wp2
  go_ret2
  have hI : IntsFrom z2.heap.size z3 tv text := IntsFrom.own HZ.out.own
  exact ⟨tv, text, pc, rfl, hI.mono B2.out.size, HL.out, B2.out.trans (HZ.out.far.below (Nat.le_refl _) B2.out.size)⟩

set_option maxRecDepth 100000 in
set_option maxHeartbeats 1000000 in
theorem drawCoreOk_any (w : World) (base : Nat) (v : Value) (n : Nat) (hn : n ≤ 1048576) (H : CodeAt w base v n) (hb : base ≤ w.heap.size) :
    Calls Try.prog 12 #[v] w fun e w' => ∃ (rv : Value) (x : Co), e = .returned (.agg #[rv, .int .i64 x.pc, .int .i64 x.process]) ∧ IntsFrom w.heap.size w' rv x.regs ∧ x.regs.length ≤ 8 ∧ Below w.heap.size w w' := by
  have HH := hide H
  clear H
  obtain ⟨W1, hW⟩ : ∃ W1, w.alloc (.cells #[.slice none 0 0, .int .i64 0, .int .i64 0] 26) = W1 := ⟨_, rfl⟩
  have hb1 : Below w.heap.size w W1 := by rw [← hW]; exact (Below.refl _ _).alloc (Nat.le_refl _) _
  have R1 : Hid (Box W1 w.heap.size #[.slice none 0 0, .int .i64 0, .int .i64 0] 26) := by rw [← hW]; exact hide (Box.made w _ _)
  have S1 : W1.heap.size = w.heap.size + 1 := by rw [← hW]; simp
  have NW := hide (new_any W1 base v n hn (HH.out.below (hb1.mono hb)) (by omega))
  rw [S1] at NW
  have HW := hide hW
  have HB := hide hb1
  clear hW hb1 HH
  have CA := fun z C => hide (l15Any_any z base (w.heap.size + 1) C)
  go_enter Try.func12, Try.ntmps12
  go_wp2_with fail
  rw [HW.out]
  refine (unhide NW).mono ?_
  rintro e z1 ⟨rfl, hb1, hc1⟩
  have R2 := hide (R1.out.stays (by rw [S1]; exact hb1))
  have B2 := hide (HB.out.trans (hb1.mono (by omega)))
  have C2 := hide hc1
  clear hb1 hc1 NW R1 HB HW
  go_wp2_with fail
  refine (unhide (CA _ C2.out)).mono ?_
  rintro e z2 ⟨rv, x, rfl, hi, hl, hf, hc⟩
  obtain ⟨ao, nr, cr, rfl⟩ : ∃ ao nr cr, rv = .slice ao nr cr := by obtain ⟨ao, c, e, _⟩ := hi; exact ⟨ao, _, c, e⟩
  have hr := farBox hf R2.out (by omega)
  have FZ : Hid (∃ W, (((z2.setCell ⟨w.heap.size, 0, none⟩ (.slice ao nr cr)).setCell ⟨w.heap.size, 1, none⟩ (.int .i64 x.pc)).setCell ⟨w.heap.size, 2, none⟩ (.int .i64 x.process)) = W ∧ Box W w.heap.size #[.slice ao nr cr, .int .i64 x.pc, .int .i64 x.process] 26 ∧ IntsFrom w.heap.size W (.slice ao nr cr) x.regs ∧ x.regs.length ≤ 8 ∧ Below w.heap.size w W) := by
    have hk : Below w.heap.size z2 (((z2.setCell ⟨w.heap.size, 0, none⟩ (.slice ao nr cr)).setCell ⟨w.heap.size, 1, none⟩ (.int .i64 x.pc)).setCell ⟨w.heap.size, 2, none⟩ (.int .i64 x.process)) :=
      (((Below.refl _ _).setCell (p := ⟨w.heap.size, 0, none⟩) (Nat.le_refl _) _).setCell (p := ⟨w.heap.size, 1, none⟩) (Nat.le_refl _) _).setCell (p := ⟨w.heap.size, 2, none⟩) (Nat.le_refl _) _
    have hf2 : Far w.heap.size z2 (((z2.setCell ⟨w.heap.size, 0, none⟩ (.slice ao nr cr)).setCell ⟨w.heap.size, 1, none⟩ (.int .i64 x.pc)).setCell ⟨w.heap.size, 2, none⟩ (.int .i64 x.process)) :=
      ⟨hk.os, hk.tape, hk.output, hk.size, fun b hb _ => (Below.heap_setCell _ _ _ b hb).trans ((Below.heap_setCell _ _ _ b hb).trans (Below.heap_setCell _ _ _ b hb))⟩
    have hs := B2.out.size
    exact hide ⟨_, rfl, by simpa using ((hr.set 0 (.slice ao nr cr)).set 1 (.int .i64 x.pc)).set 2 (.int .i64 x.process), (hi.far hf2 (by omega)).mono (by omega), hl, (B2.out.trans (hf.below (by omega) (by omega))).trans hk⟩
  have s0 := Lib.cell_of_heap hr 0
  have f0 := Lib.frozen_of_heap hr 0
  have s1 := Lib.cell_of_heap hr 1
  have f1 := Lib.frozen_of_heap hr 1
  have s2 := Lib.cell_of_heap hr 2
  have f2 := Lib.frozen_of_heap hr 2
  simp at s0 s1 s2
  clear hr hi hl hf hc R2 B2 C2 CA
  go_wp2
  obtain ⟨W, eW, hB, hI, hL, hBl⟩ := FZ.out
  rw [eW]
  refine box_ret (g := w.heap.size) (t := 26) (cs := #[.slice ao nr cr, .int .i64 x.pc, .int .i64 x.process]) rfl rfl ?_ _ Try.underlying26 rfl (by kernel_rfl) rfl ?_
  · exact hB
  · exact ⟨_, x, rfl, hI, hL, hBl⟩
end Go.Proofs.Ytmchgmpdhfefjaa
