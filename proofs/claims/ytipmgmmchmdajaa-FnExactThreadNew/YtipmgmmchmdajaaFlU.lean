/-
  A thread by the laws' own helpers: marked and asked.
-/
import Derived.Test.YtipmgmmchmdajaaFlT
namespace Go.Proofs.Ytipmgmmchmdajaa
open Go.RowKit

structure EvHeldK (k0 B : Nat) (w : World) (v0 v1 : Value) (n0 n1 : Nat) : Prop where
  o0 : w.ownsRow B 9 1 v0 n0 ((marks k0 n0).map S)
  o1 : w.ownsRow B 3 1 v1 n1 ((nMarks (k0 + n0) n1).map I64)
theorem EvHeldK.stays {k0 B : Nat} {w w' : World} {v0 v1 : Value} {n0 n1 : Nat} (h : EvHeldK k0 B w v0 v1 n0 n1) (hb : Below w.heap.size w w') : EvHeldK k0 B w' v0 v1 n0 n1 := ⟨ownsInts_stays h.o0 hb, ownsInts_stays h.o1 hb⟩

set_option maxRecDepth 100000 in
set_option maxHeartbeats 4000000 in
theorem markEnvK_any {k0 B : Nat} (hk0 : 0 < k0) (hk1 : k0 ≤ 4194304) (v0 v1 : Value) (x : Ev) (w : World) (h : EvOwn B w v0 v1 x) (n0 : Nat) (en0 : x.names.length = n0) (n1 : Nat) (en1 : x.vals.length = n1) (hB : B ≤ w.heap.size) (L0 : n0 ≤ 1048576) (L1 : n1 ≤ 1048576) :
    Calls Try.prog 42 #[.agg #[v0, v1], .int .i64 (k0 : Int)] w fun e w' => e = .returned (.int .i64 ((k0 + n0 + n1 : Nat) : Int)) ∧ EvHeldK k0 B w' v0 v1 n0 n1 ∧ Below B w w' ∧ (∀ c, c < w.heap.size → v0.ownBlock ≠ some c → v1.ownBlock ≠ some c → w'.heap[c]? = w.heap[c]?) := by
  have hb1 : Below w.heap.size w (w.alloc (.cells #[v0, v1] 32)) := (Below.refl _ _).alloc (Nat.le_refl _) _
  have HB0 : Hid (Below B w (w.alloc (.cells #[v0, v1] 32))) := hb1.mono hB
  have BX0 := hide (Box.made w #[v0, v1] 32)
  have OT0 : Hid (∀ c, c < w.heap.size → v0.ownBlock ≠ some c → v1.ownBlock ≠ some c → (w.alloc (.cells #[v0, v1] 32)).heap[c]? = w.heap[c]?) := fun c hc _ _ => hb1.block c hc
  have O0_0 := hide (ownsInts_stays h.o0 hb1)
  have OL0 : Hid (∀ i, v0.ownBlock = some i → i < w.heap.size) := fun i hi => (h.o0.lt i hi).2
  have O1_0 := hide (ownsInts_stays h.o1 hb1)
  have OL1 : Hid (∀ i, v1.ownBlock = some i → i < w.heap.size) := fun i hi => (h.o1.lt i hi).2
  have AP := hide h.ap
  rw [en0] at O0_0
  rw [en1] at O1_0
  obtain ⟨o0, c0, rfl⟩ := form_own O0_0.out
  obtain ⟨o1, c1, rfl⟩ := form_own O1_0.out
  obtain ⟨W1, hW⟩ : ∃ W1, w.alloc (.cells #[.slice o0 n0 c0, .slice o1 n1 c1] 32) = W1 := ⟨_, rfl⟩
  have HW := hide hW
  rw [hW] at HB0 BX0 OT0 O0_0 O1_0
  have q0 := Lib.cell_of_heap BX0.out 0
  simp at q0
  rw [← hW] at q0
  clear h hb1 hW
  go_enter Try.func42, Try.ntmps42
  go_wp2_with fail
  rw [HW.out]
  refine (markTexts_any _ n0 B k0 x.names _ L0 (by omega) (by omega) (Nat.le_trans hB HB0.out.size) O0_0.out).mono ?_
  rintro e z1 ⟨rfl, ho1, hb1, hk1⟩
  have HB1 := hide (HB0.out.trans hb1)
  have OT1 : Hid (∀ c, c < w.heap.size → (.slice o0 n0 c0 : Value).ownBlock ≠ some c → (.slice o1 n1 c1 : Value).ownBlock ≠ some c → z1.heap[c]? = w.heap[c]?) := fun c hc g0 g1 => (hk1 c (Nat.lt_of_lt_of_le hc HB0.out.size) g0).trans (OT0.out c hc g0 g1)
  have BX1 : Hid (Box z1 w.heap.size #[.slice o0 n0 c0, .slice o1 n1 c1] 32) := (hk1 _ BX0.out.lt (fun e => by have := OL0.out _ e; omega)).trans BX0.out
  have O1_1 := hide (owns_eq O1_0.out fun i hi => hk1 i (O1_0.out.lt i hi).2 (fun e => AP.out i e hi))
  have R0 := hide ho1
  clear ho1 hb1 hk1 q0
  have q1 := Lib.cell_of_heap BX1.out 1
  simp at q1
  go_wp2_with fail
  refine (markInts_any _ n1 B (k0 + n0) x.vals _ L1 (by omega) O1_1.out).mono ?_
  rintro e z2 ⟨rfl, ho2, hb2, hk2⟩
  have HB2 := hide (HB1.out.trans hb2)
  have OT2 : Hid (∀ c, c < w.heap.size → (.slice o0 n0 c0 : Value).ownBlock ≠ some c → (.slice o1 n1 c1 : Value).ownBlock ≠ some c → z2.heap[c]? = w.heap[c]?) := fun c hc g0 g1 => (hk2 c g1).trans (OT1.out c hc g0 g1)
  have R0_2 := hide (owns_eq R0.out fun i hi => hk2 i (fun e => AP.out i hi e))
  have R1 := hide ho2
  clear ho2 hb2 hk2 q1
  go_wp2
  go_ret
  exact ⟨rfl, ⟨R0_2.out, R1.out⟩, HB2.out, OT2.out⟩

set_option maxRecDepth 100000 in
set_option maxHeartbeats 4000000 in
theorem heldEnvK_any {k0 B : Nat} (hk0 : 0 < k0) (hk1 : k0 ≤ 4194304) (v0 v1 : Value) (w : World) (n0 : Nat) (n1 : Nat) (h : EvHeldK k0 B w v0 v1 n0 n1) (L0 : n0 ≤ 1048576) (L1 : n1 ≤ 1048576) :
    Calls Try.prog 44 #[.agg #[v0, v1], .int .i64 (k0 : Int)] w fun e w' => e = .returned (.int .i64 ((k0 + n0 + n1 : Nat) : Int)) ∧ Below w.heap.size w w' := by
  have hb1 : Below w.heap.size w (w.alloc (.cells #[v0, v1] 32)) := (Below.refl _ _).alloc (Nat.le_refl _) _
  have HB0 := hide hb1
  have BX0 := hide (Box.made w #[v0, v1] 32)
  have H0 := hide (h.stays hb1)
  obtain ⟨o0, c0, rfl⟩ := form_own h.o0
  obtain ⟨o1, c1, rfl⟩ := form_own h.o1
  obtain ⟨W1, hW⟩ : ∃ W1, w.alloc (.cells #[.slice o0 n0 c0, .slice o1 n1 c1] 32) = W1 := ⟨_, rfl⟩
  have HW := hide hW
  rw [hW] at HB0 BX0 H0
  have q0 := Lib.cell_of_heap BX0.out 0
  simp at q0
  rw [← hW] at q0
  clear h hb1 hW
  go_enter Try.func44, Try.ntmps44
  go_wp2_with fail
  rw [HW.out]
  refine (heldStrings_any _ n0 B k0 _ L0 (by omega) (by omega) H0.out.o0).mono ?_
  rintro e z1 ⟨rfl, hb1⟩
  have HB1 := hide (HB0.out.trans (hb1.mono HB0.out.size))
  have BX1 := hide (BX0.out.stays hb1)
  have H1 := hide (H0.out.stays hb1)
  have hnn1 : ¬ (((k0 + n0 : Nat) : Int) < 0) := by omega
  clear hb1 q0
  have q1 := Lib.cell_of_heap BX1.out 1
  simp at q1
  go_wp2_with fail
  refine (heldInts_any _ n1 B (k0 + n0) _ L1 (by omega) H1.out.o1).mono ?_
  rintro e z2 ⟨rfl, hb2⟩
  have HB2 := hide (HB1.out.trans (hb2.mono HB1.out.size))
  have BX2 := hide (BX1.out.stays hb2)
  have H2 := hide (H1.out.stays hb2)
  have hnn2 : ¬ (((k0 + n0 + n1 : Nat) : Int) < 0) := by omega
  clear hb2 q1
  go_wp2
  go_ret
  exact ⟨rfl, HB2.out⟩


end Go.Proofs.Ytipmgmmchmdajaa
