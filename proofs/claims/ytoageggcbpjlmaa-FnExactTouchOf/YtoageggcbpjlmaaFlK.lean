/-
  Rows of numbers that are answered, in the form that the laws' walks by program ask for.
-/
import Derived.Test.YtoageggcbpjlmaaFlR
import Derived.Test.YtoageggcbpjlmaaFlG
import Derived.Test.YtoageggcbpjlmaaCorP
import Derived.Deep.RegionHeld3
import Derived.Deep.Cut
import Derived.Test.YtoageggcbpjlmaaLawZ
namespace Go.Proofs.Ytoageggcbpjlmaa
open Go.RowKit

structure RiOwn (B : Nat) (w : World) (v0 : Value) (x : Ri) : Prop where
  o0 : w.ownsRow B 3 1 v0 x.row.length (x.row.map I64)
theorem RiOwn.stays {B : Nat} {w w' : World} {v0 : Value} {x : Ri} (h : RiOwn B w v0 x) (hb : Below w.heap.size w w') : RiOwn B w' v0 x := ⟨ownsInts_stays h.o0 hb⟩
theorem RiOwn.at {B : Nat} {w : World} {v0 : Value} {x : Ri} (h : RiOwn B w v0 x) : RiAt w v0 x := ⟨IntsIn.at (CellsIn.own h.o0)⟩
theorem RiOwn.lo {B b : Nat} {w : World} {v0 : Value} {x : Ri} (h : RiOwn B w v0 x) (hb : b ≤ B) : RiOwn b w v0 x := ⟨owns_lo h.o0 hb⟩
theorem RiOwn.turn {B T b : Nat} {w w' : World} {v0 : Value} {x : Ri} (h : RiOwn b w v0 x) (ht : Turn B T w w') (hb : T ≤ b) : RiOwn b w' v0 x :=
  ⟨owns_eq h.o0 (fun i hi => ht.out i (Nat.le_trans hb (h.o0.lt i hi).1) (h.o0.lt i hi).2)⟩
theorem RiOwn.low {B b : Nat} {w w' : World} {v0 : Value} {x : Ri} (h : RiOwn b w v0 x) (ht : Below B w w') (hb : ∀ i, v0.ownBlock = some i → i < B) : RiOwn b w' v0 x :=
  ⟨owns_eq h.o0 (fun i hi => ht.block i (hb i hi))⟩
theorem RiOwn.lt {b : Nat} {w : World} {v0 : Value} {x : Ri} (h : RiOwn b w v0 x) : ∀ i, v0.ownBlock = some i → i < w.heap.size := fun i hi => (h.o0.lt i hi).2
structure RiHeld (B : Nat) (w : World) (v0 : Value) (n0 : Nat) : Prop where
  o0 : w.ownsRow B 3 1 v0 n0 ((nMarks (1) n0).map I64)
theorem RiHeld.stays {B : Nat} {w w' : World} {v0 : Value} {n0 : Nat} (h : RiHeld B w v0 n0) (hb : Below w.heap.size w w') : RiHeld B w' v0 n0 := ⟨ownsInts_stays h.o0 hb⟩
theorem markIntSR_any {B : Nat} (v0 : Value) (x : Ri) (w : World) (h : RiOwn B w v0 x) (n0 : Nat) (en0 : x.row.length = n0) (L0 : n0 ≤ 1048576) :
    Calls Try.prog 20 #[v0, .int .i64 1] w fun e w' => e = .returned (.int .i64 ((1 + n0 : Nat) : Int)) ∧ RiHeld B w' v0 n0 ∧ Below B w w' ∧ (∀ c, c < w.heap.size → v0.ownBlock ≠ some c → w'.heap[c]? = w.heap[c]?) := by
  have ho := h.o0
  rw [en0] at ho
  refine (markInts_any v0 n0 B 1 x.row w L0 (by omega) ho).mono ?_
  rintro e z ⟨rfl, h1, h2, h3⟩
  exact ⟨rfl, ⟨h1⟩, h2, fun c _ hc => h3 c hc⟩
theorem heldIntSR_any {B : Nat} (v0 : Value) (w : World) (n0 : Nat) (h : RiHeld B w v0 n0) (L0 : n0 ≤ 1048576) :
    Calls Try.prog 21 #[v0, .int .i64 1] w fun e w' => e = .returned (.int .i64 ((1 + n0 : Nat) : Int)) ∧ Below w.heap.size w w' := by
  refine (heldInts_any v0 n0 B 1 w L0 (by omega) h.o0).mono ?_
  rintro e z ⟨rfl, h2⟩
  exact ⟨rfl, h2⟩
/-- The same, the marks going on from a number. -/
structure RiHeldK (B k0 : Nat) (w : World) (v0 : Value) (n0 : Nat) : Prop where
  o0 : w.ownsRow B 3 1 v0 n0 ((nMarks k0 n0).map I64)
theorem RiHeldK.stays {B k0 : Nat} {w w' : World} {v0 : Value} {n0 : Nat} (h : RiHeldK B k0 w v0 n0) (hb : Below w.heap.size w w') : RiHeldK B k0 w' v0 n0 := ⟨ownsInts_stays h.o0 hb⟩
theorem markIntK_any {B : Nat} (k0 : Nat) (hk : k0 ≤ 1000000000) (v0 : Value) (x : Ri) (w : World) (h : RiOwn B w v0 x) (n0 : Nat) (en0 : x.row.length = n0) (L0 : n0 ≤ 1048576) :
    Calls Try.prog 20 #[v0, .int .i64 (k0 : Int)] w fun e w' => e = .returned (.int .i64 ((k0 + n0 : Nat) : Int)) ∧ RiHeldK B k0 w' v0 n0 ∧ Below B w w' ∧ (∀ c, v0.ownBlock ≠ some c → w'.heap[c]? = w.heap[c]?) := by
  have ho := h.o0
  rw [en0] at ho
  refine (markInts_any v0 n0 B k0 x.row w L0 hk ho).mono ?_
  rintro e z ⟨rfl, h1, h2, h3⟩
  exact ⟨rfl, ⟨h1⟩, h2, h3⟩
theorem heldIntK_any {B : Nat} (k0 : Nat) (hk : k0 ≤ 1000000000) (v0 : Value) (w : World) (n0 : Nat) (h : RiHeldK B k0 w v0 n0) (L0 : n0 ≤ 1048576) :
    Calls Try.prog 21 #[v0, .int .i64 (k0 : Int)] w fun e w' => e = .returned (.int .i64 ((k0 + n0 : Nat) : Int)) ∧ Below w.heap.size w w' := by
  refine (heldInts_any v0 n0 B k0 w L0 hk h.o0).mono ?_
  rintro e z ⟨rfl, h2⟩
  exact ⟨rfl, h2⟩
end Go.Proofs.Ytoageggcbpjlmaa

namespace Go.Proofs.Ytoageggcbpjlmaa
open Go.RowKit

set_option maxRecDepth 100000 in
set_option maxHeartbeats 8000000 in
theorem lawTouchOf (v0_0 : Value) (x0 : Ri) (n1 : Int) (w : World) (h0 : RiAt w v0_0 x0) (m0 : RiMax x0)
    (SP : x0.row.length ≤ 1048576 → ∀ (v0_0 : Value) (z : World) (b0 : Nat), RiC b0 z [v0_0] x0 → Calls Try.prog 22 #[v0_0, .int .i64 n1] z fun e w' => e = .returned (.int .i64 (touchE x0.row n1)) ∧ Below z.heap.size z w')
    (IP : x0.row.length ≤ 1048576 → ∀ (v0_0 : Value) (z : World) (b0 : Nat), RiC b0 z [v0_0] x0 → Calls Try.prog 23 #[v0_0, .int .i64 n1] z fun e w' => e = .returned (.int .i64 (touchE x0.row n1)) ∧ Below z.heap.size z w') :
    Calls Try.prog 6 #[v0_0, .int .i64 n1] w fun e w' => e = .returned (.bool true) ∧ Below w.heap.size w w' := by
  have HPS := hide SP
  have HPI := hide IP
  clear SP IP
  have HW0 := hide h0
  have HM0 := hide m0
  have HB : Hid (Below w.heap.size w w) := Below.refl _ _
  obtain ⟨⟨a0_0, b0_0, rfl, _⟩⟩ := h0
  clear m0
  by_cases hz0 : x0.row.length ≤ 1048576
  case neg =>
    have hy0 : ((x0.row.length : Nat) : Int) > 1048576 := by omega
    go_enter Try.func6, Try.ntmps6
    go_wp2
    go_ret
    exact ⟨rfl, HB.out⟩
  have hy0 : ¬ ((x0.row.length : Nat) : Int) > 1048576 := by omega
  go_enter Try.func6, Try.ntmps6
  have HPS1 := hide (HPS.out hz0)
  have HPI1 := hide (HPI.out hz0)
  have HN0 : Hid (RiLen x0) := hide ⟨hz0⟩
  go_wp2_with fail
  refine (toIntSR_any x0 _ _ (HW0.out.stays HB.out).a0 HN0.out.l0).mono ?_
  rintro e z1 ⟨o1_0, k1_0, c1_0, rfl, hc1, hb1⟩
  have SZ1 : Hid (w.heap.size ≤ z1.heap.size) := hb1.size
  have HB_1 := hide (HB.out.trans (hb1.mono HB.out.size))
  clear HB
  have XC1_2 := hide (hc1)
  clear hc1 hb1
  go_wp2_with fail
  refine (HPS1.out _ _ _ XC1_2.out).mono ?_
  rintro e z2 ⟨rfl, hbw⟩
  have SZ2 : Hid (z1.heap.size ≤ z2.heap.size) := hbw.size
  have HB_3 := hide (HB_1.out.trans (hbw.mono HB_1.out.size))
  clear HB_1
  have XC1_3 := hide (XC1_2.out.stays hbw)
  clear XC1_2
  clear hbw
  clear XC1_3
  go_wp2_with fail
  refine (toIntSR_any x0 _ _ (HW0.out.stays HB_3.out).a0 HN0.out.l0).mono ?_
  rintro e z3 ⟨o2_0, k2_0, c2_0, rfl, hc2, hb2⟩
  have SZ3 : Hid (z2.heap.size ≤ z3.heap.size) := hb2.size
  have HB_4 := hide (HB_3.out.trans (hb2.mono HB_3.out.size))
  clear HB_3
  have XC2_5 := hide (hc2)
  clear hc2 hb2
  have XS0_6 := hide (XC2_5.out.sh (T := z3.heap.size) (Nat.le_refl _))
  go_wp2_with fail
  refine (HPI1.out _ _ _ XC2_5.out).mono ?_
  rintro e z4 ⟨rfl, hbg⟩
  have SZ4 : Hid (z3.heap.size ≤ z4.heap.size) := hbg.size
  have HB_7 := hide (HB_4.out.trans (hbg.mono HB_4.out.size))
  clear HB_4
  have XC2_7 := hide (XC2_5.out.stays hbg)
  clear XC2_5
  have XS0_7 := hide (XS0_6.out.stays hbg)
  clear XS0_6
  clear hbg
  go_wp2_with fail
  refine (toIntSR_any x0 _ _ (HW0.out.stays HB_7.out).a0 HN0.out.l0).mono ?_
  rintro e z5 ⟨o3_0, k3_0, c3_0, rfl, hc3, hb3⟩
  have SZ5 : Hid (z4.heap.size ≤ z5.heap.size) := hb3.size
  have HB_8 := hide (HB_7.out.trans (hb3.mono HB_7.out.size))
  clear HB_7
  have XC2_8 := hide (XC2_7.out.stays hb3)
  clear XC2_7
  have XS0_8 := hide (XS0_7.out.stays hb3)
  clear XS0_7
  have XC3_9 := hide (hc3)
  clear hc3 hb3
  go_wp2_with fail
  refine (eqIntSR_same x0 _ _ _ (XC2_8.out).at.a0 (XC3_9.out).at.a0 HN0.out.l0).mono ?_
  rintro e z6 ⟨rfl, hbp10⟩
  have SZ6 : Hid (z5.heap.size ≤ z6.heap.size) := hbp10.size
  have HB_11 := hide (HB_8.out.trans (hbp10.mono HB_8.out.size))
  clear HB_8
  have XC2_11 := hide (XC2_8.out.stays hbp10)
  clear XC2_8
  have XS0_11 := hide (XS0_8.out.stays hbp10)
  clear XS0_8
  have XC3_11 := hide (XC3_9.out.stays hbp10)
  clear XC3_9
  clear hbp10
  clear XC3_11
  go_wp2
  go_ret
  exact ⟨rfl, HB_11.out⟩
end Go.Proofs.Ytoageggcbpjlmaa

namespace Go.Proofs.Ytoageggcbpjlmaa
open Go.RowKit
open Go.ChangeShapes Go.WideShapes Go.ChangeAt Go.Deep

theorem intsR_of {H : Type} {enc : TypeId × Value → H} {W : World} {v : Value} {d : DataW H} {ps : List MemPlace}
    (h : DataW.Trod enc Try.prog W 0 (fun _ => true) true 22 v d ps) (hv : ∃ a len cap, v = .slice a len cap) : ∃ xs, IntsAt W v xs ∧ IntsMax xs := by
  obtain ⟨a, len, cap, rfl⟩ := hv
  obtain ⟨fuel, hf⟩ := h
  obtain ⟨v, ys, e, h1, h2⟩ := opens_ints _ _ _ hf
  simp [Value.cells] at e
  subst e
  exact ⟨ys, h1, h2⟩
end Go.Proofs.Ytoageggcbpjlmaa
