/-
  Walks: words of a machine: numbers, by the specification; the laws' own helpers.
-/
import Derived.Test.YtmchgmpdhfefjaaInsP
import Derived.Handy
import Derived.Laws.Bits128
import Derived.Test.YtmchgmpdhfefjaaAid
namespace Go.Proofs.Ytmchgmpdhfefjaa
open Go.RowKit

set_option maxRecDepth 100000 in
set_option maxHeartbeats 2000000 in
theorem specEncode_any (op a b c : Int) (w : World) :
    Calls Try.prog 14 #[.agg #[.int .i64 op, .int .i64 a, .int .i64 b, .int .i64 c]] w fun e w' => e = .returned (.tuple #[.int .i64 (if insB op a b c = true then encI op a b c else 0), .bool (insB op a b c)]) ∧ Below w.heap.size w w' := by
  have CO := fun z => hide (specInsOk_any op a b c z)
  have HI := hide (@insB_in op a b c)
  have hb0 : Below w.heap.size w (w.alloc (.cells #[.int .i64 op, .int .i64 a, .int .i64 b, .int .i64 c] 34)) := (Below.refl _ _).alloc (Nat.le_refl _) _
  have BX := hide ((Box.made w #[.int .i64 op, .int .i64 a, .int .i64 b, .int .i64 c] 34).stays ((Below.refl _ _).alloc (Nat.le_refl _) (.cells #[.int .i64 op, .int .i64 a, .int .i64 b, .int .i64 c] 34)))
  have HB := hide (hb0.alloc hb0.size (.cells #[.int .i64 op, .int .i64 a, .int .i64 b, .int .i64 c] 34))
  clear hb0
  cases hr : insB op a b c with
  | false =>
    simp only [hr] at CO
    rw [if_neg (by simp)]
    clear HI hr
    go_enter Try.func14, Try.ntmps14
    go_wp2_with (go_at_call 35; refine (unhide (CO _)).mono ?_; rintro e z ⟨rfl, rfl⟩)
    go_returns
    exact ⟨rfl, HB.out⟩
  | true =>
    simp only [hr] at CO
    rw [if_pos rfl]
    have hi := HI.out hr
    have e1 : wrap64 (op * 268435456) = op * 268435456 := by unfold wrap64; omega
    have e2 : wrap64 (a * 33554432) = a * 33554432 := by unfold wrap64; omega
    have e3 : wrap64 (b * 4194304) = b * 4194304 := by unfold wrap64; omega
    have e4 : wrap64 (op * 268435456 + a * 33554432) = op * 268435456 + a * 33554432 := by unfold wrap64; omega
    have e5 : wrap64 (op * 268435456 + a * 33554432 + b * 4194304) = op * 268435456 + a * 33554432 + b * 4194304 := by unfold wrap64; omega
    have e6 : wrap64 (op * 268435456 + a * 33554432 + b * 4194304 + c) = op * 268435456 + a * 33554432 + b * 4194304 + c := by unfold wrap64; omega
    clear HI hr hi
    go_enter Try.func14, Try.ntmps14
    go_wp2_with (go_at_call 35; refine (unhide (CO _)).mono ?_; rintro e z ⟨rfl, rfl⟩)
    go_returns
    exact ⟨by rw [e6]; rfl, HB.out⟩

theorem band7 (n : Int) : bits .and .i64 n 7 = n % 8 := by
  have h7 : (BitVec.ofInt 64 7).toNat = 2 ^ 3 - 1 := by decide
  have key : (BitVec.ofInt 64 n &&& BitVec.ofInt 64 7).toNat = (n % ((2 ^ 64 : Nat) : Int)).toNat % 2 ^ 3 := by
    rw [BitVec.toNat_and, BitVec.toNat_ofInt, h7, Nat.and_two_pow_sub_one_eq_mod]
  show IntKind.i64.wrap ((BitVec.ofInt 64 n &&& BitVec.ofInt 64 7).toNat : Nat) = n % 8
  rw [key, IntKind.wrap_i64]
  omega
theorem band22 (n : Int) : bits .and .i64 n 4194303 = n % 4194304 := by
  have h7 : (BitVec.ofInt 64 4194303).toNat = 2 ^ 22 - 1 := by decide
  have key : (BitVec.ofInt 64 n &&& BitVec.ofInt 64 4194303).toNat = (n % ((2 ^ 64 : Nat) : Int)).toNat % 2 ^ 22 := by
    rw [BitVec.toNat_and, BitVec.toNat_ofInt, h7, Nat.and_two_pow_sub_one_eq_mod]
  show IntKind.i64.wrap ((BitVec.ofInt 64 n &&& BitVec.ofInt 64 4194303).toNat : Nat) = n % 4194304
  rw [key, IntKind.wrap_i64]
  omega
/-- What is decoded: nothing of a number that is none. -/
def decE (n : Int) : In4 := if decB n = true then ⟨decOp n, decA n, decBb n, decC n⟩ else ⟨0, 0, 0, 0⟩

set_option maxRecDepth 100000 in
set_option maxHeartbeats 2000000 in
theorem specDecode_any (n : Int) (w : World) :
    Calls Try.prog 11 #[.int .i64 n] w fun e w' => e = .returned (.tuple #[.agg #[.int .i64 (decE n).op, .int .i64 (decE n).a, .int .i64 (decE n).b, .int .i64 (decE n).c], .bool (decB n)]) ∧ Below w.heap.size w w' := by
  have CI := fun lo hi x z => hide (specInI x lo hi z)
  have HB1 : Hid (∀ o, Below w.heap.size w (w.alloc o)) := fun o => (Below.refl _ _).alloc (Nat.le_refl _) o
  have SET : Hid (∀ (z : World) (u0 u1 u2 u3 : Value), Below w.heap.size w z → Box z w.heap.size #[.int .i64 0, .int .i64 0, .int .i64 0, .int .i64 0] 34 → Box ((((z.setCell ⟨w.heap.size, 0, none⟩ u0).setCell ⟨w.heap.size, 1, none⟩ u1).setCell ⟨w.heap.size, 2, none⟩ u2).setCell ⟨w.heap.size, 3, none⟩ u3) w.heap.size #[u0, u1, u2, u3] 34 ∧ Below w.heap.size w ((((z.setCell ⟨w.heap.size, 0, none⟩ u0).setCell ⟨w.heap.size, 1, none⟩ u1).setCell ⟨w.heap.size, 2, none⟩ u2).setCell ⟨w.heap.size, 3, none⟩ u3)) := fun z u0 u1 u2 u3 hb hx => ⟨by simpa using (((hx.set 0 u0).set 1 u1).set 2 u2).set 3 u3, (((hb.setCell (p := ⟨w.heap.size, 0, none⟩) (Nat.le_refl _) _).setCell (p := ⟨w.heap.size, 1, none⟩) (Nat.le_refl _) _).setCell (p := ⟨w.heap.size, 2, none⟩) (Nat.le_refl _) _).setCell (p := ⟨w.heap.size, 3, none⟩) (Nat.le_refl _) _⟩
  by_cases hq : inZ 0 8589934592 n = true
  · have hr : decB n = insB (decOp n) (decA n) (decBb n) (decC n) := by rw [decB, hq, Bool.true_and]
    have hA : bits BinOp.and IntKind.i64 (n / 33554432) 7 = decA n := band7 _
    have hBb : bits BinOp.and IntKind.i64 (n / 4194304) 7 = decBb n := band7 _
    have hC : bits BinOp.and IntKind.i64 n 4194303 = decC n := band22 _
    have hO : n / 268435456 = decOp n := rfl
    have HE : Hid (decE n = if insB (decOp n) (decA n) (decBb n) (decC n) = true then ⟨decOp n, decA n, decBb n, decC n⟩ else ⟨0, 0, 0, 0⟩) := by
      show _ = _
      rw [decE, hr]
    rw [hr]
    clear hr
    obtain ⟨y, ey⟩ : ∃ y, decE n = y := ⟨_, rfl⟩
    rw [ey] at HE ⊢
    clear ey
    generalize decOp n = p0 at *
    generalize decA n = p1 at *
    generalize decBb n = p2 at *
    generalize decC n = p3 at *
    have CO := fun z => hide (specInsOk_any p0 p1 p2 p3 z)
    obtain ⟨W1, hW⟩ : ∃ W1, (w.alloc (.cells #[.int .i64 0, .int .i64 0, .int .i64 0, .int .i64 0] 34)).alloc (.cells #[.int .i64 p0, .int .i64 p1, .int .i64 p2, .int .i64 p3] 34) = W1 := ⟨_, rfl⟩
    have B1 : Hid (Below w.heap.size w W1) := by rw [← hW]; show Below w.heap.size w _; go_grown
    have BR1 : Hid (Box W1 w.heap.size #[.int .i64 0, .int .i64 0, .int .i64 0, .int .i64 0] 34) := by rw [← hW]; exact hide ((Box.made w _ _).stays ((Below.refl _ _).alloc (Nat.le_refl _) _))
    have BX1 : Hid (Box W1 (w.heap.size + 1) #[.int .i64 p0, .int .i64 p1, .int .i64 p2, .int .i64 p3] 34) := by rw [← hW]; exact hide (Box.madeAt (by simp) _ _)
    have HW := hide hW
    clear hW
    cases hi : insB p0 p1 p2 p3 with
    | true =>
      simp only [hi] at CO
      obtain rfl : y = ⟨p0, p1, p2, p3⟩ := by rw [HE.out, if_pos hi]
      clear HE hi
      go_enter Try.func11, Try.ntmps11
      go_wp2_with (go_at_call 34; refine (unhide (CI _ _ _ _)).mono ?_; rintro e z ⟨rfl, rfl⟩)
      rw [HW.out]
      refine (unhide (CO _)).mono ?_
      rintro e z ⟨rfl, hz⟩
      have hb2 : Below W1.heap.size W1 z := by (rw [hz]; exact (Below.refl _ _).alloc (Nat.le_refl _) _)
      have B2 := hide (B1.out.trans (hb2.mono B1.out.size))
      have BR2 := hide (BR1.out.stays hb2)
      have BX2 := hide (BX1.out.stays hb2)
      clear hz hb2
      have q0 := Lib.cell_of_heap BX2.out 0
      have q1 := Lib.cell_of_heap BX2.out 1
      have q2 := Lib.cell_of_heap BX2.out 2
      have q3 := Lib.cell_of_heap BX2.out 3
      have r0 := Lib.cell_of_heap BR2.out 0
      have r1 := Lib.cell_of_heap BR2.out 1
      have r2 := Lib.cell_of_heap BR2.out 2
      have r3 := Lib.cell_of_heap BR2.out 3
      have f0 := Lib.frozen_of_heap BR2.out 0
      have f1 := Lib.frozen_of_heap BR2.out 1
      have f2 := Lib.frozen_of_heap BR2.out 2
      have f3 := Lib.frozen_of_heap BR2.out 3
      simp at q0 q1 q2 q3 r0 r1 r2 r3
      have S9 := hide (SET.out z (.int .i64 p0) (.int .i64 p1) (.int .i64 p2) (.int .i64 p3) B2.out BR2.out)
      go_wp2
      refine box_retV (g := w.heap.size) (t := 34) (cs := #[.int .i64 p0, .int .i64 p1, .int .i64 p2, .int .i64 p3]) rfl rfl ?_ _ Try.underlying34 rfl (by kernel_rfl) rfl ?_
      · exact S9.out.1
      · exact ⟨rfl, S9.out.2⟩
    | false =>
      simp only [hi] at CO
      obtain rfl : y = ⟨0, 0, 0, 0⟩ := by rw [HE.out, if_neg (by rw [hi]; simp)]
      clear HE hi
      go_enter Try.func11, Try.ntmps11
      go_wp2_with (go_at_call 34; refine (unhide (CI _ _ _ _)).mono ?_; rintro e z ⟨rfl, rfl⟩)
      rw [HW.out]
      refine (unhide (CO _)).mono ?_
      rintro e z ⟨rfl, hz⟩
      have hb2 : Below W1.heap.size W1 z := by (rw [hz]; exact (Below.refl _ _).alloc (Nat.le_refl _) _)
      have B2 := hide (B1.out.trans (hb2.mono B1.out.size))
      have BR2 := hide (BR1.out.stays hb2)
      clear hz hb2
      have r0 := Lib.cell_of_heap BR2.out 0
      have r1 := Lib.cell_of_heap BR2.out 1
      have r2 := Lib.cell_of_heap BR2.out 2
      have r3 := Lib.cell_of_heap BR2.out 3
      have f0 := Lib.frozen_of_heap BR2.out 0
      have f1 := Lib.frozen_of_heap BR2.out 1
      have f2 := Lib.frozen_of_heap BR2.out 2
      have f3 := Lib.frozen_of_heap BR2.out 3
      simp at r0 r1 r2 r3
      have S9 := hide (SET.out z (.int .i64 0) (.int .i64 0) (.int .i64 0) (.int .i64 0) B2.out BR2.out)
      go_wp2
      refine box_retV (g := w.heap.size) (t := 34) (cs := #[.int .i64 0, .int .i64 0, .int .i64 0, .int .i64 0]) rfl rfl ?_ _ Try.underlying34 rfl (by kernel_rfl) rfl ?_
      · exact S9.out.1
      · exact ⟨rfl, S9.out.2⟩
  · replace hq : inZ 0 8589934592 n = false := by simpa using hq
    have hr : decB n = false := by rw [decB, hq]; rfl
    have he : decE n = ⟨0, 0, 0, 0⟩ := by rw [decE, if_neg (by rw [hr]; simp)]
    rw [hr, he]
    clear hr he
    go_enter Try.func11, Try.ntmps11
    go_wp2_with (go_at_call 34; refine (unhide (CI _ _ _ _)).mono ?_; rintro e z ⟨rfl, rfl⟩)
    refine box_retV (g := w.heap.size) (t := 34) (cs := #[.int .i64 0, .int .i64 0, .int .i64 0, .int .i64 0]) rfl rfl ?_ _ Try.underlying34 rfl (by kernel_rfl) rfl ?_
    · exact Box.made w _ _
    · exact ⟨rfl, HB1.out _⟩
end Go.Proofs.Ytmchgmpdhfefjaa

namespace Go.Proofs.Ytmchgmpdhfefjaa
open Go.RowKit

/-- A row of texts that can be read. -/
def StrsAt (w : World) (v : Value) (xs : List ByteArray) : Prop :=
  ∃ ao c, v = .slice ao xs.length c ∧ ∀ j (h : j < xs.length), ∃ a, ao = some a ∧ a.block < w.heap.size ∧ w.cell? (a.add j) = some (.string xs[j])
theorem StrsAt.stays {w w' : World} {v : Value} {xs : List ByteArray} (h : StrsAt w v xs) (hb : Below w.heap.size w w') : StrsAt w' v xs := by
  obtain ⟨ao, c, rfl, hc⟩ := h
  refine ⟨ao, c, rfl, fun j hj => ?_⟩
  obtain ⟨a, rfl, ha, hx⟩ := hc j hj
  exact ⟨a, rfl, Nat.lt_of_lt_of_le ha hb.size, (hb.cell (by rw [block_add]; exact ha)).trans hx⟩

/-- An entry. -/
structure En where
  name : ByteArray
  param : ByteArray
  body : Int
instance : Inhabited En := ⟨⟨ByteArray.empty, ByteArray.empty, 0⟩⟩
structure EnCell (w : World) (a : Addr) (x : En) : Prop where
  c0 : w.cell? a = some (.string x.name)
  c1 : w.cell? { block := a.block, off := a.off + 1 } = some (.string x.param)
  c2 : w.cell? { block := a.block, off := a.off + 2 } = some (.int .i64 x.body)
theorem EnCell.stays {w w' : World} {a : Addr} {x : En} (h : EnCell w a x) (hb : Below w.heap.size w w') (ha : a.block < w.heap.size) : EnCell w' a x :=
  ⟨(hb.cell ha).trans h.c0, (hb.cell (p := { block := a.block, off := a.off + 1 }) ha).trans h.c1, (hb.cell (p := { block := a.block, off := a.off + 2 }) ha).trans h.c2⟩
def EnsAt (w : World) (v : Value) (xs : List En) : Prop :=
  ∃ ao c, v = .slice ao xs.length c ∧ ∀ j (h : j < xs.length), ∃ a, ao = some a ∧ a.block < w.heap.size ∧ EnCell w (a.add (j * 3)) xs[j]
theorem EnsAt.stays {w w' : World} {v : Value} {xs : List En} (h : EnsAt w v xs) (hb : Below w.heap.size w w') : EnsAt w' v xs := by
  obtain ⟨ao, c, rfl, hc⟩ := h
  refine ⟨ao, c, rfl, fun j hj => ?_⟩
  obtain ⟨a, rfl, ha, hx⟩ := hc j hj
  exact ⟨a, rfl, Nat.lt_of_lt_of_le ha hb.size, hx.stays hb (by rw [block_add]; exact ha)⟩

/-- A monitor. -/
structure Mo where
  name : ByteArray
  vars : List ByteArray
  queues : List ByteArray
  ents : List En
instance : Inhabited Mo := ⟨⟨ByteArray.empty, [], [], []⟩⟩
structure MoCell (w : World) (a : Addr) (x : Mo) (vv qv ev : Value) : Prop where
  c0 : w.cell? a = some (.string x.name)
  c1 : w.cell? { block := a.block, off := a.off + 1 } = some vv
  c2 : w.cell? { block := a.block, off := a.off + 2 } = some qv
  c3 : w.cell? { block := a.block, off := a.off + 3 } = some ev
  vars : StrsAt w vv x.vars
  queues : StrsAt w qv x.queues
  ents : EnsAt w ev x.ents
theorem MoCell.stays {w w' : World} {a : Addr} {x : Mo} {vv qv ev : Value} (h : MoCell w a x vv qv ev) (hb : Below w.heap.size w w') (ha : a.block < w.heap.size) : MoCell w' a x vv qv ev :=
  ⟨(hb.cell ha).trans h.c0, (hb.cell (p := { block := a.block, off := a.off + 1 }) ha).trans h.c1, (hb.cell (p := { block := a.block, off := a.off + 2 }) ha).trans h.c2,
    (hb.cell (p := { block := a.block, off := a.off + 3 }) ha).trans h.c3, h.vars.stays hb, h.queues.stays hb, h.ents.stays hb⟩
def MosAt (w : World) (v : Value) (xs : List Mo) : Prop :=
  ∃ ao c, v = .slice ao xs.length c ∧ ∀ j (h : j < xs.length), ∃ a vv qv ev, ao = some a ∧ a.block < w.heap.size ∧ MoCell w (a.add (j * 4)) xs[j] vv qv ev
theorem MosAt.stays {w w' : World} {v : Value} {xs : List Mo} (h : MosAt w v xs) (hb : Below w.heap.size w w') : MosAt w' v xs := by
  obtain ⟨ao, c, rfl, hc⟩ := h
  refine ⟨ao, c, rfl, fun j hj => ?_⟩
  obtain ⟨a, vv, qv, ev, rfl, ha, hx⟩ := hc j hj
  exact ⟨a, vv, qv, ev, rfl, Nat.lt_of_lt_of_le ha hb.size, hx.stays hb (by rw [block_add]; exact ha)⟩

/-- A process. -/
structure Pr where
  name : ByteArray
  uses : List ByteArray
  vars : List ByteArray
  body : Int
instance : Inhabited Pr := ⟨⟨ByteArray.empty, [], [], 0⟩⟩
structure PrCell (w : World) (a : Addr) (x : Pr) (uv vv : Value) : Prop where
  c0 : w.cell? a = some (.string x.name)
  c1 : w.cell? { block := a.block, off := a.off + 1 } = some uv
  c2 : w.cell? { block := a.block, off := a.off + 2 } = some vv
  c3 : w.cell? { block := a.block, off := a.off + 3 } = some (.int .i64 x.body)
  uses : StrsAt w uv x.uses
  vars : StrsAt w vv x.vars
theorem PrCell.stays {w w' : World} {a : Addr} {x : Pr} {uv vv : Value} (h : PrCell w a x uv vv) (hb : Below w.heap.size w w') (ha : a.block < w.heap.size) : PrCell w' a x uv vv :=
  ⟨(hb.cell ha).trans h.c0, (hb.cell (p := { block := a.block, off := a.off + 1 }) ha).trans h.c1, (hb.cell (p := { block := a.block, off := a.off + 2 }) ha).trans h.c2,
    (hb.cell (p := { block := a.block, off := a.off + 3 }) ha).trans h.c3, h.uses.stays hb, h.vars.stays hb⟩
def PrsAt (w : World) (v : Value) (xs : List Pr) : Prop :=
  ∃ ao c, v = .slice ao xs.length c ∧ ∀ j (h : j < xs.length), ∃ a uv vv, ao = some a ∧ a.block < w.heap.size ∧ PrCell w (a.add (j * 4)) xs[j] uv vv
theorem PrsAt.stays {w w' : World} {v : Value} {xs : List Pr} (h : PrsAt w v xs) (hb : Below w.heap.size w w') : PrsAt w' v xs := by
  obtain ⟨ao, c, rfl, hc⟩ := h
  refine ⟨ao, c, rfl, fun j hj => ?_⟩
  obtain ⟨a, uv, vv, rfl, ha, hx⟩ := hc j hj
  exact ⟨a, uv, vv, rfl, Nat.lt_of_lt_of_le ha hb.size, hx.stays hb (by rw [block_add]; exact ha)⟩

/-- All bodies, in order: entries of monitors, then processes. -/
def bodiesL (ms : List Mo) (ps : List Pr) : List Int := (ms.flatMap fun m => m.ents.map En.body) ++ ps.map Pr.body
end Go.Proofs.Ytmchgmpdhfefjaa
