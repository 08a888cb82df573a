/-
  Bare rows of texts and of numbers, in the form that the laws' walks by program ask for.
-/
import Derived.Test.YtoageggcbpjlmaaLawE
import Derived.Test.YtoageggcbpjlmaaAidD
import Derived.Test.YtoageggcbpjlmaaFlG
namespace Go.Proofs.Ytoageggcbpjlmaa
open Go.RowKit

theorem strs_form {base : Nat} {w : World} {v : Value} {xs : List ByteArray} (h : StrsIn base w v xs) : ∃ o n c, v = .slice o n c := by
  obtain ⟨o, c, rfl, _⟩ := h.at
  exact ⟨_, _, _, rfl⟩
theorem ints_form {base : Nat} {w : World} {v : Value} {xs : List Int} (h : IntsIn base w v xs) : ∃ o n c, v = .slice o n c := by
  obtain ⟨o, c, rfl, _⟩ := h.at
  exact ⟨_, _, _, rfl⟩
/-- A row of texts. -/
structure Rw where
  row : List ByteArray
structure RwAt (w : World) (v0 : Value) (x : Rw) : Prop where
  a0 : StrsAt w v0 x.row
theorem RwAt.stays {w w' : World} {v0 : Value} {x : Rw} (h : RwAt w v0 x) (hb : Below w.heap.size w w') : RwAt w' v0 x := ⟨h.a0.stays hb⟩
structure RwC (base : Nat) (w : World) (cs : List Value) (x : Rw) : Prop where
  c : ∃ v0, cs = [v0] ∧ StrsIn base w v0 x.row
theorem RwC.stays {base : Nat} {w w' : World} {cs : List Value} {x : Rw} (h : RwC base w cs x) (hb : Below w.heap.size w w') : RwC base w' cs x := by
  obtain ⟨v0, e, h0⟩ := h.c
  exact ⟨v0, e, h0.kept (KeptFrom.below hb)⟩
theorem RwC.at {base : Nat} {w : World} {v0 : Value} {x : Rw} (h : RwC base w [v0] x) : RwAt w v0 x := by
  obtain ⟨v0', e, h0⟩ := h.c
  injection e with e0 _
  subst e0
  exact ⟨h0.at⟩
structure RwMax (x : Rw) : Prop where
  m0 : StrsMax x.row
structure RwLen (x : Rw) : Prop where
  l0 : x.row.length ≤ 1048576
def szRw (x : Rw) : Nat := szStrs x.row
theorem szRw_len {x : Rw} (h : szRw x ≤ 1048576) : RwLen x := by
  unfold szRw szStrs at h
  exact ⟨by omega⟩
structure RwSh (B T : Nat) (w : World) (v0 : Value) (x : Rw) : Prop where
  s0 : ShR B T 1 fStr x.row.length w v0
theorem RwSh.turn {B T B' T' : Nat} {w w' : World} {v0 : Value} {x : Rw} (h : RwSh B T w v0 x) (ht : Turn B' T' w w') : RwSh B T w' v0 x := ⟨h.s0.turn ht fun i _ => fStr_s i⟩
theorem RwSh.stays {B T : Nat} {w w' : World} {v0 : Value} {x : Rw} (h : RwSh B T w v0 x) (hb : Below w.heap.size w w') : RwSh B T w' v0 x := h.turn (T' := 0) (Turn.below hb (Nat.le_refl _))
theorem RwC.sh {base T : Nat} {w : World} {v0 : Value} {x : Rw} (h : RwC base w [v0] x) (hT : w.heap.size ≤ T) : RwSh base T w v0 x := by
  obtain ⟨v0', e, h0⟩ := h.c
  injection e with e0 _
  subst e0
  exact ⟨CellsIn.shT h0 hT⟩
/-- A row of numbers. -/
structure Ri where
  row : List Int
structure RiAt (w : World) (v0 : Value) (x : Ri) : Prop where
  a0 : IntsAt w v0 x.row
theorem RiAt.stays {w w' : World} {v0 : Value} {x : Ri} (h : RiAt w v0 x) (hb : Below w.heap.size w w') : RiAt w' v0 x := ⟨h.a0.stays hb⟩
structure RiC (base : Nat) (w : World) (cs : List Value) (x : Ri) : Prop where
  c : ∃ v0, cs = [v0] ∧ IntsIn base w v0 x.row
theorem RiC.stays {base : Nat} {w w' : World} {cs : List Value} {x : Ri} (h : RiC base w cs x) (hb : Below w.heap.size w w') : RiC base w' cs x := by
  obtain ⟨v0, e, h0⟩ := h.c
  exact ⟨v0, e, h0.kept (KeptFrom.below hb)⟩
theorem RiC.at {base : Nat} {w : World} {v0 : Value} {x : Ri} (h : RiC base w [v0] x) : RiAt w v0 x := by
  obtain ⟨v0', e, h0⟩ := h.c
  injection e with e0 _
  subst e0
  exact ⟨h0.at⟩
structure RiMax (x : Ri) : Prop where
  m0 : IntsMax x.row
structure RiLen (x : Ri) : Prop where
  l0 : x.row.length ≤ 1048576
def szRi (x : Ri) : Nat := x.row.length
theorem szRi_len {x : Ri} (h : szRi x ≤ 1048576) : RiLen x := ⟨h⟩
theorem szIntSR_any (x : Ri) (v0 : Value) (l : Int) (w : World) (h0 : 0 ≤ l) (h1 : l ≤ 1048576) (k0 : IntsAt w v0 x.row) (hm : RiMax x) :
    Calls Try.prog 25 #[v0, .int .i64 l] w fun e w' => ∃ r : Int, e = .returned (.int .i64 r) ∧ (r < 0 ∨ (0 ≤ r ∧ r + (szRi x : Nat) = l)) ∧ Below w.heap.size w w' := szIntS_any v0 x.row l w h0 h1 k0 hm.m0
theorem toIntSR_any (x : Ri) (v0 : Value) (w : World) (h0 : IntsAt w v0 x.row) (l0 : x.row.length ≤ 1048576) :
    Calls Try.prog 17 #[v0] w fun e w' => ∃ o0 n0 c0, e = .returned (.slice o0 n0 c0) ∧ RiC w.heap.size w' [.slice o0 n0 c0] x ∧ Below w.heap.size w w' := by
  refine (toIntS_any v0 x.row w h0 l0).mono ?_
  rintro e w' ⟨v', rfl, hc, hb⟩
  obtain ⟨o, n, c, rfl⟩ := ints_form hc
  exact ⟨o, n, c, rfl, ⟨_, rfl, hc⟩, hb⟩
theorem eqIntSR_same (x : Ri) (p0 q0 : Value) (w : World) (h0 : IntsAt w p0 x.row) (k0 : IntsAt w q0 x.row) (l0 : x.row.length ≤ 1048576) :
    Calls Try.prog 19 #[p0, q0] w fun e w' => e = .returned (.bool true) ∧ Below w.heap.size w w' := eqIntS_same p0 q0 x.row w h0 k0 l0
structure RiSh (B T : Nat) (w : World) (v0 : Value) (x : Ri) : Prop where
  s0 : ShR B T 1 fInt x.row.length w v0
theorem RiSh.turn {B T B' T' : Nat} {w w' : World} {v0 : Value} {x : Ri} (h : RiSh B T w v0 x) (ht : Turn B' T' w w') : RiSh B T w' v0 x := ⟨h.s0.turn ht fun i _ => fInt_s i⟩
theorem RiSh.stays {B T : Nat} {w w' : World} {v0 : Value} {x : Ri} (h : RiSh B T w v0 x) (hb : Below w.heap.size w w') : RiSh B T w' v0 x := h.turn (T' := 0) (Turn.below hb (Nat.le_refl _))
theorem RiC.sh {base T : Nat} {w : World} {v0 : Value} {x : Ri} (h : RiC base w [v0] x) (hT : w.heap.size ≤ T) : RiSh base T w v0 x := by
  obtain ⟨v0', e, h0⟩ := h.c
  injection e with e0 _
  subst e0
  exact ⟨CellsIn.shI h0 hT⟩
theorem turnIntSR_any {B T n0 : Nat} (v0 : Value) (k0 : Int) (w : World) (h0 : ShR B T 1 fInt n0 w v0) (l0 : n0 ≤ 1048576) (hB : B ≤ w.heap.size) (_hT : T ≤ w.heap.size) (hk0 : 0 < k0) (hk1 : k0 ≤ 10000000000000000) :
    Calls Try.prog 20 #[v0, .int .i64 k0] w fun e w' => ∃ k, e = .returned (.int .i64 k) ∧ k0 ≤ k ∧ k ≤ k0 + 2097152 ∧ Turn B T w w' := by
  refine (turnI_any v0 k0 w h0 l0 hB hk0 (by omega)).mono ?_
  rintro e w' ⟨k, rfl, h1, h2, h3⟩
  exact ⟨k, rfl, h1, by omega, h3⟩
end Go.Proofs.Ytoageggcbpjlmaa

namespace Go.Proofs.Ytoageggcbpjlmaa
open Go.RowKit

structure RiOwn (B : Nat) (w : World) (v0 : Value) (x : Ri) : Prop where
  o0 : w.ownsRow B 3 1 v0 x.row.length (x.row.map I64)
theorem RiOwn.stays {B : Nat} {w w' : World} {v0 : Value} {x : Ri} (h : RiOwn B w v0 x) (hb : Below w.heap.size w w') : RiOwn B w' v0 x := ⟨ownsInts_stays h.o0 hb⟩
theorem RiOwn.at {B : Nat} {w : World} {v0 : Value} {x : Ri} (h : RiOwn B w v0 x) : RiAt w v0 x := ⟨IntsIn.at (CellsIn.own h.o0)⟩
theorem RiOwn.lo {B b : Nat} {w : World} {v0 : Value} {x : Ri} (h : RiOwn B w v0 x) (hb : b ≤ B) : RiOwn b w v0 x := ⟨owns_lo h.o0 hb⟩
theorem RiOwn.turn {B T b : Nat} {w w' : World} {v0 : Value} {x : Ri} (h : RiOwn b w v0 x) (ht : Turn B T w w') (hb : T ≤ b) : RiOwn b w' v0 x :=
  ⟨owns_eq h.o0 (fun i hi => ht.out i (Nat.le_trans hb (h.o0.lt i hi).1) (h.o0.lt i hi).2)⟩
theorem RiOwn.low {B b : Nat} {w w' : World} {v0 : Value} {x : Ri} (h : RiOwn b w v0 x) (ht : Below B w w') (hb : ∀ i, v0.ownBlock = some i → i < B) : RiOwn b w' v0 x :=
  ⟨owns_eq h.o0 (fun i hi => ht.block i (hb i hi))⟩
theorem RiOwn.lt {b : Nat} {w : World} {v0 : Value} {x : Ri} (h : RiOwn b w v0 x) : ∀ i, v0.ownBlock = some i → i < w.heap.size := fun i hi => (h.o0.lt i hi).2
structure RiHeld (B : Nat) (w : World) (v0 : Value) (n0 : Nat) : Prop where
  o0 : w.ownsRow B 3 1 v0 n0 ((nMarks (1) n0).map I64)
theorem RiHeld.stays {B : Nat} {w w' : World} {v0 : Value} {n0 : Nat} (h : RiHeld B w v0 n0) (hb : Below w.heap.size w w') : RiHeld B w' v0 n0 := ⟨ownsInts_stays h.o0 hb⟩
theorem markIntSR_any {B : Nat} (v0 : Value) (x : Ri) (w : World) (h : RiOwn B w v0 x) (n0 : Nat) (en0 : x.row.length = n0) (L0 : n0 ≤ 1048576) :
    Calls Try.prog 20 #[v0, .int .i64 1] w fun e w' => e = .returned (.int .i64 ((1 + n0 : Nat) : Int)) ∧ RiHeld B w' v0 n0 ∧ Below B w w' ∧ (∀ c, c < w.heap.size → v0.ownBlock ≠ some c → w'.heap[c]? = w.heap[c]?) := by
  have ho := h.o0
  rw [en0] at ho
  refine (markInts_any v0 n0 B 1 x.row w L0 (by omega) ho).mono ?_
  rintro e z ⟨rfl, h1, h2, h3⟩
  exact ⟨rfl, ⟨h1⟩, h2, fun c _ hc => h3 c hc⟩
theorem heldIntSR_any {B : Nat} (v0 : Value) (w : World) (n0 : Nat) (h : RiHeld B w v0 n0) (L0 : n0 ≤ 1048576) :
    Calls Try.prog 21 #[v0, .int .i64 1] w fun e w' => e = .returned (.int .i64 ((1 + n0 : Nat) : Int)) ∧ Below w.heap.size w w' := by
  refine (heldInts_any v0 n0 B 1 w L0 (by omega) h.o0).mono ?_
  rintro e z ⟨rfl, h2⟩
  exact ⟨rfl, h2⟩
/-- The same, the marks going on from a number. -/
structure RiHeldK (B k0 : Nat) (w : World) (v0 : Value) (n0 : Nat) : Prop where
  o0 : w.ownsRow B 3 1 v0 n0 ((nMarks k0 n0).map I64)
theorem RiHeldK.stays {B k0 : Nat} {w w' : World} {v0 : Value} {n0 : Nat} (h : RiHeldK B k0 w v0 n0) (hb : Below w.heap.size w w') : RiHeldK B k0 w' v0 n0 := ⟨ownsInts_stays h.o0 hb⟩
theorem markIntK_any {B : Nat} (k0 : Nat) (hk : k0 ≤ 1000000000) (v0 : Value) (x : Ri) (w : World) (h : RiOwn B w v0 x) (n0 : Nat) (en0 : x.row.length = n0) (L0 : n0 ≤ 1048576) :
    Calls Try.prog 20 #[v0, .int .i64 (k0 : Int)] w fun e w' => e = .returned (.int .i64 ((k0 + n0 : Nat) : Int)) ∧ RiHeldK B k0 w' v0 n0 ∧ Below B w w' ∧ (∀ c, v0.ownBlock ≠ some c → w'.heap[c]? = w.heap[c]?) := by
  have ho := h.o0
  rw [en0] at ho
  refine (markInts_any v0 n0 B k0 x.row w L0 hk ho).mono ?_
  rintro e z ⟨rfl, h1, h2, h3⟩
  exact ⟨rfl, ⟨h1⟩, h2, h3⟩
theorem heldIntK_any {B : Nat} (k0 : Nat) (hk : k0 ≤ 1000000000) (v0 : Value) (w : World) (n0 : Nat) (h : RiHeldK B k0 w v0 n0) (L0 : n0 ≤ 1048576) :
    Calls Try.prog 21 #[v0, .int .i64 (k0 : Int)] w fun e w' => e = .returned (.int .i64 ((k0 + n0 : Nat) : Int)) ∧ Below w.heap.size w w' := by
  refine (heldInts_any v0 n0 B k0 w L0 hk h.o0).mono ?_
  rintro e z ⟨rfl, h2⟩
  exact ⟨rfl, h2⟩
end Go.Proofs.Ytoageggcbpjlmaa
