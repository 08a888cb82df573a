/-
  Rows of numbers that are answered, in the form that the laws' walks by program ask for.
-/
import Derived.Test.YtlfhoeogjipakaaFlR
import Derived.Test.YtlfhoeogjipakaaFlG
namespace Go.Proofs.Ytlfhoeogjipakaa
open Go.RowKit

structure RiOwn (B : Nat) (w : World) (v0 : Value) (x : Ri) : Prop where
  o0 : w.ownsRow B 3 1 v0 x.row.length (x.row.map I64)
theorem RiOwn.stays {B : Nat} {w w' : World} {v0 : Value} {x : Ri} (h : RiOwn B w v0 x) (hb : Below w.heap.size w w') : RiOwn B w' v0 x := ⟨ownsInts_stays h.o0 hb⟩
theorem RiOwn.at {B : Nat} {w : World} {v0 : Value} {x : Ri} (h : RiOwn B w v0 x) : RiAt w v0 x := ⟨IntsIn.at (CellsIn.own h.o0)⟩
theorem RiOwn.lo {B b : Nat} {w : World} {v0 : Value} {x : Ri} (h : RiOwn B w v0 x) (hb : b ≤ B) : RiOwn b w v0 x := ⟨owns_lo h.o0 hb⟩
theorem RiOwn.turn {B T b : Nat} {w w' : World} {v0 : Value} {x : Ri} (h : RiOwn b w v0 x) (ht : Turn B T w w') (hb : T ≤ b) : RiOwn b w' v0 x :=
  ⟨owns_eq h.o0 (fun i hi => ht.out i (Nat.le_trans hb (h.o0.lt i hi).1) (h.o0.lt i hi).2)⟩
theorem RiOwn.low {B b : Nat} {w w' : World} {v0 : Value} {x : Ri} (h : RiOwn b w v0 x) (ht : Below B w w') (hb : ∀ i, v0.ownBlock = some i → i < B) : RiOwn b w' v0 x :=
  ⟨owns_eq h.o0 (fun i hi => ht.block i (hb i hi))⟩
theorem RiOwn.lt {b : Nat} {w : World} {v0 : Value} {x : Ri} (h : RiOwn b w v0 x) : ∀ i, v0.ownBlock = some i → i < w.heap.size := fun i hi => (h.o0.lt i hi).2
structure RiHeld (B : Nat) (w : World) (v0 : Value) (n0 : Nat) : Prop where
  o0 : w.ownsRow B 3 1 v0 n0 ((nMarks (1) n0).map I64)
theorem RiHeld.stays {B : Nat} {w w' : World} {v0 : Value} {n0 : Nat} (h : RiHeld B w v0 n0) (hb : Below w.heap.size w w') : RiHeld B w' v0 n0 := ⟨ownsInts_stays h.o0 hb⟩
theorem markIntSR_any {B : Nat} (v0 : Value) (x : Ri) (w : World) (h : RiOwn B w v0 x) (n0 : Nat) (en0 : x.row.length = n0) (L0 : n0 ≤ 1048576) :
    Calls Try.prog 11 #[v0, .int .i64 1] w fun e w' => e = .returned (.int .i64 ((1 + n0 : Nat) : Int)) ∧ RiHeld B w' v0 n0 ∧ Below B w w' ∧ (∀ c, c < w.heap.size → v0.ownBlock ≠ some c → w'.heap[c]? = w.heap[c]?) := by
  have ho := h.o0
  rw [en0] at ho
  refine (markInts_any v0 n0 B 1 x.row w L0 (by omega) ho).mono ?_
  rintro e z ⟨rfl, h1, h2, h3⟩
  exact ⟨rfl, ⟨h1⟩, h2, fun c _ hc => h3 c hc⟩
theorem heldIntSR_any {B : Nat} (v0 : Value) (w : World) (n0 : Nat) (h : RiHeld B w v0 n0) (L0 : n0 ≤ 1048576) :
    Calls Try.prog 12 #[v0, .int .i64 1] w fun e w' => e = .returned (.int .i64 ((1 + n0 : Nat) : Int)) ∧ Below w.heap.size w w' := by
  refine (heldInts_any v0 n0 B 1 w L0 (by omega) h.o0).mono ?_
  rintro e z ⟨rfl, h2⟩
  exact ⟨rfl, h2⟩
/-- The same, the marks going on from a number. -/
structure RiHeldK (B k0 : Nat) (w : World) (v0 : Value) (n0 : Nat) : Prop where
  o0 : w.ownsRow B 3 1 v0 n0 ((nMarks k0 n0).map I64)
theorem RiHeldK.stays {B k0 : Nat} {w w' : World} {v0 : Value} {n0 : Nat} (h : RiHeldK B k0 w v0 n0) (hb : Below w.heap.size w w') : RiHeldK B k0 w' v0 n0 := ⟨ownsInts_stays h.o0 hb⟩
theorem markIntK_any {B : Nat} (k0 : Nat) (hk : k0 ≤ 1000000000) (v0 : Value) (x : Ri) (w : World) (h : RiOwn B w v0 x) (n0 : Nat) (en0 : x.row.length = n0) (L0 : n0 ≤ 1048576) :
    Calls Try.prog 11 #[v0, .int .i64 (k0 : Int)] w fun e w' => e = .returned (.int .i64 ((k0 + n0 : Nat) : Int)) ∧ RiHeldK B k0 w' v0 n0 ∧ Below B w w' ∧ (∀ c, v0.ownBlock ≠ some c → w'.heap[c]? = w.heap[c]?) := by
  have ho := h.o0
  rw [en0] at ho
  refine (markInts_any v0 n0 B k0 x.row w L0 hk ho).mono ?_
  rintro e z ⟨rfl, h1, h2, h3⟩
  exact ⟨rfl, ⟨h1⟩, h2, h3⟩
theorem heldIntK_any {B : Nat} (k0 : Nat) (hk : k0 ≤ 1000000000) (v0 : Value) (w : World) (n0 : Nat) (h : RiHeldK B k0 w v0 n0) (L0 : n0 ≤ 1048576) :
    Calls Try.prog 12 #[v0, .int .i64 (k0 : Int)] w fun e w' => e = .returned (.int .i64 ((k0 + n0 : Nat) : Int)) ∧ Below w.heap.size w w' := by
  refine (heldInts_any v0 n0 B k0 w L0 hk h.o0).mono ?_
  rintro e z ⟨rfl, h2⟩
  exact ⟨rfl, h2⟩
end Go.Proofs.Ytlfhoeogjipakaa
