/-
  A program in the form that the laws' walks by program ask for.
-/
import Derived.Test.YtkoelibclihekaaLawI
import Derived.Test.YtkoelibclihekaaTurnW
import Derived.Test.YtkoelibclihekaaFlR
import Derived.Test.YtkoelibclihekaaFlG
namespace Go.Proofs.Ytkoelibclihekaa
open Go.RowKit

theorem PgAt.a0 {w : World} {nv mv pv : Value} {x : Pg} (h : PgAt w nv mv pv x) : NdsAt w nv x.nodes := h.nodes
theorem PgAt.a1 {w : World} {nv mv pv : Value} {x : Pg} (h : PgAt w nv mv pv x) : MosAt w mv x.mons := h.mons
theorem PgAt.a2 {w : World} {nv mv pv : Value} {x : Pg} (h : PgAt w nv mv pv x) : PrsAt w pv x.pros := h.pros
theorem PgLen.l0 {x : Pg} (h : PgLen x) : x.nodes.length ≤ 1048576 := h.nl
theorem PgLen.l1 {x : Pg} (h : PgLen x) : x.mons.length ≤ 1048576 := h.ml
theorem PgLen.l2 {x : Pg} (h : PgLen x) : x.pros.length ≤ 1048576 := h.pl
/-- A copy that toProgram makes. -/
structure PgC (base : Nat) (w : World) (cs : List Value) (x : Pg) : Prop where
  c : ProgC base w cs x
theorem PgC.stays {base : Nat} {w w' : World} {cs : List Value} {x : Pg} (h : PgC base w cs x) (hb : Below w.heap.size w w') : PgC base w' cs x := by
  obtain ⟨nv, mv, pv, e, h1, h2, h3⟩ := h.c
  exact ⟨nv, mv, pv, e, h1.kept (KeptFrom.below hb), h2.kept (KeptFrom.below hb), h3.kept (KeptFrom.below hb)⟩
theorem PgC.at {base : Nat} {w : World} {a b c : Value} {x : Pg} (h : PgC base w [a, b, c] x) : PgAt w a b c x := h.c.at.1
theorem toProgramC_any (x : Pg) (nv mv pv : Value) (w : World) (h0 : NdsAt w nv x.nodes) (h1 : MosAt w mv x.mons) (h2 : PrsAt w pv x.pros) (hL : PgLen x) :
    Calls Try.prog 22 #[.agg #[nv, mv, pv]] w fun e w' => ∃ o0 n0 c0 o1 n1 c1 o2 n2 c2, e = .returned (.agg #[.slice o0 n0 c0, .slice o1 n1 c1, .slice o2 n2 c2]) ∧ PgC w.heap.size w' [.slice o0 n0 c0, .slice o1 n1 c1, .slice o2 n2 c2] x ∧ Below w.heap.size w w' := by
  refine (toProgram_any x nv mv pv w h0 h1 h2 hL).mono ?_
  rintro e w' ⟨o0, n0, c0, o1, n1, c1, o2, n2, c2, rfl, hc, hb⟩
  exact ⟨o0, n0, c0, o1, n1, c1, o2, n2, c2, rfl, ⟨hc⟩, hb⟩
/-- Its shape. -/
structure PgSh (B T : Nat) (w : World) (v0 v1 v2 : Value) (x : Pg) : Prop where
  s0 : ShR B T 6 (fNod B T) x.nodes.length w v0
  s1 : ShR B T 4 (fMon B T) x.mons.length w v1
  s2 : ShR B T 4 (fPro B T) x.pros.length w v2
theorem PgSh.turn {B T B' T' : Nat} {w w' : World} {v0 v1 v2 : Value} {x : Pg} (h : PgSh B T w v0 v1 v2 x) (ht : Turn B' T' w w') : PgSh B T w' v0 v1 v2 x := ⟨h.s0.turn ht fun i _ => fNod_s B T i, h.s1.turn ht fun i _ => fMon_s B T i, h.s2.turn ht fun i _ => fPro_s B T i⟩
theorem PgSh.stays {B T : Nat} {w w' : World} {v0 v1 v2 : Value} {x : Pg} (h : PgSh B T w v0 v1 v2 x) (hb : Below w.heap.size w w') : PgSh B T w' v0 v1 v2 x := h.turn (T' := 0) (Turn.below hb (Nat.le_refl _))
theorem PgC.sh {base T : Nat} {w : World} {v0 v1 v2 : Value} {x : Pg} (h : PgC base w [v0, v1, v2] x) (hT : w.heap.size ≤ T) (hL : PgLen x) : PgSh base T w v0 v1 v2 x := by
  obtain ⟨nv, mv, pv, e, h1, h2, h3⟩ := h.c
  injection e with e0 e
  injection e with e1 e
  injection e with e2 _
  subst e0 e1 e2
  exact ⟨h1.sh hT hL.kids, h2.sh hT hL.mon, h3.sh hT hL.pro⟩
end Go.Proofs.Ytkoelibclihekaa

namespace Go.Proofs.Ytkoelibclihekaa
open Go.RowKit

structure RiOwn (B : Nat) (w : World) (v0 : Value) (x : Ri) : Prop where
  o0 : w.ownsRow B 3 1 v0 x.row.length (x.row.map I64)
theorem RiOwn.stays {B : Nat} {w w' : World} {v0 : Value} {x : Ri} (h : RiOwn B w v0 x) (hb : Below w.heap.size w w') : RiOwn B w' v0 x := ⟨ownsInts_stays h.o0 hb⟩
theorem RiOwn.at {B : Nat} {w : World} {v0 : Value} {x : Ri} (h : RiOwn B w v0 x) : RiAt w v0 x := ⟨IntsIn.at (CellsIn.own h.o0)⟩
theorem RiOwn.lo {B b : Nat} {w : World} {v0 : Value} {x : Ri} (h : RiOwn B w v0 x) (hb : b ≤ B) : RiOwn b w v0 x := ⟨owns_lo h.o0 hb⟩
theorem RiOwn.turn {B T b : Nat} {w w' : World} {v0 : Value} {x : Ri} (h : RiOwn b w v0 x) (ht : Turn B T w w') (hb : T ≤ b) : RiOwn b w' v0 x :=
  ⟨owns_eq h.o0 (fun i hi => ht.out i (Nat.le_trans hb (h.o0.lt i hi).1) (h.o0.lt i hi).2)⟩
theorem RiOwn.low {B b : Nat} {w w' : World} {v0 : Value} {x : Ri} (h : RiOwn b w v0 x) (ht : Below B w w') (hb : ∀ i, v0.ownBlock = some i → i < B) : RiOwn b w' v0 x :=
  ⟨owns_eq h.o0 (fun i hi => ht.block i (hb i hi))⟩
theorem RiOwn.lt {b : Nat} {w : World} {v0 : Value} {x : Ri} (h : RiOwn b w v0 x) : ∀ i, v0.ownBlock = some i → i < w.heap.size := fun i hi => (h.o0.lt i hi).2
structure RiHeld (B : Nat) (w : World) (v0 : Value) (n0 : Nat) : Prop where
  o0 : w.ownsRow B 3 1 v0 n0 ((nMarks (1) n0).map I64)
theorem RiHeld.stays {B : Nat} {w w' : World} {v0 : Value} {n0 : Nat} (h : RiHeld B w v0 n0) (hb : Below w.heap.size w w') : RiHeld B w' v0 n0 := ⟨ownsInts_stays h.o0 hb⟩
theorem markIntSR_any {B : Nat} (v0 : Value) (x : Ri) (w : World) (h : RiOwn B w v0 x) (n0 : Nat) (en0 : x.row.length = n0) (L0 : n0 ≤ 1048576) :
    Calls Try.prog 12 #[v0, .int .i64 1] w fun e w' => e = .returned (.int .i64 ((1 + n0 : Nat) : Int)) ∧ RiHeld B w' v0 n0 ∧ Below B w w' ∧ (∀ c, c < w.heap.size → v0.ownBlock ≠ some c → w'.heap[c]? = w.heap[c]?) := by
  have ho := h.o0
  rw [en0] at ho
  refine (markInts_any v0 n0 B 1 x.row w L0 (by omega) ho).mono ?_
  rintro e z ⟨rfl, h1, h2, h3⟩
  exact ⟨rfl, ⟨h1⟩, h2, fun c _ hc => h3 c hc⟩
theorem heldIntSR_any {B : Nat} (v0 : Value) (w : World) (n0 : Nat) (h : RiHeld B w v0 n0) (L0 : n0 ≤ 1048576) :
    Calls Try.prog 13 #[v0, .int .i64 1] w fun e w' => e = .returned (.int .i64 ((1 + n0 : Nat) : Int)) ∧ Below w.heap.size w w' := by
  refine (heldInts_any v0 n0 B 1 w L0 (by omega) h.o0).mono ?_
  rintro e z ⟨rfl, h2⟩
  exact ⟨rfl, h2⟩
/-- The same, the marks going on from a number. -/
structure RiHeldK (B k0 : Nat) (w : World) (v0 : Value) (n0 : Nat) : Prop where
  o0 : w.ownsRow B 3 1 v0 n0 ((nMarks k0 n0).map I64)
theorem RiHeldK.stays {B k0 : Nat} {w w' : World} {v0 : Value} {n0 : Nat} (h : RiHeldK B k0 w v0 n0) (hb : Below w.heap.size w w') : RiHeldK B k0 w' v0 n0 := ⟨ownsInts_stays h.o0 hb⟩
theorem markIntK_any {B : Nat} (k0 : Nat) (hk : k0 ≤ 1000000000) (v0 : Value) (x : Ri) (w : World) (h : RiOwn B w v0 x) (n0 : Nat) (en0 : x.row.length = n0) (L0 : n0 ≤ 1048576) :
    Calls Try.prog 12 #[v0, .int .i64 (k0 : Int)] w fun e w' => e = .returned (.int .i64 ((k0 + n0 : Nat) : Int)) ∧ RiHeldK B k0 w' v0 n0 ∧ Below B w w' ∧ (∀ c, v0.ownBlock ≠ some c → w'.heap[c]? = w.heap[c]?) := by
  have ho := h.o0
  rw [en0] at ho
  refine (markInts_any v0 n0 B k0 x.row w L0 hk ho).mono ?_
  rintro e z ⟨rfl, h1, h2, h3⟩
  exact ⟨rfl, ⟨h1⟩, h2, h3⟩
theorem heldIntK_any {B : Nat} (k0 : Nat) (hk : k0 ≤ 1000000000) (v0 : Value) (w : World) (n0 : Nat) (h : RiHeldK B k0 w v0 n0) (L0 : n0 ≤ 1048576) :
    Calls Try.prog 13 #[v0, .int .i64 (k0 : Int)] w fun e w' => e = .returned (.int .i64 ((k0 + n0 : Nat) : Int)) ∧ Below w.heap.size w w' := by
  refine (heldInts_any v0 n0 B k0 w L0 hk h.o0).mono ?_
  rintro e z ⟨rfl, h2⟩
  exact ⟨rfl, h2⟩
end Go.Proofs.Ytkoelibclihekaa
