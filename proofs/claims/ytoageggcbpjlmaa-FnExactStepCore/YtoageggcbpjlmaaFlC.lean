/-
  A flat struct (Core) by the laws' own helpers.
-/
import Derived.Test.YtoageggcbpjlmaaLawE
import Derived.Test.YtoageggcbpjlmaaAidD
import Derived.Test.YtoageggcbpjlmaaMarkI
namespace Go.Proofs.Ytoageggcbpjlmaa
open Go.RowKit

structure Co where
  regs : List Int
  pc : Int
  process : Int
structure CoAt (w : World) (v0 : Value) (x : Co) : Prop where
  a0 : IntsAt w v0 x.regs
theorem CoAt.stays {w w' : World} {v0 : Value} {x : Co} (h : CoAt w v0 x) (hb : Below w.heap.size w w') : CoAt w' v0 x := ⟨h.a0.stays hb⟩
def CoC (base : Nat) (w : World) (cs : List Value) (x : Co) : Prop := ∃ v0, cs = [v0, .int .i64 x.pc, .int .i64 x.process] ∧ IntsIn base w v0 x.regs
structure CoMax (x : Co) : Prop where
  m0 : IntsMax x.regs
structure CoLen (x : Co) : Prop where
  l0 : x.regs.length ≤ 1048576
def szCo (x : Co) : Nat := x.regs.length
theorem szCo_len {x : Co} (h : szCo x ≤ 1048576) : CoLen x := by
  unfold szCo at h
  exact ⟨by omega⟩
set_option maxRecDepth 100000 in
set_option maxHeartbeats 1000000 in
theorem szCore_any (x : Co) (v0 : Value) (l : Int) (w : World) (h0 : 0 ≤ l) (h1 : l ≤ 1048576) (k0 : IntsAt w v0 x.regs) (hm : CoMax x) :
    Calls Try.prog 12 #[.agg #[v0, .int .i64 x.pc, .int .i64 x.process], .int .i64 l] w fun e w' => ∃ r : Int, e = .returned (.int .i64 r) ∧ (r < 0 ∨ (0 ≤ r ∧ r + (szCo x : Nat) = l)) ∧ Below w.heap.size w w' := by
  have HM := hide hm
  have HU : Hid (szCo x = x.regs.length) := rfl
  have B0 := hide (Box.made w #[v0, .int .i64 x.pc, .int .i64 x.process] 29)
  have BB : Hid (Below w.heap.size w (w.alloc (.cells #[v0, .int .i64 x.pc, .int .i64 x.process] 29))) := (Below.refl _ _).alloc (Nat.le_refl _) _
  have C0 := fun l w h0 h1 k => hide (szIntS_any v0 x.regs l w h0 h1 k hm.m0)
  have K0 := hide k0
  obtain ⟨o0, c0, rfl, _⟩ := k0
  clear hm
  go_enter Try.func12, Try.ntmps12
  go_wp2_with fail
  refine (unhide (C0 (l) _ (by omega) (by omega) (K0.out.stays BB.out))).mono ?_
  rintro e z0 ⟨r0, rfl, hr0, hb0⟩
  have B1 := hide (B0.out.stays hb0)
  have BB1 := hide (BB.out.trans (hb0.mono BB.out.size))
  have p0 := Lib.cell_of_heap B1.out 0
  have p1 := Lib.cell_of_heap B1.out 1
  have p2 := Lib.cell_of_heap B1.out 2
  simp at p0 p1 p2
  clear hb0
  by_cases q0 : r0 < 0
  · clear hr0
    go_wp2
    go_ret
    exact ⟨-1, rfl, .inl (by omega), BB1.out⟩
  obtain ⟨e0, f0⟩ := hr0.resolve_left q0
  have F0 := hide f0
  have x0 : r0 ≤ 1048576 := by omega
  clear f0 hr0
  go_wp2
  go_ret
  exact ⟨r0, rfl, .inr ⟨by omega, by
    rw [HU.out]
    have q := HM.out
    have := F0.out
    omega⟩, BB1.out⟩

set_option maxRecDepth 100000 in
set_option maxHeartbeats 2000000 in
theorem toCore_any (x : Co) (v0 : Value) (w : World) (h0 : IntsAt w v0 x.regs) (l0 : x.regs.length ≤ 1048576) :
    Calls Try.prog 14 #[.agg #[v0, .int .i64 x.pc, .int .i64 x.process]] w fun e w' => ∃ o0 n0 c0, e = .returned (.agg #[.slice o0 n0 c0, .int .i64 x.pc, .int .i64 x.process]) ∧ CoC w.heap.size w' [.slice o0 n0 c0, .int .i64 x.pc, .int .i64 x.process] x ∧ Below w.heap.size w w' := by
  have C0 := fun w h => hide (toIntS_any v0 x.regs w h l0)
  have H0 := hide h0
  have T := hide (ThreeB.start w #[v0, .int .i64 x.pc, .int .i64 x.process] #[.slice none 0 0, .int .i64 0, .int .i64 0] #[.slice none 0 0, .int .i64 0, .int .i64 0] 29 24)
  obtain ⟨a0, b0, rfl, _⟩ := h0
  go_enter Try.func14, Try.ntmps14
  go_wp2_with fail
  refine (unhide (C0 _ (H0.out.stays T.out.bel))).mono ?_
  rintro e z0 ⟨v0, rfl, hv0, hb0⟩
  have S0 := hide (T.out.stays hb0)
  have V0 : Hid (IntsIn (w.heap.size + 3) z0 v0 x.regs) := hv0.mono T.out.lt
  obtain ⟨o0, n0, c0, rfl⟩ := hv0.form
  have p0 := Lib.cell_of_heap S0.out.bA 0
  have q0 := Lib.cell_of_heap S0.out.bZ 0
  have r0 := Lib.cell_of_heap S0.out.bO 0
  have s0 := Lib.frozen_of_heap S0.out.bZ 0
  have t0 := Lib.frozen_of_heap S0.out.bO 0
  have p1 := Lib.cell_of_heap S0.out.bA 1
  have q1 := Lib.cell_of_heap S0.out.bZ 1
  have r1 := Lib.cell_of_heap S0.out.bO 1
  have s1 := Lib.frozen_of_heap S0.out.bZ 1
  have t1 := Lib.frozen_of_heap S0.out.bO 1
  have p2 := Lib.cell_of_heap S0.out.bA 2
  have q2 := Lib.cell_of_heap S0.out.bZ 2
  have r2 := Lib.cell_of_heap S0.out.bO 2
  have s2 := Lib.frozen_of_heap S0.out.bZ 2
  have t2 := Lib.frozen_of_heap S0.out.bO 2
  simp at p0 q0 r0 p1 q1 r1 p2 q2 r2
  clear hb0 hv0 T C0 H0
  have T0 := hide (S0.out.put 0 (.slice o0 n0 c0))
  have V0 := hide (V0.out.kept (ThreeB.kept 0 (.slice o0 n0 c0)))
  have U1 := hide (T0.out.put 1 (.int .i64 x.pc))
  have V0 := hide (V0.out.kept (ThreeB.kept 1 (.int .i64 x.pc)))
  have U2 := hide (U1.out.put 2 (.int .i64 x.process))
  have V0 := hide (V0.out.kept (ThreeB.kept 2 (.int .i64 x.process)))
  go_wp2
  refine box_ret (g := w.heap.size + 1) (t := 24) (cs := #[.slice o0 n0 c0, .int .i64 x.pc, .int .i64 x.process]) rfl rfl ?_ _ Try.underlying24 rfl (by kernel_rfl) rfl ?_
  · simpa using (((U2.out.bZ.set 0 _).set 1 _).set 2 _)
  · refine ⟨_, _, _, rfl, ⟨_, rfl, ?_⟩, ?_⟩
    · refine CellsIn.mono (base := w.heap.size + 3) ?_ (by omega)
      iterate 3 refine CellsIn.kept ?_ (ThreeB.keptR _ _)
      exact V0.out
    · iterate 3 refine Below.setCell ?_ (by dsimp only; omega) _
      exact U2.out.bel

set_option maxRecDepth 100000 in
set_option maxHeartbeats 1000000 in
theorem eqCore_same (x : Co) (p0 q0 : Value) (w : World) (h0 : IntsAt w p0 x.regs) (k0 : IntsAt w q0 x.regs) (l0 : x.regs.length ≤ 1048576) :
    Calls Try.prog 9 #[.agg #[p0, .int .i64 x.pc, .int .i64 x.process], .agg #[q0, .int .i64 x.pc, .int .i64 x.process]] w fun e w' => e = .returned (.bool true) ∧ Below w.heap.size w w' := by
  have C0 := fun w h k => hide (eqIntS_same p0 q0 x.regs w h k l0)
  have H0 := hide h0
  have K0 := hide k0
  have T := hide (TwoB.start w #[p0, .int .i64 x.pc, .int .i64 x.process] #[q0, .int .i64 x.pc, .int .i64 x.process] 24)
  obtain ⟨ao0, ac0, rfl, _⟩ := h0
  obtain ⟨bo0, bc0, rfl, _⟩ := k0
  go_enter Try.func9, Try.ntmps9
  go_wp2_with fail
  refine (unhide (C0 _ (H0.out.stays T.out.bel) (K0.out.stays T.out.bel))).mono ?_
  rintro e z0 ⟨rfl, hb0⟩
  have T0 := hide (T.out.stays hb0)
  have r0 := Lib.cell_of_heap T0.out.bA 0
  have s0 := Lib.cell_of_heap T0.out.bB 0
  have r1 := Lib.cell_of_heap T0.out.bA 1
  have s1 := Lib.cell_of_heap T0.out.bB 1
  have r2 := Lib.cell_of_heap T0.out.bA 2
  have s2 := Lib.cell_of_heap T0.out.bB 2
  simp at r0 s0 r1 s1 r2 s2
  clear hb0
  go_wp2
  go_ret
  exact ⟨rfl, T0.out.bel⟩


set_option maxRecDepth 100000 in
set_option maxHeartbeats 4000000 in
theorem turnCore_any {B T n0 : Nat} (v0 : Value) (u1 : Value) (u2 : Value) (k0 : Int) (w : World) (h0 : ShR B T 1 fInt n0 w v0) (l0 : n0 ≤ 1048576) (hB : B ≤ w.heap.size) (hT : T ≤ w.heap.size) (hk0 : 0 < k0) (hk1 : k0 ≤ 10000000000000000) :
    Calls Try.prog 10 #[.agg #[v0, u1, u2], .int .i64 k0] w fun e w' => ∃ k, e = .returned (.int .i64 k) ∧ k0 ≤ k ∧ k ≤ k0 + 1048576 ∧ Turn B T w w' := by
  have hb1 : Below w.heap.size w (w.alloc (.cells #[v0, u1, u2] 24)) := (Below.refl _ _).alloc (Nat.le_refl _) _
  have T0 : Hid (Turn B T w (w.alloc (.cells #[v0, u1, u2] 24))) := Turn.below hb1 hB
  have B0 := hide (Box.made w #[v0, u1, u2] 24)
  have Z0 : Hid (w.heap.size < (w.alloc (.cells #[v0, u1, u2] 24)).heap.size) := B0.out.lt
  have H0_0 := hide (h0.turn T0.out fun i _ => fInt_s i)
  obtain ⟨o0, c0, rfl, _⟩ := h0
  obtain ⟨W1, hW⟩ : ∃ W1, w.alloc (.cells #[.slice o0 n0 c0, u1, u2] 24) = W1 := ⟨_, rfl⟩
  have HW := hide hW
  rw [hW] at T0 B0 Z0 H0_0
  clear hW hb1
  go_enter Try.func10, Try.ntmps10
  have q0 := Lib.cell_of_heap B0.out 0
  simp at q0
  rw [← HW.out] at q0
  go_wp2_with fail
  rw [HW.out]
  refine (turnI_any _ _ _ H0_0.out l0 (by have := Z0.out; omega) (by omega) (by omega)).mono ?_
  rintro e z1 ⟨k1, rfl, ha1, hb1, ht1⟩
  have T1 := hide (T0.out.trans ht1)
  have B1 : Hid (Box z1 w.heap.size #[.slice o0 n0 c0, u1, u2] 24) := (ht1.out _ hT Z0.out).trans B0.out
  have Z1 : Hid (w.heap.size < z1.heap.size) := B1.out.lt
  clear q0 ht1 T0 B0 Z0 H0_0
  go_wp2
  go_ret
  exact ⟨_, rfl, by omega, by omega, T1.out⟩
theorem CoC.kept {base : Nat} {w w' : World} {cs : List Value} {x : Co} (h : CoC base w cs x) (k : KeptFrom base w w') : CoC base w' cs x := by
  obtain ⟨v0, e, h0⟩ := h
  exact ⟨v0, e, h0.kept k⟩
theorem CoC.stays {base : Nat} {w w' : World} {cs : List Value} {x : Co} (h : CoC base w cs x) (hb : Below w.heap.size w w') : CoC base w' cs x := h.kept (KeptFrom.below hb)
theorem CoC.at {base : Nat} {w : World} {v0 : Value} {u1 : Value} {u2 : Value} {x : Co} (h : CoC base w [v0, u1, u2] x) : CoAt w v0 x := by
  obtain ⟨v0', e, h0⟩ := h
  injection e with e0 e
  injection e with e1 e
  injection e with e2 _
  subst e0
  exact ⟨h0.at⟩
theorem CoC.form {base : Nat} {w : World} {cs : List Value} {x : Co} (h : CoC base w cs x) : ∃ o0 c0, cs = [.slice o0 x.regs.length c0, .int .i64 x.pc, .int .i64 x.process] := by
  obtain ⟨v0, e, h0⟩ := h
  obtain ⟨o0, c0, rfl, _⟩ := h0.at
  exact ⟨_, _, e⟩
structure CoSh (B T : Nat) (w : World) (v0 : Value) (x : Co) : Prop where
  s0 : ShR B T 1 fInt x.regs.length w v0
theorem CoSh.turn {B T B' T' : Nat} {w w' : World} {v0 : Value} {x : Co} (h : CoSh B T w v0 x) (ht : Turn B' T' w w') : CoSh B T w' v0 x := ⟨h.s0.turn ht fun i _ => fInt_s i⟩
theorem CoSh.stays {B T : Nat} {w w' : World} {v0 : Value} {x : Co} (h : CoSh B T w v0 x) (hb : Below w.heap.size w w') : CoSh B T w' v0 x := h.turn (T' := 0) (Turn.below hb (Nat.le_refl _))
theorem CoC.sh {base T : Nat} {w : World} {v0 : Value} {u1 : Value} {u2 : Value} {x : Co} (h : CoC base w [v0, u1, u2] x) (hT : w.heap.size ≤ T) : CoSh base T w v0 x := by
  obtain ⟨v0', e, h0⟩ := h
  injection e with e0 e
  injection e with e1 e
  injection e with e2 _
  subst e0
  exact ⟨CellsIn.shI h0 hT⟩
/-- An answer that owns its rows, from a base on, each in a block of its own. -/
structure CoOwn (B : Nat) (w : World) (v0 : Value) (x : Co) : Prop where
  o0 : w.ownsRow B 3 1 v0 x.regs.length (x.regs.map I64)
theorem CoOwn.stays {B : Nat} {w w' : World} {v0 : Value} {x : Co} (h : CoOwn B w v0 x) (hb : Below w.heap.size w w') : CoOwn B w' v0 x := ⟨ownsInts_stays h.o0 hb⟩
theorem CoOwn.at {B : Nat} {w : World} {v0 : Value} {x : Co} (h : CoOwn B w v0 x) : CoAt w v0 x := ⟨IntsIn.at (CellsIn.own h.o0)⟩
theorem CoOwn.lo {B b : Nat} {w : World} {v0 : Value} {x : Co} (h : CoOwn B w v0 x) (hb : b ≤ B) : CoOwn b w v0 x := ⟨owns_lo h.o0 hb⟩
theorem CoOwn.turn {B T b : Nat} {w w' : World} {v0 : Value} {x : Co} (h : CoOwn b w v0 x) (ht : Turn B T w w') (hb : T ≤ b) : CoOwn b w' v0 x :=
  ⟨owns_eq h.o0 (fun i hi => ht.out i (Nat.le_trans hb (h.o0.lt i hi).1) (h.o0.lt i hi).2)⟩
theorem CoOwn.low {B b : Nat} {w w' : World} {v0 : Value} {x : Co} (h : CoOwn b w v0 x) (ht : Below B w w') (hb : (∀ i, v0.ownBlock = some i → i < B)) : CoOwn b w' v0 x :=
  ⟨owns_eq h.o0 (fun i hi => ht.block i (hb i hi))⟩
theorem CoOwn.lt {b : Nat} {w : World} {v0 : Value} {x : Co} (h : CoOwn b w v0 x) : ∀ i, v0.ownBlock = some i → i < w.heap.size := fun i hi => (h.o0.lt i hi).2
theorem CoOwn.boxed {B b i : Nat} {z : World} {v0 : Value} {x : Co} {cs : Array Value} {T : TypeId} (h : CoOwn B z v0 x) (hb : Box z b cs T) (t3 : T ≠ 3) (u : Value) : CoOwn B (z.setCell ⟨b, i, none⟩ u) v0 x :=
  ⟨owns_eq h.o0 (fun g hg => Below.heap_setCell _ ⟨b, i, none⟩ _ g (fun e => Lib.ownBlock_ne h.o0 hb t3 (by rw [hg, e])))⟩
structure CoHeld (B : Nat) (w : World) (v0 : Value) (n0 : Nat) : Prop where
  o0 : w.ownsRow B 3 1 v0 n0 ((nMarks (1) n0).map I64)
theorem CoHeld.stays {B : Nat} {w w' : World} {v0 : Value} {n0 : Nat} (h : CoHeld B w v0 n0) (hb : Below w.heap.size w w') : CoHeld B w' v0 n0 := ⟨ownsInts_stays h.o0 hb⟩

set_option maxRecDepth 100000 in
set_option maxHeartbeats 4000000 in
theorem markCore_any {B : Nat} (v0 : Value) (u1 : Value) (u2 : Value) (x : Co) (w : World) (h : CoOwn B w v0 x) (n0 : Nat) (en0 : x.regs.length = n0) (hB : B ≤ w.heap.size) (L0 : n0 ≤ 1048576) :
    Calls Try.prog 10 #[.agg #[v0, u1, u2], .int .i64 1] w fun e w' => e = .returned (.int .i64 ((1 + n0 : Nat) : Int)) ∧ CoHeld B w' v0 n0 ∧ Below B w w' ∧ (∀ c, c < w.heap.size → v0.ownBlock ≠ some c → w'.heap[c]? = w.heap[c]?) := by
  have hb1 : Below w.heap.size w (w.alloc (.cells #[v0, u1, u2] 24)) := (Below.refl _ _).alloc (Nat.le_refl _) _
  have HB0 : Hid (Below B w (w.alloc (.cells #[v0, u1, u2] 24))) := hb1.mono hB
  have BX0 := hide (Box.made w #[v0, u1, u2] 24)
  have OT0 : Hid (∀ c, c < w.heap.size → v0.ownBlock ≠ some c → (w.alloc (.cells #[v0, u1, u2] 24)).heap[c]? = w.heap[c]?) := fun c hc _ => hb1.block c hc
  have O0_0 := hide (ownsInts_stays h.o0 hb1)
  have OL0 : Hid (∀ i, v0.ownBlock = some i → i < w.heap.size) := fun i hi => (h.o0.lt i hi).2
  rw [en0] at O0_0
  obtain ⟨o0, c0, rfl⟩ := form_own O0_0.out
  obtain ⟨W1, hW⟩ : ∃ W1, w.alloc (.cells #[.slice o0 n0 c0, u1, u2] 24) = W1 := ⟨_, rfl⟩
  have HW := hide hW
  rw [hW] at HB0 BX0 OT0 O0_0
  have q0 := Lib.cell_of_heap BX0.out 0
  simp at q0
  rw [← hW] at q0
  clear h hb1 hW
  go_enter Try.func10, Try.ntmps10
  go_wp2_with fail
  rw [HW.out]
  refine (markInts_any _ n0 B (1) x.regs _ L0 (by omega) O0_0.out).mono ?_
  rintro e z1 ⟨rfl, ho1, hb1, hk1⟩
  have HB1 := hide (HB0.out.trans hb1)
  have OT1 : Hid (∀ c, c < w.heap.size → (.slice o0 n0 c0 : Value).ownBlock ≠ some c → z1.heap[c]? = w.heap[c]?) := fun c hc g0 => (hk1 c g0).trans (OT0.out c hc g0)
  have R0 := hide ho1
  clear ho1 hb1 hk1 q0
  go_wp2
  go_ret
  exact ⟨rfl, ⟨R0.out⟩, HB1.out, OT1.out⟩

set_option maxRecDepth 100000 in
set_option maxHeartbeats 4000000 in
theorem heldCore_any {B : Nat} (v0 : Value) (u1 : Value) (u2 : Value) (w : World) (n0 : Nat) (h : CoHeld B w v0 n0) (L0 : n0 ≤ 1048576) :
    Calls Try.prog 11 #[.agg #[v0, u1, u2], .int .i64 1] w fun e w' => e = .returned (.int .i64 ((1 + n0 : Nat) : Int)) ∧ Below w.heap.size w w' := by
  have hb1 : Below w.heap.size w (w.alloc (.cells #[v0, u1, u2] 24)) := (Below.refl _ _).alloc (Nat.le_refl _) _
  have HB0 := hide hb1
  have BX0 := hide (Box.made w #[v0, u1, u2] 24)
  have H0 := hide (h.stays hb1)
  obtain ⟨o0, c0, rfl⟩ := form_own h.o0
  obtain ⟨W1, hW⟩ : ∃ W1, w.alloc (.cells #[.slice o0 n0 c0, u1, u2] 24) = W1 := ⟨_, rfl⟩
  have HW := hide hW
  rw [hW] at HB0 BX0 H0
  have q0 := Lib.cell_of_heap BX0.out 0
  simp at q0
  rw [← hW] at q0
  clear h hb1 hW
  go_enter Try.func11, Try.ntmps11
  go_wp2_with fail
  rw [HW.out]
  refine (heldInts_any _ n0 B (1) _ L0 (by omega) H0.out.o0).mono ?_
  rintro e z1 ⟨rfl, hb1⟩
  have HB1 := hide (HB0.out.trans (hb1.mono HB0.out.size))
  have BX1 := hide (BX0.out.stays hb1)
  have H1 := hide (H0.out.stays hb1)
  have hnn1 : ¬ (((1 + n0 : Nat) : Int) < 0) := by omega
  clear hb1 q0
  go_wp2
  go_ret
  exact ⟨rfl, HB1.out⟩

theorem cells_Co : Try.prog.cellsOf 29 = 3 := by kernel_rfl
section
open Go.ChangeShapes Go.WideShapes Go.ChangeAt Go.Deep
variable {H : Type} {enc : TypeId × Value → H} {W : World}
set_option maxRecDepth 100000 in
theorem opens_Co (fuel : Nat) (cs : List Value) (x : DataW H × List MemPlace) (h : DataW.trod enc Try.prog W 0 (fun _ => true) true fuel 29 cs = some x) : ∃ v0 y, cs = [v0, .int .i64 y.pc, .int .i64 y.process] ∧ CoAt W v0 y ∧ CoMax y := by
  obtain ⟨ys, k, _, _, hcl, hyl, hf⟩ := DataW.trod_struct Try.underlying29 h
  rw [cells_Co] at hcl
  match ys, hyl, cs, hcl with
  | [y0, y1, y2], _, [w0, w1, w2], _ =>
    have g0 := hf 0 _ rfl
    have g1 := hf 1 _ rfl
    have g2 := hf 2 _ rfl
    simp [cells_int, cells_ints] at g0 g1 g2
    obtain ⟨v0, l0, e0, a0, m0⟩ := opens_ints _ _ _ g0
    simp at e0
    subst e0
    obtain ⟨k1, e1⟩ := opens_int _ _ _ g1
    simp [IntRel] at e1
    subst e1
    obtain ⟨k2, e2⟩ := opens_int _ _ _ g2
    simp [IntRel] at e2
    subst e2
    exact ⟨_, ⟨l0, k1, k2⟩, rfl, ⟨a0⟩, ⟨m0⟩⟩
end
end Go.Proofs.Ytoageggcbpjlmaa
