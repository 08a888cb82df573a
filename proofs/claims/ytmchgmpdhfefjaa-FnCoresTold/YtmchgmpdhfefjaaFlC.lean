/-
  A flat struct (Core) by the laws' own helpers.
-/
import Derived.Test.YtmchgmpdhfefjaaLawT
import Derived.Test.YtmchgmpdhfefjaaAidD
import Derived.Test.YtmchgmpdhfefjaaSgP
import Derived.Test.YtmchgmpdhfefjaaInsX
import Derived.Test.YtmchgmpdhfefjaaAid
namespace Go.Proofs.Ytmchgmpdhfefjaa
open Go.RowKit

structure Co where
  regs : List Int
  pc : Int
  process : Int
structure CoAt (w : World) (v0 : Value) (x : Co) : Prop where
  a0 : IntsAt w v0 x.regs
theorem CoAt.stays {w w' : World} {v0 : Value} {x : Co} (h : CoAt w v0 x) (hb : Below w.heap.size w w') : CoAt w' v0 x := ⟨h.a0.stays hb⟩
def CoC (base : Nat) (w : World) (cs : List Value) (x : Co) : Prop := ∃ v0, cs = [v0, .int .i64 x.pc, .int .i64 x.process] ∧ IntsIn base w v0 x.regs
structure CoMax (x : Co) : Prop where
  m0 : IntsMax x.regs
structure CoLen (x : Co) : Prop where
  l0 : x.regs.length ≤ 1048576
def szCo (x : Co) : Nat := x.regs.length
theorem szCo_len {x : Co} (h : szCo x ≤ 1048576) : CoLen x := by
  unfold szCo at h
  exact ⟨by omega⟩
theorem CoC.kept {base : Nat} {w w' : World} {cs : List Value} {x : Co} (h : CoC base w cs x) (k : KeptFrom base w w') : CoC base w' cs x := by
  obtain ⟨v0, e, h0⟩ := h
  exact ⟨v0, e, h0.kept k⟩
theorem CoC.stays {base : Nat} {w w' : World} {cs : List Value} {x : Co} (h : CoC base w cs x) (hb : Below w.heap.size w w') : CoC base w' cs x := h.kept (KeptFrom.below hb)
theorem CoC.at {base : Nat} {w : World} {v0 : Value} {u1 : Value} {u2 : Value} {x : Co} (h : CoC base w [v0, u1, u2] x) : CoAt w v0 x := by
  obtain ⟨v0', e, h0⟩ := h
  injection e with e0 e
  injection e with e1 e
  injection e with e2 _
  subst e0
  exact ⟨h0.at⟩
theorem CoC.form {base : Nat} {w : World} {cs : List Value} {x : Co} (h : CoC base w cs x) : ∃ o0 c0, cs = [.slice o0 x.regs.length c0, .int .i64 x.pc, .int .i64 x.process] := by
  obtain ⟨v0, e, h0⟩ := h
  obtain ⟨o0, c0, rfl, _⟩ := h0.at
  exact ⟨_, _, e⟩
structure CoSh (B T : Nat) (w : World) (v0 : Value) (x : Co) : Prop where
  s0 : ShR B T 1 fInt x.regs.length w v0
theorem CoSh.turn {B T B' T' : Nat} {w w' : World} {v0 : Value} {x : Co} (h : CoSh B T w v0 x) (ht : Turn B' T' w w') : CoSh B T w' v0 x := ⟨h.s0.turn ht fun i _ => fInt_s i⟩
theorem CoSh.stays {B T : Nat} {w w' : World} {v0 : Value} {x : Co} (h : CoSh B T w v0 x) (hb : Below w.heap.size w w') : CoSh B T w' v0 x := h.turn (T' := 0) (Turn.below hb (Nat.le_refl _))
theorem CoC.sh {base T : Nat} {w : World} {v0 : Value} {u1 : Value} {u2 : Value} {x : Co} (h : CoC base w [v0, u1, u2] x) (hT : w.heap.size ≤ T) : CoSh base T w v0 x := by
  obtain ⟨v0', e, h0⟩ := h
  injection e with e0 e
  injection e with e1 e
  injection e with e2 _
  subst e0
  exact ⟨CellsIn.shI h0 hT⟩
/-- An answer that owns its rows, from a base on, each in a block of its own. -/
structure CoOwn (B : Nat) (w : World) (v0 : Value) (x : Co) : Prop where
  o0 : w.ownsRow B 3 1 v0 x.regs.length (x.regs.map I64)
theorem CoOwn.stays {B : Nat} {w w' : World} {v0 : Value} {x : Co} (h : CoOwn B w v0 x) (hb : Below w.heap.size w w') : CoOwn B w' v0 x := ⟨ownsInts_stays h.o0 hb⟩
theorem CoOwn.at {B : Nat} {w : World} {v0 : Value} {x : Co} (h : CoOwn B w v0 x) : CoAt w v0 x := ⟨IntsIn.at (CellsIn.own h.o0)⟩
theorem CoOwn.lo {B b : Nat} {w : World} {v0 : Value} {x : Co} (h : CoOwn B w v0 x) (hb : b ≤ B) : CoOwn b w v0 x := ⟨owns_lo h.o0 hb⟩
theorem CoOwn.turn {B T b : Nat} {w w' : World} {v0 : Value} {x : Co} (h : CoOwn b w v0 x) (ht : Turn B T w w') (hb : T ≤ b) : CoOwn b w' v0 x :=
  ⟨owns_eq h.o0 (fun i hi => ht.out i (Nat.le_trans hb (h.o0.lt i hi).1) (h.o0.lt i hi).2)⟩
theorem CoOwn.low {B b : Nat} {w w' : World} {v0 : Value} {x : Co} (h : CoOwn b w v0 x) (ht : Below B w w') (hb : (∀ i, v0.ownBlock = some i → i < B)) : CoOwn b w' v0 x :=
  ⟨owns_eq h.o0 (fun i hi => ht.block i (hb i hi))⟩
theorem CoOwn.lt {b : Nat} {w : World} {v0 : Value} {x : Co} (h : CoOwn b w v0 x) : ∀ i, v0.ownBlock = some i → i < w.heap.size := fun i hi => (h.o0.lt i hi).2
theorem CoOwn.boxed {B b i : Nat} {z : World} {v0 : Value} {x : Co} {cs : Array Value} {T : TypeId} (h : CoOwn B z v0 x) (hb : Box z b cs T) (t3 : T ≠ 3) (u : Value) : CoOwn B (z.setCell ⟨b, i, none⟩ u) v0 x :=
  ⟨owns_eq h.o0 (fun g hg => Below.heap_setCell _ ⟨b, i, none⟩ _ g (fun e => Lib.ownBlock_ne h.o0 hb t3 (by rw [hg, e])))⟩
structure CoHeld (B : Nat) (w : World) (v0 : Value) (n0 : Nat) : Prop where
  o0 : w.ownsRow B 3 1 v0 n0 ((nMarks (1) n0).map I64)
theorem CoHeld.stays {B : Nat} {w w' : World} {v0 : Value} {n0 : Nat} (h : CoHeld B w v0 n0) (hb : Below w.heap.size w w') : CoHeld B w' v0 n0 := ⟨ownsInts_stays h.o0 hb⟩

section
open Go.ChangeShapes Go.WideShapes Go.ChangeAt Go.Deep
variable {H : Type} {enc : TypeId × Value → H} {W : World}
end
end Go.Proofs.Ytmchgmpdhfefjaa

namespace Go.Proofs.Ytmchgmpdhfefjaa
open Go.RowKit

/-- Which place a number's word touches. -/
def touchN (n : Int) : Int := if decB n = true ∧ (decOp n = 2 ∨ decOp n = 3 ∨ decOp n = 9) then decC n else -1
def touchE (xs : List Int) (pc : Int) : Int := if inZ 0 ((xs.length : Int) - 1) pc = true then touchN (xs.getD pc.toNat 0) else -1
def coreNewE : Co := ⟨List.replicate 8 0, 0, -1⟩
def coreOkB (x : Co) : Bool := x.regs.all vok && (x.regs.length == 8 && decide (0 ≤ x.pc) && inZ (-1) 3 x.process)
end Go.Proofs.Ytmchgmpdhfefjaa

namespace Go.Proofs.Ytmchgmpdhfefjaa
open Go.RowKit

/-- A value and a fault. -/
def two (x y : Int) : Value := .tuple #[.int .i64 x, .int .i64 y]
def opB (op : Int) : Bool := decide (1 ≤ op) && decide (op ≤ 9)
theorem opB_iff (op : Int) : opB op = true ↔ 1 ≤ op ∧ op ≤ 9 := by simp [opB]
def divB (op : Int) : Bool := decide (op = 4) || decide (op = 5)
/-- What comes out, and what went wrong. -/
def calcX (op a b : Int) : Int := if (opB op && vok a && vok b && !(divB op && decide (b = 0)) && vok (calcO op a b)) = true then calcO op a b else 0
def calcY (op a b : Int) : Int := if (opB op && vok a && vok b) = true then (if (divB op && decide (b = 0)) = true then 2 else if vok (calcO op a b) = true then 0 else 1) else 1

set_option maxHeartbeats 1000000 in
theorem implCalc (op a b : Int) (w : World) : Calls Try.prog 54 #[.int .i64 op, .int .i64 a, .int .i64 b] w fun e w' => e = .returned (two (calcX op a b) (calcY op a b)) ∧ w = w' := by
  have K := fun w => hide (implKnown op w)
  have D := fun w => hide (implDivides op w)
  change ∀ w, Hid (Calls _ _ _ _ fun e w' => e = .returned (.bool (opB op)) ∧ w = w') at K
  change ∀ w, Hid (Calls _ _ _ _ fun e w' => e = .returned (.bool (divB op)) ∧ w = w') at D
  have O := fun h1 ha hb hz w => hide (implOf op a b w ((opB_iff op).1 h1).1 ((opB_iff op).1 h1).2 ((vok_iff a).1 ha) ((vok_iff b).1 hb) hz)
  cases ho : opB op
  · have ex : two (calcX op a b) (calcY op a b) = two 0 1 := by simp [calcX, calcY, ho]
    rw [ex]
    clear ex O D
    go_enter Try.func54, Try.ntmps54
    go_wp2_with (go_at_call 65; refine (unhide (K _)).mono ?_; rintro e w1 ⟨rfl, rfl⟩)
    go_ret2
    exact ⟨rfl, rfl⟩
  cases ha : vok a
  · have ex : two (calcX op a b) (calcY op a b) = two 0 1 := by simp [calcX, calcY, ha]
    rw [ex]
    clear ex O D
    go_enter Try.func54, Try.ntmps54
    go_wp2_with (first | (go_at_call 65; refine (unhide (K _)).mono ?_; rintro e w1 ⟨rfl, rfl⟩) | (go_at_call 66; refine (implValOk _ _).mono ?_; rintro e w1 ⟨rfl, rfl⟩))
    go_ret2
    exact ⟨rfl, rfl⟩
  cases hb : vok b
  · have ex : two (calcX op a b) (calcY op a b) = two 0 1 := by simp [calcX, calcY, hb]
    rw [ex]
    clear ex O D
    go_enter Try.func54, Try.ntmps54
    go_wp2_with (first | (go_at_call 65; refine (unhide (K _)).mono ?_; rintro e w1 ⟨rfl, rfl⟩) | (go_at_call 66; refine (implValOk _ _).mono ?_; rintro e w1 ⟨rfl, rfl⟩))
    go_ret2
    exact ⟨rfl, rfl⟩
  cases hd : divB op && decide (b = 0)
  · have hz : op = 4 ∨ op = 5 → b ≠ 0 := by
      intro h e
      have : divB op = true := by simp [divB]; exact h
      simp [this, e] at hd
    have O1 := O ho ha hb hz
    have ex : calcX op a b = if vok (calcO op a b) = true then calcO op a b else 0 := by simp [calcX, ho, ha, hb, hd]
    have ey : calcY op a b = if vok (calcO op a b) = true then 0 else 1 := by simp [calcY, ho, ha, hb, hd]
    rw [ex, ey]
    generalize calcO op a b = o at *
    clear ex ey hz O
    cases hv : vok o
    all_goals cases hdd : divB op
    all_goals rw [hdd] at hd
    all_goals (try (have hb0 : ¬ b = 0 := by simpa using hd))
    all_goals clear hd
    all_goals go_enter Try.func54, Try.ntmps54
    all_goals go_wp2_with (first | (go_at_call 65; refine (unhide (K _)).mono ?_; rintro e w1 ⟨rfl, rfl⟩) | (go_at_call 67; refine (unhide (D _)).mono ?_; rintro e w1 ⟨rfl, rfl⟩) | (go_at_call 68; refine (unhide (O1 _)).mono ?_; rintro e w1 ⟨rfl, rfl⟩) | (go_at_call 66; refine (implValOk _ _).mono ?_; rintro e w1 ⟨rfl, rfl⟩))
    all_goals go_ret2
    all_goals exact ⟨rfl, rfl⟩
  · simp only [Bool.and_eq_true, decide_eq_true_eq] at hd
    obtain ⟨hdd, rfl⟩ := hd
    have ex : two (calcX op a 0) (calcY op a 0) = two 0 2 := by simp [calcX, calcY, ho, ha, hb, hdd]
    rw [ex]
    clear ex O
    go_enter Try.func54, Try.ntmps54
    go_wp2_with (first | (go_at_call 65; refine (unhide (K _)).mono ?_; rintro e w1 ⟨rfl, rfl⟩) | (go_at_call 67; refine (unhide (D _)).mono ?_; rintro e w1 ⟨rfl, rfl⟩) | (go_at_call 66; refine (implValOk _ _).mono ?_; rintro e w1 ⟨rfl, rfl⟩))
    go_ret2
    exact ⟨rfl, rfl⟩
end Go.Proofs.Ytmchgmpdhfefjaa
