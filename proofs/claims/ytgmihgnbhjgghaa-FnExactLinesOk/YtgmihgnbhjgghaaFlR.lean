/-
  Bare rows of texts and of numbers, in the form that the laws' walks by program ask for.
-/
import Derived.Test.YtgmihgnbhjgghaaLawZ
import Derived.Test.YtgmihgnbhjgghaaTreeY
import Derived.Test.YtgmihgnbhjgghaaAidRow
import Derived.Test.YtgmihgnbhjgghaaProg
import Derived.Test.YtgmihgnbhjgghaaAid
import Derived.WalkKit
import Derived.Deep.RegionHeld3
namespace Go.Proofs.Ytgmihgnbhjgghaa
open Go.RowKit

theorem strs_form {base : Nat} {w : World} {v : Value} {xs : List ByteArray} (h : StrsIn base w v xs) : ∃ o n c, v = .slice o n c := by
  obtain ⟨o, c, rfl, _⟩ := h.at
  exact ⟨_, _, _, rfl⟩
theorem ints_form {base : Nat} {w : World} {v : Value} {xs : List Int} (h : IntsIn base w v xs) : ∃ o n c, v = .slice o n c := by
  obtain ⟨o, c, rfl, _⟩ := h.at
  exact ⟨_, _, _, rfl⟩
/-- A row of texts. -/
structure Rw where
  row : List ByteArray
structure RwAt (w : World) (v0 : Value) (x : Rw) : Prop where
  a0 : StrsAt w v0 x.row
theorem RwAt.stays {w w' : World} {v0 : Value} {x : Rw} (h : RwAt w v0 x) (hb : Below w.heap.size w w') : RwAt w' v0 x := ⟨h.a0.stays hb⟩
structure RwC (base : Nat) (w : World) (cs : List Value) (x : Rw) : Prop where
  c : ∃ v0, cs = [v0] ∧ StrsIn base w v0 x.row
theorem RwC.stays {base : Nat} {w w' : World} {cs : List Value} {x : Rw} (h : RwC base w cs x) (hb : Below w.heap.size w w') : RwC base w' cs x := by
  obtain ⟨v0, e, h0⟩ := h.c
  exact ⟨v0, e, h0.kept (KeptFrom.below hb)⟩
theorem RwC.at {base : Nat} {w : World} {v0 : Value} {x : Rw} (h : RwC base w [v0] x) : RwAt w v0 x := by
  obtain ⟨v0', e, h0⟩ := h.c
  injection e with e0 _
  subst e0
  exact ⟨h0.at⟩
structure RwMax (x : Rw) : Prop where
  m0 : StrsMax x.row
structure RwLen (x : Rw) : Prop where
  l0 : x.row.length ≤ 1048576
def szRw (x : Rw) : Nat := szStrs x.row
theorem szRw_len {x : Rw} (h : szRw x ≤ 1048576) : RwLen x := by
  unfold szRw szStrs at h
  exact ⟨by omega⟩
structure RwSh (B T : Nat) (w : World) (v0 : Value) (x : Rw) : Prop where
  s0 : ShR B T 1 fStr x.row.length w v0
theorem RwSh.turn {B T B' T' : Nat} {w w' : World} {v0 : Value} {x : Rw} (h : RwSh B T w v0 x) (ht : Turn B' T' w w') : RwSh B T w' v0 x := ⟨h.s0.turn ht fun i _ => fStr_s i⟩
theorem RwSh.stays {B T : Nat} {w w' : World} {v0 : Value} {x : Rw} (h : RwSh B T w v0 x) (hb : Below w.heap.size w w') : RwSh B T w' v0 x := h.turn (T' := 0) (Turn.below hb (Nat.le_refl _))
theorem RwC.sh {base T : Nat} {w : World} {v0 : Value} {x : Rw} (h : RwC base w [v0] x) (hT : w.heap.size ≤ T) : RwSh base T w v0 x := by
  obtain ⟨v0', e, h0⟩ := h.c
  injection e with e0 _
  subst e0
  exact ⟨CellsIn.shT h0 hT⟩
/-- A row of numbers. -/
structure Ri where
  row : List Int
structure RiAt (w : World) (v0 : Value) (x : Ri) : Prop where
  a0 : IntsAt w v0 x.row
theorem RiAt.stays {w w' : World} {v0 : Value} {x : Ri} (h : RiAt w v0 x) (hb : Below w.heap.size w w') : RiAt w' v0 x := ⟨h.a0.stays hb⟩
structure RiC (base : Nat) (w : World) (cs : List Value) (x : Ri) : Prop where
  c : ∃ v0, cs = [v0] ∧ IntsIn base w v0 x.row
theorem RiC.stays {base : Nat} {w w' : World} {cs : List Value} {x : Ri} (h : RiC base w cs x) (hb : Below w.heap.size w w') : RiC base w' cs x := by
  obtain ⟨v0, e, h0⟩ := h.c
  exact ⟨v0, e, h0.kept (KeptFrom.below hb)⟩
theorem RiC.at {base : Nat} {w : World} {v0 : Value} {x : Ri} (h : RiC base w [v0] x) : RiAt w v0 x := by
  obtain ⟨v0', e, h0⟩ := h.c
  injection e with e0 _
  subst e0
  exact ⟨h0.at⟩
structure RiMax (x : Ri) : Prop where
  m0 : IntsMax x.row
structure RiLen (x : Ri) : Prop where
  l0 : x.row.length ≤ 1048576
def szRi (x : Ri) : Nat := x.row.length
theorem szRi_len {x : Ri} (h : szRi x ≤ 1048576) : RiLen x := ⟨h⟩
structure RiSh (B T : Nat) (w : World) (v0 : Value) (x : Ri) : Prop where
  s0 : ShR B T 1 fInt x.row.length w v0
theorem RiSh.turn {B T B' T' : Nat} {w w' : World} {v0 : Value} {x : Ri} (h : RiSh B T w v0 x) (ht : Turn B' T' w w') : RiSh B T w' v0 x := ⟨h.s0.turn ht fun i _ => fInt_s i⟩
theorem RiSh.stays {B T : Nat} {w w' : World} {v0 : Value} {x : Ri} (h : RiSh B T w v0 x) (hb : Below w.heap.size w w') : RiSh B T w' v0 x := h.turn (T' := 0) (Turn.below hb (Nat.le_refl _))
theorem RiC.sh {base T : Nat} {w : World} {v0 : Value} {x : Ri} (h : RiC base w [v0] x) (hT : w.heap.size ≤ T) : RiSh base T w v0 x := by
  obtain ⟨v0', e, h0⟩ := h.c
  injection e with e0 _
  subst e0
  exact ⟨CellsIn.shI h0 hT⟩
end Go.Proofs.Ytgmihgnbhjgghaa

namespace Go.Proofs.Ytgmihgnbhjgghaa
open Go.RowKit

/-- A value. -/
def vok (n : Int) : Bool := decide (-1000000 ≤ n) && decide (n ≤ 1000000)
theorem vok_iff (n : Int) : vok n = true ↔ -1000000 ≤ n ∧ n ≤ 1000000 := by simp [vok]
theorem vok_not (n : Int) : vok n = false ↔ ¬ (-1000000 ≤ n ∧ n ≤ 1000000) := by rw [← vok_iff]; simp

theorem specIn (n lo hi : Int) (w : World) : Calls Try.prog 16 #[.int .i64 n, .int .i64 lo, .int .i64 hi] w fun e w' => e = .returned (.bool (decide (lo ≤ n) && decide (n ≤ hi))) ∧ w = w' := by
  by_cases h1 : lo ≤ n
  · go_enter Try.func16, Try.ntmps16
    go_wp2
    go_ret
    exact ⟨by simp [h1], rfl⟩
  · go_enter Try.func16, Try.ntmps16
    go_wp2
    go_ret
    exact ⟨by simp; omega, rfl⟩
theorem implKnown (op : Int) (w : World) : Calls Try.prog 31 #[.int .i64 op] w fun e w' => e = .returned (.bool (decide (1 ≤ op) && decide (op ≤ 9))) ∧ w = w' := by
  by_cases h1 : 1 ≤ op
  · go_enter Try.func31, Try.ntmps31
    go_wp2
    go_ret
    exact ⟨by simp [h1], rfl⟩
  · go_enter Try.func31, Try.ntmps31
    go_wp2
    go_ret
    exact ⟨by simp; omega, rfl⟩
/-- What comes out of two values. -/
def calcO (op a b : Int) : Int :=
  if op = 1 then a + b else if op = 2 then a - b else if op = 3 then a * b else if op = 4 then a.tdiv b else if op = 5 then a.tmod b
  else if op = 6 then (if decide (a < b) then 1 else 0) else if op = 7 then (if decide (a = b) then 1 else 0)
  else if op = 8 then (if decide (a ≠ 0) && decide (b ≠ 0) then 1 else 0) else (if decide (a ≠ 0) || decide (b ≠ 0) then 1 else 0)

theorem mul_small {a b : Int} (ha1 : -1000000 ≤ a) (ha2 : a ≤ 1000000) (hb1 : -1000000 ≤ b) (hb2 : b ≤ 1000000) : -1000000000000 ≤ a * b ∧ a * b ≤ 1000000000000 := by
  have h : (a * b).natAbs ≤ 1000000 * 1000000 := by rw [Int.natAbs_mul]; exact Nat.mul_le_mul (by omega) (by omega)
  omega
theorem tdiv_small {a : Int} (b : Int) (ha1 : -1000000 ≤ a) (ha2 : a ≤ 1000000) : -1000000 ≤ a.tdiv b ∧ a.tdiv b ≤ 1000000 := by
  have h : (a.tdiv b).natAbs ≤ 1000000 := by rw [Int.natAbs_tdiv]; exact Nat.le_trans (Nat.div_le_self _ _) (by omega)
  omega
theorem wrap_mul {a b : Int} (ha1 : -1000000 ≤ a) (ha2 : a ≤ 1000000) (hb1 : -1000000 ≤ b) (hb2 : b ≤ 1000000) : wrap64 (a * b) = a * b := by
  have h := mul_small ha1 ha2 hb1 hb2
  exact IntWalk.wrap64_in _ (by omega)
theorem wrap_tdiv {a : Int} (b : Int) (ha1 : -1000000 ≤ a) (ha2 : a ≤ 1000000) : wrap64 (a.tdiv b) = a.tdiv b := by
  have h := tdiv_small b ha1 ha2
  exact IntWalk.wrap64_in _ (by omega)

end Go.Proofs.Ytgmihgnbhjgghaa
