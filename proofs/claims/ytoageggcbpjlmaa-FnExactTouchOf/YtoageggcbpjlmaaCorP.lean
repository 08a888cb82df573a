/-
  What a core does: as functions.
-/
import Derived.Test.YtoageggcbpjlmaaInsX
import Derived.Test.YtoageggcbpjlmaaFlC
import Derived.Test.YtoageggcbpjlmaaRowP
import Derived.Test.YtoageggcbpjlmaaTreeO
import Derived.Deep.OwnRows
namespace Go.Proofs.Ytoageggcbpjlmaa
open Go.RowKit

/-- Which place a number's word touches. -/
def touchN (n : Int) : Int := if decB n = true ∧ (decOp n = 2 ∨ decOp n = 3 ∨ decOp n = 9) then decC n else -1
def touchE (xs : List Int) (pc : Int) : Int := if inZ 0 ((xs.length : Int) - 1) pc = true then touchN (xs.getD pc.toNat 0) else -1
def coreNewE : Co := ⟨List.replicate 8 0, 0, -1⟩
def coreOkB (x : Co) : Bool := x.regs.all vok && (x.regs.length == 8 && decide (0 ≤ x.pc) && inZ (-1) 3 x.process)
end Go.Proofs.Ytoageggcbpjlmaa

namespace Go.Proofs.Ytoageggcbpjlmaa
open Go.RowKit

theorem made_ints (n : Nat) : (madeCells #[.int .i64 0] n).toList = (List.replicate n (0 : Int)).map I64 := by
  have := made_flat [.int .i64 0] (by simp) n
  simp only [List.length_singleton, Nat.mul_one] at this
  rw [this]
  induction n with
  | zero => rfl
  | succ n ih => simp [List.replicate_succ]
theorem infoI3 : (Try.prog.info? 3).map (fun i => (i.zero, i.size, i.bytes)) = some (some (.int .i64 0), 1, 8) := by kernel_rfl
theorem makeI_run (n : Nat) (hn : n ≤ 1048576) (w : World) : (Instr.makeSlice 22 (.int .i64 (n : Int)) (.int .i64 (n : Int))).run Try.prog w = .ok (.slice (some ⟨w.heap.size, 0, none⟩) n n) (w.alloc (.cells (madeCells #[.int .i64 0] n) 3)) :=
  run_make_row' 22 3 (.int .i64 0) 8 Try.underlying22 infoI3 rfl .i64 .i64 n (by omega) (by omega) w
/-- A new row of zeros is owned. -/
theorem made_own (w : World) (B n : Nat) (hB : B ≤ w.heap.size) (hn : n ≤ 1048576) : (w.alloc (.cells (madeCells #[.int .i64 0] n) 3)).ownsRow B 3 1 (.slice (some ⟨w.heap.size, 0, none⟩) n n) n ((List.replicate n (0 : Int)).map I64) := by
  refine ⟨by simp, .inr ⟨w.heap.size, n, madeCells #[.int .i64 0] n, rfl, hB, heap_alloc_new w _, Nat.le_refl _, by unfold maxLen; omega, by rw [size_madeCells, Nat.mul_one], ?_⟩⟩
  rw [made_ints, Nat.mul_one, List.take_of_length_le (by simp)]
end Go.Proofs.Ytoageggcbpjlmaa
