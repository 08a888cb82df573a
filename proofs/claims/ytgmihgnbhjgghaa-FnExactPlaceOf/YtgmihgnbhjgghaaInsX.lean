/-
  Walks: words of a machine: numbers, by the specification; the laws' own helpers.
-/
import Derived.Test.YtgmihgnbhjgghaaInsW
import Derived.Handy
import Derived.Laws.Bits128
import Derived.Deep.Cut
import Derived.Test.YtgmihgnbhjgghaaLawJ
namespace Go.Proofs.Ytgmihgnbhjgghaa
open Go.RowKit

theorem band7 (n : Int) : bits .and .i64 n 7 = n % 8 := by
  have h7 : (BitVec.ofInt 64 7).toNat = 2 ^ 3 - 1 := by decide
  have key : (BitVec.ofInt 64 n &&& BitVec.ofInt 64 7).toNat = (n % ((2 ^ 64 : Nat) : Int)).toNat % 2 ^ 3 := by
    rw [BitVec.toNat_and, BitVec.toNat_ofInt, h7, Nat.and_two_pow_sub_one_eq_mod]
  show IntKind.i64.wrap ((BitVec.ofInt 64 n &&& BitVec.ofInt 64 7).toNat : Nat) = n % 8
  rw [key, IntKind.wrap_i64]
  omega
theorem band22 (n : Int) : bits .and .i64 n 4194303 = n % 4194304 := by
  have h7 : (BitVec.ofInt 64 4194303).toNat = 2 ^ 22 - 1 := by decide
  have key : (BitVec.ofInt 64 n &&& BitVec.ofInt 64 4194303).toNat = (n % ((2 ^ 64 : Nat) : Int)).toNat % 2 ^ 22 := by
    rw [BitVec.toNat_and, BitVec.toNat_ofInt, h7, Nat.and_two_pow_sub_one_eq_mod]
  show IntKind.i64.wrap ((BitVec.ofInt 64 n &&& BitVec.ofInt 64 4194303).toNat : Nat) = n % 4194304
  rw [key, IntKind.wrap_i64]
  omega
/-- What is decoded: nothing of a number that is none. -/
def decE (n : Int) : In4 := if decB n = true then ⟨decOp n, decA n, decBb n, decC n⟩ else ⟨0, 0, 0, 0⟩

end Go.Proofs.Ytgmihgnbhjgghaa

namespace Go.Proofs.Ytgmihgnbhjgghaa
open Go.RowKit

abbrev insV (x : In4) : Value := .agg #[.int .i64 x.op, .int .i64 x.a, .int .i64 x.b, .int .i64 x.c]

set_option maxRecDepth 100000 in
set_option maxHeartbeats 2000000 in
theorem toIns_any (op a b c : Int) (w : World) :
    Calls Try.prog 24 #[.agg #[.int .i64 op, .int .i64 a, .int .i64 b, .int .i64 c]] w fun e w' => e = .returned (.agg #[.int .i64 op, .int .i64 a, .int .i64 b, .int .i64 c]) ∧ Below w.heap.size w w' := by
  go_enter Try.func24, Try.ntmps24
  go_wp2
  refine box_ret (g := w.heap.size + 1) (t := 37) (cs := #[.int .i64 op, .int .i64 a, .int .i64 b, .int .i64 c]) rfl rfl ?_ _ Try.underlying37 rfl (by kernel_rfl) rfl ?_
  · exact (Box.madeAt (by simp) _ _).stays ((Below.refl _ _).alloc (Nat.le_refl _) _)
  · exact ⟨rfl, by go_grown⟩

set_option maxRecDepth 100000 in
set_option maxHeartbeats 2000000 in
theorem eqIns_same (op a b c : Int) (w : World) :
    Calls Try.prog 29 #[.agg #[.int .i64 op, .int .i64 a, .int .i64 b, .int .i64 c], .agg #[.int .i64 op, .int .i64 a, .int .i64 b, .int .i64 c]] w fun e w' => e = .returned (.bool true) ∧ Below w.heap.size w w' := by
  have HB : Hid (Below w.heap.size w ((w.alloc (.cells #[.int .i64 op, .int .i64 a, .int .i64 b, .int .i64 c] 37)).alloc (.cells #[.int .i64 op, .int .i64 a, .int .i64 b, .int .i64 c] 37))) := by show Below w.heap.size w _; go_grown
  go_enter Try.func29, Try.ntmps29
  go_wp2
  go_ret
  exact ⟨rfl, HB.out⟩

end Go.Proofs.Ytgmihgnbhjgghaa

namespace Go.Proofs.Ytgmihgnbhjgghaa
open Go.RowKit
open Go.ChangeShapes Go.WideShapes Go.ChangeAt Go.Deep

theorem cells_In : Try.prog.cellsOf 34 = 4 := by kernel_rfl
section
variable {H : Type} {enc : TypeId × Value → H} {W : World}
set_option maxRecDepth 100000 in
theorem opens_In (fuel : Nat) (cs : List Value) (x : DataW H × List MemPlace) (h : DataW.trod enc Try.prog W 0 (fun _ => true) true fuel 34 cs = some x) : ∃ y : In4, cs = [.int .i64 y.op, .int .i64 y.a, .int .i64 y.b, .int .i64 y.c] := by
  obtain ⟨ys, k, _, _, hcl, hyl, hf⟩ := DataW.trod_struct Try.underlying34 h
  rw [cells_In] at hcl
  match ys, hyl, cs, hcl with
  | [y0, y1, y2, y3], _, [w0, w1, w2, w3], _ =>
    have g0 := hf 0 _ rfl
    have g1 := hf 1 _ rfl
    have g2 := hf 2 _ rfl
    have g3 := hf 3 _ rfl
    simp [cells_int] at g0 g1 g2 g3
    obtain ⟨k0, e0⟩ := opens_int _ _ _ g0
    obtain ⟨k1, e1⟩ := opens_int _ _ _ g1
    obtain ⟨k2, e2⟩ := opens_int _ _ _ g2
    obtain ⟨k3, e3⟩ := opens_int _ _ _ g3
    simp [IntRel] at e0 e1 e2 e3
    subst e0 e1 e2 e3
    exact ⟨⟨k0, k1, k2, k3⟩, rfl⟩
end
set_option maxRecDepth 100000 in
theorem in_of {H : Type} {enc : TypeId × Value → H} {W : World} {base : Nat} {v : Value} {d : DataW H} {ps : List MemPlace}
    (ho : Value.okWide Try.prog W .any base 34 v) (h : DataW.Trod enc Try.prog W 0 (fun _ => true) true 34 v d ps) : ∃ x : In4, v = .agg #[.int .i64 x.op, .int .i64 x.a, .int .i64 x.b, .int .i64 x.c] ∧ True ∧ True := by
  obtain ⟨cs, rfl, _⟩ := okWide_struct Try.underlying34 ho
  obtain ⟨fuel, hf⟩ := h
  obtain ⟨x, e⟩ := opens_In _ _ _ hf
  have e2 : cs = #[.int .i64 x.op, .int .i64 x.a, .int .i64 x.b, .int .i64 x.c] := by
    have : cs.toList = [.int .i64 x.op, .int .i64 x.a, .int .i64 x.b, .int .i64 x.c] := e
    rw [← Array.toList_inj]
    exact this
  subst e2
  exact ⟨x, rfl, trivial, trivial⟩
end Go.Proofs.Ytgmihgnbhjgghaa
