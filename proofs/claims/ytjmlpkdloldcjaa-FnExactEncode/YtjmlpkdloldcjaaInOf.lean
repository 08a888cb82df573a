/-
  A word's parts that come in.
-/
import Derived.Test.YtjmlpkdloldcjaaLwIn
import Derived.Test.YtjmlpkdloldcjaaLawJ
namespace Go.Proofs.Ytjmlpkdloldcjaa
open Go.RowKit
open Go.ChangeShapes Go.WideShapes Go.ChangeAt Go.Deep

theorem cells_In : Try.prog.cellsOf 23 = 4 := by kernel_rfl
section
variable {H : Type} {enc : TypeId × Value → H} {W : World}
set_option maxRecDepth 100000 in
theorem opens_In (fuel : Nat) (cs : List Value) (x : DataW H × List MemPlace) (h : DataW.trod enc Try.prog W 0 (fun _ => true) true fuel 23 cs = some x) : ∃ y : In4, cs = [.int .i64 y.op, .int .i64 y.a, .int .i64 y.b, .int .i64 y.c] := by
  obtain ⟨ys, k, _, _, hcl, hyl, hf⟩ := DataW.trod_struct Try.underlying23 h
  rw [cells_In] at hcl
  match ys, hyl, cs, hcl with
  | [y0, y1, y2, y3], _, [w0, w1, w2, w3], _ =>
    have g0 := hf 0 _ rfl
    have g1 := hf 1 _ rfl
    have g2 := hf 2 _ rfl
    have g3 := hf 3 _ rfl
    simp [cells_int] at g0 g1 g2 g3
    obtain ⟨k0, e0⟩ := opens_int _ _ _ g0
    obtain ⟨k1, e1⟩ := opens_int _ _ _ g1
    obtain ⟨k2, e2⟩ := opens_int _ _ _ g2
    obtain ⟨k3, e3⟩ := opens_int _ _ _ g3
    simp [IntRel] at e0 e1 e2 e3
    subst e0 e1 e2 e3
    exact ⟨⟨k0, k1, k2, k3⟩, rfl⟩
end
set_option maxRecDepth 100000 in
theorem in_of {H : Type} {enc : TypeId × Value → H} {W : World} {base : Nat} {v : Value} {d : DataW H} {ps : List MemPlace}
    (ho : Value.okWide Try.prog W .any base 23 v) (h : DataW.Trod enc Try.prog W 0 (fun _ => true) true 23 v d ps) : ∃ x : In4, v = .agg #[.int .i64 x.op, .int .i64 x.a, .int .i64 x.b, .int .i64 x.c] ∧ True ∧ True := by
  obtain ⟨cs, rfl, _⟩ := okWide_struct Try.underlying23 ho
  obtain ⟨fuel, hf⟩ := h
  obtain ⟨x, e⟩ := opens_In _ _ _ hf
  have e2 : cs = #[.int .i64 x.op, .int .i64 x.a, .int .i64 x.b, .int .i64 x.c] := by
    have : cs.toList = [.int .i64 x.op, .int .i64 x.a, .int .i64 x.b, .int .i64 x.c] := e
    rw [← Array.toList_inj]
    exact this
  subst e2
  exact ⟨x, rfl, trivial, trivial⟩
end Go.Proofs.Ytjmlpkdloldcjaa
