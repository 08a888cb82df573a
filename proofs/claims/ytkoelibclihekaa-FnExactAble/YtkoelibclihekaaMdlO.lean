/-
  A Model that comes in as an argument.
-/
import Derived.Test.YtkoelibclihekaaMdlP
import Derived.Test.YtkoelibclihekaaLawI
import Derived.Test.YtkoelibclihekaaLwAb
namespace Go.Proofs.Ytkoelibclihekaa
open Go.RowKit
open Go.ChangeShapes Go.WideShapes Go.ChangeAt Go.Deep

theorem cells_Md : Try.prog.cellsOf 33 = 9 := by kernel_rfl
theorem cells_Md1 : Try.prog.cellsOf 27 = 1 := by kernel_rfl
theorem cells_Md2 : Try.prog.cellsOf 28 = 1 := by kernel_rfl
theorem cells_Md3 : Try.prog.cellsOf 29 = 1 := by kernel_rfl
theorem cells_Md5 : Try.prog.cellsOf 31 = 1 := by kernel_rfl
theorem cells_Md6 : Try.prog.cellsOf 4 = 1 := by kernel_rfl
set_option maxRecDepth 100000 in
theorem opens_Md {H : Type} {enc : TypeId × Value → H} {W : World} (fuel : Nat) (cs : List Value) (x : DataW H × List MemPlace) (h : DataW.trod enc Try.prog W 0 (fun _ => true) true fuel 33 cs = some x) : ∃ v0 v1 v2 v3 v4 v5 v6 v7 y, cs = [v0, v1, v2, v3, v4, v5, v6, v7, .bool y.stopped] ∧ MdAt W v0 v1 v2 v3 v4 v5 v6 v7 y ∧ MdMax y := by
  obtain ⟨ys, k, _, _, hcl, hyl, hf⟩ := DataW.trod_struct Try.underlying33 h
  rw [cells_Md] at hcl
  match ys, hyl, cs, hcl with
  | [y0, y1, y2, y3, y4, y5, y6], _, [w0, w1, w2, w3, w4, w5, w6, w7, w8], _ =>
    have g0 := hf 0 _ rfl
    have g1 := hf 1 _ rfl
    have g2 := hf 2 _ rfl
    have g3 := hf 3 _ rfl
    have g4 := hf 4 _ rfl
    have g5 := hf 5 _ rfl
    have g6 := hf 6 _ rfl
    simp [cells_pg, cells_ints, cells_Md1, cells_Md2, cells_Md3, cells_Md5, cells_Md6] at g0 g1 g2 g3 g4 g5 g6
    obtain ⟨p, u0, u1, u2, e0, a0, a1, a2, m0, m1, m2⟩ := opens_pg _ _ _ g0
    simp at e0
    obtain ⟨rfl, rfl, rfl⟩ := e0
    obtain ⟨r3, k3, e3, a3, m3⟩ := opens_Acs _ _ _ g1
    simp at e3
    subst e3
    obtain ⟨r4, k4, e4, a4, m4⟩ := opens_Gts _ _ _ g2
    simp at e4
    subst e4
    obtain ⟨r5, k5, e5, a5, m5⟩ := opens_Evs _ _ _ g3
    simp at e5
    subst e5
    obtain ⟨r6, k6, e6, a6, m6⟩ := opens_ints _ _ _ g4
    simp at e6
    subst e6
    obtain ⟨r7, k7, e7, a7, m7⟩ := opens_vts _ _ _ g5
    simp at e7
    subst e7
    obtain ⟨k8, e8, _⟩ := DataW.trod_bool Try.underlying4 g6
    simp at e8
    subst e8
    exact ⟨_, _, _, _, _, _, _, _, ⟨p, k3, k4, k5, k6, k7, k8⟩, rfl, ⟨a0, a1, a2, a3, a4, a5, a6, a7⟩, ⟨⟨m0, m1, m2⟩, m3, m4, m5, m6, m7⟩⟩
set_option maxRecDepth 100000 in
theorem md_of {H : Type} {enc : TypeId × Value → H} {W : World} {base : Nat} {v : Value} {d : DataW H} {ps : List MemPlace}
    (ho : Value.okWide Try.prog W .any base 33 v) (h : DataW.Trod enc Try.prog W 0 (fun _ => true) true 33 v d ps) : ∃ v0 v1 v2 v3 v4 v5 v6 v7 x, v = .agg #[v0, v1, v2, v3, v4, v5, v6, v7, .bool x.stopped] ∧ MdAt W v0 v1 v2 v3 v4 v5 v6 v7 x ∧ MdMax x := by
  obtain ⟨cs, rfl, _⟩ := okWide_struct Try.underlying33 ho
  obtain ⟨fuel, hf⟩ := h
  obtain ⟨v0, v1, v2, v3, v4, v5, v6, v7, x, e, h1⟩ := opens_Md _ _ _ hf
  have e2 : cs = #[v0, v1, v2, v3, v4, v5, v6, v7, .bool x.stopped] := by
    have : cs.toList = [v0, v1, v2, v3, v4, v5, v6, v7, .bool x.stopped] := e
    rw [← Array.toList_inj]
    exact this
  subst e2
  exact ⟨v0, v1, v2, v3, v4, v5, v6, v7, x, rfl, h1⟩
end Go.Proofs.Ytkoelibclihekaa

namespace Go.Proofs.Ytkoelibclihekaa
open Go.RowKit

theorem lawAble_whole (v0 v1 v2 v3 v4 v5 v6 v7 : Value) (x : Md) (w : World) (h : MdAt w v0 v1 v2 v3 v4 v5 v6 v7 x) (m : MdMax x) :
    Calls Try.prog 3 #[.agg #[v0, v1, v2, v3, v4, v5, v6, v7, .bool x.stopped]] w fun e w' => e = .returned (.bool true) ∧ Below w.heap.size w w' :=
  lawAble v0 v1 v2 v3 v4 v5 v6 v7 x w h m (fun hl a b c d e f g k z _ hc => specAble_any a b c d e f g k x z hc.at (szMd_len hl).l3) (fun hl a b c d e f g k z _ hc => implAble_any a b c d e f g k x z hc.at (szMd_len hl).l3) (fun hl => ⟨by rw [← ableS_end]; exact Nat.le_trans (ableS_len x _) (szMd_len hl).l3⟩)
end Go.Proofs.Ytkoelibclihekaa
