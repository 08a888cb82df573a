/-
  Rows of numbers and of texts that come in: their reading.
-/
import Derived.Test.YtpamglakdnegcaaDoorTreeY
import Derived.Deep.Slices
import Derived.ProofKit
import Derived.OpenShut
import Derived.ChangeArms
import Derived.Test.YtpamglakdnegcaaDoorLwIn
namespace Go.Proofs.YtpamglakdnegcaaDoor
open Go.RowKit
open Go.ChangeShapes Go.WideShapes Go.ChangeAt Go.Deep

/-- A row of things of s cells each, each told by a relation on its cells. -/
def RowOf {α : Type} (s : Nat) (W : World) (v : Value) (Rel : List Value → α → Prop) (ys : List α) : Prop :=
  ys.length ≤ maxLen ∧ ∃ ao c, v = .slice ao ys.length c ∧ ∀ j (h : j < ys.length), ∃ a cs', ao = some a ∧ a.block < W.heap.size ∧ cs'.length = s ∧ Rel cs' ys[j] ∧ ∀ i u, cs'[i]? = some u → W.cell? ((a.add (j * s)).add i) = some u

theorem opens_row {H : Type} {enc : TypeId × Value → H} {P : Program} {W : World} {α : Type} [Inhabited α] {Rel : List Value → α → Prop} {t e : TypeId} {s fuel : Nat} {cs : List Value} {x : DataW H × List MemPlace}
    (ht : P.underlying t = some (.slice e)) (hs : P.cellsOf e = s) (hpos : 0 < s) (hop : ∀ fuel cs x, DataW.trod enc P W 0 (fun _ => true) true fuel e cs = some x → ∃ y, Rel cs y)
    (h : DataW.trod enc P W 0 (fun _ => true) true fuel t cs = some x) : ∃ v ys, cs = [v] ∧ RowOf s W v Rel ys := by
  rcases open_slice ht h with ⟨rfl, _⟩ | ⟨a, len, c, m, n, D, Pl, rfl, _, hl, hm, hmm, _, hx⟩
  · exact ⟨_, [], rfl, by simp, none, 0, rfl, fun j hj => by simp at hj⟩
  · have hlm : len ≤ m := by rw [hmm]; simp; exact hl
    have hone : ∀ i, i < len → ∃ y : α, ∃ cs', a.block < W.heap.size ∧ cs'.length = s ∧ Rel cs' y ∧ ∀ i' u, cs'[i']? = some u → W.cell? ((a.add (i * s)).add i') = some u := by
      intro i hi
      obtain ⟨cs', h1, h2⟩ := hx i (by omega)
      rw [hs] at h1
      obtain ⟨_, hcl, hcell⟩ := World.cells?_some h1
      obtain ⟨y, hy⟩ := hop _ _ _ h2
      have hall : ∀ i' u, cs'[i']? = some u → W.cell? ((a.add (i * s)).add i') = some u := fun i' u hu => by
        have hi' := (List.getElem?_eq_some_iff.1 hu).1
        rw [hcell i' (by omega)]
        exact hu
      refine ⟨y, cs', ?_, hcl, hy, hall⟩
      have h0 : 0 < cs'.length := by omega
      have h3 := World.block_lt_of_cell? _ _ (hall 0 cs'[0] (List.getElem?_eq_getElem h0))
      rwa [block_add, block_add] at h3
    obtain ⟨f, hfx⟩ := choose_lt (α := α) hone
    refine ⟨_, (List.range len).map f, rfl, by simp; omega, some a, c, by simp, fun j hj => ?_⟩
    obtain ⟨cs', q1, q2, q3, q4⟩ := hfx j (by simpa using hj)
    exact ⟨a, cs', rfl, q1, q2, by simpa using q3, q4⟩
def IntRel (cs : List Value) (x : Int) : Prop := cs = [.int .i64 x]
def StrRel (cs : List Value) (x : ByteArray) : Prop := cs = [.string x] ∧ x.size ≤ maxLen
theorem add_nil (a : Addr) : a.add 0 = a := by simp [Addr.add]
theorem add_some (a : Addr) (n : Nat) (hn : 0 < n) : a.add n = { block := a.block, off := a.off + n } := by
  simp only [Addr.add]
  rw [if_neg (by omega)]
theorem RowOf.ints {W : World} {v : Value} {xs : List Int} (h : RowOf 1 W v IntRel xs) : IntsAt W v xs ∧ IntsMax xs := by
  obtain ⟨h0, ao, c, rfl, hc⟩ := h
  refine ⟨⟨ao, c, rfl, fun j hj => ?_⟩, h0⟩
  obtain ⟨a, cs, rfl, h1, _, e, h3⟩ := hc j hj
  rw [e] at h3
  exact ⟨a, rfl, h1, by have := h3 0 _ rfl; rwa [add_nil, Nat.mul_one] at this⟩
theorem RowOf.strs {W : World} {v : Value} {xs : List ByteArray} (h : RowOf 1 W v StrRel xs) : StrsAt W v xs ∧ StrsMax xs := by
  obtain ⟨h0, ao, c, rfl, hc⟩ := h
  refine ⟨⟨ao, c, rfl, fun j hj => ?_⟩, h0, fun x hx => ?_⟩
  · obtain ⟨a, cs, rfl, h1, _, e, h3⟩ := hc j hj
    rw [e.1] at h3
    exact ⟨a, rfl, h1, by have := h3 0 _ rfl; rwa [add_nil, Nat.mul_one] at this⟩
  · obtain ⟨j, hj, rfl⟩ := List.getElem_of_mem hx
    obtain ⟨a, cs, _, _, _, e, _⟩ := hc j hj
    exact e.2
theorem cells_int : Tryd.prog.cellsOf 3 = 1 := by kernel_rfl
theorem cells_str : Tryd.prog.cellsOf 9 = 1 := by kernel_rfl
theorem cells_ints : Tryd.prog.cellsOf 52 = 1 := by kernel_rfl
theorem cells_strs : Tryd.prog.cellsOf 39 = 1 := by kernel_rfl
section
variable {H : Type} {enc : TypeId × Value → H} {W : World}
theorem opens_int (fuel : Nat) (cs : List Value) (x : DataW H × List MemPlace) (h : DataW.trod enc Tryd.prog W 0 (fun _ => true) true fuel 3 cs = some x) : ∃ y, IntRel cs y := by
  obtain ⟨k, e, _⟩ := DataW.trod_int Tryd.underlying3 h
  exact ⟨k, e⟩
theorem opens_str (fuel : Nat) (cs : List Value) (x : DataW H × List MemPlace) (h : DataW.trod enc Tryd.prog W 0 (fun _ => true) true fuel 9 cs = some x) : ∃ y, StrRel cs y := by
  obtain ⟨k, e, _, hb⟩ := DataW.trod_string Tryd.underlying9 h
  exact ⟨k, e, hb⟩
instance : Inhabited ByteArray := ⟨ByteArray.empty⟩
theorem opens_ints (fuel : Nat) (cs : List Value) (x : DataW H × List MemPlace) (h : DataW.trod enc Tryd.prog W 0 (fun _ => true) true fuel 52 cs = some x) : ∃ v ys, cs = [v] ∧ IntsAt W v ys ∧ IntsMax ys := by
  obtain ⟨v, ys, e, hr⟩ := opens_row Tryd.underlying52 cells_int (by omega) opens_int h
  exact ⟨v, ys, e, hr.ints⟩
theorem opens_strs (fuel : Nat) (cs : List Value) (x : DataW H × List MemPlace) (h : DataW.trod enc Tryd.prog W 0 (fun _ => true) true fuel 39 cs = some x) : ∃ v ys, cs = [v] ∧ StrsAt W v ys ∧ StrsMax ys := by
  obtain ⟨v, ys, e, hr⟩ := opens_row Tryd.underlying39 cells_str (by omega) opens_str h
  exact ⟨v, ys, e, hr.strs⟩
end
end Go.Proofs.YtpamglakdnegcaaDoor

namespace Go.Proofs.YtpamglakdnegcaaDoor
open Go.RowKit
open Go.ChangeShapes Go.WideShapes Go.ChangeAt Go.Deep

theorem cells_In : Tryd.prog.cellsOf 23 = 4 := by kernel_rfl
section
variable {H : Type} {enc : TypeId × Value → H} {W : World}
set_option maxRecDepth 100000 in
theorem opens_In (fuel : Nat) (cs : List Value) (x : DataW H × List MemPlace) (h : DataW.trod enc Tryd.prog W 0 (fun _ => true) true fuel 23 cs = some x) : ∃ y : In4, cs = [.int .i64 y.op, .int .i64 y.a, .int .i64 y.b, .int .i64 y.c] := by
  obtain ⟨ys, k, _, _, hcl, hyl, hf⟩ := DataW.trod_struct Tryd.underlying23 h
  rw [cells_In] at hcl
  match ys, hyl, cs, hcl with
  | [y0, y1, y2, y3], _, [w0, w1, w2, w3], _ =>
    have g0 := hf 0 _ rfl
    have g1 := hf 1 _ rfl
    have g2 := hf 2 _ rfl
    have g3 := hf 3 _ rfl
    simp [cells_int] at g0 g1 g2 g3
    obtain ⟨k0, e0⟩ := opens_int _ _ _ g0
    obtain ⟨k1, e1⟩ := opens_int _ _ _ g1
    obtain ⟨k2, e2⟩ := opens_int _ _ _ g2
    obtain ⟨k3, e3⟩ := opens_int _ _ _ g3
    simp [IntRel] at e0 e1 e2 e3
    subst e0 e1 e2 e3
    exact ⟨⟨k0, k1, k2, k3⟩, rfl⟩
end
set_option maxRecDepth 100000 in
theorem in_of {H : Type} {enc : TypeId × Value → H} {W : World} {base : Nat} {v : Value} {d : DataW H} {ps : List MemPlace}
    (ho : Value.okWide Tryd.prog W .any base 23 v) (h : DataW.Trod enc Tryd.prog W 0 (fun _ => true) true 23 v d ps) : ∃ x : In4, v = .agg #[.int .i64 x.op, .int .i64 x.a, .int .i64 x.b, .int .i64 x.c] ∧ True ∧ True := by
  obtain ⟨cs, rfl, _⟩ := okWide_struct Tryd.underlying23 ho
  obtain ⟨fuel, hf⟩ := h
  obtain ⟨x, e⟩ := opens_In _ _ _ hf
  have e2 : cs = #[.int .i64 x.op, .int .i64 x.a, .int .i64 x.b, .int .i64 x.c] := by
    have : cs.toList = [.int .i64 x.op, .int .i64 x.a, .int .i64 x.b, .int .i64 x.c] := e
    rw [← Array.toList_inj]
    exact this
  subst e2
  exact ⟨x, rfl, trivial, trivial⟩
end Go.Proofs.YtpamglakdnegcaaDoor
