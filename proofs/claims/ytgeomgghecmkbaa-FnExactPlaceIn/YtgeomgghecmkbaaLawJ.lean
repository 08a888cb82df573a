/-
  Rows of numbers and of texts that come in: their reading.
-/
import Derived.Test.YtgeomgghecmkbaaLawZ
import Derived.Deep.Slices
import Derived.ProofKit
import Derived.OpenShut
import Derived.ChangeArms
namespace Go.Proofs.Ytgeomgghecmkbaa
open Go.RowKit
open Go.ChangeShapes Go.WideShapes Go.ChangeAt Go.Deep

/-- A row of things of s cells each, each told by a relation on its cells. -/
def RowOf {α : Type} (s : Nat) (W : World) (v : Value) (Rel : List Value → α → Prop) (ys : List α) : Prop :=
  ys.length ≤ maxLen ∧ ∃ ao c, v = .slice ao ys.length c ∧ ∀ j (h : j < ys.length), ∃ a cs', ao = some a ∧ a.block < W.heap.size ∧ cs'.length = s ∧ Rel cs' ys[j] ∧ ∀ i u, cs'[i]? = some u → W.cell? ((a.add (j * s)).add i) = some u

theorem opens_row {H : Type} {enc : TypeId × Value → H} {P : Program} {W : World} {α : Type} [Inhabited α] {Rel : List Value → α → Prop} {t e : TypeId} {s fuel : Nat} {cs : List Value} {x : DataW H × List MemPlace}
    (ht : P.underlying t = some (.slice e)) (hs : P.cellsOf e = s) (hpos : 0 < s) (hop : ∀ fuel cs x, DataW.trod enc P W 0 (fun _ => true) true fuel e cs = some x → ∃ y, Rel cs y)
    (h : DataW.trod enc P W 0 (fun _ => true) true fuel t cs = some x) : ∃ v ys, cs = [v] ∧ RowOf s W v Rel ys := by
  rcases open_slice ht h with ⟨rfl, _⟩ | ⟨a, len, c, m, n, D, Pl, rfl, _, hl, hm, hmm, _, hx⟩
  · exact ⟨_, [], rfl, by simp, none, 0, rfl, fun j hj => by simp at hj⟩
  · have hlm : len ≤ m := by rw [hmm]; simp; exact hl
    have hone : ∀ i, i < len → ∃ y : α, ∃ cs', a.block < W.heap.size ∧ cs'.length = s ∧ Rel cs' y ∧ ∀ i' u, cs'[i']? = some u → W.cell? ((a.add (i * s)).add i') = some u := by
      intro i hi
      obtain ⟨cs', h1, h2⟩ := hx i (by omega)
      rw [hs] at h1
      obtain ⟨_, hcl, hcell⟩ := World.cells?_some h1
      obtain ⟨y, hy⟩ := hop _ _ _ h2
      have hall : ∀ i' u, cs'[i']? = some u → W.cell? ((a.add (i * s)).add i') = some u := fun i' u hu => by
        have hi' := (List.getElem?_eq_some_iff.1 hu).1
        rw [hcell i' (by omega)]
        exact hu
      refine ⟨y, cs', ?_, hcl, hy, hall⟩
      have h0 : 0 < cs'.length := by omega
      have h3 := World.block_lt_of_cell? _ _ (hall 0 cs'[0] (List.getElem?_eq_getElem h0))
      rwa [block_add, block_add] at h3
    obtain ⟨f, hfx⟩ := choose_lt (α := α) hone
    refine ⟨_, (List.range len).map f, rfl, by simp; omega, some a, c, by simp, fun j hj => ?_⟩
    obtain ⟨cs', q1, q2, q3, q4⟩ := hfx j (by simpa using hj)
    exact ⟨a, cs', rfl, q1, q2, by simpa using q3, q4⟩
def IntRel (cs : List Value) (x : Int) : Prop := cs = [.int .i64 x]
def StrRel (cs : List Value) (x : ByteArray) : Prop := cs = [.string x] ∧ x.size ≤ maxLen
theorem add_nil (a : Addr) : a.add 0 = a := by simp [Addr.add]
theorem add_some (a : Addr) (n : Nat) (hn : 0 < n) : a.add n = { block := a.block, off := a.off + n } := by
  simp only [Addr.add]
  rw [if_neg (by omega)]
theorem RowOf.ints {W : World} {v : Value} {xs : List Int} (h : RowOf 1 W v IntRel xs) : IntsAt W v xs ∧ IntsMax xs := by
  obtain ⟨h0, ao, c, rfl, hc⟩ := h
  refine ⟨⟨ao, c, rfl, fun j hj => ?_⟩, h0⟩
  obtain ⟨a, cs, rfl, h1, _, e, h3⟩ := hc j hj
  rw [e] at h3
  exact ⟨a, rfl, h1, by have := h3 0 _ rfl; rwa [add_nil, Nat.mul_one] at this⟩
theorem RowOf.strs {W : World} {v : Value} {xs : List ByteArray} (h : RowOf 1 W v StrRel xs) : StrsAt W v xs ∧ StrsMax xs := by
  obtain ⟨h0, ao, c, rfl, hc⟩ := h
  refine ⟨⟨ao, c, rfl, fun j hj => ?_⟩, h0, fun x hx => ?_⟩
  · obtain ⟨a, cs, rfl, h1, _, e, h3⟩ := hc j hj
    rw [e.1] at h3
    exact ⟨a, rfl, h1, by have := h3 0 _ rfl; rwa [add_nil, Nat.mul_one] at this⟩
  · obtain ⟨j, hj, rfl⟩ := List.getElem_of_mem hx
    obtain ⟨a, cs, _, _, _, e, _⟩ := hc j hj
    exact e.2
theorem cells_int : Try.prog.cellsOf 3 = 1 := by kernel_rfl
theorem cells_str : Try.prog.cellsOf 9 = 1 := by kernel_rfl
theorem cells_ints : Try.prog.cellsOf 23 = 1 := by kernel_rfl
theorem cells_strs : Try.prog.cellsOf 22 = 1 := by kernel_rfl
section
variable {H : Type} {enc : TypeId × Value → H} {W : World}
theorem opens_int (fuel : Nat) (cs : List Value) (x : DataW H × List MemPlace) (h : DataW.trod enc Try.prog W 0 (fun _ => true) true fuel 3 cs = some x) : ∃ y, IntRel cs y := by
  obtain ⟨k, e, _⟩ := DataW.trod_int Try.underlying3 h
  exact ⟨k, e⟩
theorem opens_str (fuel : Nat) (cs : List Value) (x : DataW H × List MemPlace) (h : DataW.trod enc Try.prog W 0 (fun _ => true) true fuel 9 cs = some x) : ∃ y, StrRel cs y := by
  obtain ⟨k, e, _, hb⟩ := DataW.trod_string Try.underlying9 h
  exact ⟨k, e, hb⟩
instance : Inhabited ByteArray := ⟨ByteArray.empty⟩
theorem opens_ints (fuel : Nat) (cs : List Value) (x : DataW H × List MemPlace) (h : DataW.trod enc Try.prog W 0 (fun _ => true) true fuel 23 cs = some x) : ∃ v ys, cs = [v] ∧ IntsAt W v ys ∧ IntsMax ys := by
  obtain ⟨v, ys, e, hr⟩ := opens_row Try.underlying23 cells_int (by omega) opens_int h
  exact ⟨v, ys, e, hr.ints⟩
theorem opens_strs (fuel : Nat) (cs : List Value) (x : DataW H × List MemPlace) (h : DataW.trod enc Try.prog W 0 (fun _ => true) true fuel 22 cs = some x) : ∃ v ys, cs = [v] ∧ StrsAt W v ys ∧ StrsMax ys := by
  obtain ⟨v, ys, e, hr⟩ := opens_row Try.underlying22 cells_str (by omega) opens_str h
  exact ⟨v, ys, e, hr.strs⟩
end
end Go.Proofs.Ytgeomgghecmkbaa
