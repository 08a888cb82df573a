/-
  Lemmas that speak of no program: rows of values and of structs, with where they lie.
-/
import Derived.Test.YtgeomgghecmkbaaBoxP
import Derived.Test.YtgeomgghecmkbaaTreeQ
import Derived.Laws.MakeOwn
namespace Go.Proofs.Ytgeomgghecmkbaa
open Go.RowKit

/-- Blocks from a base on that were there stay as they are. -/
structure KeptFrom (base : Nat) (w w' : World) : Prop where
  size : w.heap.size ≤ w'.heap.size
  block : ∀ b, base ≤ b → b < w.heap.size → w'.heap[b]? = w.heap[b]?
theorem KeptFrom.refl (base : Nat) (w : World) : KeptFrom base w w := ⟨Nat.le_refl _, fun _ _ _ => rfl⟩
theorem KeptFrom.trans {base : Nat} {a b c : World} (h : KeptFrom base a b) (k : KeptFrom base b c) : KeptFrom base a c :=
  ⟨Nat.le_trans h.size k.size, fun b h1 h2 => (k.block b h1 (Nat.lt_of_lt_of_le h2 h.size)).trans (h.block b h1 h2)⟩
theorem KeptFrom.mono {base base' : Nat} {a b : World} (h : KeptFrom base a b) (hb : base ≤ base') : KeptFrom base' a b := ⟨h.size, fun b h1 h2 => h.block b (Nat.le_trans hb h1) h2⟩
theorem KeptFrom.cell {base : Nat} {w w' : World} (h : KeptFrom base w w') {p : Addr} (h1 : base ≤ p.block) (h2 : p.block < w.heap.size) : w'.cell? p = w.cell? p := World.cell?_of_block (h.block p.block h1 h2)
theorem KeptFrom.below {base : Nat} {w w' : World} (hb : Below w.heap.size w w') : KeptFrom base w w' := ⟨hb.size, fun b _ h => hb.block b h⟩
theorem KeptFrom.setCell {base g : Nat} (hg : g < base) (w : World) (o : Nat) (v : Value) : KeptFrom base w (w.setCell ⟨g, o, none⟩ v) :=
  ⟨by simp [World.setCell], fun b h1 _ => Below.heap_setCell w ⟨g, o, none⟩ v b (by show b ≠ g; omega)⟩
theorem KeptFrom.setCells {base g : Nat} (hg : g < base) : ∀ (vs : List Value) (o : Nat) (w : World), KeptFrom base w (w.setCells g o vs)
  | [], _, _ => KeptFrom.refl _ _
  | v :: r, o, w => (KeptFrom.setCell hg w o v).trans (KeptFrom.setCells hg r (o + 1) _)

/-- A slice whose room is as long as it is. -/
def Room : Value → Prop
  | .slice _ n c => n ≤ c
  | _ => True
/-- A row's place: the beginning of a block that may be written. -/
def Soft (w : World) (a : Addr) : Prop := a = ⟨a.block, 0, none⟩ ∧ ∀ j, w.frozen? ⟨a.block, j, none⟩ = false
theorem Soft.kept {w w' : World} {a : Addr} (h : Soft w a) (e : w'.heap[a.block]? = w.heap[a.block]?) : Soft w' a := ⟨h.1, fun j => (World.frozen?_of_block (w := w) (a := ⟨a.block, j, none⟩) e).trans (h.2 j)⟩
/-- A row of values, one cell each, in blocks from a base on. -/
def CellsIn (base : Nat) (w : World) (v : Value) (vs : List Value) : Prop :=
  ∃ ao c, v = .slice ao vs.length c ∧ (vs.length ≤ c ∧ (0 < vs.length → ∀ a, ao = some a → Soft w a)) ∧ ∀ j u, vs[j]? = some u → ∃ a, ao = some a ∧ base ≤ a.block ∧ a.block < w.heap.size ∧ w.cell? (a.add j) = some u
/-- A row of structs of s cells each. -/
def StructsIn (s base : Nat) (w : World) (v : Value) (css : List (List Value)) : Prop :=
  ∃ ao c, v = .slice ao css.length c ∧ (css.length ≤ c ∧ (0 < css.length → ∀ a, ao = some a → Soft w a)) ∧ ∀ j cs, css[j]? = some cs → cs.length = s ∧ ∃ a, ao = some a ∧ base ≤ a.block ∧ a.block < w.heap.size ∧ ∀ i u, cs[i]? = some u → w.cell? (a.add (j * s + i)) = some u

theorem CellsIn.kept {base : Nat} {w w' : World} {v : Value} {vs : List Value} (h : CellsIn base w v vs) (k : KeptFrom base w w') : CellsIn base w' v vs := by
  obtain ⟨ao, c, rfl, hr, hc⟩ := h
  refine ⟨ao, c, rfl, ⟨hr.1, fun h0 a ha => (hr.2 h0 a ha).kept ?_⟩, fun j u hj => ?_⟩
  · obtain ⟨a', e', h1, h2, _⟩ := hc 0 _ (List.getElem?_eq_getElem h0)
    rw [ha] at e'
    injection e' with e'
    subst e'
    exact k.block a.block h1 h2
  obtain ⟨a, rfl, h1, h2, h3⟩ := hc j u hj
  exact ⟨a, rfl, h1, Nat.lt_of_lt_of_le h2 k.size, (k.cell (by rw [block_add]; exact h1) (by rw [block_add]; exact h2)).trans h3⟩
theorem CellsIn.mono {base base' : Nat} {w : World} {v : Value} {vs : List Value} (h : CellsIn base w v vs) (hb : base' ≤ base) : CellsIn base' w v vs := by
  obtain ⟨ao, c, rfl, hr, hc⟩ := h
  refine ⟨ao, c, rfl, hr, fun j u hj => ?_⟩
  obtain ⟨a, rfl, h1, h2⟩ := hc j u hj
  exact ⟨a, rfl, Nat.le_trans hb h1, h2⟩
theorem StructsIn.kept {s base : Nat} {w w' : World} {v : Value} {css : List (List Value)} (h : StructsIn s base w v css) (k : KeptFrom base w w') : StructsIn s base w' v css := by
  obtain ⟨ao, c, rfl, hr, hc⟩ := h
  refine ⟨ao, c, rfl, ⟨hr.1, fun h0 a ha => (hr.2 h0 a ha).kept ?_⟩, fun j cs hj => ?_⟩
  · obtain ⟨_, a', e', h1, h2, _⟩ := hc 0 _ (List.getElem?_eq_getElem h0)
    rw [ha] at e'
    injection e' with e'
    subst e'
    exact k.block a.block h1 h2
  obtain ⟨hl, a, rfl, h1, h2, h3⟩ := hc j cs hj
  exact ⟨hl, a, rfl, h1, Nat.lt_of_lt_of_le h2 k.size, fun i u hi => (k.cell (by rw [block_add]; exact h1) (by rw [block_add]; exact h2)).trans (h3 i u hi)⟩
theorem StructsIn.mono {s base base' : Nat} {w : World} {v : Value} {css : List (List Value)} (h : StructsIn s base w v css) (hb : base' ≤ base) : StructsIn s base' w v css := by
  obtain ⟨ao, c, rfl, hr, hc⟩ := h
  refine ⟨ao, c, rfl, hr, fun j cs hj => ?_⟩
  obtain ⟨hl, a, rfl, h1, h2⟩ := hc j cs hj
  exact ⟨hl, a, rfl, Nat.le_trans hb h1, h2⟩

theorem add_zero_at (g j : Nat) : (⟨g, 0, none⟩ : Addr).add j = ⟨g, j, none⟩ := by
  simp only [Addr.add]
  split
  · next h => subst h; rfl
  · simp
theorem CellsIn.own {base n : Nat} {w : World} {e : TypeId} {v : Value} {vs : List Value} (h : w.ownsRow base e 1 v n vs) : CellsIn base w v vs := by
  have hl : vs.length = n := by simpa using h.1
  rcases h.2 with ⟨rfl, h0⟩ | ⟨g, cap, cur, rfl, hb1, hg, hr, _⟩
  · exact ⟨none, 0, by rw [hl, h0], ⟨by omega, fun _ a ha => by cases ha⟩, fun j u hj => by
      have := (List.getElem?_eq_some_iff.1 hj).1
      omega⟩
  · refine ⟨_, cap, by rw [hl], ⟨by omega, fun _ a ha => by cases ha; exact ⟨rfl, fun j => h.frozenAt j⟩⟩, fun j u hj => ⟨_, rfl, hb1, (h.lt g rfl).2, ?_⟩⟩
    have hj2 := (List.getElem?_eq_some_iff.1 hj).1
    rw [add_zero_at, h.cellAt j (by omega)]
    exact hj

/-- Several cells of an owned row are written. -/
def setLs : List Value → Nat → List Value → List Value
  | xs, _, [] => xs
  | xs, o, v :: r => setLs (xs.set o v) (o + 1) r
theorem owns_setCells {base : Nat} {e : TypeId} {size g n cap : Nat} : ∀ (vs : List Value) (o : Nat) (w : World) (xs : List Value), w.ownsRow base e size (.slice (some ⟨g, 0, none⟩) n cap) n xs →
    (w.setCells g o vs).ownsRow base e size (.slice (some ⟨g, 0, none⟩) n cap) n (setLs xs o vs)
  | [], _, _, _, h => h
  | v :: r, o, _, _, h => owns_setCells r (o + 1) _ _ (h.stored o v).1
theorem bel_setCells {B g : Nat} {a : World} (hg : B ≤ g) : ∀ (vs : List Value) (o : Nat) (w : World), Below B a w → Below B a (w.setCells g o vs)
  | [], _, _, h => h
  | v :: r, o, _, h => bel_setCells hg r (o + 1) _ (h.setCell (p := ⟨g, o, none⟩) hg v)
theorem setLs_append : ∀ (vs : List Value) (l1 l2 : List Value) (o : Nat), setLs (l1 ++ l2) (l1.length + o) vs = l1 ++ setLs l2 o vs
  | [], _, _, _ => rfl
  | v :: r, l1, l2, o => by
    rw [setLs, setLs, List.set_append_right _ _ (by omega), show l1.length + o - l1.length = o from by omega, Nat.add_assoc, setLs_append r]
theorem setLs_all : ∀ (vs l1 l2 : List Value), l1.length = vs.length → setLs (l1 ++ l2) 0 vs = vs ++ l2
  | [], [], l2, _ => rfl
  | v :: r, x :: l1, l2, h => by
    have e : setLs (x :: l1 ++ l2) 0 (v :: r) = setLs ([v] ++ (l1 ++ l2)) ([v].length + 0) r := rfl
    rw [e, setLs_append, setLs_all r l1 l2 (by simpa using h)]
    rfl
theorem setLs_flat {s : Nat} : ∀ (css : List (List Value)) (k : Nat) (y : List Value), (∀ c ∈ css, c.length = s) → y.length = s → k < css.length → setLs css.flatten (k * s) y = (css.set k y).flatten
  | c :: css, 0, y, h, hy, _ => by
    have hc : c.length = y.length := by rw [h c (by simp), hy]
    simp only [List.flatten_cons, Nat.zero_mul, List.set_cons_zero]
    exact setLs_all y c _ hc
  | c :: css, k + 1, y, h, hy, hk => by
    have e : (k + 1) * s = c.length + k * s := by rw [h c (by simp), Nat.add_mul, Nat.one_mul, Nat.add_comm]
    simp only [List.flatten_cons, List.set_cons_succ]
    rw [e, setLs_append, setLs_flat css k y (fun c hc => h c (by simp [hc])) hy (by simpa using hk)]
theorem flat_len {s : Nat} : ∀ (css : List (List Value)), (∀ c ∈ css, c.length = s) → css.flatten.length = css.length * s
  | [], _ => by simp
  | c :: css, h => by
    rw [List.flatten_cons, List.length_append, flat_len css (fun c hc => h c (by simp [hc])), h c (by simp), List.length_cons, Nat.add_mul, Nat.one_mul, Nat.add_comm]
theorem flat_at {s : Nat} : ∀ (css : List (List Value)) (k i : Nat) (cs : List Value), (∀ c ∈ css, c.length = s) → css[k]? = some cs → i < s → css.flatten[k * s + i]? = cs[i]?
  | c :: css, 0, i, cs, h, hk, hi => by
    simp at hk
    subst hk
    rw [List.flatten_cons, Nat.zero_mul, Nat.zero_add, List.getElem?_append_left (by rw [h c (by simp)]; exact hi)]
  | c :: css, k + 1, i, cs, h, hk, hi => by
    have e : (k + 1) * s + i = c.length + (k * s + i) := by rw [h c (by simp), Nat.add_mul, Nat.one_mul]; omega
    rw [List.flatten_cons, e, List.getElem?_append_right (by omega), show c.length + (k * s + i) - c.length = k * s + i by omega]
    exact flat_at css k i cs (fun c hc => h c (by simp [hc])) (by simpa using hk) hi
theorem StructsIn.own {s base n : Nat} {w : World} {e : TypeId} {v : Value} {css : List (List Value)} (h : w.ownsRow base e s v n css.flatten) (hn : css.length = n) (hs : ∀ c ∈ css, c.length = s) : StructsIn s base w v css := by
  rcases h.2 with ⟨rfl, h0⟩ | ⟨g, cap, cur, rfl, hb1, hg, hr, _⟩
  · exact ⟨none, 0, by rw [hn, h0], ⟨by omega, fun _ a ha => by cases ha⟩, fun j u hj => by
      have := (List.getElem?_eq_some_iff.1 hj).1
      omega⟩
  · refine ⟨_, cap, by rw [hn], ⟨by omega, fun _ a ha => by cases ha; exact ⟨rfl, fun j => h.frozenAt j⟩⟩, fun j cs hj => ⟨hs cs (List.mem_of_getElem? hj), _, rfl, hb1, (h.lt g rfl).2, fun i u hi => ?_⟩⟩
    have hi2 : i < s := by rw [← hs cs (List.mem_of_getElem? hj)]; exact (List.getElem?_eq_some_iff.1 hi).1
    exact h.cells rfl (j * s + i) u (by rw [flat_at css j i cs hs hj hi2]; exact hi)

/-- The cells of a row that is owned are there and may be written. -/
theorem own_there {w : World} {base : Nat} {e : TypeId} {size g n cap : Nat} {xs : List Value} (h : w.ownsRow base e size (.slice (some ⟨g, 0, none⟩) n cap) n xs) (k : Nat) (hk : k < n) (j : Nat) (hj : j < size) : (∃ u, w.cell? ⟨g, k * size + j, none⟩ = some u) ∧ w.frozen? ⟨g, k * size + j, none⟩ = false := by
  have hlt : k * size + j < n * size := by
    have : (k + 1) * size ≤ n * size := Nat.mul_le_mul_right _ hk
    rw [Nat.add_mul] at this; omega
  refine ⟨?_, h.frozenAt _⟩
  rw [h.cellAt _ hlt, List.getElem?_eq_getElem (by rw [h.1]; exact hlt)]
  exact ⟨_, rfl⟩

/-- What make lays: n times the zero value's cells. -/
theorem made_flat (z : List Value) (hz : 0 < z.length) (n : Nat) : (madeCells z.toArray (n * z.length)).toList = (List.replicate n z).flatten := by
  apply List.ext_getElem?
  intro i
  by_cases hi : i < n * z.length
  · have hd : i / z.length < n := Nat.div_lt_of_lt_mul (by rw [Nat.mul_comm]; exact hi)
    have hm : i % z.length < z.length := Nat.mod_lt _ hz
    have e : i / z.length * z.length + i % z.length = i := by rw [Nat.mul_comm]; exact Nat.div_add_mod i z.length
    have h1 := flat_at (s := z.length) (List.replicate n z) (i / z.length) (i % z.length) z (fun c hc => by rw [(List.mem_replicate.1 hc).2]) (by simp [hd]) hm
    rw [e] at h1
    rw [h1]
    simp only [madeCells, Array.toList_map, Array.toList_range, List.getElem?_map, List.getElem?_range hi, Option.map_some]
    simp [hm]
  · rw [List.getElem?_eq_none (by rw [Array.length_toList, size_madeCells]; omega), List.getElem?_eq_none (by rw [flat_len (s := z.length) _ (fun c hc => by rw [(List.mem_replicate.1 hc).2])]; simp; omega)]
end Go.Proofs.Ytgeomgghecmkbaa
