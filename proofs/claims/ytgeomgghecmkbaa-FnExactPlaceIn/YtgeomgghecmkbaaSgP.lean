/-
  Signs as values: four cells each; rows of them.
-/
import Derived.Test.YtgeomgghecmkbaaAid
import Derived.DataElems
import Derived.Laws.Cells
import Derived.Deep.MidRow
namespace Go.Proofs.Ytgeomgghecmkbaa
open Go.RowKit

/-- A sign: its kind, its text, its number, its place. -/
structure Sg where
  kind : Int
  text : ByteArray
  num : Int
  place : Int

def Sg.cells (x : Sg) : List Value := [.int .i64 x.kind, .string x.text, .int .i64 x.num, .int .i64 x.place]
abbrev Sg.val (x : Sg) : Value := .agg #[.int .i64 x.kind, .string x.text, .int .i64 x.num, .int .i64 x.place]
def sgCells (xs : List Sg) : List Value := xs.flatMap Sg.cells

theorem sgCells_len (xs : List Sg) : (sgCells xs).length = xs.length * 4 := by
  induction xs with
  | nil => rfl
  | cons x xs ih => simp only [sgCells, List.flatMap_cons, List.length_append, List.length_cons] at ih ⊢; rw [ih]; simp [Sg.cells]; omega
theorem sgCells_append (xs ys : List Sg) : sgCells (xs ++ ys) = sgCells xs ++ sgCells ys := by simp [sgCells]
theorem sgCells_at : ∀ (xs : List Sg) (j f : Nat) (h : j < xs.length), f < 4 → (sgCells xs)[j * 4 + f]? = xs[j].cells[f]?
  | x :: xs, 0, f, h, hf => by
    simp only [sgCells, List.flatMap_cons]
    rw [List.getElem?_append_left (by simp [Sg.cells]; omega)]
    simp
  | x :: xs, j + 1, f, h, hf => by
    simp only [sgCells, List.flatMap_cons]
    rw [List.getElem?_append_right (by simp [Sg.cells]; omega)]
    have := sgCells_at xs j f (by simpa using h) hf
    simp only [sgCells] at this
    rw [show (j + 1) * 4 + f - x.cells.length = j * 4 + f from by simp [Sg.cells]; omega, this]
    rfl

/-- The cells of a sign, from an address on. -/
def SgCell (w : World) (a : Addr) (x : Sg) : Prop := w.cell? a = some (.int .i64 x.kind) ∧ w.cell? (a.add 1) = some (.string x.text) ∧ w.cell? (a.add 2) = some (.int .i64 x.num) ∧ w.cell? (a.add 3) = some (.int .i64 x.place)

/-- A row of signs that can be read. -/
def SgAt (w : World) (v : Value) (xs : List Sg) : Prop :=
  ∃ ao c, v = .slice ao xs.length c ∧ ∀ j (h : j < xs.length), ∃ a, ao = some a ∧ a.block < w.heap.size ∧ SgCell w (a.add (j * 4)) xs[j]

theorem SgCell.readVar {P : Program} {w : World} {a : Addr} {x : Sg} (h : SgCell w a x) (ty : TypeId) (d : TypeDesc) (hu : P.underlying ty = some d) (hd : d.isRow = true) (hi : (P.info? ty).map (·.size) = some 4) :
    (loadVar ty a).run P w = .ok x.val w := by
  obtain ⟨h0, h1, h2, h3⟩ := h
  have hl : (loadCells a 4).run P w = .ok #[.int .i64 x.kind, .string x.text, .int .i64 x.num, .int .i64 x.place] w :=
    run_loadCells_list (P := P) w a x.cells (fun j v hv => by
      match j, hv with
      | 0, hv => simp [Sg.cells] at hv; subst hv; simpa [Addr.add] using h0
      | 1, hv => simp [Sg.cells] at hv; subst hv; exact h1
      | 2, hv => simp [Sg.cells] at hv; subst hv; exact h2
      | 3, hv => simp [Sg.cells] at hv; subst hv; exact h3
      | j + 4, hv => simp [Sg.cells] at hv)
  cases hq : P.info? ty with
  | none => simp [hq] at hi
  | some i =>
    have hs : i.size = 4 := by simpa [hq] using hi
    have hagg : (isAgg ty).run P w = .ok true w := by
      unfold isAgg
      rw [Sem.run_bind, run_underlying hu w]
      cases d <;> simp_all
    simp [loadVar, Sem.run_bind, hagg, sizeOf, typeInfo, hq, hs, hl]

/-- What a function hands back that keeps its one result in memory. -/
theorem results_cell {P : Program} {fn : Func} {p : Tmp} {ty : TypeId} (h : fn.results = #[.cell p ty]) (tmps : Array Value) (w : World) {a : Addr} (hp : tmps.getD p undef = .pointer (some a)) {v : Value} (hl : (loadVar ty a).run P w = .ok v w) :
    (results fn tmps).run P w = .ok v w := by
  have hp' : tmps[p]?.getD undef = .pointer (some a) := by simpa using hp
  simp only [results, h]
  simp [hp', asAddr, hl]

theorem SgCell.stays {B : Nat} {w w' : World} {a : Addr} {x : Sg} (h : SgCell w a x) (hb : Below B w w') (ha : a.block < B) : SgCell w' a x := by
  have e : ∀ n, (a.add n).block = a.block := fun n => by simp only [Addr.add]; split <;> rfl
  obtain ⟨h0, h1, h2, h3⟩ := h
  exact ⟨(hb.cell ha).trans h0, (hb.cell (by rw [e]; exact ha)).trans h1, (hb.cell (by rw [e]; exact ha)).trans h2, (hb.cell (by rw [e]; exact ha)).trans h3⟩

theorem SgAt.stays {w w' : World} {v : Value} {xs : List Sg} (h : SgAt w v xs) (hb : Below w.heap.size w w') : SgAt w' v xs := by
  obtain ⟨ao, c, rfl, hc⟩ := h
  refine ⟨ao, c, rfl, fun j hj => ?_⟩
  obtain ⟨a, rfl, ha, hx⟩ := hc j hj
  have e : (a.add (j * 4)).block = a.block := by simp only [Addr.add]; split <;> rfl
  exact ⟨a, rfl, Nat.lt_of_lt_of_le ha hb.size, hx.stays hb (by rw [e]; exact ha)⟩

/-- A row that is owned can be read. -/
theorem SgAt.own {w : World} {base : Nat} {e : TypeId} {v : Value} {n : Nat} {xs : List Sg} (h : w.ownsRow base e 4 v n (sgCells xs)) : SgAt w v xs ∧ xs.length = n := by
  have hl : xs.length = n := by
    have := h.1; rw [sgCells_len] at this; omega
  refine ⟨?_, hl⟩
  rcases h.2 with ⟨rfl, h0⟩ | ⟨g, cap, cur, rfl, _⟩
  · exact ⟨none, 0, by rw [hl, h0], fun j hj => by omega⟩
  · refine ⟨some ⟨g, 0, none⟩, cap, by rw [hl], fun j hj => ⟨_, rfl, (h.lt g rfl).2, ?_⟩⟩
    have hc : ∀ f u, f < 4 → xs[j].cells[f]? = some u → w.cell? (((⟨g, 0, none⟩ : Addr).add (j * 4)).add f) = some u := fun f u hf hu => by
      rw [Addr.add_add]
      exact h.cells rfl (j * 4 + f) u (by rw [sgCells_at xs j f hj hf]; exact hu)
    refine ⟨?_, hc 1 _ (by omega) rfl, hc 2 _ (by omega) rfl, hc 3 _ (by omega) rfl⟩
    have := hc 0 _ (by omega) rfl
    rwa [show (((⟨g, 0, none⟩ : Addr).add (j * 4)).add 0) = (⟨g, 0, none⟩ : Addr).add (j * 4) from by simp [Addr.add]] at this

theorem add_block (a : Addr) (n : Nat) : (a.add n).block = a.block := by simp only [Addr.add]; split <;> rfl

/-- The cells in the words of a walk. -/
theorem SgCell.facts {w : World} {a : Addr} {x : Sg} (h : SgCell w a x) : w.cell? a = some (.int .i64 x.kind) ∧ w.cell? { block := a.block, off := a.off + 1 } = some (.string x.text) ∧ w.cell? { block := a.block, off := a.off + 2 } = some (.int .i64 x.num) ∧ w.cell? { block := a.block, off := a.off + 3 } = some (.int .i64 x.place) := h

/-- How much a row of signs holds. -/
def sgSz (xs : List Sg) : Nat := (xs.map fun x => x.text.size).sum
theorem sgSz_take (xs : List Sg) (k : Nat) (h : k < xs.length) : sgSz (xs.take (k + 1)) = sgSz (xs.take k) + xs[k].text.size := by
  unfold sgSz
  rw [List.take_succ_eq_append_getElem h, List.map_append, List.sum_append]
  simp
theorem sgSz_take_le (xs : List Sg) (k : Nat) : sgSz (xs.take k) ≤ sgSz xs := by
  conv => rhs; rw [← List.take_append_drop k xs]
  unfold sgSz
  rw [List.map_append, List.sum_append]
  omega

/-- A new block that holds a sign. -/
theorem SgCell.new (w : World) (x : Sg) (e : TypeId) : SgCell (w.alloc (.cells #[.int .i64 x.kind, .string x.text, .int .i64 x.num, .int .i64 x.place] e)) ⟨w.heap.size, 0, none⟩ x := by
  simp [SgCell, Addr.add]

/-- The cells of a row that is owned are there and may be written. -/
theorem there_own {w : World} {base : Nat} {e : TypeId} {size g n cap : Nat} {xs : List Value} (h : w.ownsRow base e size (.slice (some ⟨g, 0, none⟩) n cap) n xs) (k : Nat) (hk : k < n) : w.there g (k * size) size := by
  intro j hj
  have hlt : k * size + j < n * size := by
    have : (k + 1) * size ≤ n * size := Nat.mul_le_mul_right _ hk
    rw [Nat.add_mul] at this; omega
  refine ⟨?_, h.frozenAt _⟩
  rw [h.cellAt _ hlt, List.getElem?_eq_getElem (by rw [h.1]; exact hlt)]
  rfl

/-- Several cells of an owned row are written. -/
def setL : List Value → Nat → List Value → List Value
  | xs, _, [] => xs
  | xs, o, v :: r => setL (xs.set o v) (o + 1) r
theorem ownsRow_setCells {base : Nat} {e : TypeId} {size g n cap : Nat} : ∀ (vs : List Value) (o : Nat) (w : World) (xs : List Value), w.ownsRow base e size (.slice (some ⟨g, 0, none⟩) n cap) n xs →
    (w.setCells g o vs).ownsRow base e size (.slice (some ⟨g, 0, none⟩) n cap) n (setL xs o vs)
  | [], _, _, _, h => h
  | v :: r, o, _, _, h => ownsRow_setCells r (o + 1) _ _ (h.stored o v).1
theorem below_setCells {B g : Nat} {a : World} (hg : B ≤ g) : ∀ (vs : List Value) (o : Nat) (w : World), Below B a w → Below B a (w.setCells g o vs)
  | [], _, _, h => h
  | v :: r, o, _, h => below_setCells hg r (o + 1) _ (h.setCell (p := ⟨g, o, none⟩) hg v)
theorem setL_append : ∀ (vs : List Value) (l1 l2 : List Value) (o : Nat), setL (l1 ++ l2) (l1.length + o) vs = l1 ++ setL l2 o vs
  | [], _, _, _ => rfl
  | v :: r, l1, l2, o => by
    rw [setL, setL, List.set_append_right _ _ (by omega), show l1.length + o - l1.length = o from by omega, Nat.add_assoc, setL_append r]
theorem setL_sg : ∀ (xs : List Sg) (k : Nat) (y : Sg), k < xs.length → setL (sgCells xs) (k * 4) y.cells = sgCells (xs.set k y)
  | x :: xs, 0, y, _ => rfl
  | x :: xs, k + 1, y, h => by
    have e : sgCells (x :: xs) = x.cells ++ sgCells xs := rfl
    rw [e, show (k + 1) * 4 = x.cells.length + k * 4 from by simp [Sg.cells]; omega, setL_append, setL_sg xs k y (by simpa using h)]
    rfl
end Go.Proofs.Ytgeomgghecmkbaa
