/-
  Signs as values: four cells each; rows of them.
-/
import Derived.Test.YtmchgmpdhfefjaaAid
import Derived.DataElems
import Derived.Laws.Cells
import Derived.Deep.MidRow
import Derived.Test.YtmchgmpdhfefjaaAidD
import Derived.Test.YtmchgmpdhfefjaaRowP
import Derived.Test.YtmchgmpdhfefjaaTurnP
namespace Go.Proofs.Ytmchgmpdhfefjaa
open Go.RowKit

/-- A sign: its kind, its text, its number, its place. -/
structure Sg where
  kind : Int
  text : ByteArray
  num : Int
  place : Int

def Sg.cells (x : Sg) : List Value := [.int .i64 x.kind, .string x.text, .int .i64 x.num, .int .i64 x.place]
abbrev Sg.val (x : Sg) : Value := .agg #[.int .i64 x.kind, .string x.text, .int .i64 x.num, .int .i64 x.place]
def sgCells (xs : List Sg) : List Value := xs.flatMap Sg.cells

theorem sgCells_len (xs : List Sg) : (sgCells xs).length = xs.length * 4 := by
  induction xs with
  | nil => rfl
  | cons x xs ih => simp only [sgCells, List.flatMap_cons, List.length_append, List.length_cons] at ih ⊢; rw [ih]; simp [Sg.cells]; omega
theorem sgCells_append (xs ys : List Sg) : sgCells (xs ++ ys) = sgCells xs ++ sgCells ys := by simp [sgCells]
theorem sgCells_at : ∀ (xs : List Sg) (j f : Nat) (h : j < xs.length), f < 4 → (sgCells xs)[j * 4 + f]? = xs[j].cells[f]?
  | x :: xs, 0, f, h, hf => by
    simp only [sgCells, List.flatMap_cons]
    rw [List.getElem?_append_left (by simp [Sg.cells]; omega)]
    simp
  | x :: xs, j + 1, f, h, hf => by
    simp only [sgCells, List.flatMap_cons]
    rw [List.getElem?_append_right (by simp [Sg.cells]; omega)]
    have := sgCells_at xs j f (by simpa using h) hf
    simp only [sgCells] at this
    rw [show (j + 1) * 4 + f - x.cells.length = j * 4 + f from by simp [Sg.cells]; omega, this]
    rfl

/-- The cells of a sign, from an address on. -/
def SgCell (w : World) (a : Addr) (x : Sg) : Prop := w.cell? a = some (.int .i64 x.kind) ∧ w.cell? (a.add 1) = some (.string x.text) ∧ w.cell? (a.add 2) = some (.int .i64 x.num) ∧ w.cell? (a.add 3) = some (.int .i64 x.place)

/-- A row of signs that can be read. -/
def SgAt (w : World) (v : Value) (xs : List Sg) : Prop :=
  ∃ ao c, v = .slice ao xs.length c ∧ ∀ j (h : j < xs.length), ∃ a, ao = some a ∧ a.block < w.heap.size ∧ SgCell w (a.add (j * 4)) xs[j]

theorem SgCell.readVar {P : Program} {w : World} {a : Addr} {x : Sg} (h : SgCell w a x) (ty : TypeId) (d : TypeDesc) (hu : P.underlying ty = some d) (hd : d.isRow = true) (hi : (P.info? ty).map (·.size) = some 4) :
    (loadVar ty a).run P w = .ok x.val w := by
  obtain ⟨h0, h1, h2, h3⟩ := h
  have hl : (loadCells a 4).run P w = .ok #[.int .i64 x.kind, .string x.text, .int .i64 x.num, .int .i64 x.place] w :=
    run_loadCells_list (P := P) w a x.cells (fun j v hv => by
      match j, hv with
      | 0, hv => simp [Sg.cells] at hv; subst hv; simpa [Addr.add] using h0
      | 1, hv => simp [Sg.cells] at hv; subst hv; exact h1
      | 2, hv => simp [Sg.cells] at hv; subst hv; exact h2
      | 3, hv => simp [Sg.cells] at hv; subst hv; exact h3
      | j + 4, hv => simp [Sg.cells] at hv)
  cases hq : P.info? ty with
  | none => simp [hq] at hi
  | some i =>
    have hs : i.size = 4 := by simpa [hq] using hi
    have hagg : (isAgg ty).run P w = .ok true w := by
      unfold isAgg
      rw [Sem.run_bind, run_underlying hu w]
      cases d <;> simp_all
    simp [loadVar, Sem.run_bind, hagg, sizeOf, typeInfo, hq, hs, hl]

/-- What a function hands back that keeps its one result in memory. -/
theorem results_cell {P : Program} {fn : Func} {p : Tmp} {ty : TypeId} (h : fn.results = #[.cell p ty]) (tmps : Array Value) (w : World) {a : Addr} (hp : tmps.getD p undef = .pointer (some a)) {v : Value} (hl : (loadVar ty a).run P w = .ok v w) :
    (results fn tmps).run P w = .ok v w := by
  have hp' : tmps[p]?.getD undef = .pointer (some a) := by simpa using hp
  simp only [results, h]
  simp [hp', asAddr, hl]

theorem SgCell.stays {B : Nat} {w w' : World} {a : Addr} {x : Sg} (h : SgCell w a x) (hb : Below B w w') (ha : a.block < B) : SgCell w' a x := by
  have e : ∀ n, (a.add n).block = a.block := fun n => by simp only [Addr.add]; split <;> rfl
  obtain ⟨h0, h1, h2, h3⟩ := h
  exact ⟨(hb.cell ha).trans h0, (hb.cell (by rw [e]; exact ha)).trans h1, (hb.cell (by rw [e]; exact ha)).trans h2, (hb.cell (by rw [e]; exact ha)).trans h3⟩

theorem SgAt.stays {w w' : World} {v : Value} {xs : List Sg} (h : SgAt w v xs) (hb : Below w.heap.size w w') : SgAt w' v xs := by
  obtain ⟨ao, c, rfl, hc⟩ := h
  refine ⟨ao, c, rfl, fun j hj => ?_⟩
  obtain ⟨a, rfl, ha, hx⟩ := hc j hj
  have e : (a.add (j * 4)).block = a.block := by simp only [Addr.add]; split <;> rfl
  exact ⟨a, rfl, Nat.lt_of_lt_of_le ha hb.size, hx.stays hb (by rw [e]; exact ha)⟩

/-- A row that is owned can be read. -/
theorem SgAt.own {w : World} {base : Nat} {e : TypeId} {v : Value} {n : Nat} {xs : List Sg} (h : w.ownsRow base e 4 v n (sgCells xs)) : SgAt w v xs ∧ xs.length = n := by
  have hl : xs.length = n := by
    have := h.1; rw [sgCells_len] at this; omega
  refine ⟨?_, hl⟩
  rcases h.2 with ⟨rfl, h0⟩ | ⟨g, cap, cur, rfl, _⟩
  · exact ⟨none, 0, by rw [hl, h0], fun j hj => by omega⟩
  · refine ⟨some ⟨g, 0, none⟩, cap, by rw [hl], fun j hj => ⟨_, rfl, (h.lt g rfl).2, ?_⟩⟩
    have hc : ∀ f u, f < 4 → xs[j].cells[f]? = some u → w.cell? (((⟨g, 0, none⟩ : Addr).add (j * 4)).add f) = some u := fun f u hf hu => by
      rw [Addr.add_add]
      exact h.cells rfl (j * 4 + f) u (by rw [sgCells_at xs j f hj hf]; exact hu)
    refine ⟨?_, hc 1 _ (by omega) rfl, hc 2 _ (by omega) rfl, hc 3 _ (by omega) rfl⟩
    have := hc 0 _ (by omega) rfl
    rwa [show (((⟨g, 0, none⟩ : Addr).add (j * 4)).add 0) = (⟨g, 0, none⟩ : Addr).add (j * 4) from by simp [Addr.add]] at this

theorem add_block (a : Addr) (n : Nat) : (a.add n).block = a.block := by simp only [Addr.add]; split <;> rfl

/-- The cells in the words of a walk. -/
theorem SgCell.facts {w : World} {a : Addr} {x : Sg} (h : SgCell w a x) : w.cell? a = some (.int .i64 x.kind) ∧ w.cell? { block := a.block, off := a.off + 1 } = some (.string x.text) ∧ w.cell? { block := a.block, off := a.off + 2 } = some (.int .i64 x.num) ∧ w.cell? { block := a.block, off := a.off + 3 } = some (.int .i64 x.place) := h

/-- How much a row of signs holds. -/
def sgSz (xs : List Sg) : Nat := (xs.map fun x => x.text.size).sum
theorem sgSz_take (xs : List Sg) (k : Nat) (h : k < xs.length) : sgSz (xs.take (k + 1)) = sgSz (xs.take k) + xs[k].text.size := by
  unfold sgSz
  rw [List.take_succ_eq_append_getElem h, List.map_append, List.sum_append]
  simp
theorem sgSz_take_le (xs : List Sg) (k : Nat) : sgSz (xs.take k) ≤ sgSz xs := by
  conv => rhs; rw [← List.take_append_drop k xs]
  unfold sgSz
  rw [List.map_append, List.sum_append]
  omega

/-- A new block that holds a sign. -/
theorem SgCell.new (w : World) (x : Sg) (e : TypeId) : SgCell (w.alloc (.cells #[.int .i64 x.kind, .string x.text, .int .i64 x.num, .int .i64 x.place] e)) ⟨w.heap.size, 0, none⟩ x := by
  simp [SgCell, Addr.add]

/-- The cells of a row that is owned are there and may be written. -/
theorem there_own {w : World} {base : Nat} {e : TypeId} {size g n cap : Nat} {xs : List Value} (h : w.ownsRow base e size (.slice (some ⟨g, 0, none⟩) n cap) n xs) (k : Nat) (hk : k < n) : w.there g (k * size) size := by
  intro j hj
  have hlt : k * size + j < n * size := by
    have : (k + 1) * size ≤ n * size := Nat.mul_le_mul_right _ hk
    rw [Nat.add_mul] at this; omega
  refine ⟨?_, h.frozenAt _⟩
  rw [h.cellAt _ hlt, List.getElem?_eq_getElem (by rw [h.1]; exact hlt)]
  rfl

/-- Several cells of an owned row are written. -/
def setL : List Value → Nat → List Value → List Value
  | xs, _, [] => xs
  | xs, o, v :: r => setL (xs.set o v) (o + 1) r
theorem ownsRow_setCells {base : Nat} {e : TypeId} {size g n cap : Nat} : ∀ (vs : List Value) (o : Nat) (w : World) (xs : List Value), w.ownsRow base e size (.slice (some ⟨g, 0, none⟩) n cap) n xs →
    (w.setCells g o vs).ownsRow base e size (.slice (some ⟨g, 0, none⟩) n cap) n (setL xs o vs)
  | [], _, _, _, h => h
  | v :: r, o, _, _, h => ownsRow_setCells r (o + 1) _ _ (h.stored o v).1
theorem below_setCells {B g : Nat} {a : World} (hg : B ≤ g) : ∀ (vs : List Value) (o : Nat) (w : World), Below B a w → Below B a (w.setCells g o vs)
  | [], _, _, h => h
  | v :: r, o, _, h => below_setCells hg r (o + 1) _ (h.setCell (p := ⟨g, o, none⟩) hg v)
theorem setL_append : ∀ (vs : List Value) (l1 l2 : List Value) (o : Nat), setL (l1 ++ l2) (l1.length + o) vs = l1 ++ setL l2 o vs
  | [], _, _, _ => rfl
  | v :: r, l1, l2, o => by
    rw [setL, setL, List.set_append_right _ _ (by omega), show l1.length + o - l1.length = o from by omega, Nat.add_assoc, setL_append r]
theorem setL_sg : ∀ (xs : List Sg) (k : Nat) (y : Sg), k < xs.length → setL (sgCells xs) (k * 4) y.cells = sgCells (xs.set k y)
  | x :: xs, 0, y, _ => rfl
  | x :: xs, k + 1, y, h => by
    have e : sgCells (x :: xs) = x.cells ++ sgCells xs := rfl
    rw [e, show (k + 1) * 4 = x.cells.length + k * 4 from by simp [Sg.cells]; omega, setL_append, setL_sg xs k y (by simpa using h)]
    rfl
end Go.Proofs.Ytmchgmpdhfefjaa

namespace Go.Proofs.Ytmchgmpdhfefjaa
open Go.RowKit

/-- The marks of a sign. -/
def mkSg (k i : Nat) : Sg := ⟨((k + 4 * i : Nat) : Int), markS (k + 4 * i + 1), ((k + 4 * i + 2 : Nat) : Int), ((k + 4 * i + 3 : Nat) : Int)⟩
def sgMarks (k n : Nat) : List Sg := (List.range n).map fun i => mkSg k i
theorem sgMarks_len (k n : Nat) : (sgMarks k n).length = n := by simp [sgMarks]
theorem sgMarks_at (k n j : Nat) (h : j < (sgMarks k n).length) : (sgMarks k n)[j] = mkSg k j := by simp [sgMarks]
/-- The first j of a row are marked, the rest is as it was. -/
def sgMarked (xs : List Sg) (k j : Nat) : List Sg := sgMarks k j ++ xs.drop j
theorem sgMarked_zero (xs : List Sg) (k : Nat) : sgMarked xs k 0 = xs := by simp [sgMarked, sgMarks]
theorem sgMarked_all (xs : List Sg) (k : Nat) : sgMarked xs k xs.length = sgMarks k xs.length := by simp [sgMarked]
theorem sgMarked_len (xs : List Sg) (k j : Nat) (h : j ≤ xs.length) : (sgMarked xs k j).length = xs.length := by simp [sgMarked, sgMarks]; omega
theorem sgMarked_succ (xs : List Sg) (k j : Nat) (h : j < xs.length) : (sgMarked xs k j).set j (mkSg k j) = sgMarked xs k (j + 1) := by
  have e1 : sgMarks k (j + 1) = sgMarks k j ++ [mkSg k j] := by simp [sgMarks, List.range_succ]
  rw [sgMarked, sgMarked, e1, List.set_append_right _ _ (by rw [sgMarks_len]; exact Nat.le_refl _), sgMarks_len, Nat.sub_self, List.drop_eq_getElem_cons h, List.set_cons_zero, List.append_assoc]
  rfl

theorem there_four {w : World} {g o : Nat} (h : w.there g o 4) : (∃ y0 y1 y2 y3, w.cell? { block := g, off := o } = some y0 ∧ w.cell? { block := g, off := o + 1 } = some y1 ∧ w.cell? { block := g, off := o + 2 } = some y2 ∧ w.cell? { block := g, off := o + 3 } = some y3) ∧
    w.frozen? { block := g, off := o } = false ∧ w.frozen? { block := g, off := o + 1 } = false ∧ w.frozen? { block := g, off := o + 2 } = false ∧ w.frozen? { block := g, off := o + 3 } = false := by
  obtain ⟨y0, h0⟩ := Option.isSome_iff_exists.1 (h 0 (by omega)).1
  obtain ⟨y1, h1⟩ := Option.isSome_iff_exists.1 (h 1 (by omega)).1
  obtain ⟨y2, h2⟩ := Option.isSome_iff_exists.1 (h 2 (by omega)).1
  obtain ⟨y3, h3⟩ := Option.isSome_iff_exists.1 (h 3 (by omega)).1
  exact ⟨⟨y0, y1, y2, y3, h0, h1, h2, h3⟩, (h 0 (by omega)).2, (h 1 (by omega)).2, (h 2 (by omega)).2, (h 3 (by omega)).2⟩

theorem row_form {w : World} {base : Nat} {e : TypeId} {size : Nat} {v : Value} {n : Nat} {xs : List Value} (h : w.ownsRow base e size v n xs) : (n = 0 ∧ ∃ ao cap, v = .slice ao 0 cap) ∨ (0 < n ∧ ∃ g cap, v = .slice (some ⟨g, 0, none⟩) n cap ∧ base ≤ g ∧ g < w.heap.size) := by
  rcases h.2 with ⟨rfl, h0⟩ | ⟨g, cap, cur, rfl, hb, hg, _⟩
  · exact .inl ⟨h0, none, 0, rfl⟩
  · rcases Nat.eq_zero_or_pos n with h0 | h0
    · subst h0; exact .inl ⟨rfl, _, _, rfl⟩
    · exact .inr ⟨h0, g, cap, rfl, hb, (h.lt g rfl).2⟩

end Go.Proofs.Ytmchgmpdhfefjaa

namespace Go.Proofs.Ytmchgmpdhfefjaa
open Go.RowKit

def nMarks (k n : Nat) : List Int := (List.range n).map fun i => ((k + i : Nat) : Int)
theorem nMarks_len (k n : Nat) : (nMarks k n).length = n := by simp [nMarks]
theorem nMarks_at (k n j : Nat) (h : j < n) : (nMarks k n)[j]? = some ((k + j : Nat) : Int) := by simp [nMarks, h]
/-- The first j of a row are marked, the rest is as it was. -/
def nMarked (xs : List Int) (k j : Nat) : List Int := nMarks k j ++ xs.drop j
theorem nMarked_zero (xs : List Int) (k : Nat) : nMarked xs k 0 = xs := by simp [nMarked, nMarks]
theorem nMarked_all (xs : List Int) (k : Nat) : nMarked xs k xs.length = nMarks k xs.length := by simp [nMarked]
theorem nMarked_len (xs : List Int) (k j : Nat) (h : j ≤ xs.length) : (nMarked xs k j).length = xs.length := by simp [nMarked, nMarks]; omega
theorem nMarked_succ (xs : List Int) (k j : Nat) (h : j < xs.length) : (nMarked xs k j).set j ((k + j : Nat) : Int) = nMarked xs k (j + 1) := by
  have e1 : nMarks k (j + 1) = nMarks k j ++ [((k + j : Nat) : Int)] := by simp [nMarks, List.range_succ]
  rw [nMarked, nMarked, e1, List.set_append_right _ _ (by rw [nMarks_len]; exact Nat.le_refl _), nMarks_len, Nat.sub_self, List.drop_eq_getElem_cons h, List.set_cons_zero, List.append_assoc]
  rfl
def MkIRel (w : World) (base : Nat) (v : Value) (n k0 : Nat) (xs : List Int) (iv kv : Value) (wr : World) : Prop :=
  ∃ j : Nat, j ≤ n ∧ iv = .int .i64 j ∧ kv = .int .i64 ((k0 + j : Nat) : Int) ∧ wr.ownsRow base 3 1 v n ((nMarked xs k0 j).map I64) ∧ Below base w wr ∧ ∀ c, v.ownBlock ≠ some c → wr.heap[c]? = w.heap[c]?

/-- Marking: behind it the row holds the marks. -/
def MkTRel (w : World) (base : Nat) (v : Value) (n k0 : Nat) (xs : List ByteArray) (iv kv : Value) (wr : World) : Prop :=
  ∃ j : Nat, j ≤ n ∧ iv = .int .i64 j ∧ kv = .int .i64 ((k0 + j : Nat) : Int) ∧ wr.ownsRow base 9 1 v n ((marked xs k0 j).map S) ∧ Below base w wr ∧ (∀ c, c < w.heap.size → v.ownBlock ≠ some c → wr.heap[c]? = w.heap[c]?)

end Go.Proofs.Ytmchgmpdhfefjaa

namespace Go.Proofs.Ytmchgmpdhfefjaa
open Go.RowKit

theorem owns_eq {z z' : World} {base e s n : Nat} {v : Value} {xs : List Value} (h : z.ownsRow base e s v n xs) (hk : ∀ g, v.ownBlock = some g → z'.heap[g]? = z.heap[g]?) : z'.ownsRow base e s v n xs := by
  refine ⟨h.1, ?_⟩
  rcases h.2 with h0 | ⟨g, cap, cur, rfl, hb1, hg, hr⟩
  · exact .inl h0
  · exact .inr ⟨g, cap, cur, rfl, hb1, (hk g rfl).trans hg, hr⟩
theorem owns_lo {a b : Nat} {e : TypeId} {s n : Nat} {v : Value} {l : List Value} {w : World} (h : w.ownsRow b e s v n l) (hab : a ≤ b) : w.ownsRow a e s v n l := by
  refine ⟨h.1, ?_⟩
  rcases h.2 with h0 | ⟨g, cap, cur, e1, hb1, hg, hr⟩
  · exact .inl h0
  · exact .inr ⟨g, cap, cur, e1, Nat.le_trans hab hb1, hg, hr⟩
theorem form_own {B e n : Nat} {w : World} {v : Value} {xs : List Value} (h : w.ownsRow B e 1 v n xs) : ∃ o c, v = .slice o n c := by
  rcases h.2 with ⟨rfl, h0⟩ | ⟨g, cap, cur, rfl, _⟩
  · exact ⟨none, 0, by rw [h0]⟩
  · exact ⟨_, _, rfl⟩
/-- Rows of different types lie apart. -/
theorem ty_apart {w : World} {B B' e e' n n' : Nat} {v v' : Value} {xs xs' : List Value} (h : w.ownsRow B e 1 v n xs) (h' : w.ownsRow B' e' 1 v' n' xs') (he : e ≠ e') : ∀ i, v.ownBlock = some i → v'.ownBlock ≠ some i := fun i hi hi' => by
  rcases h.2 with ⟨rfl, _⟩ | ⟨g, cap, cur, rfl, _, hg, _⟩
  · cases hi
  · rcases h'.2 with ⟨rfl, _⟩ | ⟨g', cap', cur', rfl, _, hg', _⟩
    · cases hi'
    · injection hi with hi
      injection hi' with hi'
      have e1 : g = i := hi
      have e2 : g' = i := hi'
      subst e1
      subst e2
      rw [hg] at hg'
      injection hg' with hg'
      injection hg' with _ hg' _
      exact he hg'
theorem box_alloc_below {X w' : World} {cs : Array Value} {T : TypeId} (hb : Below (X.alloc (.cells cs T)).heap.size (X.alloc (.cells cs T)) w') : Box w' X.heap.size cs T := (Box.made X cs T).stays hb
theorem box_alloc_drew {X w' : World} {cs : Array Value} {T : TypeId} (hb : Below (X.alloc (.cells cs T)).drew.heap.size (X.alloc (.cells cs T)).drew w') : Box w' X.heap.size cs T := (hb.block X.heap.size (by show X.heap.size < (X.alloc (.cells cs T)).heap.size; simp)).trans (Box.made X cs T)
end Go.Proofs.Ytmchgmpdhfefjaa
