/-
  One sign, by the specification: how things stand.
-/
import Derived.Test.YtfnmpohcoabenaaDoorScnW
import Derived.Deep.RegionLaw
namespace Go.Proofs.YtfnmpohcoabenaaDoor
open Go.RowKit

/-- A sign of four cells is appended to a row that is owned, at a step of a statement that leaves its order open. -/
theorem step_app4 {P : Program} {W : World} {ops : Array Oper} {o : Oper} {a : Act} {K : Act → World → Prop} {Q : Exit → Act → World → Prop} {E : Prop} (hgd : o.guard = none) (s x : Operand) (t : TypeId)
    (ho : o.op = .call { callee := .builtin .append, args := #[s, x], argTypes := #[t, t] })
    (base : Nat) (e : TypeId) (z : Value) (bytes : Nat) (ht : P.underlying t = some (.slice e)) (hi : (P.info? e).map (fun i => (i.zero, i.size, i.bytes)) = some (some z, 4, bytes)) (hzs : z.cells.size = 4)
    (v : Value) (n : Nat) (xs : List Value) (hs : a.eval s = v) (hown : W.ownsRow base e 4 v n xs)
    (ad : Addr) (y : Sg) (hx : a.eval x = .slice (some ad) 1 1) (hnews : SgCell W ad y)
    (h63 : n + 1 ≤ maxLen) (hbytes : (n + 1) * bytes ≤ 140737488355328) (hbase : base ≤ W.heap.size)
    (h : ∀ v' w', w'.ownsRow base e 4 v' (n + 1) (xs ++ y.cells) → Below base W w' → K (a.put o.dst v') w') :
    if Region.wanted o (yielded ops a.tmps) = true then Oper.wp P o a W K Q else E := by
  obtain ⟨i, hi, hz0, hz1, hz2⟩ := info_parts hi
  have hw : Region.wanted o (yielded ops a.tmps) = true := by simp [Region.wanted, hgd]
  rw [if_pos hw]
  refine wp_append_own W s x t ho base e i z 4 bytes ht hi hz0 hz1 hz2 hzs (by decide) v n xs hs hown ad 1 1 y.cells hx rfl ?_ ?_ h63 hbytes hbase ?_
  · intro j q hj
    match j, hj with
    | 0, hj => simp [Sg.cells] at hj; subst hj; simpa [Addr.add] using hnews.1
    | 1, hj => simp [Sg.cells] at hj; subst hj; exact hnews.2.1
    | 2, hj => simp [Sg.cells] at hj; subst hj; exact hnews.2.2.1
    | 3, hj => simp [Sg.cells] at hj; subst hj; exact hnews.2.2.2
    | j + 4, hj => simp [Sg.cells] at hj
  · intro q hq
    simp [Sg.cells] at hq
    rcases hq with rfl | rfl | rfl | rfl <;> rfl
  · intro v' w' hown' hgrow _
    exact h v' w' hown' ((Below.refl base W).grown hgrow hbase (fun j hj => (hown.lt j hj).1))

theorem infoSi3' : (Tryd.prog.info? 36).map (fun i => (i.zero, i.size, i.bytes)) = some (some (.agg #[.int .i64 0, .string ByteArray.empty, .int .i64 0, .int .i64 0]), 4, 40) := by kernel_rfl

/-- What is told of one sign. -/
def OneEnd (g : Nat) (s : ByteArray) (pos : Nat) (acc : List Sg) (w : World) (e : Ending) (w' : World) : Prop :=
  Below g w w' ∧ ((e = .returned (.bool false) ∧ (fitsQ (kindB (rest s pos)) (sizeOfB (rest s pos)) = false ∨ ¬ acc.length < 500)) ∨
    (e = .returned (.bool true) ∧ fitsQ (kindB (rest s pos)) (sizeOfB (rest s pos)) = true ∧ acc.length < 500 ∧
      ∃ v', ScAt w' g s (pos + sizeOfB (rest s pos)) v' ∧ w'.ownsRow (g + 1) 36 4 v' (acc ++ [sgOf s pos]).length (sgCells (acc ++ [sgOf s pos]))))

theorem letter_kind {s : ByteArray} {pos : Nat} (h : pos < s.size) (hl : letterQ s[pos].toNat = true) : kindB (rest s pos) = 1 ∧ sizeOfB (rest s pos) = headN letterQ (rest s pos) := by
  have h1 : blankQ s[pos].toNat = false := by simp [letterQ] at hl; simp [blankQ]; omega
  have h2 : ¬ s[pos].toNat = 35 := by simp [letterQ] at hl; omega
  constructor
  · rw [rest_cons s pos h, kindB, h1, if_neg (by simp), if_neg h2, if_pos hl]
  · conv => lhs; rw [rest_cons s pos h, sizeOfB, h1, if_neg (by simp), if_neg h2, if_pos hl, ← rest_cons s pos h]

/-- How things stand while a sign is read: the scanner, the sign so far, the row of signs. -/
structure OneSt (g xb : Nat) (s : ByteArray) (p : Nat) (v : Value) (acc : List Sg) (y : Sg) (w W : World) : Prop where
  sc : ScAt W g s p v
  x : SgCell W ⟨xb, 0, none⟩ y
  fz : ∀ o, W.frozen? ⟨xb, o, none⟩ = false
  own : W.ownsRow (g + 1) 36 4 v acc.length (sgCells acc)
  bel : Below g w W
  gx : g < xb
  vx : ∀ k, v.ownBlock = some k → k ≠ xb
  lt : xb < W.heap.size

theorem OneSt.init {g : Nat} {s : ByteArray} {p : Nat} {v : Value} {acc : List Sg} {w : World} (C : ScAt w g s p v) (ho : w.ownsRow (g + 1) 36 4 v acc.length (sgCells acc)) (q : Nat) (y : Sg) :
    OneSt g w.heap.size s p v acc y w ((w.alloc (.cells #[.int .i64 y.kind, .string y.text, .int .i64 y.num, .int .i64 y.place] 36)).drewN q) := by
  have hb : Below w.heap.size w (w.alloc (.cells #[.int .i64 y.kind, .string y.text, .int .i64 y.num, .int .i64 y.place] 36)) := (Below.refl _ _).alloc (Nat.le_refl _) _
  refine ⟨(C.stays hb C.lt).drewN q, SgCell.new w y _, fun o => ?_, ho.alloc _, ?_, C.lt, fun k hk => ?_, ?_⟩
  · exact Lib.frozen_of_heap (w := w.alloc (.cells #[.int .i64 y.kind, .string y.text, .int .i64 y.num, .int .i64 y.place] 36)) (heap_alloc_new w _) o
  · exact below_drewN (hb.mono (Nat.le_of_lt C.lt)) q
  · exact Nat.ne_of_lt (ho.lt k hk).2
  · show w.heap.size < (w.alloc _).heap.size
    simp

theorem OneSt.drewN {g xb : Nat} {s : ByteArray} {p : Nat} {v : Value} {acc : List Sg} {y : Sg} {w W : World} (h : OneSt g xb s p v acc y w W) (q : Nat) : OneSt g xb s p v acc y w (W.drewN q) :=
  ⟨h.sc.drewN q, h.x, h.fz, h.own, below_drewN h.bel q, h.gx, h.vx, h.lt⟩

theorem OneSt.drew1 {g xb : Nat} {s : ByteArray} {p : Nat} {v : Value} {acc : List Sg} {y : Sg} {w W : World} (h : OneSt g xb s p v acc y w W) : OneSt g xb s p v acc y w W.drew :=
  ⟨⟨h.sc.c0, h.sc.c1, h.sc.c2, h.sc.f1, h.sc.f2⟩, h.x, h.fz, h.own, Below.drew h.bel, h.gx, h.vx, h.lt⟩

theorem far_cell {g : Nat} {w w' : World} (h : ∀ b, b ≠ g → w'.heap[b]? = w.heap[b]?) {a : Addr} (ha : a.block ≠ g) : w'.cell? a = w.cell? a := World.cell?_of_block (h a.block ha)
theorem far_frozen {g : Nat} {w w' : World} (h : ∀ b, b ≠ g → w'.heap[b]? = w.heap[b]?) {a : Addr} (ha : a.block ≠ g) : w'.frozen? a = w.frozen? a := World.frozen?_of_block (h a.block ha)
theorem SgCell.far {g : Nat} {w w' : World} (hf : ∀ b, b ≠ g → w'.heap[b]? = w.heap[b]?) {a : Addr} {y : Sg} (ha : a.block ≠ g) (h : SgCell w a y) : SgCell w' a y := by
  obtain ⟨h0, h1, h2, h3⟩ := h
  exact ⟨(far_cell hf ha).trans h0, (far_cell hf (by rw [add_block]; exact ha)).trans h1, (far_cell hf (by rw [add_block]; exact ha)).trans h2, (far_cell hf (by rw [add_block]; exact ha)).trans h3⟩
theorem ownsRow_farB {g : Nat} {w w' : World} (hf : ∀ b, b ≠ g → w'.heap[b]? = w.heap[b]?) {base : Nat} {e : TypeId} {size : Nat} {v : Value} {n : Nat} {xs : List Value} (h : w.ownsRow base e size v n xs) (hg : ∀ k, v.ownBlock = some k → k ≠ g) : w'.ownsRow base e size v n xs := by
  obtain ⟨h1, h2⟩ := h
  refine ⟨h1, ?_⟩
  rcases h2 with h2 | ⟨b, cap, cur, rfl, hb1, hb, r⟩
  · exact .inl h2
  · exact .inr ⟨b, cap, cur, rfl, hb1, by rw [hf b (hg b rfl)]; exact hb, r⟩

/-- The scanner alone was written. -/
theorem OneSt.only {g xb : Nat} {s : ByteArray} {p p' : Nat} {v : Value} {acc : List Sg} {y : Sg} {w W W' : World} (h : OneSt g xb s p v acc y w W) (ho : OnlyB g W W') (C : ScAt W' g s p' v) : OneSt g xb s p' v acc y w W' :=
  ⟨C, h.x.far ho.far (Nat.ne_of_gt h.gx), fun o => (far_frozen ho.far (Nat.ne_of_gt h.gx)).trans (h.fz o), ownsRow_farB ho.far h.own (fun k hk => by have := (h.own.lt k hk).1; omega), h.bel.trans ho.bel, h.gx, h.vx, by rw [ho.size]; exact h.lt⟩
theorem OneSt.setPos {g xb : Nat} {s : ByteArray} {p : Nat} {v : Value} {acc : List Sg} {y : Sg} {w W : World} (h : OneSt g xb s p v acc y w W) (p' : Nat) : OneSt g xb s p' v acc y w (W.setCell ⟨g, 1, none⟩ (.int .i64 (p' : Int))) :=
  h.only (OnlyB.setCell _ _) (h.sc.setPos p')

/-- A cell of the sign is written. -/
theorem OneSt.setX {g xb : Nat} {s : ByteArray} {p : Nat} {v : Value} {acc : List Sg} {y y' : Sg} {w W : World} (h : OneSt g xb s p v acc y w W) (o : Nat) (u : Value) (hx : SgCell (W.setCell ⟨xb, o, none⟩ u) ⟨xb, 0, none⟩ y') :
    OneSt g xb s p v acc y' w (W.setCell ⟨xb, o, none⟩ u) := by
  have hf : ∀ b, b ≠ xb → (W.setCell ⟨xb, o, none⟩ u).heap[b]? = W.heap[b]? := fun b hb => Below.heap_setCell W _ _ b hb
  have hb : Below xb W (W.setCell ⟨xb, o, none⟩ u) := (Below.refl _ _).setCell (p := ⟨xb, o, none⟩) (Nat.le_refl _) u
  refine ⟨h.sc.stays hb h.gx, hx, fun o' => by rw [World.frozen?_setCell]; exact h.fz o', ownsRow_farB hf h.own h.vx, h.bel.trans (hb.mono (Nat.le_of_lt h.gx)), h.gx, h.vx, Nat.lt_of_lt_of_le h.lt hb.size⟩
theorem cell_off {W : World} {xb a b : Nat} {u : Value} {v : Option Value} (h : W.cell? ⟨xb, b, none⟩ = v) (hne : a ≠ b) : (W.setCell ⟨xb, a, none⟩ u).cell? ⟨xb, b, none⟩ = v := by
  rw [World.cell?_setCell_other (h := off_ne hne)]; exact h
theorem SgCell.set0 {W : World} {xb : Nat} {y : Sg} (h : SgCell W ⟨xb, 0, none⟩ y) (k : Int) : SgCell (W.setCell ⟨xb, 0, none⟩ (.int .i64 k)) ⟨xb, 0, none⟩ ⟨k, y.text, y.num, y.place⟩ :=
  ⟨World.cell?_setCell_same _ _ _ h.1, cell_off (b := 1) h.2.1 (by decide), cell_off (b := 2) h.2.2.1 (by decide), cell_off (b := 3) h.2.2.2 (by decide)⟩
theorem SgCell.set1 {W : World} {xb : Nat} {y : Sg} (h : SgCell W ⟨xb, 0, none⟩ y) (t : ByteArray) : SgCell (W.setCell ⟨xb, 1, none⟩ (.string t)) ⟨xb, 0, none⟩ ⟨y.kind, t, y.num, y.place⟩ :=
  ⟨cell_off (b := 0) h.1 (by decide), World.cell?_setCell_same _ _ _ (show W.cell? ⟨xb, 1, none⟩ = _ from h.2.1), cell_off (b := 2) h.2.2.1 (by decide), cell_off (b := 3) h.2.2.2 (by decide)⟩
theorem SgCell.set2 {W : World} {xb : Nat} {y : Sg} (h : SgCell W ⟨xb, 0, none⟩ y) (k : Int) : SgCell (W.setCell ⟨xb, 2, none⟩ (.int .i64 k)) ⟨xb, 0, none⟩ ⟨y.kind, y.text, k, y.place⟩ :=
  ⟨cell_off (b := 0) h.1 (by decide), cell_off (b := 1) h.2.1 (by decide), World.cell?_setCell_same _ _ _ (show W.cell? ⟨xb, 2, none⟩ = _ from h.2.2.1), cell_off (b := 3) h.2.2.2 (by decide)⟩

/-- The sign is put on the row: how things stand behind it. -/
theorem OneSt.put {g xb : Nat} {s : ByteArray} {pos : Nat} {v v' : Value} {acc : List Sg} {w W w1 w2 : World} (h : OneSt g xb s (pos + sizeOfB (rest s pos)) v acc (sgOf s pos) w W) (hb0 : Below W.heap.size W w1)
    (hf : fitsQ (kindB (rest s pos)) (sizeOfB (rest s pos)) = true) (ha : acc.length < 500)
    (hown : w2.ownsRow (g + 1) 36 4 v' (acc.length + 1) (sgCells acc ++ (sgOf s pos).cells)) (hb : Below (g + 1) w1 w2) (q : Nat) :
    OneEnd g s pos acc w (.returned (.bool true)) ((w2.setCell ⟨g, 2, none⟩ v').drewN q) := by
  have hgW := h.sc.lt
  have hC : ScAt w2 g s (pos + sizeOfB (rest s pos)) v := (h.sc.stays hb0 hgW).stays hb (Nat.lt_succ_self g)
  refine ⟨?_, .inr ⟨rfl, hf, ha, v', (hC.setList v').drewN q, ?_⟩⟩
  · refine below_drewN ?_ q
    exact ((h.bel.trans (hb0.mono (Nat.le_of_lt hgW))).trans (hb.mono (Nat.le_succ g))).setCell (p := ⟨g, 2, none⟩) (Nat.le_refl _) _
  · have e1 : sgCells [sgOf s pos] = (sgOf s pos).cells := by simp [sgCells]
    rw [sgCells_append, List.length_append, e1]
    exact ownsRow_farB (w := w2) (fun b hb' => Below.heap_setCell w2 _ _ b hb') hown (fun k hk => by have := (hown.lt k hk).1; show k ≠ g; omega)
theorem OneSt.stop {g xb : Nat} {s : ByteArray} {pos p : Nat} {v : Value} {acc : List Sg} {y : Sg} {w W : World} (h : OneSt g xb s p v acc y w W) (hf : fitsQ (kindB (rest s pos)) (sizeOfB (rest s pos)) = false ∨ ¬ acc.length < 500) :
    OneEnd g s pos acc w (.returned (.bool false)) W := ⟨h.bel, .inl ⟨rfl, hf⟩⟩
end Go.Proofs.YtfnmpohcoabenaaDoor
