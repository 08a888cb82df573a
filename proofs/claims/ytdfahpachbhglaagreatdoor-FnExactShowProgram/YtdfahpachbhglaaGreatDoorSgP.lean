/-
  Signs as values: four cells each; rows of them.
-/
import Derived.Test.YtdfahpachbhglaaGreatDoorAidCard
import Derived.DataElems
import Derived.Laws.Cells
import Derived.Deep.MidRow
import Derived.Test.YtdfahpachbhglaaGreatDoorNameW
import Derived.Test.YtdfahpachbhglaaGreatDoorTreeV
import Derived.Test.YtdfahpachbhglaaGreatDoorImpU
namespace Go.Proofs.YtdfahpachbhglaaGreatDoor
open Go.RowKit

/-- A sign: its kind, its text, its number, its place. -/
structure Sg where
  kind : Int
  text : ByteArray
  num : Int
  place : Int

def Sg.cells (x : Sg) : List Value := [.int .i64 x.kind, .string x.text, .int .i64 x.num, .int .i64 x.place]
abbrev Sg.val (x : Sg) : Value := .agg #[.int .i64 x.kind, .string x.text, .int .i64 x.num, .int .i64 x.place]
def sgCells (xs : List Sg) : List Value := xs.flatMap Sg.cells

theorem sgCells_len (xs : List Sg) : (sgCells xs).length = xs.length * 4 := by
  induction xs with
  | nil => rfl
  | cons x xs ih => simp only [sgCells, List.flatMap_cons, List.length_append, List.length_cons] at ih ⊢; rw [ih]; simp [Sg.cells]; omega
theorem sgCells_append (xs ys : List Sg) : sgCells (xs ++ ys) = sgCells xs ++ sgCells ys := by simp [sgCells]
theorem sgCells_at : ∀ (xs : List Sg) (j f : Nat) (h : j < xs.length), f < 4 → (sgCells xs)[j * 4 + f]? = xs[j].cells[f]?
  | x :: xs, 0, f, h, hf => by
    simp only [sgCells, List.flatMap_cons]
    rw [List.getElem?_append_left (by simp [Sg.cells]; omega)]
    simp
  | x :: xs, j + 1, f, h, hf => by
    simp only [sgCells, List.flatMap_cons]
    rw [List.getElem?_append_right (by simp [Sg.cells]; omega)]
    have := sgCells_at xs j f (by simpa using h) hf
    simp only [sgCells] at this
    rw [show (j + 1) * 4 + f - x.cells.length = j * 4 + f from by simp [Sg.cells]; omega, this]
    rfl

/-- The cells of a sign, from an address on. -/
def SgCell (w : World) (a : Addr) (x : Sg) : Prop := w.cell? a = some (.int .i64 x.kind) ∧ w.cell? (a.add 1) = some (.string x.text) ∧ w.cell? (a.add 2) = some (.int .i64 x.num) ∧ w.cell? (a.add 3) = some (.int .i64 x.place)

/-- A row of signs that can be read. -/
def SgAt (w : World) (v : Value) (xs : List Sg) : Prop :=
  ∃ ao c, v = .slice ao xs.length c ∧ ∀ j (h : j < xs.length), ∃ a, ao = some a ∧ a.block < w.heap.size ∧ SgCell w (a.add (j * 4)) xs[j]

theorem SgCell.readVar {P : Program} {w : World} {a : Addr} {x : Sg} (h : SgCell w a x) (ty : TypeId) (d : TypeDesc) (hu : P.underlying ty = some d) (hd : d.isRow = true) (hi : (P.info? ty).map (·.size) = some 4) :
    (loadVar ty a).run P w = .ok x.val w := by
  obtain ⟨h0, h1, h2, h3⟩ := h
  have hl : (loadCells a 4).run P w = .ok #[.int .i64 x.kind, .string x.text, .int .i64 x.num, .int .i64 x.place] w :=
    run_loadCells_list (P := P) w a x.cells (fun j v hv => by
      match j, hv with
      | 0, hv => simp [Sg.cells] at hv; subst hv; simpa [Addr.add] using h0
      | 1, hv => simp [Sg.cells] at hv; subst hv; exact h1
      | 2, hv => simp [Sg.cells] at hv; subst hv; exact h2
      | 3, hv => simp [Sg.cells] at hv; subst hv; exact h3
      | j + 4, hv => simp [Sg.cells] at hv)
  cases hq : P.info? ty with
  | none => simp [hq] at hi
  | some i =>
    have hs : i.size = 4 := by simpa [hq] using hi
    have hagg : (isAgg ty).run P w = .ok true w := by
      unfold isAgg
      rw [Sem.run_bind, run_underlying hu w]
      cases d <;> simp_all
    simp [loadVar, Sem.run_bind, hagg, sizeOf, typeInfo, hq, hs, hl]

/-- What a function hands back that keeps its one result in memory. -/
theorem results_cell {P : Program} {fn : Func} {p : Tmp} {ty : TypeId} (h : fn.results = #[.cell p ty]) (tmps : Array Value) (w : World) {a : Addr} (hp : tmps.getD p undef = .pointer (some a)) {v : Value} (hl : (loadVar ty a).run P w = .ok v w) :
    (results fn tmps).run P w = .ok v w := by
  have hp' : tmps[p]?.getD undef = .pointer (some a) := by simpa using hp
  simp only [results, h]
  simp [hp', asAddr, hl]

theorem SgCell.stays {B : Nat} {w w' : World} {a : Addr} {x : Sg} (h : SgCell w a x) (hb : Below B w w') (ha : a.block < B) : SgCell w' a x := by
  have e : ∀ n, (a.add n).block = a.block := fun n => by simp only [Addr.add]; split <;> rfl
  obtain ⟨h0, h1, h2, h3⟩ := h
  exact ⟨(hb.cell ha).trans h0, (hb.cell (by rw [e]; exact ha)).trans h1, (hb.cell (by rw [e]; exact ha)).trans h2, (hb.cell (by rw [e]; exact ha)).trans h3⟩

theorem SgAt.stays {w w' : World} {v : Value} {xs : List Sg} (h : SgAt w v xs) (hb : Below w.heap.size w w') : SgAt w' v xs := by
  obtain ⟨ao, c, rfl, hc⟩ := h
  refine ⟨ao, c, rfl, fun j hj => ?_⟩
  obtain ⟨a, rfl, ha, hx⟩ := hc j hj
  have e : (a.add (j * 4)).block = a.block := by simp only [Addr.add]; split <;> rfl
  exact ⟨a, rfl, Nat.lt_of_lt_of_le ha hb.size, hx.stays hb (by rw [e]; exact ha)⟩

/-- A row that is owned can be read. -/
theorem SgAt.own {w : World} {base : Nat} {e : TypeId} {v : Value} {n : Nat} {xs : List Sg} (h : w.ownsRow base e 4 v n (sgCells xs)) : SgAt w v xs ∧ xs.length = n := by
  have hl : xs.length = n := by
    have := h.1; rw [sgCells_len] at this; omega
  refine ⟨?_, hl⟩
  rcases h.2 with ⟨rfl, h0⟩ | ⟨g, cap, cur, rfl, _⟩
  · exact ⟨none, 0, by rw [hl, h0], fun j hj => by omega⟩
  · refine ⟨some ⟨g, 0, none⟩, cap, by rw [hl], fun j hj => ⟨_, rfl, (h.lt g rfl).2, ?_⟩⟩
    have hc : ∀ f u, f < 4 → xs[j].cells[f]? = some u → w.cell? (((⟨g, 0, none⟩ : Addr).add (j * 4)).add f) = some u := fun f u hf hu => by
      rw [Addr.add_add]
      exact h.cells rfl (j * 4 + f) u (by rw [sgCells_at xs j f hj hf]; exact hu)
    refine ⟨?_, hc 1 _ (by omega) rfl, hc 2 _ (by omega) rfl, hc 3 _ (by omega) rfl⟩
    have := hc 0 _ (by omega) rfl
    rwa [show (((⟨g, 0, none⟩ : Addr).add (j * 4)).add 0) = (⟨g, 0, none⟩ : Addr).add (j * 4) from by simp [Addr.add]] at this

theorem add_block (a : Addr) (n : Nat) : (a.add n).block = a.block := by simp only [Addr.add]; split <;> rfl

/-- The cells in the words of a walk. -/
theorem SgCell.facts {w : World} {a : Addr} {x : Sg} (h : SgCell w a x) : w.cell? a = some (.int .i64 x.kind) ∧ w.cell? { block := a.block, off := a.off + 1 } = some (.string x.text) ∧ w.cell? { block := a.block, off := a.off + 2 } = some (.int .i64 x.num) ∧ w.cell? { block := a.block, off := a.off + 3 } = some (.int .i64 x.place) := h

/-- How much a row of signs holds. -/
def sgSz (xs : List Sg) : Nat := (xs.map fun x => x.text.size).sum
theorem sgSz_take (xs : List Sg) (k : Nat) (h : k < xs.length) : sgSz (xs.take (k + 1)) = sgSz (xs.take k) + xs[k].text.size := by
  unfold sgSz
  rw [List.take_succ_eq_append_getElem h, List.map_append, List.sum_append]
  simp
theorem sgSz_take_le (xs : List Sg) (k : Nat) : sgSz (xs.take k) ≤ sgSz xs := by
  conv => rhs; rw [← List.take_append_drop k xs]
  unfold sgSz
  rw [List.map_append, List.sum_append]
  omega

/-- A new block that holds a sign. -/
theorem SgCell.new (w : World) (x : Sg) (e : TypeId) : SgCell (w.alloc (.cells #[.int .i64 x.kind, .string x.text, .int .i64 x.num, .int .i64 x.place] e)) ⟨w.heap.size, 0, none⟩ x := by
  simp [SgCell, Addr.add]

/-- The cells of a row that is owned are there and may be written. -/
theorem there_own {w : World} {base : Nat} {e : TypeId} {size g n cap : Nat} {xs : List Value} (h : w.ownsRow base e size (.slice (some ⟨g, 0, none⟩) n cap) n xs) (k : Nat) (hk : k < n) : w.there g (k * size) size := by
  intro j hj
  have hlt : k * size + j < n * size := by
    have : (k + 1) * size ≤ n * size := Nat.mul_le_mul_right _ hk
    rw [Nat.add_mul] at this; omega
  refine ⟨?_, h.frozenAt _⟩
  rw [h.cellAt _ hlt, List.getElem?_eq_getElem (by rw [h.1]; exact hlt)]
  rfl

/-- Several cells of an owned row are written. -/
def setL : List Value → Nat → List Value → List Value
  | xs, _, [] => xs
  | xs, o, v :: r => setL (xs.set o v) (o + 1) r
theorem ownsRow_setCells {base : Nat} {e : TypeId} {size g n cap : Nat} : ∀ (vs : List Value) (o : Nat) (w : World) (xs : List Value), w.ownsRow base e size (.slice (some ⟨g, 0, none⟩) n cap) n xs →
    (w.setCells g o vs).ownsRow base e size (.slice (some ⟨g, 0, none⟩) n cap) n (setL xs o vs)
  | [], _, _, _, h => h
  | v :: r, o, _, _, h => ownsRow_setCells r (o + 1) _ _ (h.stored o v).1
theorem below_setCells {B g : Nat} {a : World} (hg : B ≤ g) : ∀ (vs : List Value) (o : Nat) (w : World), Below B a w → Below B a (w.setCells g o vs)
  | [], _, _, h => h
  | v :: r, o, _, h => below_setCells hg r (o + 1) _ (h.setCell (p := ⟨g, o, none⟩) hg v)
theorem setL_append : ∀ (vs : List Value) (l1 l2 : List Value) (o : Nat), setL (l1 ++ l2) (l1.length + o) vs = l1 ++ setL l2 o vs
  | [], _, _, _ => rfl
  | v :: r, l1, l2, o => by
    rw [setL, setL, List.set_append_right _ _ (by omega), show l1.length + o - l1.length = o from by omega, Nat.add_assoc, setL_append r]
theorem setL_sg : ∀ (xs : List Sg) (k : Nat) (y : Sg), k < xs.length → setL (sgCells xs) (k * 4) y.cells = sgCells (xs.set k y)
  | x :: xs, 0, y, _ => rfl
  | x :: xs, k + 1, y, h => by
    have e : sgCells (x :: xs) = x.cells ++ sgCells xs := rfl
    rw [e, show (k + 1) * 4 = x.cells.length + k * 4 from by simp [Sg.cells]; omega, setL_append, setL_sg xs k y (by simpa using h)]
    rfl
end Go.Proofs.YtdfahpachbhglaaGreatDoor

namespace Go.Proofs.YtdfahpachbhglaaGreatDoor

/-- How a reader stands: its place among the signs, whether it went wrong, the nodes so far. -/
structure Rd where
  pos : Nat
  bad : Bool
  nodes : List Nd
/-- A node without names. -/
def ndK (kd nu : Int) (ks : List Int) : Nd := ⟨kd, nu, ByteArray.empty, ByteArray.empty, ByteArray.empty, ks⟩
def ndN (kd : Int) (nm : ByteArray) (ks : List Int) : Nd := ⟨kd, 0, nm, ByteArray.empty, ByteArray.empty, ks⟩

section
variable (l : List Sg)
/-- The next sign, when nothing went wrong. -/
def Rd.next (s : Rd) : Option Sg := if s.bad then none else l[s.pos]?
def Rd.isQ (t : ByteArray) (s : Rd) : Bool := match s.next l with
  | some x => (x.text.toList == t.toList) && decide (x.kind ≠ 2)
  | none => false
def Rd.on (s : Rd) : Rd := { s with pos := s.pos + 1 }
def Rd.wrong (s : Rd) : Rd := { s with bad := true }
def Rd.may (t : ByteArray) (s : Rd) : Rd := if s.isQ l t then s.on else s
def Rd.must (t : ByteArray) (s : Rd) : Rd := if s.isQ l t then s.on else s.wrong
def Rd.nameQ (s : Rd) : Option ByteArray := match s.next l with
  | some x => if x.kind = 1 ∧ nameB x.text = true then some x.text else none
  | none => none
def Rd.name (s : Rd) : Rd × ByteArray := match s.nameQ l with
  | some t => (s.on, t)
  | none => (s.wrong, ByteArray.empty)
def Rd.put (x : Nd) (s : Rd) : Rd × Int := if s.bad then (s, 0) else ({ s with nodes := s.nodes ++ [x] }, (s.nodes.length : Int))
def Rd.op : List ByteArray → Int → Rd → Rd × Int
  | [], _, s => (s, 0)
  | t :: ts, k, s => if s.isQ l t then (s.on, k) else Rd.op ts (k + 1) s
/-- Operations, as long as there are some. -/
def Rd.many (ops : List ByteArray) (k0 : Int) (sub : Rd → Rd × Int) : Nat → Rd → Int → Rd × Int
  | 0, s, k => (s, k)
  | n + 1, s, k =>
    if s.bad then (s, k)
    else if (Rd.op l ops k0 s).2 = 0 then ((Rd.op l ops k0 s).1, k)
    else
      let b := sub (Rd.op l ops k0 s).1
      let c := b.1.put (ndK 3 (Rd.op l ops k0 s).2 [k, b.2])
      Rd.many ops k0 sub n c.1 c.2
def tx (s : String) : ByteArray := s.toUTF8
def Rd.factorW (val fac : Rd → Rd × Int) (s : Rd) : Rd × Int := match s.next l with
  | none => (s.wrong, 0)
  | some x =>
    if x.kind = 2 then s.on.put (ndK 1 x.num [])
    else if s.isQ l (tx "(") then ((val s.on).1.must l (tx ")"), (val s.on).2)
    else if s.isQ l (tx "not") then (fac s.on).1.put (ndK 4 0 [(fac s.on).2])
    else if s.isQ l (tx "-") then (fac s.on).1.put (ndK 5 0 [(fac s.on).2])
    else (s.name l).1.put (ndN 2 (s.name l).2 [])
def Rd.termW (fac : Rd → Rd × Int) (s : Rd) : Rd × Int := Rd.many l [tx "*", tx "/", tx "%"] 3 fac (l.length + 1) (fac s).1 (fac s).2
def Rd.sumW (fac : Rd → Rd × Int) (s : Rd) : Rd × Int := Rd.many l [tx "+", tx "-"] 1 (Rd.termW l fac) (l.length + 1) (Rd.termW l fac s).1 (Rd.termW l fac s).2
def Rd.partW (fac : Rd → Rd × Int) (s : Rd) : Rd × Int :=
  let a := Rd.sumW l fac s
  let o := Rd.op l [tx "<", tx "="] 6 a.1
  if o.2 = 0 then (o.1, a.2) else
    let b := Rd.sumW l fac o.1
    b.1.put (ndK 3 o.2 [a.2, b.2])
def Rd.valueW (fac : Rd → Rd × Int) (s : Rd) : Rd × Int := Rd.many l [tx "and", tx "or"] 8 (Rd.partW l fac) (l.length + 1) (Rd.partW l fac s).1 (Rd.partW l fac s).2
/-- A value and a factor, so many brackets deep. -/
def Rd.deepV : Nat → (Rd → Rd × Int) × (Rd → Rd × Int)
  | 0 => (fun s => (s, 0), fun s => (s, 0))
  | n + 1 => (Rd.valueW l (Rd.factorW l (Rd.deepV n).1 (Rd.deepV n).2), Rd.factorW l (Rd.deepV n).1 (Rd.deepV n).2)
def Rd.value (s : Rd) : Rd × Int := (Rd.deepV l (l.length + 1)).1 s

def Rd.callW (s : Rd) : Rd × Int :=
  let a := s.name l
  let b := (a.1.must l (tx ".")).name l
  let v := (b.1.must l (tx "(")).value l
  let c := v.1.must l (tx ")")
  if c.isQ l (tx "to") then
    let d := c.on.name l
    d.1.put ⟨14, 0, a.2, b.2, d.2, [v.2]⟩
  else c.put ⟨14, 0, a.2, b.2, ByteArray.empty, [v.2]⟩
def Rd.stmtW (blk : Rd → Rd × Int) (s : Rd) : Rd × Int :=
  if s.isQ l (tx "if") then
    let v := s.on.value l
    let b := blk (v.1.must l (tx "then"))
    if b.1.isQ l (tx "else") then
      let c := blk b.1.on
      c.1.put (ndK 12 0 [v.2, b.2, c.2])
    else b.1.put (ndK 12 0 [v.2, b.2])
  else if s.isQ l (tx "while") then
    let v := s.on.value l
    let b := blk (v.1.must l (tx "do"))
    b.1.put (ndK 13 0 [v.2, b.2])
  else if s.isQ l (tx "call") then s.on.callW l
  else if s.isQ l (tx "print") then (s.on.value l).1.put (ndK 15 0 [(s.on.value l).2])
  else if s.isQ l (tx "read") then (s.on.name l).1.put (ndN 16 (s.on.name l).2 [])
  else if s.isQ l (tx "delay") then (s.on.name l).1.put (ndN 17 (s.on.name l).2 [])
  else if s.isQ l (tx "continue") then (s.on.name l).1.put (ndN 18 (s.on.name l).2 [])
  else if s.isQ l (tx "skip") then s.on.put (ndK 19 0 [])
  else
    let a := s.name l
    let v := (a.1.must l (tx ":=")).value l
    v.1.put (ndN 11 a.2 [v.2])
/-- Statements behind semicolons. -/
def Rd.more (stmt : Rd → Rd × Int) : Nat → Rd → List Int → Rd × List Int
  | 0, s, ks => (s, ks)
  | n + 1, s, ks => if s.isQ l (tx ";") then Rd.more stmt n (stmt s.on).1 (ks ++ [(stmt s.on).2]) else (s, ks)
def Rd.blockW (stmt : Rd → Rd × Int) (s : Rd) : Rd × Int :=
  let a := stmt (s.must l (tx "begin"))
  let m := Rd.more l stmt (l.length + 1) a.1 [a.2]
  (m.1.must l (tx "end")).put (ndK 20 0 m.2)
/-- A block and a statement, so many blocks deep. -/
def Rd.deepB : Nat → (Rd → Rd × Int) × (Rd → Rd × Int)
  | 0 => (fun s => (s, 0), fun s => (s, 0))
  | n + 1 => (Rd.blockW l (Rd.stmtW l (Rd.deepB n).1), Rd.stmtW l (Rd.deepB n).1)
def Rd.block (s : Rd) : Rd × Int := (Rd.deepB l (l.length + 1)).1 s

/-- Names behind commas. -/
def Rd.comma : Nat → Rd → List ByteArray → Rd × List ByteArray
  | 0, s, ns => (s, ns)
  | n + 1, s, ns => if s.isQ l (tx ",") then Rd.comma n (s.on.name l).1 (ns ++ [(s.on.name l).2]) else (s, ns)
def Rd.names (s : Rd) : Rd × List ByteArray := Rd.comma l (l.length + 1) (s.name l).1 [(s.name l).2]
def Rd.listed (t : ByteArray) (s : Rd) : Rd × List ByteArray :=
  if s.isQ l t then ((s.on.names l).1.must l (tx ";"), (s.on.names l).2) else (s, [])
def Rd.entry (s : Rd) : Rd × En :=
  let a := s.name l
  let b := (a.1.must l (tx "(")).name l
  let c := (b.1.must l (tx ")")).block l
  (c.1.must l (tx ";"), ⟨a.2, b.2, c.2⟩)
def Rd.entries : Nat → Rd → List En → Rd × List En
  | 0, s, es => (s, es)
  | n + 1, s, es => if s.isQ l (tx "entry") then Rd.entries n (s.on.entry l).1 (es ++ [(s.on.entry l).2]) else (s, es)
def Rd.monitor (s : Rd) : Rd × Mo :=
  let a := s.name l
  let b := (a.1.must l (tx ";")).listed l (tx "var")
  let c := b.1.listed l (tx "queue")
  let d := Rd.entries l (l.length + 1) c.1 []
  ((d.1.must l (tx "end")).must l (tx ";"), ⟨a.2, b.2, c.2, d.2⟩)
def Rd.process (s : Rd) : Rd × Pr :=
  let a := s.name l
  let u := if a.1.isQ l (tx "uses") then a.1.on.names l else (a.1, [])
  let b := (u.1.must l (tx ";")).listed l (tx "var")
  let c := b.1.block l
  (c.1.must l (tx ";"), ⟨a.2, u.2, b.2, c.2⟩)
def Rd.monitors : Nat → Rd → List Mo → Rd × List Mo
  | 0, s, ms => (s, ms)
  | n + 1, s, ms => if s.isQ l (tx "monitor") then Rd.monitors n (s.on.monitor l).1 (ms ++ [(s.on.monitor l).2]) else (s, ms)
def Rd.processes : Nat → Rd → List Pr → Rd × List Pr
  | 0, s, ps => (s, ps)
  | n + 1, s, ps => if s.isQ l (tx "process") then Rd.processes n (s.on.process l).1 (ps ++ [(s.on.process l).2]) else (s, ps)

/-! A reader goes on, never back. -/
theorem Rd.put_pos (x : Nd) (s : Rd) : (s.put x).1.pos = s.pos := by unfold Rd.put; split <;> rfl
theorem Rd.must_pos (t : ByteArray) (s : Rd) : s.pos ≤ (s.must l t).pos := by unfold Rd.must; split <;> simp [Rd.on, Rd.wrong]
theorem Rd.name_pos (s : Rd) : s.pos ≤ (s.name l).1.pos := by unfold Rd.name; split <;> simp [Rd.on, Rd.wrong]
theorem Rd.op_pos : ∀ (ops : List ByteArray) (k : Int) (s : Rd), s.pos ≤ (Rd.op l ops k s).1.pos
  | [], _, s => Nat.le_refl _
  | t :: ts, k, s => by
    unfold Rd.op
    split
    · simp [Rd.on]
    · exact Rd.op_pos ts (k + 1) s
theorem Rd.many_pos {ops : List ByteArray} {k0 : Int} {sub : Rd → Rd × Int} (hs : ∀ s, s.pos ≤ (sub s).1.pos) : ∀ (n : Nat) (s : Rd) (k : Int), s.pos ≤ (Rd.many l ops k0 sub n s k).1.pos
  | 0, s, k => Nat.le_refl _
  | n + 1, s, k => by
    unfold Rd.many
    split
    · exact Nat.le_refl _
    · split
      · exact Rd.op_pos l ops k0 s
      · refine Nat.le_trans (Rd.op_pos l ops k0 s) (Nat.le_trans (hs _) (Nat.le_trans ?_ (Rd.many_pos hs n _ _)))
        rw [Rd.put_pos]
        exact Nat.le_refl _
theorem Rd.factorW_pos {val fac : Rd → Rd × Int} (hv : ∀ s, s.pos ≤ (val s).1.pos) (hf : ∀ s, s.pos ≤ (fac s).1.pos) (s : Rd) : s.pos ≤ (Rd.factorW l val fac s).1.pos := by
  unfold Rd.factorW
  split
  · simp [Rd.wrong]
  · split
    · rw [Rd.put_pos]; simp [Rd.on]
    · split
      · have h1 := hv s.on
        have h2 := Rd.must_pos l (tx ")") (val s.on).1
        have h3 : s.on.pos = s.pos + 1 := rfl
        show s.pos ≤ ((val s.on).1.must l (tx ")")).pos
        omega
      · split
        · rw [Rd.put_pos]
          have h1 := hf s.on
          have h3 : s.on.pos = s.pos + 1 := rfl
          omega
        · split
          · rw [Rd.put_pos]
            have h1 := hf s.on
            have h3 : s.on.pos = s.pos + 1 := rfl
            omega
          · rw [Rd.put_pos]
            exact Rd.name_pos l s
theorem Rd.termW_pos {fac : Rd → Rd × Int} (hf : ∀ s, s.pos ≤ (fac s).1.pos) (s : Rd) : s.pos ≤ (Rd.termW l fac s).1.pos := Nat.le_trans (hf s) (Rd.many_pos l hf _ _ _)
theorem Rd.sumW_pos {fac : Rd → Rd × Int} (hf : ∀ s, s.pos ≤ (fac s).1.pos) (s : Rd) : s.pos ≤ (Rd.sumW l fac s).1.pos := Nat.le_trans (Rd.termW_pos l hf s) (Rd.many_pos l (Rd.termW_pos l hf) _ _ _)
theorem Rd.partW_pos {fac : Rd → Rd × Int} (hf : ∀ s, s.pos ≤ (fac s).1.pos) (s : Rd) : s.pos ≤ (Rd.partW l fac s).1.pos := by
  unfold Rd.partW
  have h1 := Rd.sumW_pos l hf s
  have h2 := Rd.op_pos l [tx "<", tx "="] 6 (Rd.sumW l fac s).1
  dsimp only
  split
  · exact Nat.le_trans h1 h2
  · rw [Rd.put_pos]
    exact Nat.le_trans h1 (Nat.le_trans h2 (Rd.sumW_pos l hf _))
theorem Rd.valueW_pos {fac : Rd → Rd × Int} (hf : ∀ s, s.pos ≤ (fac s).1.pos) (s : Rd) : s.pos ≤ (Rd.valueW l fac s).1.pos := Nat.le_trans (Rd.partW_pos l hf s) (Rd.many_pos l (Rd.partW_pos l hf) _ _ _)
theorem Rd.deepV_pos : ∀ n, (∀ s, s.pos ≤ ((Rd.deepV l n).1 s).1.pos) ∧ ∀ s, s.pos ≤ ((Rd.deepV l n).2 s).1.pos
  | 0 => ⟨fun _ => Nat.le_refl _, fun _ => Nat.le_refl _⟩
  | n + 1 => by
    have h := Rd.deepV_pos n
    exact ⟨Rd.valueW_pos l (Rd.factorW_pos l h.1 h.2), Rd.factorW_pos l h.1 h.2⟩
theorem Rd.value_pos (s : Rd) : s.pos ≤ (s.value l).1.pos := (Rd.deepV_pos l _).1 s
end
end Go.Proofs.YtdfahpachbhglaaGreatDoor

namespace Go.Proofs.YtdfahpachbhglaaGreatDoor

/-- Signs, with a blank between. -/
def joinS : List ByteArray → ByteArray
  | [] => ByteArray.empty
  | [a] => a
  | a :: b :: r => a ++ ⟨#[32]⟩ ++ joinS (b :: r)
theorem joinS_cons (a : ByteArray) {r : List ByteArray} (h : r ≠ []) : joinS (a :: r) = a ++ ⟨#[32]⟩ ++ joinS r := by
  cases r with
  | nil => exact absurd rfl h
  | cons b r => rfl
theorem joinS_app : ∀ {a b : List ByteArray}, a ≠ [] → b ≠ [] → joinS (a ++ b) = joinS a ++ ⟨#[32]⟩ ++ joinS b
  | [], _, h, _ => absurd rfl h
  | [x], b, _, hb => by rw [List.singleton_append, joinS_cons x hb]; rfl
  | x :: y :: r, b, _, hb => by
    rw [List.cons_append, joinS_cons x (by simp), joinS_app (a := y :: r) (by simp) hb, joinS_cons x (by simp)]
    simp only [ByteArray.append_assoc]
def kidN (x : Nd) (i : Nat) : Nat := (x.kids.getD i 0).toNat
def opSign (o : Int) : ByteArray := [tx "", tx "+", tx "-", tx "*", tx "/", tx "%", tx "<", tx "=", tx "and", tx "or"].getD o.toNat (tx "")
/-- Lists with a sign between. -/
def between (s : ByteArray) : List (List ByteArray) → List ByteArray
  | [] => []
  | [a] => a
  | a :: b :: r => a ++ s :: between s (b :: r)
/-- The signs of a node, of those of its kids. -/
def signsN (x : Nd) (K : Nat → List ByteArray) (B : List (List ByteArray)) : List ByteArray :=
  if x.kind = 1 then [strOfNums (decI x.num)]
  else if x.kind = 2 then [x.name]
  else if x.kind = 3 then tx "(" :: (K 0 ++ opSign x.num :: (K 1 ++ [tx ")"]))
  else if x.kind = 4 then tx "not" :: K 0
  else if x.kind = 5 then tx "-" :: K 0
  else if x.kind = 11 then x.name :: tx ":=" :: K 0
  else if x.kind = 12 then tx "if" :: (K 0 ++ tx "then" :: (K 1 ++ if 2 < x.kids.length then tx "else" :: K 2 else []))
  else if x.kind = 13 then tx "while" :: (K 0 ++ tx "do" :: K 1)
  else if x.kind = 14 then tx "call" :: x.name :: tx "." :: x.more :: tx "(" :: (K 0 ++ tx ")" :: if x.into.toList.isEmpty then [] else [tx "to", x.into])
  else if x.kind = 15 then tx "print" :: K 0
  else if x.kind = 16 then [tx "read", x.name]
  else if x.kind = 17 then [tx "delay", x.name]
  else if x.kind = 18 then [tx "continue", x.name]
  else if x.kind = 20 then tx "begin" :: (between (tx ";") B ++ [tx "end"])
  else [tx "skip"]
theorem ite_ne {p : Prop} [Decidable p] {α : Type} {a b : List α} (ha : a ≠ []) (hb : b ≠ []) : (if p then a else b) ≠ [] := by
  split
  · exact ha
  · exact hb
theorem signsN_ne (x : Nd) (K : Nat → List ByteArray) (B : List (List ByteArray)) : signsN x K B ≠ [] := by
  unfold signsN
  repeat refine ite_ne (by simp) ?_
  simp
/-- The signs of the tree below a place. -/
def shS (ns : List Nd) : Nat → Nat → List ByteArray
  | 0, _ => []
  | f + 1, k => signsN (ns.getD k default) (fun i => shS ns f (kidN (ns.getD k default) i)) ((ns.getD k default).kids.map fun y => shS ns f y.toNat)
theorem shS_ne (ns : List Nd) (f k : Nat) : shS ns (f + 1) k ≠ [] := signsN_ne _ _ _

/-- What a right tree gives: each node is right, its kids lie ahead and are less deep. -/
structure RightT (ns : List Nd) (dp : Nat → Nat) : Prop where
  node : ∀ k, k < ns.length → nodeB (ns.getD k default) (kinds ns k) = true
  deep : ∀ k, k < ns.length → 1 ≤ dp k ∧ dp k ≤ 10
  kid : ∀ k, k < ns.length → ∀ y ∈ (ns.getD k default).kids, 0 ≤ y ∧ y < (k : Int) ∧ dp y.toNat + 1 ≤ dp k
theorem fold_le (out : List Int) : ∀ (l : List Int) (d : Int), d ≤ l.foldl (kidDeep out) d ∧ ∀ y ∈ l, out.getD y.toNat 0 + 1 ≤ l.foldl (kidDeep out) d
  | [], d => ⟨Int.le_refl _, fun y hy => absurd hy (by simp)⟩
  | a :: l, d => by
    have ih := fold_le out l (kidDeep out d a)
    have h1 : d ≤ kidDeep out d a ∧ out.getD a.toNat 0 + 1 ≤ kidDeep out d a := by unfold kidDeep; split <;> omega
    refine ⟨Int.le_trans h1.1 ih.1, fun y hy => ?_⟩
    rcases List.mem_cons.1 hy with rfl | hy
    · exact Int.le_trans h1.2 ih.1
    · exact ih.2 y hy
theorem kidsB_kind {kd : Int} {l : List Int} (h : kidsB kd l = true) : ∀ y ∈ l, y ≠ 0 := by
  intro y hy e
  subst e
  have hz : valueQ 0 = false ∧ stmtQ 0 = false ∧ blockQ 0 = false := by decide
  unfold kidsB at h
  split at h
  · simp only [decide_eq_true_eq] at h
    rw [List.length_eq_zero_iff.1 h] at hy
    cases hy
  · split at h
    · simp only [Bool.and_eq_true, decide_eq_true_eq, List.all_eq_true] at h
      have := h.2 0 (by rw [List.take_of_length_le (by omega)]; exact hy)
      rw [hz.1] at this; cases this
    · split at h
      · simp only [Bool.and_eq_true, decide_eq_true_eq, List.all_eq_true] at h
        have := h.2 0 (by rw [List.take_of_length_le (by omega)]; exact hy)
        rw [hz.1] at this; cases this
      · split at h
        · simp only [Bool.and_eq_true, decide_eq_true_eq, List.all_eq_true] at h
          have e : l = l.take 1 ++ l.drop 1 := (List.take_append_drop 1 l).symm
          rw [e] at hy
          rcases List.mem_append.1 hy with hy | hy
          · have := h.1.2 0 hy; rw [hz.1] at this; cases this
          · have := h.2 0 hy; rw [hz.2.2] at this; cases this
        · split at h
          · simp only [Bool.and_eq_true, decide_eq_true_eq, List.all_eq_true] at h
            have e : l = l.take 1 ++ l.drop 1 := (List.take_append_drop 1 l).symm
            rw [e] at hy
            rcases List.mem_append.1 hy with hy | hy
            · have := h.1.2 0 hy; rw [hz.1] at this; cases this
            · have := h.2 0 hy; rw [hz.2.2] at this; cases this
          · simp only [Bool.and_eq_true, List.all_eq_true] at h
            have := h.1 0 hy; rw [hz.2.1] at this; cases this
theorem rightT_of {ns : List Nd} (h : (deepsTo ns ns.length).all deepQ = true) : RightT ns fun k => ((deepsTo ns ns.length).getD k 0).toNat := by
  have hd : ∀ k, k < ns.length → 1 ≤ (deepsTo ns ns.length).getD k 0 ∧ (deepsTo ns ns.length).getD k 0 ≤ 10 := fun k hk => by
    have hl : k < (deepsTo ns ns.length).length := by rw [deepsTo_len]; exact hk
    have := List.all_eq_true.1 h _ (List.getElem_mem hl)
    rw [List.getD_eq_getElem?_getD, List.getElem?_eq_getElem hl]
    simpa [deepQ, inZ] using this
  have hc : ∀ k, k < ns.length → (deepsTo ns ns.length).getD k 0 = kidsDeep ns (deepsTo ns k) k := fun k hk => by
    have h1 := (hd k hk).1
    rw [deepsTo_at ns ns.length hk] at h1 ⊢
    unfold cutDeep at h1 ⊢
    split at h1
    · omega
    · next hne => rw [if_neg hne]
  have hn : ∀ k, k < ns.length → nodeB (ns.getD k default) (kinds ns k) = true := fun k hk => by
    have h1 := (hd k hk).1
    rw [hc k hk] at h1
    unfold kidsDeep at h1
    split at h1
    · assumption
    · omega
  refine ⟨hn, fun k hk => by have := hd k hk; omega, fun k hk y hy => ?_⟩
  have h1 := hn k hk
  have h2 : kidsB (ns.getD k default).kind (kinds ns k) = true := by
    simp only [nodeB, Bool.and_eq_true] at h1
    exact h1.1.1.1.2
  have h3 : kidKind ns k y ≠ 0 := kidsB_kind h2 _ (List.mem_map.2 ⟨y, hy, rfl⟩)
  have h4 : 0 ≤ y ∧ y < (k : Int) := by
    unfold kidKind at h3
    split at h3
    · next hz => simp only [inZ, decide_eq_true_eq] at hz; omega
    · exact absurd rfl h3
  refine ⟨h4.1, h4.2, ?_⟩
  have h5 := hc k hk
  unfold kidsDeep at h5
  rw [if_pos h1] at h5
  have h6 := (fold_le (deepsTo ns k) (ns.getD k default).kids 1).2 y hy
  have h7 : (deepsTo ns k).getD y.toNat 0 = (deepsTo ns ns.length).getD y.toNat 0 := by
    rw [deepsTo_at ns k (by omega), deepsTo_at ns ns.length (by omega)]
  have h8 := hd y.toNat (by omega)
  rw [h7] at h6
  omega
end Go.Proofs.YtdfahpachbhglaaGreatDoor
