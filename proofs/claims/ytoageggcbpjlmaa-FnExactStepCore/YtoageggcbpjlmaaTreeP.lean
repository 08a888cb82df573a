/-
  Trees as values: nodes of six cells, rows of numbers and of nodes that can be read.
-/
import Derived.Test.YtoageggcbpjlmaaAid
import Derived.DataElems
import Derived.Laws.Cells
import Derived.Lib.Builder
import Derived.Deep.MidRow
namespace Go.Proofs.Ytoageggcbpjlmaa
open Go.RowKit

/-- A row of numbers that can be read. -/
def IntsAt (w : World) (v : Value) (xs : List Int) : Prop :=
  ∃ ao c, v = .slice ao xs.length c ∧ ∀ j (h : j < xs.length), ∃ a, ao = some a ∧ a.block < w.heap.size ∧ w.cell? (a.add j) = some (.int .i64 xs[j])

/-- A node. -/
structure Nd where
  kind : Int
  num : Int
  name : ByteArray
  more : ByteArray
  into : ByteArray
  kids : List Int
instance : Inhabited Nd := ⟨⟨0, 0, ByteArray.empty, ByteArray.empty, ByteArray.empty, []⟩⟩

/-- A node's cells, in the words of a walk; its kids lie behind a row. -/
structure NdCell (w : World) (a : Addr) (x : Nd) (kv : Value) : Prop where
  c0 : w.cell? a = some (.int .i64 x.kind)
  c1 : w.cell? { block := a.block, off := a.off + 1 } = some (.int .i64 x.num)
  c2 : w.cell? { block := a.block, off := a.off + 2 } = some (.string x.name)
  c3 : w.cell? { block := a.block, off := a.off + 3 } = some (.string x.more)
  c4 : w.cell? { block := a.block, off := a.off + 4 } = some (.string x.into)
  c5 : w.cell? { block := a.block, off := a.off + 5 } = some kv
  kids : IntsAt w kv x.kids

/-- A row of nodes that can be read. -/
def NdsAt (w : World) (v : Value) (xs : List Nd) : Prop :=
  ∃ ao c, v = .slice ao xs.length c ∧ ∀ j (h : j < xs.length), ∃ a kv, ao = some a ∧ a.block < w.heap.size ∧ NdCell w (a.add (j * 6)) xs[j] kv

theorem block_add (a : Addr) (n : Nat) : (a.add n).block = a.block := by simp only [Addr.add]; split <;> rfl

theorem IntsAt.stays {w w' : World} {v : Value} {xs : List Int} (h : IntsAt w v xs) (hb : Below w.heap.size w w') : IntsAt w' v xs := by
  obtain ⟨ao, c, rfl, hc⟩ := h
  refine ⟨ao, c, rfl, fun j hj => ?_⟩
  obtain ⟨a, rfl, ha, hx⟩ := hc j hj
  exact ⟨a, rfl, Nat.lt_of_lt_of_le ha hb.size, (hb.cell (by rw [block_add]; exact ha)).trans hx⟩
theorem NdCell.stays {w w' : World} {a : Addr} {x : Nd} {kv : Value} (h : NdCell w a x kv) (hb : Below w.heap.size w w') (ha : a.block < w.heap.size) : NdCell w' a x kv :=
  ⟨(hb.cell ha).trans h.c0, (hb.cell (p := { block := a.block, off := a.off + 1 }) ha).trans h.c1, (hb.cell (p := { block := a.block, off := a.off + 2 }) ha).trans h.c2, (hb.cell (p := { block := a.block, off := a.off + 3 }) ha).trans h.c3,
    (hb.cell (p := { block := a.block, off := a.off + 4 }) ha).trans h.c4, (hb.cell (p := { block := a.block, off := a.off + 5 }) ha).trans h.c5, h.kids.stays hb⟩
theorem NdsAt.stays {w w' : World} {v : Value} {xs : List Nd} (h : NdsAt w v xs) (hb : Below w.heap.size w w') : NdsAt w' v xs := by
  obtain ⟨ao, c, rfl, hc⟩ := h
  refine ⟨ao, c, rfl, fun j hj => ?_⟩
  obtain ⟨a, kv, rfl, ha, hx⟩ := hc j hj
  exact ⟨a, kv, rfl, Nat.lt_of_lt_of_le ha hb.size, hx.stays hb (by rw [block_add]; exact ha)⟩

/-- A number between two. -/
def inZ (lo hi x : Int) : Bool := decide (lo ≤ x ∧ x ≤ hi)
theorem inZ_yes {lo hi x : Int} : inZ lo hi x = true ↔ lo ≤ x ∧ x ≤ hi := by simp [inZ]
theorem inZ_no {lo hi x : Int} : inZ lo hi x = false ↔ ¬ (lo ≤ x ∧ x ≤ hi) := by rw [inZ, decide_eq_false_iff_not]
/-- How a node's kind is told of a kid. -/
def kidKind (ns : List Nd) (k : Nat) (x : Int) : Int := if inZ 0 ((k : Int) - 1) x then (ns.getD x.toNat default).kind else 0
def valueQ (k : Int) : Bool := inZ 1 5 k
def stmtQ (k : Int) : Bool := inZ 11 19 k
end Go.Proofs.Ytoageggcbpjlmaa

namespace Go.Proofs.Ytoageggcbpjlmaa
open Go.RowKit

/-- The parts of a word. -/
structure In4 where
  op : Int
  a : Int
  b : Int
  c : Int
/-- What an Op asks of its parts. -/
def insArgs (op a b c : Int) : Bool :=
  if op = 1 then decide (c ≤ 1000000) else if op = 4 then inZ 1 9 c else if op = 5 then c == 0 else if op = 6 then c == 0 else if op = 8 then a == 0 else if op = 10 then inZ 1 7 a && b == 0 else true
/-- Whether it uses its second register. -/
def insTwo (op b : Int) : Bool := op == 4 || op == 10 || b == 0
def insB (op a b c : Int) : Bool := inZ 1 10 op && inZ 0 7 a && inZ 0 7 b && inZ 0 4194303 c && insTwo op b && insArgs op a b c
def encI (op a b c : Int) : Int := op * 268435456 + a * 33554432 + b * 4194304 + c
/-- The parts of a number. -/
def decOp (n : Int) : Int := n / 268435456
def decA (n : Int) : Int := n / 33554432 % 8
def decBb (n : Int) : Int := n / 4194304 % 8
def decC (n : Int) : Int := n % 4194304
def decB (n : Int) : Bool := inZ 0 8589934592 n && insB (decOp n) (decA n) (decBb n) (decC n)

theorem insB_in {op a b c : Int} (h : insB op a b c = true) : (1 ≤ op ∧ op ≤ 10) ∧ (0 ≤ a ∧ a ≤ 7) ∧ (0 ≤ b ∧ b ≤ 7) ∧ (0 ≤ c ∧ c ≤ 4194303) := by
  unfold insB at h
  simp only [Bool.and_eq_true, inZ_yes] at h
  exact ⟨h.1.1.1.1.1, h.1.1.1.1.2, h.1.1.1.2, h.1.1.2⟩
theorem dec_enc {op a b c : Int} (h : insB op a b c = true) : decOp (encI op a b c) = op ∧ decA (encI op a b c) = a ∧ decBb (encI op a b c) = b ∧ decC (encI op a b c) = c ∧ inZ 0 8589934592 (encI op a b c) = true := by
  have := insB_in h
  unfold decOp decA decBb decC encI
  rw [inZ_yes]
  omega
theorem decB_enc {op a b c : Int} (h : insB op a b c = true) : decB (encI op a b c) = true := by
  obtain ⟨h1, h2, h3, h4, h5⟩ := dec_enc h
  unfold decB
  rw [h1, h2, h3, h4, h5, h]
  rfl
theorem enc_dec (n : Int) : encI (decOp n) (decA n) (decBb n) (decC n) = n := by
  unfold decOp decA decBb decC encI
  omega
end Go.Proofs.Ytoageggcbpjlmaa

namespace Go.Proofs.Ytoageggcbpjlmaa
open Go.RowKit

/-- A box: a block of these cells. -/
abbrev Box (w : World) (g : Nat) (cs : Array Value) (t : TypeId) : Prop := w.heap[g]? = some (.cells cs t (0, 0))

theorem Box.made (w : World) (cs : Array Value) (t : TypeId) : Box (w.alloc (.cells cs t)) w.heap.size cs t := heap_alloc_new w _
theorem Box.madeAt {w : World} {g : Nat} (hg : g = w.heap.size) (cs : Array Value) (t : TypeId) : Box (w.alloc (.cells cs t)) g cs t := by
  subst hg; exact heap_alloc_new w _
theorem Box.lt {w : World} {g : Nat} {cs : Array Value} {t : TypeId} (h : Box w g cs t) : g < w.heap.size := by
  rcases Nat.lt_or_ge g w.heap.size with hg | hg
  · exact hg
  · rw [Box, Array.getElem?_eq_none hg] at h; cases h
theorem Box.stays {w w' : World} {g : Nat} {cs : Array Value} {t : TypeId} (h : Box w g cs t) (hb : Below w.heap.size w w') : Box w' g cs t := (hb.block g h.lt).trans h
theorem Box.set {w : World} {g : Nat} {cs : Array Value} {t : TypeId} (h : Box w g cs t) (i : Nat) (v : Value) : Box (w.setCell ⟨g, i, none⟩ v) g (cs.setIfInBounds i v) t := by
  have h' : w.heap[g]? = some (.cells cs t (0, 0)) := h
  simp [Box, World.setCell, Array.getElem?_modify, h']
theorem Box.other {w : World} {g : Nat} {cs : Array Value} {t : TypeId} (h : Box w g cs t) (a : Addr) (v : Value) (ha : g ≠ a.block) : Box (w.setCell a v) g cs t :=
  (Below.heap_setCell w a v g ha).trans h
theorem Box.read {P : Program} {w : World} {g : Nat} {cs : Array Value} {t : TypeId} (h : Box w g cs t) (ty : TypeId) (d : TypeDesc) (hu : P.underlying ty = some d) (hd : d.isRow = true) (hi : (P.info? ty).map (·.size) = some cs.size) :
    (loadVar ty ⟨g, 0, none⟩).run P w = .ok (.agg cs) w := by
  have hl : (loadCells ⟨g, 0, none⟩ cs.size).run P w = .ok cs w := by
    have := run_loadCells_list (P := P) w ⟨g, 0, none⟩ cs.toList (fun j v hv => by
      have e : (⟨g, 0, none⟩ : Addr).add j = ⟨g, j, none⟩ := by
        simp only [Addr.add]
        split
        · next h => subst h; rfl
        · simp
      rw [e, Lib.cell_of_heap h j]
      simpa using hv)
    simpa using this
  cases hq : P.info? ty with
  | none => simp [hq] at hi
  | some i =>
    have hs : i.size = cs.size := by simpa [hq] using hi
    have hagg : (isAgg ty).run P w = .ok true w := by
      unfold isAgg
      rw [Sem.run_bind, run_underlying hu w]
      cases d <;> simp_all
    simp [loadVar, Sem.run_bind, hagg, sizeOf, typeInfo, hq, hs, hl]
theorem box_results {P : Program} {fn : Func} {p : Tmp} {ty : TypeId} (h : fn.results = #[.cell p ty]) (tmps : Array Value) (w : World) {a : Addr} (hp : tmps.getD p undef = .pointer (some a)) {v : Value} (hl : (loadVar ty a).run P w = .ok v w) :
    (results fn tmps).run P w = .ok v w := by
  have hp' : tmps[p]?.getD undef = .pointer (some a) := by simpa using hp
  simp only [results, h]
  simp [hp', asAddr, hl]
/-- A function whose one result is a struct in a box. -/
theorem box_ret {P : Program} {fn : Func} {p : Tmp} {ty : TypeId} {Q : Ending → World → Prop} {a : Act} {w : World} {g : Nat} {cs : Array Value} {t : TypeId} (hr : fn.results = #[.cell p ty]) (hp : a.tmps.getD p undef = .pointer (some ⟨g, 0, none⟩)) (hb : Box w g cs t)
    (d : TypeDesc) (hu : P.underlying ty = some d) (hd : d.isRow = true) (hi : (P.info? ty).map (·.size) = some cs.size) (hdf : a.defers = []) (h : Q (.returned (.agg cs)) w) : bodyPost P fn Q .ret a w :=
  bodyPost_ret (box_results hr a.tmps w hp (hb.read ty d hu hd hi)) hdf h
end Go.Proofs.Ytoageggcbpjlmaa

namespace Go.Proofs.Ytoageggcbpjlmaa
open Go.RowKit

/-- A struct in a box and a value. -/
theorem box_retV {P : Program} {fn : Func} {p q : Tmp} {ty : TypeId} {Q : Ending → World → Prop} {a : Act} {w : World} {g : Nat} {cs : Array Value} {t : TypeId} (hr : fn.results = #[.cell p ty, .tmp q]) (hp : a.tmps.getD p undef = .pointer (some ⟨g, 0, none⟩)) (hb : Box w g cs t)
    (d : TypeDesc) (hu : P.underlying ty = some d) (hd : d.isRow = true) (hi : (P.info? ty).map (·.size) = some cs.size) (hdf : a.defers = []) (h : Q (.returned (.tuple #[.agg cs, a.tmps.getD q undef])) w) : bodyPost P fn Q .ret a w := by
  refine bodyPost_ret (v := .tuple #[.agg cs, a.tmps.getD q undef]) ?_ hdf h
  have hl := hb.read ty d hu hd hi
  have hp' : a.tmps[p]?.getD undef = .pointer (some ⟨g, 0, none⟩) := by simpa using hp
  simp only [results, hr]
  simp [hp', asAddr, hl]
/-- A struct in a box and two values. -/
theorem box_retVV {P : Program} {fn : Func} {p q q' : Tmp} {ty : TypeId} {Q : Ending → World → Prop} {a : Act} {w : World} {g : Nat} {cs : Array Value} {t : TypeId} (hr : fn.results = #[.cell p ty, .tmp q, .tmp q']) (hp : a.tmps.getD p undef = .pointer (some ⟨g, 0, none⟩)) (hb : Box w g cs t)
    (d : TypeDesc) (hu : P.underlying ty = some d) (hd : d.isRow = true) (hi : (P.info? ty).map (·.size) = some cs.size) (hdf : a.defers = []) (h : Q (.returned (.tuple #[.agg cs, a.tmps.getD q undef, a.tmps.getD q' undef])) w) : bodyPost P fn Q .ret a w := by
  refine bodyPost_ret (v := .tuple #[.agg cs, a.tmps.getD q undef, a.tmps.getD q' undef]) ?_ hdf h
  have hl := hb.read ty d hu hd hi
  have hp' : a.tmps[p]?.getD undef = .pointer (some ⟨g, 0, none⟩) := by simpa using hp
  simp only [results, hr]
  simp [hp', asAddr, hl]
/-- Two structs in boxes. -/
theorem box_retBB {P : Program} {fn : Func} {p p' : Tmp} {ty ty' : TypeId} {Q : Ending → World → Prop} {a : Act} {w : World} {g g' : Nat} {cs cs' : Array Value} {t t' : TypeId} (hr : fn.results = #[.cell p ty, .cell p' ty']) (hp : a.tmps.getD p undef = .pointer (some ⟨g, 0, none⟩)) (hq : a.tmps.getD p' undef = .pointer (some ⟨g', 0, none⟩)) (hb : Box w g cs t) (hb' : Box w g' cs' t')
    (d d' : TypeDesc) (hu : P.underlying ty = some d) (hu' : P.underlying ty' = some d') (hd : d.isRow = true) (hd' : d'.isRow = true) (hi : (P.info? ty).map (·.size) = some cs.size) (hi' : (P.info? ty').map (·.size) = some cs'.size) (hdf : a.defers = []) (h : Q (.returned (.tuple #[.agg cs, .agg cs'])) w) : bodyPost P fn Q .ret a w := by
  refine bodyPost_ret (v := .tuple #[.agg cs, .agg cs']) ?_ hdf h
  have hl := hb.read ty d hu hd hi
  have hl' := hb'.read ty' d' hu' hd' hi'
  have hp' : a.tmps[p]?.getD undef = .pointer (some ⟨g, 0, none⟩) := by simpa using hp
  have hq' : a.tmps[p']?.getD undef = .pointer (some ⟨g', 0, none⟩) := by simpa using hq
  simp only [results, hr]
  simp [hp', hq', asAddr, hl, hl']
end Go.Proofs.Ytoageggcbpjlmaa
