/-
  Lemmas that speak of no program: bytes of a number, a row of bytes that grows by one, a row of bytes as a text.
-/
import Derived.WalkKit
import Derived.Laws.BytesArg
import Derived.Laws.BytesString
import Derived.DataElems
import Derived.Laws.Cells
import Derived.Lib.Builder
import Derived.Deep.MidRow
import Derived.Laws.MakeOwn
import Derived.Test.YtpdpmnkonkpheaaGreatChecked
import Derived.BigQuiet
import Derived.WalkSmall
namespace Go.Proofs.YtpdpmnkonkpheaaGreat
open Go.RowKit

theorem hide {p : Prop} (h : p) : Hid p := h
theorem unhide {p : Prop} (h : Hid p) : p := h

/-- The bytes of a number: seven bits each, the lowest first. -/
def varL (n : Nat) : List Int := if 127 < n then ((n % 128 + 128 : Nat) : Int) :: varL (n / 128) else [(n : Int)]

theorem varL_big {n : Nat} (h : 127 < n) : varL n = ((n % 128 + 128 : Nat) : Int) :: varL (n / 128) := by
  rw [varL, if_pos h]
theorem varL_small {n : Nat} (h : n ≤ 127) : varL n = [(n : Int)] := by
  rw [varL, if_neg (by omega)]
theorem varL_pos (n : Nat) : 0 < (varL n).length := by
  rw [varL]; split <;> simp
theorem varL_len : ∀ (k n : Nat), n < 2 ^ (7 * (k + 1)) → (varL n).length ≤ k + 1
  | 0, n, h => by rw [varL_small (by omega)]; simp
  | k + 1, n, h => by
    by_cases hn : 127 < n
    · rw [varL_big hn]
      have := varL_len k (n / 128) (by
        rw [Nat.div_lt_iff_lt_mul (by omega)]
        have e : 2 ^ (7 * (k + 1 + 1)) = 2 ^ (7 * (k + 1)) * 128 := by rw [show 7 * (k + 1 + 1) = 7 * (k + 1) + 7 from by omega, Nat.pow_add]
        omega)
      simp; omega
    · rw [varL_small (by omega)]; simp

/-- A row that is owned, one value appended (the value lies in a new block of one cell): what is owned behind it. -/
theorem wpList_app1 {P : Program} {w : World} {ops : Array Oper} {rest : List Oper} {o : Oper} {a : Act} {Q : Exit → Act → World → Prop} (hgd : o.guard = none) (s x : Operand) (t : TypeId)
    (ho : o.op = .call { callee := .builtin .append, args := #[s, x], argTypes := #[t, t] })
    (base : Nat) (e : TypeId) (z : Value) (bytes : Nat) (ht : P.underlying t = some (.slice e)) (hi : (P.info? e).map (fun i => (i.zero, i.size, i.bytes)) = some (some z, 1, bytes)) (hzs : z.cells.size = 1)
    (v : Value) (n : Nat) (xs : List Value) (u : Value) (hs : a.eval s = v) (hown : w.ownsRow base e 1 v n xs)
    (hx : a.eval x = .slice (some ⟨w.heap.size, 0, none⟩) 1 1) (h1 : u.oneCell' = true)
    (h63 : n + 1 ≤ maxLen) (hbytes : (n + 1) * bytes ≤ 140737488355328) (hbase : base ≤ w.heap.size)
    (h : ∀ v' w', w'.ownsRow base e 1 v' (n + 1) (xs ++ [u]) → Below base w w' → wpList P ops Q rest (a.put o.dst v') w') : wpList P ops Q (o :: rest) a (w.alloc (.cells #[u] e)) := by
  obtain ⟨i, hi, hz0, hz1, hz2⟩ := info_parts hi
  refine wpList_append_own _ hgd s x t ho base e i z 1 bytes ht hi hz0 hz1 hz2 hzs (by decide) v n xs hs (hown.alloc _) ⟨w.heap.size, 0, none⟩ 1 1 [u] hx rfl ?_ ?_ h63 hbytes ?_ ?_
  · intro j q hj
    match j, hj with
    | 0, hj => simp at hj; subst hj; simp [Addr.add]
    | j + 1, hj => simp at hj
  · intro q hq; simp at hq; subst hq; exact h1
  · simp; omega
  · intro v' w' hown' hgrow _
    refine h v' w' hown' ?_
    exact ((Below.refl base w).alloc hbase _).grown hgrow (by simp; omega) (fun j hj => (hown.lt j hj).1)

/-- The same at a step of a statement that leaves its order open: whatever world, whatever is appended. -/
theorem step_appn {P : Program} {W : World} {ops : Array Oper} {o : Oper} {a : Act} {K : Act → World → Prop} {Q : Exit → Act → World → Prop} {E : Prop} (hgd : o.guard = none) (s x : Operand) (t : TypeId)
    (ho : o.op = .call { callee := .builtin .append, args := #[s, x], argTypes := #[t, t] })
    (base : Nat) (e : TypeId) (z : Value) (bytes : Nat) (ht : P.underlying t = some (.slice e)) (hi : (P.info? e).map (fun i => (i.zero, i.size, i.bytes)) = some (some z, 1, bytes)) (hzs : z.cells.size = 1)
    (v : Value) (n : Nat) (xs : List Value) (hs : a.eval s = v) (hown : W.ownsRow base e 1 v n xs)
    (ad : Addr) (m c : Nat) (news : List Value) (hx : a.eval x = .slice (some ad) m c) (hl : news.length = m) (hnews : ∀ j u, news[j]? = some u → W.cell? (ad.add j) = some u) (h1 : ∀ u ∈ news, u.oneCell' = true)
    (h63 : n + m ≤ maxLen) (hbytes : (n + m) * bytes ≤ 140737488355328) (hbase : base ≤ W.heap.size)
    (h : ∀ v' w', w'.ownsRow base e 1 v' (n + m) (xs ++ news) → Below base W w' → K (a.put o.dst v') w') :
    if Region.wanted o (yielded ops a.tmps) = true then Oper.wp P o a W K Q else E := by
  obtain ⟨i, hi, hz0, hz1, hz2⟩ := info_parts hi
  have hw : Region.wanted o (yielded ops a.tmps) = true := by simp [Region.wanted, hgd]
  rw [if_pos hw]
  refine wp_append_own W s x t ho base e i z 1 bytes ht hi hz0 hz1 hz2 hzs (by decide) v n xs hs hown ad m c news hx (by omega) hnews h1 h63 hbytes hbase ?_
  intro v' w' hown' hgrow _
  exact h v' w' hown' ((Below.refl base W).grown hgrow hbase (fun j hj => (hown.lt j hj).1))

/-- A row of bytes that is owned, as a text. -/
theorem conv_own {P : Program} {w : World} {base : Nat} {v : Value} {n : Nat} {xs : List Int} (src dst e : TypeId) (hs : P.underlying src = some (.slice e)) (he : P.underlying e = some (.int .u8)) (hd : P.underlying dst = some .string)
    (hown : w.ownsRow base e 1 v n (xs.map (Value.int .u8))) : (convert src dst v).run P w = .ok (.string (strOfNums xs)) w := by
  have hl : xs.length = n := by simpa using hown.1
  rcases hown.2 with ⟨rfl, rfl⟩ | ⟨g, cap, cur, rfl, _, _, _, _, _, _⟩
  · have : xs = [] := List.length_eq_zero_iff.1 hl
    subst this
    rw [run_convert_bytes_nil w src e hs he 0 0 dst hd]
    rfl
  · refine run_convert_bytes_arg w src e hs he g 0 n cap xs hl ?_ dst hd
    intro i hi
    have := hown.cellAt i (by omega)
    rw [Nat.zero_add, this, List.getElem?_map, List.getD_eq_getElem?_getD, List.getElem?_eq_getElem (by omega)]
    rfl

theorem ownsRow_empty (w : World) (base : Nat) (e : TypeId) (hb : base ≤ w.heap.size) : (w.alloc (.cells #[] e)).ownsRow base e 1 (.slice (some ⟨w.heap.size, 0, none⟩) 0 0) 0 [] := by
  have := World.ownsRow_made (base := base) (e := e) (size := 1) w #[] 0 hb (by simp [maxLen]) (by simp)
  simpa using this

theorem str_inj {x y : ByteArray} (h : x.toList = y.toList) : x = y := by
  rw [ByteArray.toList_eq, ByteArray.toList_eq] at h
  exact ByteArray.ext (Array.toList_inj.1 h)
theorem str_beq {x y : ByteArray} : (x.toList == y.toList) = true ↔ x = y := by
  rw [beq_iff_eq]
  exact ⟨str_inj, fun h => by rw [h]⟩
end Go.Proofs.YtpdpmnkonkpheaaGreat

namespace Go.Proofs.YtpdpmnkonkpheaaGreat
open Go.RowKit

/-- A box: a block of these cells. -/
abbrev Box (w : World) (g : Nat) (cs : Array Value) (t : TypeId) : Prop := w.heap[g]? = some (.cells cs t (0, 0))

theorem Box.made (w : World) (cs : Array Value) (t : TypeId) : Box (w.alloc (.cells cs t)) w.heap.size cs t := heap_alloc_new w _
theorem Box.madeAt {w : World} {g : Nat} (hg : g = w.heap.size) (cs : Array Value) (t : TypeId) : Box (w.alloc (.cells cs t)) g cs t := by
  subst hg; exact heap_alloc_new w _
theorem Box.lt {w : World} {g : Nat} {cs : Array Value} {t : TypeId} (h : Box w g cs t) : g < w.heap.size := by
  rcases Nat.lt_or_ge g w.heap.size with hg | hg
  · exact hg
  · rw [Box, Array.getElem?_eq_none hg] at h; cases h
theorem Box.stays {w w' : World} {g : Nat} {cs : Array Value} {t : TypeId} (h : Box w g cs t) (hb : Below w.heap.size w w') : Box w' g cs t := (hb.block g h.lt).trans h
theorem Box.set {w : World} {g : Nat} {cs : Array Value} {t : TypeId} (h : Box w g cs t) (i : Nat) (v : Value) : Box (w.setCell ⟨g, i, none⟩ v) g (cs.setIfInBounds i v) t := by
  have h' : w.heap[g]? = some (.cells cs t (0, 0)) := h
  simp [Box, World.setCell, Array.getElem?_modify, h']
theorem Box.other {w : World} {g : Nat} {cs : Array Value} {t : TypeId} (h : Box w g cs t) (a : Addr) (v : Value) (ha : g ≠ a.block) : Box (w.setCell a v) g cs t :=
  (Below.heap_setCell w a v g ha).trans h
theorem Box.read {P : Program} {w : World} {g : Nat} {cs : Array Value} {t : TypeId} (h : Box w g cs t) (ty : TypeId) (d : TypeDesc) (hu : P.underlying ty = some d) (hd : d.isRow = true) (hi : (P.info? ty).map (·.size) = some cs.size) :
    (loadVar ty ⟨g, 0, none⟩).run P w = .ok (.agg cs) w := by
  have hl : (loadCells ⟨g, 0, none⟩ cs.size).run P w = .ok cs w := by
    have := run_loadCells_list (P := P) w ⟨g, 0, none⟩ cs.toList (fun j v hv => by
      have e : (⟨g, 0, none⟩ : Addr).add j = ⟨g, j, none⟩ := by
        simp only [Addr.add]
        split
        · next h => subst h; rfl
        · simp
      rw [e, Lib.cell_of_heap h j]
      simpa using hv)
    simpa using this
  cases hq : P.info? ty with
  | none => simp [hq] at hi
  | some i =>
    have hs : i.size = cs.size := by simpa [hq] using hi
    have hagg : (isAgg ty).run P w = .ok true w := by
      unfold isAgg
      rw [Sem.run_bind, run_underlying hu w]
      cases d <;> simp_all
    simp [loadVar, Sem.run_bind, hagg, sizeOf, typeInfo, hq, hs, hl]
theorem box_results {P : Program} {fn : Func} {p : Tmp} {ty : TypeId} (h : fn.results = #[.cell p ty]) (tmps : Array Value) (w : World) {a : Addr} (hp : tmps.getD p undef = .pointer (some a)) {v : Value} (hl : (loadVar ty a).run P w = .ok v w) :
    (results fn tmps).run P w = .ok v w := by
  have hp' : tmps[p]?.getD undef = .pointer (some a) := by simpa using hp
  simp only [results, h]
  simp [hp', asAddr, hl]
/-- A function whose one result is a struct in a box. -/
theorem box_ret {P : Program} {fn : Func} {p : Tmp} {ty : TypeId} {Q : Ending → World → Prop} {a : Act} {w : World} {g : Nat} {cs : Array Value} {t : TypeId} (hr : fn.results = #[.cell p ty]) (hp : a.tmps.getD p undef = .pointer (some ⟨g, 0, none⟩)) (hb : Box w g cs t)
    (d : TypeDesc) (hu : P.underlying ty = some d) (hd : d.isRow = true) (hi : (P.info? ty).map (·.size) = some cs.size) (hdf : a.defers = []) (h : Q (.returned (.agg cs)) w) : bodyPost P fn Q .ret a w :=
  bodyPost_ret (box_results hr a.tmps w hp (hb.read ty d hu hd hi)) hdf h
end Go.Proofs.YtpdpmnkonkpheaaGreat

namespace Go.Proofs.YtpdpmnkonkpheaaGreat
open Go.RowKit

/-- A row of numbers that can be read. -/
def IntsAt (w : World) (v : Value) (xs : List Int) : Prop :=
  ∃ ao c, v = .slice ao xs.length c ∧ ∀ j (h : j < xs.length), ∃ a, ao = some a ∧ a.block < w.heap.size ∧ w.cell? (a.add j) = some (.int .i64 xs[j])

/-- A node. -/
structure Nd where
  kind : Int
  num : Int
  name : ByteArray
  more : ByteArray
  into : ByteArray
  kids : List Int
instance : Inhabited Nd := ⟨⟨0, 0, ByteArray.empty, ByteArray.empty, ByteArray.empty, []⟩⟩

/-- A node's cells, in the words of a walk; its kids lie behind a row. -/
structure NdCell (w : World) (a : Addr) (x : Nd) (kv : Value) : Prop where
  c0 : w.cell? a = some (.int .i64 x.kind)
  c1 : w.cell? { block := a.block, off := a.off + 1 } = some (.int .i64 x.num)
  c2 : w.cell? { block := a.block, off := a.off + 2 } = some (.string x.name)
  c3 : w.cell? { block := a.block, off := a.off + 3 } = some (.string x.more)
  c4 : w.cell? { block := a.block, off := a.off + 4 } = some (.string x.into)
  c5 : w.cell? { block := a.block, off := a.off + 5 } = some kv
  kids : IntsAt w kv x.kids

/-- A row of nodes that can be read. -/
def NdsAt (w : World) (v : Value) (xs : List Nd) : Prop :=
  ∃ ao c, v = .slice ao xs.length c ∧ ∀ j (h : j < xs.length), ∃ a kv, ao = some a ∧ a.block < w.heap.size ∧ NdCell w (a.add (j * 6)) xs[j] kv

theorem block_add (a : Addr) (n : Nat) : (a.add n).block = a.block := by simp only [Addr.add]; split <;> rfl

theorem IntsAt.stays {w w' : World} {v : Value} {xs : List Int} (h : IntsAt w v xs) (hb : Below w.heap.size w w') : IntsAt w' v xs := by
  obtain ⟨ao, c, rfl, hc⟩ := h
  refine ⟨ao, c, rfl, fun j hj => ?_⟩
  obtain ⟨a, rfl, ha, hx⟩ := hc j hj
  exact ⟨a, rfl, Nat.lt_of_lt_of_le ha hb.size, (hb.cell (by rw [block_add]; exact ha)).trans hx⟩
theorem NdCell.stays {w w' : World} {a : Addr} {x : Nd} {kv : Value} (h : NdCell w a x kv) (hb : Below w.heap.size w w') (ha : a.block < w.heap.size) : NdCell w' a x kv :=
  ⟨(hb.cell ha).trans h.c0, (hb.cell (p := { block := a.block, off := a.off + 1 }) ha).trans h.c1, (hb.cell (p := { block := a.block, off := a.off + 2 }) ha).trans h.c2, (hb.cell (p := { block := a.block, off := a.off + 3 }) ha).trans h.c3,
    (hb.cell (p := { block := a.block, off := a.off + 4 }) ha).trans h.c4, (hb.cell (p := { block := a.block, off := a.off + 5 }) ha).trans h.c5, h.kids.stays hb⟩
theorem NdsAt.stays {w w' : World} {v : Value} {xs : List Nd} (h : NdsAt w v xs) (hb : Below w.heap.size w w') : NdsAt w' v xs := by
  obtain ⟨ao, c, rfl, hc⟩ := h
  refine ⟨ao, c, rfl, fun j hj => ?_⟩
  obtain ⟨a, kv, rfl, ha, hx⟩ := hc j hj
  exact ⟨a, kv, rfl, Nat.lt_of_lt_of_le ha hb.size, hx.stays hb (by rw [block_add]; exact ha)⟩

/-- A number between two. -/
def inZ (lo hi x : Int) : Bool := decide (lo ≤ x ∧ x ≤ hi)
theorem inZ_yes {lo hi x : Int} : inZ lo hi x = true ↔ lo ≤ x ∧ x ≤ hi := by simp [inZ]
theorem inZ_no {lo hi x : Int} : inZ lo hi x = false ↔ ¬ (lo ≤ x ∧ x ≤ hi) := by rw [inZ, decide_eq_false_iff_not]
/-- How a node's kind is told of a kid. -/
def kidKind (ns : List Nd) (k : Nat) (x : Int) : Int := if inZ 0 ((k : Int) - 1) x then (ns.getD x.toNat default).kind else 0
def valueQ (k : Int) : Bool := inZ 1 5 k
def stmtQ (k : Int) : Bool := inZ 11 19 k
end Go.Proofs.YtpdpmnkonkpheaaGreat

namespace Go.Proofs.YtpdpmnkonkpheaaGreat
open Go.RowKit

/-- A row of texts that can be read. -/
def StrsAt (w : World) (v : Value) (xs : List ByteArray) : Prop :=
  ∃ ao c, v = .slice ao xs.length c ∧ ∀ j (h : j < xs.length), ∃ a, ao = some a ∧ a.block < w.heap.size ∧ w.cell? (a.add j) = some (.string xs[j])
theorem StrsAt.stays {w w' : World} {v : Value} {xs : List ByteArray} (h : StrsAt w v xs) (hb : Below w.heap.size w w') : StrsAt w' v xs := by
  obtain ⟨ao, c, rfl, hc⟩ := h
  refine ⟨ao, c, rfl, fun j hj => ?_⟩
  obtain ⟨a, rfl, ha, hx⟩ := hc j hj
  exact ⟨a, rfl, Nat.lt_of_lt_of_le ha hb.size, (hb.cell (by rw [block_add]; exact ha)).trans hx⟩

/-- An entry. -/
structure En where
  name : ByteArray
  param : ByteArray
  body : Int
instance : Inhabited En := ⟨⟨ByteArray.empty, ByteArray.empty, 0⟩⟩
structure EnCell (w : World) (a : Addr) (x : En) : Prop where
  c0 : w.cell? a = some (.string x.name)
  c1 : w.cell? { block := a.block, off := a.off + 1 } = some (.string x.param)
  c2 : w.cell? { block := a.block, off := a.off + 2 } = some (.int .i64 x.body)
theorem EnCell.stays {w w' : World} {a : Addr} {x : En} (h : EnCell w a x) (hb : Below w.heap.size w w') (ha : a.block < w.heap.size) : EnCell w' a x :=
  ⟨(hb.cell ha).trans h.c0, (hb.cell (p := { block := a.block, off := a.off + 1 }) ha).trans h.c1, (hb.cell (p := { block := a.block, off := a.off + 2 }) ha).trans h.c2⟩
def EnsAt (w : World) (v : Value) (xs : List En) : Prop :=
  ∃ ao c, v = .slice ao xs.length c ∧ ∀ j (h : j < xs.length), ∃ a, ao = some a ∧ a.block < w.heap.size ∧ EnCell w (a.add (j * 3)) xs[j]
theorem EnsAt.stays {w w' : World} {v : Value} {xs : List En} (h : EnsAt w v xs) (hb : Below w.heap.size w w') : EnsAt w' v xs := by
  obtain ⟨ao, c, rfl, hc⟩ := h
  refine ⟨ao, c, rfl, fun j hj => ?_⟩
  obtain ⟨a, rfl, ha, hx⟩ := hc j hj
  exact ⟨a, rfl, Nat.lt_of_lt_of_le ha hb.size, hx.stays hb (by rw [block_add]; exact ha)⟩

/-- A monitor. -/
structure Mo where
  name : ByteArray
  vars : List ByteArray
  queues : List ByteArray
  ents : List En
instance : Inhabited Mo := ⟨⟨ByteArray.empty, [], [], []⟩⟩
structure MoCell (w : World) (a : Addr) (x : Mo) (vv qv ev : Value) : Prop where
  c0 : w.cell? a = some (.string x.name)
  c1 : w.cell? { block := a.block, off := a.off + 1 } = some vv
  c2 : w.cell? { block := a.block, off := a.off + 2 } = some qv
  c3 : w.cell? { block := a.block, off := a.off + 3 } = some ev
  vars : StrsAt w vv x.vars
  queues : StrsAt w qv x.queues
  ents : EnsAt w ev x.ents
theorem MoCell.stays {w w' : World} {a : Addr} {x : Mo} {vv qv ev : Value} (h : MoCell w a x vv qv ev) (hb : Below w.heap.size w w') (ha : a.block < w.heap.size) : MoCell w' a x vv qv ev :=
  ⟨(hb.cell ha).trans h.c0, (hb.cell (p := { block := a.block, off := a.off + 1 }) ha).trans h.c1, (hb.cell (p := { block := a.block, off := a.off + 2 }) ha).trans h.c2,
    (hb.cell (p := { block := a.block, off := a.off + 3 }) ha).trans h.c3, h.vars.stays hb, h.queues.stays hb, h.ents.stays hb⟩
def MosAt (w : World) (v : Value) (xs : List Mo) : Prop :=
  ∃ ao c, v = .slice ao xs.length c ∧ ∀ j (h : j < xs.length), ∃ a vv qv ev, ao = some a ∧ a.block < w.heap.size ∧ MoCell w (a.add (j * 4)) xs[j] vv qv ev
theorem MosAt.stays {w w' : World} {v : Value} {xs : List Mo} (h : MosAt w v xs) (hb : Below w.heap.size w w') : MosAt w' v xs := by
  obtain ⟨ao, c, rfl, hc⟩ := h
  refine ⟨ao, c, rfl, fun j hj => ?_⟩
  obtain ⟨a, vv, qv, ev, rfl, ha, hx⟩ := hc j hj
  exact ⟨a, vv, qv, ev, rfl, Nat.lt_of_lt_of_le ha hb.size, hx.stays hb (by rw [block_add]; exact ha)⟩

/-- A process. -/
structure Pr where
  name : ByteArray
  uses : List ByteArray
  vars : List ByteArray
  body : Int
instance : Inhabited Pr := ⟨⟨ByteArray.empty, [], [], 0⟩⟩
structure PrCell (w : World) (a : Addr) (x : Pr) (uv vv : Value) : Prop where
  c0 : w.cell? a = some (.string x.name)
  c1 : w.cell? { block := a.block, off := a.off + 1 } = some uv
  c2 : w.cell? { block := a.block, off := a.off + 2 } = some vv
  c3 : w.cell? { block := a.block, off := a.off + 3 } = some (.int .i64 x.body)
  uses : StrsAt w uv x.uses
  vars : StrsAt w vv x.vars
theorem PrCell.stays {w w' : World} {a : Addr} {x : Pr} {uv vv : Value} (h : PrCell w a x uv vv) (hb : Below w.heap.size w w') (ha : a.block < w.heap.size) : PrCell w' a x uv vv :=
  ⟨(hb.cell ha).trans h.c0, (hb.cell (p := { block := a.block, off := a.off + 1 }) ha).trans h.c1, (hb.cell (p := { block := a.block, off := a.off + 2 }) ha).trans h.c2,
    (hb.cell (p := { block := a.block, off := a.off + 3 }) ha).trans h.c3, h.uses.stays hb, h.vars.stays hb⟩
def PrsAt (w : World) (v : Value) (xs : List Pr) : Prop :=
  ∃ ao c, v = .slice ao xs.length c ∧ ∀ j (h : j < xs.length), ∃ a uv vv, ao = some a ∧ a.block < w.heap.size ∧ PrCell w (a.add (j * 4)) xs[j] uv vv
theorem PrsAt.stays {w w' : World} {v : Value} {xs : List Pr} (h : PrsAt w v xs) (hb : Below w.heap.size w w') : PrsAt w' v xs := by
  obtain ⟨ao, c, rfl, hc⟩ := h
  refine ⟨ao, c, rfl, fun j hj => ?_⟩
  obtain ⟨a, uv, vv, rfl, ha, hx⟩ := hc j hj
  exact ⟨a, uv, vv, rfl, Nat.lt_of_lt_of_le ha hb.size, hx.stays hb (by rw [block_add]; exact ha)⟩

/-- All bodies, in order: entries of monitors, then processes. -/
def bodiesL (ms : List Mo) (ps : List Pr) : List Int := (ms.flatMap fun m => m.ents.map En.body) ++ ps.map Pr.body
end Go.Proofs.YtpdpmnkonkpheaaGreat

namespace Go.Proofs.YtpdpmnkonkpheaaGreat
open Go.RowKit

/-- Blocks from a base on that were there stay as they are. -/
structure KeptFrom (base : Nat) (w w' : World) : Prop where
  size : w.heap.size ≤ w'.heap.size
  block : ∀ b, base ≤ b → b < w.heap.size → w'.heap[b]? = w.heap[b]?
theorem KeptFrom.refl (base : Nat) (w : World) : KeptFrom base w w := ⟨Nat.le_refl _, fun _ _ _ => rfl⟩
theorem KeptFrom.trans {base : Nat} {a b c : World} (h : KeptFrom base a b) (k : KeptFrom base b c) : KeptFrom base a c :=
  ⟨Nat.le_trans h.size k.size, fun b h1 h2 => (k.block b h1 (Nat.lt_of_lt_of_le h2 h.size)).trans (h.block b h1 h2)⟩
theorem KeptFrom.mono {base base' : Nat} {a b : World} (h : KeptFrom base a b) (hb : base ≤ base') : KeptFrom base' a b := ⟨h.size, fun b h1 h2 => h.block b (Nat.le_trans hb h1) h2⟩
theorem KeptFrom.cell {base : Nat} {w w' : World} (h : KeptFrom base w w') {p : Addr} (h1 : base ≤ p.block) (h2 : p.block < w.heap.size) : w'.cell? p = w.cell? p := World.cell?_of_block (h.block p.block h1 h2)
theorem KeptFrom.below {base : Nat} {w w' : World} (hb : Below w.heap.size w w') : KeptFrom base w w' := ⟨hb.size, fun b _ h => hb.block b h⟩
theorem KeptFrom.setCell {base g : Nat} (hg : g < base) (w : World) (o : Nat) (v : Value) : KeptFrom base w (w.setCell ⟨g, o, none⟩ v) :=
  ⟨by simp [World.setCell], fun b h1 _ => Below.heap_setCell w ⟨g, o, none⟩ v b (by show b ≠ g; omega)⟩
theorem KeptFrom.setCells {base g : Nat} (hg : g < base) : ∀ (vs : List Value) (o : Nat) (w : World), KeptFrom base w (w.setCells g o vs)
  | [], _, _ => KeptFrom.refl _ _
  | v :: r, o, w => (KeptFrom.setCell hg w o v).trans (KeptFrom.setCells hg r (o + 1) _)

/-- A slice whose room is as long as it is. -/
def Room : Value → Prop
  | .slice _ n c => n ≤ c
  | _ => True
/-- A row of values, one cell each, in blocks from a base on. -/
def CellsIn (base : Nat) (w : World) (v : Value) (vs : List Value) : Prop :=
  ∃ ao c, v = .slice ao vs.length c ∧ vs.length ≤ c ∧ ∀ j u, vs[j]? = some u → ∃ a, ao = some a ∧ base ≤ a.block ∧ a.block < w.heap.size ∧ w.cell? (a.add j) = some u
/-- A row of structs of s cells each. -/
def StructsIn (s base : Nat) (w : World) (v : Value) (css : List (List Value)) : Prop :=
  ∃ ao c, v = .slice ao css.length c ∧ css.length ≤ c ∧ ∀ j cs, css[j]? = some cs → cs.length = s ∧ ∃ a, ao = some a ∧ base ≤ a.block ∧ a.block < w.heap.size ∧ ∀ i u, cs[i]? = some u → w.cell? (a.add (j * s + i)) = some u

theorem CellsIn.kept {base : Nat} {w w' : World} {v : Value} {vs : List Value} (h : CellsIn base w v vs) (k : KeptFrom base w w') : CellsIn base w' v vs := by
  obtain ⟨ao, c, rfl, hr, hc⟩ := h
  refine ⟨ao, c, rfl, hr, fun j u hj => ?_⟩
  obtain ⟨a, rfl, h1, h2, h3⟩ := hc j u hj
  exact ⟨a, rfl, h1, Nat.lt_of_lt_of_le h2 k.size, (k.cell (by rw [block_add]; exact h1) (by rw [block_add]; exact h2)).trans h3⟩
theorem CellsIn.mono {base base' : Nat} {w : World} {v : Value} {vs : List Value} (h : CellsIn base w v vs) (hb : base' ≤ base) : CellsIn base' w v vs := by
  obtain ⟨ao, c, rfl, hr, hc⟩ := h
  refine ⟨ao, c, rfl, hr, fun j u hj => ?_⟩
  obtain ⟨a, rfl, h1, h2⟩ := hc j u hj
  exact ⟨a, rfl, Nat.le_trans hb h1, h2⟩
theorem StructsIn.kept {s base : Nat} {w w' : World} {v : Value} {css : List (List Value)} (h : StructsIn s base w v css) (k : KeptFrom base w w') : StructsIn s base w' v css := by
  obtain ⟨ao, c, rfl, hr, hc⟩ := h
  refine ⟨ao, c, rfl, hr, fun j cs hj => ?_⟩
  obtain ⟨hl, a, rfl, h1, h2, h3⟩ := hc j cs hj
  exact ⟨hl, a, rfl, h1, Nat.lt_of_lt_of_le h2 k.size, fun i u hi => (k.cell (by rw [block_add]; exact h1) (by rw [block_add]; exact h2)).trans (h3 i u hi)⟩
theorem StructsIn.mono {s base base' : Nat} {w : World} {v : Value} {css : List (List Value)} (h : StructsIn s base w v css) (hb : base' ≤ base) : StructsIn s base' w v css := by
  obtain ⟨ao, c, rfl, hr, hc⟩ := h
  refine ⟨ao, c, rfl, hr, fun j cs hj => ?_⟩
  obtain ⟨hl, a, rfl, h1, h2⟩ := hc j cs hj
  exact ⟨hl, a, rfl, Nat.le_trans hb h1, h2⟩

theorem add_zero_at (g j : Nat) : (⟨g, 0, none⟩ : Addr).add j = ⟨g, j, none⟩ := by
  simp only [Addr.add]
  split
  · next h => subst h; rfl
  · simp
theorem CellsIn.own {base n : Nat} {w : World} {e : TypeId} {v : Value} {vs : List Value} (h : w.ownsRow base e 1 v n vs) : CellsIn base w v vs := by
  have hl : vs.length = n := by simpa using h.1
  rcases h.2 with ⟨rfl, h0⟩ | ⟨g, cap, cur, rfl, hb1, hg, hr, _⟩
  · exact ⟨none, 0, by rw [hl, h0], by omega, fun j u hj => by
      have := (List.getElem?_eq_some_iff.1 hj).1
      omega⟩
  · refine ⟨_, cap, by rw [hl], by omega, fun j u hj => ⟨_, rfl, hb1, (h.lt g rfl).2, ?_⟩⟩
    have hj2 := (List.getElem?_eq_some_iff.1 hj).1
    rw [add_zero_at, h.cellAt j (by omega)]
    exact hj

/-- Several cells of an owned row are written. -/
def setLs : List Value → Nat → List Value → List Value
  | xs, _, [] => xs
  | xs, o, v :: r => setLs (xs.set o v) (o + 1) r
theorem owns_setCells {base : Nat} {e : TypeId} {size g n cap : Nat} : ∀ (vs : List Value) (o : Nat) (w : World) (xs : List Value), w.ownsRow base e size (.slice (some ⟨g, 0, none⟩) n cap) n xs →
    (w.setCells g o vs).ownsRow base e size (.slice (some ⟨g, 0, none⟩) n cap) n (setLs xs o vs)
  | [], _, _, _, h => h
  | v :: r, o, _, _, h => owns_setCells r (o + 1) _ _ (h.stored o v).1
theorem bel_setCells {B g : Nat} {a : World} (hg : B ≤ g) : ∀ (vs : List Value) (o : Nat) (w : World), Below B a w → Below B a (w.setCells g o vs)
  | [], _, _, h => h
  | v :: r, o, _, h => bel_setCells hg r (o + 1) _ (h.setCell (p := ⟨g, o, none⟩) hg v)
theorem setLs_append : ∀ (vs : List Value) (l1 l2 : List Value) (o : Nat), setLs (l1 ++ l2) (l1.length + o) vs = l1 ++ setLs l2 o vs
  | [], _, _, _ => rfl
  | v :: r, l1, l2, o => by
    rw [setLs, setLs, List.set_append_right _ _ (by omega), show l1.length + o - l1.length = o from by omega, Nat.add_assoc, setLs_append r]
theorem setLs_all : ∀ (vs l1 l2 : List Value), l1.length = vs.length → setLs (l1 ++ l2) 0 vs = vs ++ l2
  | [], [], l2, _ => rfl
  | v :: r, x :: l1, l2, h => by
    have e : setLs (x :: l1 ++ l2) 0 (v :: r) = setLs ([v] ++ (l1 ++ l2)) ([v].length + 0) r := rfl
    rw [e, setLs_append, setLs_all r l1 l2 (by simpa using h)]
    rfl
theorem setLs_flat {s : Nat} : ∀ (css : List (List Value)) (k : Nat) (y : List Value), (∀ c ∈ css, c.length = s) → y.length = s → k < css.length → setLs css.flatten (k * s) y = (css.set k y).flatten
  | c :: css, 0, y, h, hy, _ => by
    have hc : c.length = y.length := by rw [h c (by simp), hy]
    simp only [List.flatten_cons, Nat.zero_mul, List.set_cons_zero]
    exact setLs_all y c _ hc
  | c :: css, k + 1, y, h, hy, hk => by
    have e : (k + 1) * s = c.length + k * s := by rw [h c (by simp), Nat.add_mul, Nat.one_mul, Nat.add_comm]
    simp only [List.flatten_cons, List.set_cons_succ]
    rw [e, setLs_append, setLs_flat css k y (fun c hc => h c (by simp [hc])) hy (by simpa using hk)]
theorem flat_len {s : Nat} : ∀ (css : List (List Value)), (∀ c ∈ css, c.length = s) → css.flatten.length = css.length * s
  | [], _ => by simp
  | c :: css, h => by
    rw [List.flatten_cons, List.length_append, flat_len css (fun c hc => h c (by simp [hc])), h c (by simp), List.length_cons, Nat.add_mul, Nat.one_mul, Nat.add_comm]
theorem flat_at {s : Nat} : ∀ (css : List (List Value)) (k i : Nat) (cs : List Value), (∀ c ∈ css, c.length = s) → css[k]? = some cs → i < s → css.flatten[k * s + i]? = cs[i]?
  | c :: css, 0, i, cs, h, hk, hi => by
    simp at hk
    subst hk
    rw [List.flatten_cons, Nat.zero_mul, Nat.zero_add, List.getElem?_append_left (by rw [h c (by simp)]; exact hi)]
  | c :: css, k + 1, i, cs, h, hk, hi => by
    have e : (k + 1) * s + i = c.length + (k * s + i) := by rw [h c (by simp), Nat.add_mul, Nat.one_mul]; omega
    rw [List.flatten_cons, e, List.getElem?_append_right (by omega), show c.length + (k * s + i) - c.length = k * s + i by omega]
    exact flat_at css k i cs (fun c hc => h c (by simp [hc])) (by simpa using hk) hi
theorem StructsIn.own {s base n : Nat} {w : World} {e : TypeId} {v : Value} {css : List (List Value)} (h : w.ownsRow base e s v n css.flatten) (hn : css.length = n) (hs : ∀ c ∈ css, c.length = s) : StructsIn s base w v css := by
  rcases h.2 with ⟨rfl, h0⟩ | ⟨g, cap, cur, rfl, hb1, hg, hr, _⟩
  · exact ⟨none, 0, by rw [hn, h0], by omega, fun j u hj => by
      have := (List.getElem?_eq_some_iff.1 hj).1
      omega⟩
  · refine ⟨_, cap, by rw [hn], by omega, fun j cs hj => ⟨hs cs (List.mem_of_getElem? hj), _, rfl, hb1, (h.lt g rfl).2, fun i u hi => ?_⟩⟩
    have hi2 : i < s := by rw [← hs cs (List.mem_of_getElem? hj)]; exact (List.getElem?_eq_some_iff.1 hi).1
    exact h.cells rfl (j * s + i) u (by rw [flat_at css j i cs hs hj hi2]; exact hi)

/-- The cells of a row that is owned are there and may be written. -/
theorem own_there {w : World} {base : Nat} {e : TypeId} {size g n cap : Nat} {xs : List Value} (h : w.ownsRow base e size (.slice (some ⟨g, 0, none⟩) n cap) n xs) (k : Nat) (hk : k < n) (j : Nat) (hj : j < size) : (∃ u, w.cell? ⟨g, k * size + j, none⟩ = some u) ∧ w.frozen? ⟨g, k * size + j, none⟩ = false := by
  have hlt : k * size + j < n * size := by
    have : (k + 1) * size ≤ n * size := Nat.mul_le_mul_right _ hk
    rw [Nat.add_mul] at this; omega
  refine ⟨?_, h.frozenAt _⟩
  rw [h.cellAt _ hlt, List.getElem?_eq_getElem (by rw [h.1]; exact hlt)]
  exact ⟨_, rfl⟩

/-- What make lays: n times the zero value's cells. -/
theorem made_flat (z : List Value) (hz : 0 < z.length) (n : Nat) : (madeCells z.toArray (n * z.length)).toList = (List.replicate n z).flatten := by
  apply List.ext_getElem?
  intro i
  by_cases hi : i < n * z.length
  · have hd : i / z.length < n := Nat.div_lt_of_lt_mul (by rw [Nat.mul_comm]; exact hi)
    have hm : i % z.length < z.length := Nat.mod_lt _ hz
    have e : i / z.length * z.length + i % z.length = i := by rw [Nat.mul_comm]; exact Nat.div_add_mod i z.length
    have h1 := flat_at (s := z.length) (List.replicate n z) (i / z.length) (i % z.length) z (fun c hc => by rw [(List.mem_replicate.1 hc).2]) (by simp [hd]) hm
    rw [e] at h1
    rw [h1]
    simp only [madeCells, Array.toList_map, Array.toList_range, List.getElem?_map, List.getElem?_range hi, Option.map_some]
    simp [hm]
  · rw [List.getElem?_eq_none (by rw [Array.length_toList, size_madeCells]; omega), List.getElem?_eq_none (by rw [flat_len (s := z.length) _ (fun c hc => by rw [(List.mem_replicate.1 hc).2])]; simp; omega)]
end Go.Proofs.YtpdpmnkonkpheaaGreat

namespace Go.Proofs.YtpdpmnkonkpheaaGreat
open Go.RowKit

abbrev I64 (x : Int) : Value := .int .i64 x
theorem Tryz.infoInt : (Tryz.prog.info? 3).map (fun i => (i.zero, i.size, i.bytes)) = some (some (.int .i64 0), 1, 8) := by kernel_rfl
theorem ownsInts_stays {w w' : World} {base : Nat} {e : TypeId} {size : Nat} {v : Value} {n : Nat} {xs : List Value} (h : w.ownsRow base e size v n xs) (hb : Below w.heap.size w w') : w'.ownsRow base e size v n xs := by
  have hlt := fun k hk => (h.lt k hk).2
  obtain ⟨h1, h2⟩ := h
  refine ⟨h1, ?_⟩
  rcases h2 with h2 | ⟨g, cap, cur, rfl, hb1, hg, r⟩
  · exact .inl h2
  · exact .inr ⟨g, cap, cur, rfl, hb1, by rw [hb.block g (hlt g rfl)]; exact hg, r⟩
/-- An owned row of numbers that is not empty: its block and cells. -/
theorem ownsInts_form {w : World} {base : Nat} {e : TypeId} {v : Value} {n : Nat} {xs : List Int} (h : w.ownsRow base e 1 v n (xs.map I64)) (hn : 0 < n) :
    ∃ g cap, v = .slice (some ⟨g, 0, none⟩) n cap ∧ base ≤ g ∧ g < w.heap.size ∧ ∀ j, j < n → w.cell? ⟨g, j, none⟩ = some (.int .i64 (xs.getD j 0)) := by
  have hl : xs.length = n := by simpa using h.1
  rcases h.2 with h2 | ⟨g, cap, cur, rfl, hb1, hg, _⟩
  · omega
  · refine ⟨g, cap, rfl, hb1, (h.lt g rfl).2, fun j hj => ?_⟩
    rw [h.cellAt j (by omega), List.getElem?_map, List.getD_eq_getElem?_getD, List.getElem?_eq_getElem (by omega)]
    rfl
end Go.Proofs.YtpdpmnkonkpheaaGreat
