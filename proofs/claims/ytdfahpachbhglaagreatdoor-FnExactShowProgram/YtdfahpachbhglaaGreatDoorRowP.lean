/-
  Lemmas that speak of no program: rows of values and of structs, with where they lie.
-/
import Derived.Test.YtdfahpachbhglaaGreatDoorAidCard
import Derived.Laws.MakeOwn
import Derived.Test.YtdfahpachbhglaaGreatDoorChecked
import Derived.BigQuiet
import Derived.WalkSmall
namespace Go.Proofs.YtdfahpachbhglaaGreatDoor
open Go.RowKit

/-- Blocks from a base on that were there stay as they are. -/
structure KeptFrom (base : Nat) (w w' : World) : Prop where
  size : w.heap.size ≤ w'.heap.size
  block : ∀ b, base ≤ b → b < w.heap.size → w'.heap[b]? = w.heap[b]?
theorem KeptFrom.refl (base : Nat) (w : World) : KeptFrom base w w := ⟨Nat.le_refl _, fun _ _ _ => rfl⟩
theorem KeptFrom.trans {base : Nat} {a b c : World} (h : KeptFrom base a b) (k : KeptFrom base b c) : KeptFrom base a c :=
  ⟨Nat.le_trans h.size k.size, fun b h1 h2 => (k.block b h1 (Nat.lt_of_lt_of_le h2 h.size)).trans (h.block b h1 h2)⟩
theorem KeptFrom.mono {base base' : Nat} {a b : World} (h : KeptFrom base a b) (hb : base ≤ base') : KeptFrom base' a b := ⟨h.size, fun b h1 h2 => h.block b (Nat.le_trans hb h1) h2⟩
theorem KeptFrom.cell {base : Nat} {w w' : World} (h : KeptFrom base w w') {p : Addr} (h1 : base ≤ p.block) (h2 : p.block < w.heap.size) : w'.cell? p = w.cell? p := World.cell?_of_block (h.block p.block h1 h2)
theorem KeptFrom.below {base : Nat} {w w' : World} (hb : Below w.heap.size w w') : KeptFrom base w w' := ⟨hb.size, fun b _ h => hb.block b h⟩
theorem KeptFrom.setCell {base g : Nat} (hg : g < base) (w : World) (o : Nat) (v : Value) : KeptFrom base w (w.setCell ⟨g, o, none⟩ v) :=
  ⟨by simp [World.setCell], fun b h1 _ => Below.heap_setCell w ⟨g, o, none⟩ v b (by show b ≠ g; omega)⟩
theorem KeptFrom.setCells {base g : Nat} (hg : g < base) : ∀ (vs : List Value) (o : Nat) (w : World), KeptFrom base w (w.setCells g o vs)
  | [], _, _ => KeptFrom.refl _ _
  | v :: r, o, w => (KeptFrom.setCell hg w o v).trans (KeptFrom.setCells hg r (o + 1) _)

/-- A slice whose room is as long as it is. -/
def Room : Value → Prop
  | .slice _ n c => n ≤ c
  | _ => True
/-- A row's place: the beginning of a block that may be written. -/
def Soft (w : World) (a : Addr) : Prop := a = ⟨a.block, 0, none⟩ ∧ ∀ j, w.frozen? ⟨a.block, j, none⟩ = false
theorem Soft.kept {w w' : World} {a : Addr} (h : Soft w a) (e : w'.heap[a.block]? = w.heap[a.block]?) : Soft w' a := ⟨h.1, fun j => (World.frozen?_of_block (w := w) (a := ⟨a.block, j, none⟩) e).trans (h.2 j)⟩
/-- A row of values, one cell each, in blocks from a base on. -/
def CellsIn (base : Nat) (w : World) (v : Value) (vs : List Value) : Prop :=
  ∃ ao c, v = .slice ao vs.length c ∧ (vs.length ≤ c ∧ (0 < vs.length → ∀ a, ao = some a → Soft w a)) ∧ ∀ j u, vs[j]? = some u → ∃ a, ao = some a ∧ base ≤ a.block ∧ a.block < w.heap.size ∧ w.cell? (a.add j) = some u
/-- A row of structs of s cells each. -/
def StructsIn (s base : Nat) (w : World) (v : Value) (css : List (List Value)) : Prop :=
  ∃ ao c, v = .slice ao css.length c ∧ (css.length ≤ c ∧ (0 < css.length → ∀ a, ao = some a → Soft w a)) ∧ ∀ j cs, css[j]? = some cs → cs.length = s ∧ ∃ a, ao = some a ∧ base ≤ a.block ∧ a.block < w.heap.size ∧ ∀ i u, cs[i]? = some u → w.cell? (a.add (j * s + i)) = some u

theorem CellsIn.kept {base : Nat} {w w' : World} {v : Value} {vs : List Value} (h : CellsIn base w v vs) (k : KeptFrom base w w') : CellsIn base w' v vs := by
  obtain ⟨ao, c, rfl, hr, hc⟩ := h
  refine ⟨ao, c, rfl, ⟨hr.1, fun h0 a ha => (hr.2 h0 a ha).kept ?_⟩, fun j u hj => ?_⟩
  · obtain ⟨a', e', h1, h2, _⟩ := hc 0 _ (List.getElem?_eq_getElem h0)
    rw [ha] at e'
    injection e' with e'
    subst e'
    exact k.block a.block h1 h2
  obtain ⟨a, rfl, h1, h2, h3⟩ := hc j u hj
  exact ⟨a, rfl, h1, Nat.lt_of_lt_of_le h2 k.size, (k.cell (by rw [block_add]; exact h1) (by rw [block_add]; exact h2)).trans h3⟩
theorem CellsIn.mono {base base' : Nat} {w : World} {v : Value} {vs : List Value} (h : CellsIn base w v vs) (hb : base' ≤ base) : CellsIn base' w v vs := by
  obtain ⟨ao, c, rfl, hr, hc⟩ := h
  refine ⟨ao, c, rfl, hr, fun j u hj => ?_⟩
  obtain ⟨a, rfl, h1, h2⟩ := hc j u hj
  exact ⟨a, rfl, Nat.le_trans hb h1, h2⟩
theorem StructsIn.kept {s base : Nat} {w w' : World} {v : Value} {css : List (List Value)} (h : StructsIn s base w v css) (k : KeptFrom base w w') : StructsIn s base w' v css := by
  obtain ⟨ao, c, rfl, hr, hc⟩ := h
  refine ⟨ao, c, rfl, ⟨hr.1, fun h0 a ha => (hr.2 h0 a ha).kept ?_⟩, fun j cs hj => ?_⟩
  · obtain ⟨_, a', e', h1, h2, _⟩ := hc 0 _ (List.getElem?_eq_getElem h0)
    rw [ha] at e'
    injection e' with e'
    subst e'
    exact k.block a.block h1 h2
  obtain ⟨hl, a, rfl, h1, h2, h3⟩ := hc j cs hj
  exact ⟨hl, a, rfl, h1, Nat.lt_of_lt_of_le h2 k.size, fun i u hi => (k.cell (by rw [block_add]; exact h1) (by rw [block_add]; exact h2)).trans (h3 i u hi)⟩
theorem StructsIn.mono {s base base' : Nat} {w : World} {v : Value} {css : List (List Value)} (h : StructsIn s base w v css) (hb : base' ≤ base) : StructsIn s base' w v css := by
  obtain ⟨ao, c, rfl, hr, hc⟩ := h
  refine ⟨ao, c, rfl, hr, fun j cs hj => ?_⟩
  obtain ⟨hl, a, rfl, h1, h2⟩ := hc j cs hj
  exact ⟨hl, a, rfl, Nat.le_trans hb h1, h2⟩

theorem add_zero_at (g j : Nat) : (⟨g, 0, none⟩ : Addr).add j = ⟨g, j, none⟩ := by
  simp only [Addr.add]
  split
  · next h => subst h; rfl
  · simp
theorem CellsIn.own {base n : Nat} {w : World} {e : TypeId} {v : Value} {vs : List Value} (h : w.ownsRow base e 1 v n vs) : CellsIn base w v vs := by
  have hl : vs.length = n := by simpa using h.1
  rcases h.2 with ⟨rfl, h0⟩ | ⟨g, cap, cur, rfl, hb1, hg, hr, _⟩
  · exact ⟨none, 0, by rw [hl, h0], ⟨by omega, fun _ a ha => by cases ha⟩, fun j u hj => by
      have := (List.getElem?_eq_some_iff.1 hj).1
      omega⟩
  · refine ⟨_, cap, by rw [hl], ⟨by omega, fun _ a ha => by cases ha; exact ⟨rfl, fun j => h.frozenAt j⟩⟩, fun j u hj => ⟨_, rfl, hb1, (h.lt g rfl).2, ?_⟩⟩
    have hj2 := (List.getElem?_eq_some_iff.1 hj).1
    rw [add_zero_at, h.cellAt j (by omega)]
    exact hj

/-- Several cells of an owned row are written. -/
def setLs : List Value → Nat → List Value → List Value
  | xs, _, [] => xs
  | xs, o, v :: r => setLs (xs.set o v) (o + 1) r
theorem owns_setCells {base : Nat} {e : TypeId} {size g n cap : Nat} : ∀ (vs : List Value) (o : Nat) (w : World) (xs : List Value), w.ownsRow base e size (.slice (some ⟨g, 0, none⟩) n cap) n xs →
    (w.setCells g o vs).ownsRow base e size (.slice (some ⟨g, 0, none⟩) n cap) n (setLs xs o vs)
  | [], _, _, _, h => h
  | v :: r, o, _, _, h => owns_setCells r (o + 1) _ _ (h.stored o v).1
theorem bel_setCells {B g : Nat} {a : World} (hg : B ≤ g) : ∀ (vs : List Value) (o : Nat) (w : World), Below B a w → Below B a (w.setCells g o vs)
  | [], _, _, h => h
  | v :: r, o, _, h => bel_setCells hg r (o + 1) _ (h.setCell (p := ⟨g, o, none⟩) hg v)
theorem setLs_append : ∀ (vs : List Value) (l1 l2 : List Value) (o : Nat), setLs (l1 ++ l2) (l1.length + o) vs = l1 ++ setLs l2 o vs
  | [], _, _, _ => rfl
  | v :: r, l1, l2, o => by
    rw [setLs, setLs, List.set_append_right _ _ (by omega), show l1.length + o - l1.length = o from by omega, Nat.add_assoc, setLs_append r]
theorem setLs_all : ∀ (vs l1 l2 : List Value), l1.length = vs.length → setLs (l1 ++ l2) 0 vs = vs ++ l2
  | [], [], l2, _ => rfl
  | v :: r, x :: l1, l2, h => by
    have e : setLs (x :: l1 ++ l2) 0 (v :: r) = setLs ([v] ++ (l1 ++ l2)) ([v].length + 0) r := rfl
    rw [e, setLs_append, setLs_all r l1 l2 (by simpa using h)]
    rfl
theorem setLs_flat {s : Nat} : ∀ (css : List (List Value)) (k : Nat) (y : List Value), (∀ c ∈ css, c.length = s) → y.length = s → k < css.length → setLs css.flatten (k * s) y = (css.set k y).flatten
  | c :: css, 0, y, h, hy, _ => by
    have hc : c.length = y.length := by rw [h c (by simp), hy]
    simp only [List.flatten_cons, Nat.zero_mul, List.set_cons_zero]
    exact setLs_all y c _ hc
  | c :: css, k + 1, y, h, hy, hk => by
    have e : (k + 1) * s = c.length + k * s := by rw [h c (by simp), Nat.add_mul, Nat.one_mul, Nat.add_comm]
    simp only [List.flatten_cons, List.set_cons_succ]
    rw [e, setLs_append, setLs_flat css k y (fun c hc => h c (by simp [hc])) hy (by simpa using hk)]
theorem flat_len {s : Nat} : ∀ (css : List (List Value)), (∀ c ∈ css, c.length = s) → css.flatten.length = css.length * s
  | [], _ => by simp
  | c :: css, h => by
    rw [List.flatten_cons, List.length_append, flat_len css (fun c hc => h c (by simp [hc])), h c (by simp), List.length_cons, Nat.add_mul, Nat.one_mul, Nat.add_comm]
theorem flat_at {s : Nat} : ∀ (css : List (List Value)) (k i : Nat) (cs : List Value), (∀ c ∈ css, c.length = s) → css[k]? = some cs → i < s → css.flatten[k * s + i]? = cs[i]?
  | c :: css, 0, i, cs, h, hk, hi => by
    simp at hk
    subst hk
    rw [List.flatten_cons, Nat.zero_mul, Nat.zero_add, List.getElem?_append_left (by rw [h c (by simp)]; exact hi)]
  | c :: css, k + 1, i, cs, h, hk, hi => by
    have e : (k + 1) * s + i = c.length + (k * s + i) := by rw [h c (by simp), Nat.add_mul, Nat.one_mul]; omega
    rw [List.flatten_cons, e, List.getElem?_append_right (by omega), show c.length + (k * s + i) - c.length = k * s + i by omega]
    exact flat_at css k i cs (fun c hc => h c (by simp [hc])) (by simpa using hk) hi
theorem StructsIn.own {s base n : Nat} {w : World} {e : TypeId} {v : Value} {css : List (List Value)} (h : w.ownsRow base e s v n css.flatten) (hn : css.length = n) (hs : ∀ c ∈ css, c.length = s) : StructsIn s base w v css := by
  rcases h.2 with ⟨rfl, h0⟩ | ⟨g, cap, cur, rfl, hb1, hg, hr, _⟩
  · exact ⟨none, 0, by rw [hn, h0], ⟨by omega, fun _ a ha => by cases ha⟩, fun j u hj => by
      have := (List.getElem?_eq_some_iff.1 hj).1
      omega⟩
  · refine ⟨_, cap, by rw [hn], ⟨by omega, fun _ a ha => by cases ha; exact ⟨rfl, fun j => h.frozenAt j⟩⟩, fun j cs hj => ⟨hs cs (List.mem_of_getElem? hj), _, rfl, hb1, (h.lt g rfl).2, fun i u hi => ?_⟩⟩
    have hi2 : i < s := by rw [← hs cs (List.mem_of_getElem? hj)]; exact (List.getElem?_eq_some_iff.1 hi).1
    exact h.cells rfl (j * s + i) u (by rw [flat_at css j i cs hs hj hi2]; exact hi)

/-- The cells of a row that is owned are there and may be written. -/
theorem own_there {w : World} {base : Nat} {e : TypeId} {size g n cap : Nat} {xs : List Value} (h : w.ownsRow base e size (.slice (some ⟨g, 0, none⟩) n cap) n xs) (k : Nat) (hk : k < n) (j : Nat) (hj : j < size) : (∃ u, w.cell? ⟨g, k * size + j, none⟩ = some u) ∧ w.frozen? ⟨g, k * size + j, none⟩ = false := by
  have hlt : k * size + j < n * size := by
    have : (k + 1) * size ≤ n * size := Nat.mul_le_mul_right _ hk
    rw [Nat.add_mul] at this; omega
  refine ⟨?_, h.frozenAt _⟩
  rw [h.cellAt _ hlt, List.getElem?_eq_getElem (by rw [h.1]; exact hlt)]
  exact ⟨_, rfl⟩

/-- What make lays: n times the zero value's cells. -/
theorem made_flat (z : List Value) (hz : 0 < z.length) (n : Nat) : (madeCells z.toArray (n * z.length)).toList = (List.replicate n z).flatten := by
  apply List.ext_getElem?
  intro i
  by_cases hi : i < n * z.length
  · have hd : i / z.length < n := Nat.div_lt_of_lt_mul (by rw [Nat.mul_comm]; exact hi)
    have hm : i % z.length < z.length := Nat.mod_lt _ hz
    have e : i / z.length * z.length + i % z.length = i := by rw [Nat.mul_comm]; exact Nat.div_add_mod i z.length
    have h1 := flat_at (s := z.length) (List.replicate n z) (i / z.length) (i % z.length) z (fun c hc => by rw [(List.mem_replicate.1 hc).2]) (by simp [hd]) hm
    rw [e] at h1
    rw [h1]
    simp only [madeCells, Array.toList_map, Array.toList_range, List.getElem?_map, List.getElem?_range hi, Option.map_some]
    simp [hm]
  · rw [List.getElem?_eq_none (by rw [Array.length_toList, size_madeCells]; omega), List.getElem?_eq_none (by rw [flat_len (s := z.length) _ (fun c hc => by rw [(List.mem_replicate.1 hc).2])]; simp; omega)]
end Go.Proofs.YtdfahpachbhglaaGreatDoor

namespace Go.Proofs.YtdfahpachbhglaaGreatDoor
open Go.RowKit

abbrev I64 (x : Int) : Value := .int .i64 x
theorem Tryz.infoInt : (Tryz.prog.info? 3).map (fun i => (i.zero, i.size, i.bytes)) = some (some (.int .i64 0), 1, 8) := by kernel_rfl
theorem ownsInts_stays {w w' : World} {base : Nat} {e : TypeId} {size : Nat} {v : Value} {n : Nat} {xs : List Value} (h : w.ownsRow base e size v n xs) (hb : Below w.heap.size w w') : w'.ownsRow base e size v n xs := by
  have hlt := fun k hk => (h.lt k hk).2
  obtain ⟨h1, h2⟩ := h
  refine ⟨h1, ?_⟩
  rcases h2 with h2 | ⟨g, cap, cur, rfl, hb1, hg, r⟩
  · exact .inl h2
  · exact .inr ⟨g, cap, cur, rfl, hb1, by rw [hb.block g (hlt g rfl)]; exact hg, r⟩
/-- An owned row of numbers that is not empty: its block and cells. -/
theorem ownsInts_form {w : World} {base : Nat} {e : TypeId} {v : Value} {n : Nat} {xs : List Int} (h : w.ownsRow base e 1 v n (xs.map I64)) (hn : 0 < n) :
    ∃ g cap, v = .slice (some ⟨g, 0, none⟩) n cap ∧ base ≤ g ∧ g < w.heap.size ∧ ∀ j, j < n → w.cell? ⟨g, j, none⟩ = some (.int .i64 (xs.getD j 0)) := by
  have hl : xs.length = n := by simpa using h.1
  rcases h.2 with h2 | ⟨g, cap, cur, rfl, hb1, hg, _⟩
  · omega
  · refine ⟨g, cap, rfl, hb1, (h.lt g rfl).2, fun j hj => ?_⟩
    rw [h.cellAt j (by omega), List.getElem?_map, List.getD_eq_getElem?_getD, List.getElem?_eq_getElem (by omega)]
    rfl
end Go.Proofs.YtdfahpachbhglaaGreatDoor

namespace Go.Proofs.YtdfahpachbhglaaGreatDoor
open Go.RowKit

abbrev IntsIn (base : Nat) (w : World) (v : Value) (xs : List Int) : Prop := CellsIn base w v (xs.map I64)
abbrev StrsIn (base : Nat) (w : World) (v : Value) (xs : List ByteArray) : Prop := CellsIn base w v (xs.map Value.string)
theorem IntsIn.at {base : Nat} {w : World} {v : Value} {xs : List Int} (h : IntsIn base w v xs) : IntsAt w v xs := by
  obtain ⟨ao, c, rfl, _, hc⟩ := h
  refine ⟨ao, c, by simp, fun j hj => ?_⟩
  obtain ⟨a, rfl, _, h2, h3⟩ := hc j (I64 xs[j]) (by simp [hj])
  exact ⟨a, rfl, h2, h3⟩
theorem StrsIn.at {base : Nat} {w : World} {v : Value} {xs : List ByteArray} (h : StrsIn base w v xs) : StrsAt w v xs := by
  obtain ⟨ao, c, rfl, _, hc⟩ := h
  refine ⟨ao, c, by simp, fun j hj => ?_⟩
  obtain ⟨a, rfl, _, h2, h3⟩ := hc j (.string xs[j]) (by simp [hj])
  exact ⟨a, rfl, h2, h3⟩

/-- What a struct's cells say of a thing, where what lies behind them is from a base on. -/
class Told {α : Type} (R : Nat → World → List Value → α → Prop) : Prop where
  kept : ∀ {base : Nat} {w w' : World} {cs : List Value} {x : α}, R base w cs x → KeptFrom base w w' → R base w' cs x
  mono : ∀ {base base' : Nat} {w : World} {cs : List Value} {x : α}, R base w cs x → base' ≤ base → R base' w cs x
def ObjsIn {α : Type} (R : Nat → World → List Value → α → Prop) (s base : Nat) (w : World) (v : Value) (xs : List α) : Prop :=
  ∃ css : List (List Value), StructsIn s base w v css ∧ css.length = xs.length ∧ ∀ (j : Nat) (cs : List Value) (x : α), css[j]? = some cs → xs[j]? = some x → R base w cs x
theorem ObjsIn.kept {α : Type} {R : Nat → World → List Value → α → Prop} [Told R] {s base : Nat} {w w' : World} {v : Value} {xs : List α} (h : ObjsIn R s base w v xs) (k : KeptFrom base w w') : ObjsIn R s base w' v xs := by
  obtain ⟨css, h1, h2, h3⟩ := h
  exact ⟨css, h1.kept k, h2, fun j cs x hj hx => Told.kept (h3 j cs x hj hx) k⟩
theorem ObjsIn.mono {α : Type} {R : Nat → World → List Value → α → Prop} [Told R] {s base base' : Nat} {w : World} {v : Value} {xs : List α} (h : ObjsIn R s base w v xs) (hb : base' ≤ base) : ObjsIn R s base' w v xs := by
  obtain ⟨css, h1, h2, h3⟩ := h
  exact ⟨css, h1.mono hb, h2, fun j cs x hj hx => Told.mono (h3 j cs x hj hx) hb⟩

def NodeC (base : Nat) (w : World) (cs : List Value) (x : Nd) : Prop := ∃ kv, cs = [.int .i64 x.kind, .int .i64 x.num, .string x.name, .string x.more, .string x.into, kv] ∧ IntsIn base w kv x.kids
def EntC (_base : Nat) (_w : World) (cs : List Value) (x : En) : Prop := cs = [.string x.name, .string x.param, .int .i64 x.body]
instance : Told NodeC where
  kept := fun ⟨kv, e, h⟩ k => ⟨kv, e, h.kept k⟩
  mono := fun ⟨kv, e, h⟩ k => ⟨kv, e, h.mono k⟩
instance : Told EntC where
  kept := fun h _ => h
  mono := fun h _ => h
abbrev NdsIn (base : Nat) (w : World) (v : Value) (xs : List Nd) : Prop := ObjsIn NodeC 6 base w v xs
abbrev EnsIn (base : Nat) (w : World) (v : Value) (xs : List En) : Prop := ObjsIn EntC 3 base w v xs
def MonC (base : Nat) (w : World) (cs : List Value) (x : Mo) : Prop := ∃ vv qv ev, cs = [.string x.name, vv, qv, ev] ∧ StrsIn base w vv x.vars ∧ StrsIn base w qv x.queues ∧ EnsIn base w ev x.ents
def ProC (base : Nat) (w : World) (cs : List Value) (x : Pr) : Prop := ∃ uv vv, cs = [.string x.name, uv, vv, .int .i64 x.body] ∧ StrsIn base w uv x.uses ∧ StrsIn base w vv x.vars
instance : Told MonC where
  kept := fun ⟨vv, qv, ev, e, h1, h2, h3⟩ k => ⟨vv, qv, ev, e, h1.kept k, h2.kept k, h3.kept k⟩
  mono := fun ⟨vv, qv, ev, e, h1, h2, h3⟩ k => ⟨vv, qv, ev, e, h1.mono k, h2.mono k, h3.mono k⟩
instance : Told ProC where
  kept := fun ⟨uv, vv, e, h1, h2⟩ k => ⟨uv, vv, e, h1.kept k, h2.kept k⟩
  mono := fun ⟨uv, vv, e, h1, h2⟩ k => ⟨uv, vv, e, h1.mono k, h2.mono k⟩
abbrev MosIn (base : Nat) (w : World) (v : Value) (xs : List Mo) : Prop := ObjsIn MonC 4 base w v xs
abbrev PrsIn (base : Nat) (w : World) (v : Value) (xs : List Pr) : Prop := ObjsIn ProC 4 base w v xs

theorem add_add_off (a : Addr) (k n : Nat) (hn : 0 < n) : a.add (k + n) = { block := (a.add k).block, off := (a.add k).off + n } := by
  simp only [Addr.add]
  rw [if_neg (by omega)]
  split
  · next h => subst h; simp
  · simp only [Addr.mk.injEq, and_true, true_and]; omega
theorem NdsIn.at {base : Nat} {w : World} {v : Value} {xs : List Nd} (h : NdsIn base w v xs) : NdsAt w v xs := by
  obtain ⟨css, ⟨ao, c, rfl, _, hc⟩, hl, hr⟩ := h
  refine ⟨ao, c, by rw [hl], fun j hj => ?_⟩
  have hj2 : j < css.length := by omega
  obtain ⟨_, a, rfl, _, h2, h3⟩ := hc j css[j] (List.getElem?_eq_getElem hj2)
  obtain ⟨kv, e, hk⟩ := hr j css[j] xs[j] (List.getElem?_eq_getElem hj2) (List.getElem?_eq_getElem hj)
  rw [e] at h3
  refine ⟨a, kv, rfl, h2, h3 0 _ rfl, ?_, ?_, ?_, ?_, ?_, hk.at⟩
  · rw [← add_add_off a _ 1 (by omega)]; exact h3 1 _ rfl
  · rw [← add_add_off a _ 2 (by omega)]; exact h3 2 _ rfl
  · rw [← add_add_off a _ 3 (by omega)]; exact h3 3 _ rfl
  · rw [← add_add_off a _ 4 (by omega)]; exact h3 4 _ rfl
  · rw [← add_add_off a _ 5 (by omega)]; exact h3 5 _ rfl
theorem EnsIn.at {base : Nat} {w : World} {v : Value} {xs : List En} (h : EnsIn base w v xs) : EnsAt w v xs := by
  obtain ⟨css, ⟨ao, c, rfl, _, hc⟩, hl, hr⟩ := h
  refine ⟨ao, c, by rw [hl], fun j hj => ?_⟩
  have hj2 : j < css.length := by omega
  obtain ⟨_, a, rfl, _, h2, h3⟩ := hc j css[j] (List.getElem?_eq_getElem hj2)
  have e : css[j] = _ := hr j css[j] xs[j] (List.getElem?_eq_getElem hj2) (List.getElem?_eq_getElem hj)
  rw [e] at h3
  refine ⟨a, rfl, h2, h3 0 _ rfl, ?_, ?_⟩
  · rw [← add_add_off a _ 1 (by omega)]; exact h3 1 _ rfl
  · rw [← add_add_off a _ 2 (by omega)]; exact h3 2 _ rfl
theorem MosIn.at {base : Nat} {w : World} {v : Value} {xs : List Mo} (h : MosIn base w v xs) : MosAt w v xs := by
  obtain ⟨css, ⟨ao, c, rfl, _, hc⟩, hl, hr⟩ := h
  refine ⟨ao, c, by rw [hl], fun j hj => ?_⟩
  have hj2 : j < css.length := by omega
  obtain ⟨_, a, rfl, _, h2, h3⟩ := hc j css[j] (List.getElem?_eq_getElem hj2)
  obtain ⟨vv, qv, ev, e, k1, k2, k3⟩ := hr j css[j] xs[j] (List.getElem?_eq_getElem hj2) (List.getElem?_eq_getElem hj)
  rw [e] at h3
  refine ⟨a, vv, qv, ev, rfl, h2, h3 0 _ rfl, ?_, ?_, ?_, k1.at, k2.at, k3.at⟩
  · rw [← add_add_off a _ 1 (by omega)]; exact h3 1 _ rfl
  · rw [← add_add_off a _ 2 (by omega)]; exact h3 2 _ rfl
  · rw [← add_add_off a _ 3 (by omega)]; exact h3 3 _ rfl
theorem PrsIn.at {base : Nat} {w : World} {v : Value} {xs : List Pr} (h : PrsIn base w v xs) : PrsAt w v xs := by
  obtain ⟨css, ⟨ao, c, rfl, _, hc⟩, hl, hr⟩ := h
  refine ⟨ao, c, by rw [hl], fun j hj => ?_⟩
  have hj2 : j < css.length := by omega
  obtain ⟨_, a, rfl, _, h2, h3⟩ := hc j css[j] (List.getElem?_eq_getElem hj2)
  obtain ⟨uv, vv, e, k1, k2⟩ := hr j css[j] xs[j] (List.getElem?_eq_getElem hj2) (List.getElem?_eq_getElem hj)
  rw [e] at h3
  refine ⟨a, uv, vv, rfl, h2, h3 0 _ rfl, ?_, ?_, ?_, k1.at, k2.at⟩
  · rw [← add_add_off a _ 1 (by omega)]; exact h3 1 _ rfl
  · rw [← add_add_off a _ 2 (by omega)]; exact h3 2 _ rfl
  · rw [← add_add_off a _ 3 (by omega)]; exact h3 3 _ rfl

theorem CellsIn.room {base : Nat} {w : World} {v : Value} {vs : List Value} (h : CellsIn base w v vs) : Room v := by
  obtain ⟨ao, c, rfl, hr, _⟩ := h; exact hr.1
/-- The rooms of a row of nodes and of their kids. -/
def NdsRoom (w : World) (v : Value) (n : Nat) : Prop :=
  ∃ ao c, v = .slice ao n c ∧ n ≤ c ∧ ∀ j, j < n → ∃ a kv, ao = some a ∧ a.block < w.heap.size ∧ w.cell? { block := (a.add (j * 6)).block, off := (a.add (j * 6)).off + 5 } = some kv ∧ Room kv
theorem NdsRoom.stays {w w' : World} {v : Value} {n : Nat} (h : NdsRoom w v n) (hb : Below w.heap.size w w') : NdsRoom w' v n := by
  obtain ⟨ao, c, rfl, hr, hc⟩ := h
  refine ⟨ao, c, rfl, hr, fun j hj => ?_⟩
  obtain ⟨a, kv, rfl, h1, h2, h3⟩ := hc j hj
  exact ⟨a, kv, rfl, Nat.lt_of_lt_of_le h1 hb.size, (hb.cell (p := { block := (a.add (j * 6)).block, off := (a.add (j * 6)).off + 5 }) (by show (a.add (j * 6)).block < _; rw [block_add]; exact h1)).trans h2, h3⟩
theorem NdsIn.room {base : Nat} {w : World} {v : Value} {xs : List Nd} (h : NdsIn base w v xs) : NdsRoom w v xs.length := by
  obtain ⟨css, ⟨ao, c, rfl, h0, hc⟩, hl, hr⟩ := h
  refine ⟨ao, c, by rw [hl], by omega, fun j hj => ?_⟩
  have hj2 : j < css.length := by omega
  obtain ⟨_, a, rfl, _, h2, h3⟩ := hc j css[j] (List.getElem?_eq_getElem hj2)
  obtain ⟨kv, e, hk⟩ := hr j css[j] xs[j] (List.getElem?_eq_getElem hj2) (List.getElem?_eq_getElem hj)
  rw [e] at h3
  exact ⟨a, kv, rfl, h2, by rw [← add_add_off a _ 5 (by omega)]; exact h3 5 _ rfl, hk.room⟩

/-- A row of structs whose first k are filled. -/
structure Filled {α : Type} (R : Nat → World → List Value → α → Prop) (s : Nat) (e : TypeId) (w : World) (xs : List α) (k : Nat) (wr : World) : Prop where
  row : ∃ css : List (List Value), css.length = xs.length ∧ (∀ c ∈ css, c.length = s) ∧ wr.ownsRow w.heap.size e s (.slice (some ⟨w.heap.size, 0, none⟩) xs.length xs.length) xs.length css.flatten
    ∧ ∀ (j : Nat) (cs : List Value) (x : α), j < k → css[j]? = some cs → xs[j]? = some x → R (w.heap.size + 1) wr cs x
  below : Below w.heap.size w wr
theorem Filled.stays {α : Type} {R : Nat → World → List Value → α → Prop} [Told R] {s : Nat} {e : TypeId} {w : World} {xs : List α} {k : Nat} {wr w1 : World} (h : Filled R s e w xs k wr) (hb : Below wr.heap.size wr w1) : Filled R s e w xs k w1 := by
  obtain ⟨⟨css, h1, h2, h3, h4⟩, h5⟩ := h
  exact ⟨⟨css, h1, h2, ownsInts_stays h3 hb, fun j cs x hj hc hx => Told.kept (h4 j cs x hj hc hx) (KeptFrom.below hb)⟩, h5.trans (hb.mono h5.size)⟩
theorem Filled.lt {α : Type} {R : Nat → World → List Value → α → Prop} {s : Nat} {e : TypeId} {w : World} {xs : List α} {k : Nat} {wr : World} (h : Filled R s e w xs k wr) : w.heap.size < wr.heap.size := by
  obtain ⟨⟨css, _, _, h3, _⟩, _⟩ := h
  exact (h3.lt _ rfl).2
theorem Filled.there {α : Type} {R : Nat → World → List Value → α → Prop} {s : Nat} {e : TypeId} {w : World} {xs : List α} {k : Nat} {wr : World} (h : Filled R s e w xs k wr) (hk : k < xs.length) (j : Nat) (hj : j < s) :
    (∃ u, wr.cell? ⟨w.heap.size, k * s + j, none⟩ = some u) ∧ wr.frozen? ⟨w.heap.size, k * s + j, none⟩ = false := by
  obtain ⟨⟨css, _, _, h3, _⟩, _⟩ := h
  exact own_there h3 k hk j hj
theorem Filled.next {α : Type} {R : Nat → World → List Value → α → Prop} [Told R] {s : Nat} {e : TypeId} {w : World} {xs : List α} {k : Nat} {wr : World} (h : Filled R s e w xs k wr) (hk : k < xs.length) {y : List Value} (hy : y.length = s) (hR : R (w.heap.size + 1) wr y xs[k]) :
    Filled R s e w xs (k + 1) (wr.setCells w.heap.size (k * s) y) := by
  obtain ⟨⟨css, h1, h2, h3, h4⟩, h5⟩ := h
  have hkc : k < css.length := by omega
  refine ⟨⟨css.set k y, by simpa using h1, fun c hc => ?_, ?_, fun j cs x hj hc hx => ?_⟩, bel_setCells (Nat.le_refl _) _ _ _ h5⟩
  · rcases List.mem_or_eq_of_mem_set hc with hc | hc
    · exact h2 c hc
    · rw [hc]; exact hy
  · rw [← setLs_flat css k y h2 hy hkc]
    exact owns_setCells y (k * s) wr _ h3
  · refine Told.kept ?_ (KeptFrom.setCells (Nat.lt_succ_self _) y (k * s) wr)
    rcases Nat.lt_succ_iff_lt_or_eq.1 hj with hj | hj
    · rw [List.getElem?_set_ne (by omega)] at hc
      exact h4 j cs x hj hc hx
    · subst hj
      rw [List.getElem?_set_self hkc] at hc
      rw [List.getElem?_eq_getElem hk] at hx
      cases hc
      cases hx
      exact hR
theorem Filled.done {α : Type} {R : Nat → World → List Value → α → Prop} [Told R] {s : Nat} {e : TypeId} {w : World} {xs : List α} {k : Nat} {wr : World} (h : Filled R s e w xs k wr) (hk : k = xs.length) : ObjsIn R s w.heap.size wr (.slice (some ⟨w.heap.size, 0, none⟩) xs.length xs.length) xs := by
  obtain ⟨⟨css, h1, h2, h3, h4⟩, h5⟩ := h
  refine ⟨css, StructsIn.own h3 h1 h2, h1, fun j cs x hc hx => Told.mono (h4 j cs x ?_ hc hx) (Nat.le_succ _)⟩
  have := (List.getElem?_eq_some_iff.1 hc).1
  omega
theorem Filled.start {α : Type} (R : Nat → World → List Value → α → Prop) {e : TypeId} {w wm : World} (xs : List α) (z : List Value) (hz : 0 < z.length)
    (hown : wm.ownsRow w.heap.size e z.length (.slice (some ⟨w.heap.size, 0, none⟩) xs.length xs.length) xs.length (madeCells z.toArray (xs.length * z.length)).toList) (hgr : w.grownBy wm none) : Filled R z.length e w xs 0 wm := by
  rw [made_flat z hz] at hown
  exact ⟨⟨_, by simp, fun c hc => by rw [(List.mem_replicate.1 hc).2], hown, fun j cs x hj => absurd hj (Nat.not_lt_zero j)⟩, (Below.refl _ _).grown hgr (Nat.le_refl _) (fun k hk => by cases hk)⟩
end Go.Proofs.YtdfahpachbhglaaGreatDoor
