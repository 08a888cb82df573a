/-
  Rows of structs that hold rows: nodes, entries, monitors, processes, with where they lie; a row that is filled place by place.
-/
import Derived.Test.YtgeomgghecmkbaaRowP
import Derived.Test.YtgeomgghecmkbaaTreeO
namespace Go.Proofs.Ytgeomgghecmkbaa
open Go.RowKit

abbrev IntsIn (base : Nat) (w : World) (v : Value) (xs : List Int) : Prop := CellsIn base w v (xs.map I64)
abbrev StrsIn (base : Nat) (w : World) (v : Value) (xs : List ByteArray) : Prop := CellsIn base w v (xs.map Value.string)
theorem IntsIn.at {base : Nat} {w : World} {v : Value} {xs : List Int} (h : IntsIn base w v xs) : IntsAt w v xs := by
  obtain ⟨ao, c, rfl, _, hc⟩ := h
  refine ⟨ao, c, by simp, fun j hj => ?_⟩
  obtain ⟨a, rfl, _, h2, h3⟩ := hc j (I64 xs[j]) (by simp [hj])
  exact ⟨a, rfl, h2, h3⟩
theorem StrsIn.at {base : Nat} {w : World} {v : Value} {xs : List ByteArray} (h : StrsIn base w v xs) : StrsAt w v xs := by
  obtain ⟨ao, c, rfl, _, hc⟩ := h
  refine ⟨ao, c, by simp, fun j hj => ?_⟩
  obtain ⟨a, rfl, _, h2, h3⟩ := hc j (.string xs[j]) (by simp [hj])
  exact ⟨a, rfl, h2, h3⟩

/-- What a struct's cells say of a thing, where what lies behind them is from a base on. -/
class Told {α : Type} (R : Nat → World → List Value → α → Prop) : Prop where
  kept : ∀ {base : Nat} {w w' : World} {cs : List Value} {x : α}, R base w cs x → KeptFrom base w w' → R base w' cs x
  mono : ∀ {base base' : Nat} {w : World} {cs : List Value} {x : α}, R base w cs x → base' ≤ base → R base' w cs x
def ObjsIn {α : Type} (R : Nat → World → List Value → α → Prop) (s base : Nat) (w : World) (v : Value) (xs : List α) : Prop :=
  ∃ css : List (List Value), StructsIn s base w v css ∧ css.length = xs.length ∧ ∀ (j : Nat) (cs : List Value) (x : α), css[j]? = some cs → xs[j]? = some x → R base w cs x
theorem ObjsIn.kept {α : Type} {R : Nat → World → List Value → α → Prop} [Told R] {s base : Nat} {w w' : World} {v : Value} {xs : List α} (h : ObjsIn R s base w v xs) (k : KeptFrom base w w') : ObjsIn R s base w' v xs := by
  obtain ⟨css, h1, h2, h3⟩ := h
  exact ⟨css, h1.kept k, h2, fun j cs x hj hx => Told.kept (h3 j cs x hj hx) k⟩
theorem ObjsIn.mono {α : Type} {R : Nat → World → List Value → α → Prop} [Told R] {s base base' : Nat} {w : World} {v : Value} {xs : List α} (h : ObjsIn R s base w v xs) (hb : base' ≤ base) : ObjsIn R s base' w v xs := by
  obtain ⟨css, h1, h2, h3⟩ := h
  exact ⟨css, h1.mono hb, h2, fun j cs x hj hx => Told.mono (h3 j cs x hj hx) hb⟩

def NodeC (base : Nat) (w : World) (cs : List Value) (x : Nd) : Prop := ∃ kv, cs = [.int .i64 x.kind, .int .i64 x.num, .string x.name, .string x.more, .string x.into, kv] ∧ IntsIn base w kv x.kids
def EntC (_base : Nat) (_w : World) (cs : List Value) (x : En) : Prop := cs = [.string x.name, .string x.param, .int .i64 x.body]
instance : Told NodeC where
  kept := fun ⟨kv, e, h⟩ k => ⟨kv, e, h.kept k⟩
  mono := fun ⟨kv, e, h⟩ k => ⟨kv, e, h.mono k⟩
instance : Told EntC where
  kept := fun h _ => h
  mono := fun h _ => h
abbrev NdsIn (base : Nat) (w : World) (v : Value) (xs : List Nd) : Prop := ObjsIn NodeC 6 base w v xs
abbrev EnsIn (base : Nat) (w : World) (v : Value) (xs : List En) : Prop := ObjsIn EntC 3 base w v xs
def MonC (base : Nat) (w : World) (cs : List Value) (x : Mo) : Prop := ∃ vv qv ev, cs = [.string x.name, vv, qv, ev] ∧ StrsIn base w vv x.vars ∧ StrsIn base w qv x.queues ∧ EnsIn base w ev x.ents
def ProC (base : Nat) (w : World) (cs : List Value) (x : Pr) : Prop := ∃ uv vv, cs = [.string x.name, uv, vv, .int .i64 x.body] ∧ StrsIn base w uv x.uses ∧ StrsIn base w vv x.vars
instance : Told MonC where
  kept := fun ⟨vv, qv, ev, e, h1, h2, h3⟩ k => ⟨vv, qv, ev, e, h1.kept k, h2.kept k, h3.kept k⟩
  mono := fun ⟨vv, qv, ev, e, h1, h2, h3⟩ k => ⟨vv, qv, ev, e, h1.mono k, h2.mono k, h3.mono k⟩
instance : Told ProC where
  kept := fun ⟨uv, vv, e, h1, h2⟩ k => ⟨uv, vv, e, h1.kept k, h2.kept k⟩
  mono := fun ⟨uv, vv, e, h1, h2⟩ k => ⟨uv, vv, e, h1.mono k, h2.mono k⟩
abbrev MosIn (base : Nat) (w : World) (v : Value) (xs : List Mo) : Prop := ObjsIn MonC 4 base w v xs
abbrev PrsIn (base : Nat) (w : World) (v : Value) (xs : List Pr) : Prop := ObjsIn ProC 4 base w v xs

theorem add_add_off (a : Addr) (k n : Nat) (hn : 0 < n) : a.add (k + n) = { block := (a.add k).block, off := (a.add k).off + n } := by
  simp only [Addr.add]
  rw [if_neg (by omega)]
  split
  · next h => subst h; simp
  · simp only [Addr.mk.injEq, and_true, true_and]; omega
theorem NdsIn.at {base : Nat} {w : World} {v : Value} {xs : List Nd} (h : NdsIn base w v xs) : NdsAt w v xs := by
  obtain ⟨css, ⟨ao, c, rfl, _, hc⟩, hl, hr⟩ := h
  refine ⟨ao, c, by rw [hl], fun j hj => ?_⟩
  have hj2 : j < css.length := by omega
  obtain ⟨_, a, rfl, _, h2, h3⟩ := hc j css[j] (List.getElem?_eq_getElem hj2)
  obtain ⟨kv, e, hk⟩ := hr j css[j] xs[j] (List.getElem?_eq_getElem hj2) (List.getElem?_eq_getElem hj)
  rw [e] at h3
  refine ⟨a, kv, rfl, h2, h3 0 _ rfl, ?_, ?_, ?_, ?_, ?_, hk.at⟩
  · rw [← add_add_off a _ 1 (by omega)]; exact h3 1 _ rfl
  · rw [← add_add_off a _ 2 (by omega)]; exact h3 2 _ rfl
  · rw [← add_add_off a _ 3 (by omega)]; exact h3 3 _ rfl
  · rw [← add_add_off a _ 4 (by omega)]; exact h3 4 _ rfl
  · rw [← add_add_off a _ 5 (by omega)]; exact h3 5 _ rfl
theorem EnsIn.at {base : Nat} {w : World} {v : Value} {xs : List En} (h : EnsIn base w v xs) : EnsAt w v xs := by
  obtain ⟨css, ⟨ao, c, rfl, _, hc⟩, hl, hr⟩ := h
  refine ⟨ao, c, by rw [hl], fun j hj => ?_⟩
  have hj2 : j < css.length := by omega
  obtain ⟨_, a, rfl, _, h2, h3⟩ := hc j css[j] (List.getElem?_eq_getElem hj2)
  have e : css[j] = _ := hr j css[j] xs[j] (List.getElem?_eq_getElem hj2) (List.getElem?_eq_getElem hj)
  rw [e] at h3
  refine ⟨a, rfl, h2, h3 0 _ rfl, ?_, ?_⟩
  · rw [← add_add_off a _ 1 (by omega)]; exact h3 1 _ rfl
  · rw [← add_add_off a _ 2 (by omega)]; exact h3 2 _ rfl
theorem MosIn.at {base : Nat} {w : World} {v : Value} {xs : List Mo} (h : MosIn base w v xs) : MosAt w v xs := by
  obtain ⟨css, ⟨ao, c, rfl, _, hc⟩, hl, hr⟩ := h
  refine ⟨ao, c, by rw [hl], fun j hj => ?_⟩
  have hj2 : j < css.length := by omega
  obtain ⟨_, a, rfl, _, h2, h3⟩ := hc j css[j] (List.getElem?_eq_getElem hj2)
  obtain ⟨vv, qv, ev, e, k1, k2, k3⟩ := hr j css[j] xs[j] (List.getElem?_eq_getElem hj2) (List.getElem?_eq_getElem hj)
  rw [e] at h3
  refine ⟨a, vv, qv, ev, rfl, h2, h3 0 _ rfl, ?_, ?_, ?_, k1.at, k2.at, k3.at⟩
  · rw [← add_add_off a _ 1 (by omega)]; exact h3 1 _ rfl
  · rw [← add_add_off a _ 2 (by omega)]; exact h3 2 _ rfl
  · rw [← add_add_off a _ 3 (by omega)]; exact h3 3 _ rfl
theorem PrsIn.at {base : Nat} {w : World} {v : Value} {xs : List Pr} (h : PrsIn base w v xs) : PrsAt w v xs := by
  obtain ⟨css, ⟨ao, c, rfl, _, hc⟩, hl, hr⟩ := h
  refine ⟨ao, c, by rw [hl], fun j hj => ?_⟩
  have hj2 : j < css.length := by omega
  obtain ⟨_, a, rfl, _, h2, h3⟩ := hc j css[j] (List.getElem?_eq_getElem hj2)
  obtain ⟨uv, vv, e, k1, k2⟩ := hr j css[j] xs[j] (List.getElem?_eq_getElem hj2) (List.getElem?_eq_getElem hj)
  rw [e] at h3
  refine ⟨a, uv, vv, rfl, h2, h3 0 _ rfl, ?_, ?_, ?_, k1.at, k2.at⟩
  · rw [← add_add_off a _ 1 (by omega)]; exact h3 1 _ rfl
  · rw [← add_add_off a _ 2 (by omega)]; exact h3 2 _ rfl
  · rw [← add_add_off a _ 3 (by omega)]; exact h3 3 _ rfl

theorem CellsIn.room {base : Nat} {w : World} {v : Value} {vs : List Value} (h : CellsIn base w v vs) : Room v := by
  obtain ⟨ao, c, rfl, hr, _⟩ := h; exact hr.1
/-- The rooms of a row of nodes and of their kids. -/
def NdsRoom (w : World) (v : Value) (n : Nat) : Prop :=
  ∃ ao c, v = .slice ao n c ∧ n ≤ c ∧ ∀ j, j < n → ∃ a kv, ao = some a ∧ a.block < w.heap.size ∧ w.cell? { block := (a.add (j * 6)).block, off := (a.add (j * 6)).off + 5 } = some kv ∧ Room kv
theorem NdsRoom.stays {w w' : World} {v : Value} {n : Nat} (h : NdsRoom w v n) (hb : Below w.heap.size w w') : NdsRoom w' v n := by
  obtain ⟨ao, c, rfl, hr, hc⟩ := h
  refine ⟨ao, c, rfl, hr, fun j hj => ?_⟩
  obtain ⟨a, kv, rfl, h1, h2, h3⟩ := hc j hj
  exact ⟨a, kv, rfl, Nat.lt_of_lt_of_le h1 hb.size, (hb.cell (p := { block := (a.add (j * 6)).block, off := (a.add (j * 6)).off + 5 }) (by show (a.add (j * 6)).block < _; rw [block_add]; exact h1)).trans h2, h3⟩
theorem NdsIn.room {base : Nat} {w : World} {v : Value} {xs : List Nd} (h : NdsIn base w v xs) : NdsRoom w v xs.length := by
  obtain ⟨css, ⟨ao, c, rfl, h0, hc⟩, hl, hr⟩ := h
  refine ⟨ao, c, by rw [hl], by omega, fun j hj => ?_⟩
  have hj2 : j < css.length := by omega
  obtain ⟨_, a, rfl, _, h2, h3⟩ := hc j css[j] (List.getElem?_eq_getElem hj2)
  obtain ⟨kv, e, hk⟩ := hr j css[j] xs[j] (List.getElem?_eq_getElem hj2) (List.getElem?_eq_getElem hj)
  rw [e] at h3
  exact ⟨a, kv, rfl, h2, by rw [← add_add_off a _ 5 (by omega)]; exact h3 5 _ rfl, hk.room⟩

/-- A row of structs whose first k are filled. -/
structure Filled {α : Type} (R : Nat → World → List Value → α → Prop) (s : Nat) (e : TypeId) (w : World) (xs : List α) (k : Nat) (wr : World) : Prop where
  row : ∃ css : List (List Value), css.length = xs.length ∧ (∀ c ∈ css, c.length = s) ∧ wr.ownsRow w.heap.size e s (.slice (some ⟨w.heap.size, 0, none⟩) xs.length xs.length) xs.length css.flatten
    ∧ ∀ (j : Nat) (cs : List Value) (x : α), j < k → css[j]? = some cs → xs[j]? = some x → R (w.heap.size + 1) wr cs x
  below : Below w.heap.size w wr
theorem Filled.stays {α : Type} {R : Nat → World → List Value → α → Prop} [Told R] {s : Nat} {e : TypeId} {w : World} {xs : List α} {k : Nat} {wr w1 : World} (h : Filled R s e w xs k wr) (hb : Below wr.heap.size wr w1) : Filled R s e w xs k w1 := by
  obtain ⟨⟨css, h1, h2, h3, h4⟩, h5⟩ := h
  exact ⟨⟨css, h1, h2, ownsInts_stays h3 hb, fun j cs x hj hc hx => Told.kept (h4 j cs x hj hc hx) (KeptFrom.below hb)⟩, h5.trans (hb.mono h5.size)⟩
theorem Filled.lt {α : Type} {R : Nat → World → List Value → α → Prop} {s : Nat} {e : TypeId} {w : World} {xs : List α} {k : Nat} {wr : World} (h : Filled R s e w xs k wr) : w.heap.size < wr.heap.size := by
  obtain ⟨⟨css, _, _, h3, _⟩, _⟩ := h
  exact (h3.lt _ rfl).2
theorem Filled.there {α : Type} {R : Nat → World → List Value → α → Prop} {s : Nat} {e : TypeId} {w : World} {xs : List α} {k : Nat} {wr : World} (h : Filled R s e w xs k wr) (hk : k < xs.length) (j : Nat) (hj : j < s) :
    (∃ u, wr.cell? ⟨w.heap.size, k * s + j, none⟩ = some u) ∧ wr.frozen? ⟨w.heap.size, k * s + j, none⟩ = false := by
  obtain ⟨⟨css, _, _, h3, _⟩, _⟩ := h
  exact own_there h3 k hk j hj
theorem Filled.next {α : Type} {R : Nat → World → List Value → α → Prop} [Told R] {s : Nat} {e : TypeId} {w : World} {xs : List α} {k : Nat} {wr : World} (h : Filled R s e w xs k wr) (hk : k < xs.length) {y : List Value} (hy : y.length = s) (hR : R (w.heap.size + 1) wr y xs[k]) :
    Filled R s e w xs (k + 1) (wr.setCells w.heap.size (k * s) y) := by
  obtain ⟨⟨css, h1, h2, h3, h4⟩, h5⟩ := h
  have hkc : k < css.length := by omega
  refine ⟨⟨css.set k y, by simpa using h1, fun c hc => ?_, ?_, fun j cs x hj hc hx => ?_⟩, bel_setCells (Nat.le_refl _) _ _ _ h5⟩
  · rcases List.mem_or_eq_of_mem_set hc with hc | hc
    · exact h2 c hc
    · rw [hc]; exact hy
  · rw [← setLs_flat css k y h2 hy hkc]
    exact owns_setCells y (k * s) wr _ h3
  · refine Told.kept ?_ (KeptFrom.setCells (Nat.lt_succ_self _) y (k * s) wr)
    rcases Nat.lt_succ_iff_lt_or_eq.1 hj with hj | hj
    · rw [List.getElem?_set_ne (by omega)] at hc
      exact h4 j cs x hj hc hx
    · subst hj
      rw [List.getElem?_set_self hkc] at hc
      rw [List.getElem?_eq_getElem hk] at hx
      cases hc
      cases hx
      exact hR
theorem Filled.done {α : Type} {R : Nat → World → List Value → α → Prop} [Told R] {s : Nat} {e : TypeId} {w : World} {xs : List α} {k : Nat} {wr : World} (h : Filled R s e w xs k wr) (hk : k = xs.length) : ObjsIn R s w.heap.size wr (.slice (some ⟨w.heap.size, 0, none⟩) xs.length xs.length) xs := by
  obtain ⟨⟨css, h1, h2, h3, h4⟩, h5⟩ := h
  refine ⟨css, StructsIn.own h3 h1 h2, h1, fun j cs x hc hx => Told.mono (h4 j cs x ?_ hc hx) (Nat.le_succ _)⟩
  have := (List.getElem?_eq_some_iff.1 hc).1
  omega
theorem Filled.start {α : Type} (R : Nat → World → List Value → α → Prop) {e : TypeId} {w wm : World} (xs : List α) (z : List Value) (hz : 0 < z.length)
    (hown : wm.ownsRow w.heap.size e z.length (.slice (some ⟨w.heap.size, 0, none⟩) xs.length xs.length) xs.length (madeCells z.toArray (xs.length * z.length)).toList) (hgr : w.grownBy wm none) : Filled R z.length e w xs 0 wm := by
  rw [made_flat z hz] at hown
  exact ⟨⟨_, by simp, fun c hc => by rw [(List.mem_replicate.1 hc).2], hown, fun j cs x hj => absurd hj (Nat.not_lt_zero j)⟩, (Below.refl _ _).grown hgr (Nat.le_refl _) (fun k hk => by cases hk)⟩
end Go.Proofs.Ytgeomgghecmkbaa
