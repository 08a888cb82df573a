/-
  Walks: a program that came in, copied, by the laws' own helpers: numbers, texts, nodes.
-/
import Derived.Test.YtmchgmpdhfefjaaRowQ
import Derived.Laws.OwnMore
import Derived.Handy
import Derived.Deep.RegionHeld3
import Derived.Deep.Slices
import Derived.ProofKit
import Derived.OpenShut
import Derived.ChangeArms
namespace Go.Proofs.Ytmchgmpdhfefjaa
open Go.RowKit

def IntC (_base : Nat) (_w : World) (cs : List Value) (x : Int) : Prop := cs = [.int .i64 x]
def StrC (_base : Nat) (_w : World) (cs : List Value) (x : ByteArray) : Prop := cs = [.string x]
instance : Told IntC := ⟨fun h _ => h, fun h _ => h⟩
instance : Told StrC := ⟨fun h _ => h, fun h _ => h⟩
theorem ObjsIn.ints {base : Nat} {w : World} {v : Value} {xs : List Int} (h : ObjsIn IntC 1 base w v xs) : IntsIn base w v xs := by
  obtain ⟨css, ⟨ao, c, rfl, h0, hc⟩, hl, hr⟩ := h
  refine ⟨ao, c, by rw [hl, List.length_map], ⟨by rw [List.length_map]; omega, fun h1 => h0.2 (by rw [List.length_map] at h1; omega)⟩, fun j u hj => ?_⟩
  rw [List.getElem?_map] at hj
  obtain ⟨x, hx, rfl⟩ := Option.map_eq_some_iff.1 hj
  have hj2 := (List.getElem?_eq_some_iff.1 hx).1
  have hj3 : j < css.length := by omega
  obtain ⟨_, a, rfl, h1, h2, h3⟩ := hc j css[j] (List.getElem?_eq_getElem hj3)
  have e := hr j css[j] x (List.getElem?_eq_getElem hj3) hx
  rw [e] at h3
  exact ⟨a, rfl, h1, h2, by have := h3 0 _ rfl; simpa using this⟩
theorem ObjsIn.strs {base : Nat} {w : World} {v : Value} {xs : List ByteArray} (h : ObjsIn StrC 1 base w v xs) : StrsIn base w v xs := by
  obtain ⟨css, ⟨ao, c, rfl, h0, hc⟩, hl, hr⟩ := h
  refine ⟨ao, c, by rw [hl, List.length_map], ⟨by rw [List.length_map]; omega, fun h1 => h0.2 (by rw [List.length_map] at h1; omega)⟩, fun j u hj => ?_⟩
  rw [List.getElem?_map] at hj
  obtain ⟨x, hx, rfl⟩ := Option.map_eq_some_iff.1 hj
  have hj2 := (List.getElem?_eq_some_iff.1 hx).1
  have hj3 : j < css.length := by omega
  obtain ⟨_, a, rfl, h1, h2, h3⟩ := hc j css[j] (List.getElem?_eq_getElem hj3)
  have e := hr j css[j] x (List.getElem?_eq_getElem hj3) hx
  rw [e] at h3
  exact ⟨a, rfl, h1, h2, by have := h3 0 _ rfl; simpa using this⟩

def FillR {α : Type} (R : Nat → World → List Value → α → Prop) (s : Nat) (e : TypeId) (w : World) (xs : List α) (iv : Value) (wr : World) : Prop :=
  ∃ k : Nat, k ≤ xs.length ∧ iv = .int .i64 k ∧ Hid (Filled R s e w xs k wr)

theorem Try.infoStr : (Try.prog.info? 9).map (fun i => (i.zero, i.size, i.bytes)) = some (some (.string ⟨#[]⟩), 1, 16) := by kernel_rfl
end Go.Proofs.Ytmchgmpdhfefjaa

namespace Go.Proofs.Ytmchgmpdhfefjaa
open Go.RowKit

def blockQ (x : Int) : Bool := decide (x = 20)
def BlocksR (W1 : World) (l : List Int) (n m : Nat) (iv : Value) (wr : World) : Prop :=
  ∃ i : Nat, n ≤ i ∧ i ≤ m ∧ iv = .int .i64 i ∧ Hid (Below W1.heap.size W1 wr) ∧ Hid (∀ j x, n ≤ j → j < i → l[j]? = some x → blockQ x = true)

theorem NdsAt.node {w : World} {nv : Value} {ns : List Nd} (h : NdsAt w nv ns) (k : Nat) (hk : k < ns.length) :
    ∃ a c p kv, nv = .slice (some a) ns.length c ∧ a.add (k * 6) = p ∧ p.block < w.heap.size ∧ NdCell w p ns[k] kv := by
  obtain ⟨ao, c, rfl, hc⟩ := h
  obtain ⟨a, kv, rfl, ha, hx⟩ := hc k hk
  exact ⟨a, c, a.add (k * 6), kv, rfl, rfl, by rw [block_add]; exact ha, hx⟩

/-- Are a node's kids what its kind wants? -/
def kidsB (kd : Int) (l : List Int) : Bool :=
  if kd = 1 ∨ kd = 2 ∨ kd = 16 ∨ kd = 17 ∨ kd = 18 ∨ kd = 19 then decide (l.length = 0)
  else if kd = 3 then decide (l.length = 2) && (l.take 2).all valueQ
  else if kd = 4 ∨ kd = 5 ∨ kd = 11 ∨ kd = 14 ∨ kd = 15 then decide (l.length = 1) && (l.take 1).all valueQ
  else if kd = 12 then decide (l.length = 2 ∨ l.length = 3) && (l.take 1).all valueQ && (l.drop 1).all blockQ
  else if kd = 13 then decide (l.length = 2) && (l.take 1).all valueQ && (l.drop 1).all blockQ
  else l.all stmtQ && inZ 1 12 l.length
end Go.Proofs.Ytmchgmpdhfefjaa

namespace Go.Proofs.Ytmchgmpdhfefjaa
open Go.RowKit

end Go.Proofs.Ytmchgmpdhfefjaa

namespace Go.Proofs.Ytmchgmpdhfefjaa
open Go.RowKit

/-- The boxes of a copy: what came in, the result, what is made. -/
structure ThreeB (w : World) (A Z O : Array Value) (tA t : TypeId) (z : World) : Prop where
  bA : Box z w.heap.size A tA
  bZ : Box z (w.heap.size + 1) Z t
  bO : Box z (w.heap.size + 1 + 1) O t
  bel : Below w.heap.size w z
  lt : w.heap.size + 3 ≤ z.heap.size
theorem ThreeB.start (w : World) (A Z O : Array Value) (tA t : TypeId) : ThreeB w A Z O tA t (((w.alloc (.cells A tA)).alloc (.cells Z t)).alloc (.cells O t)) :=
  ⟨((Box.made w _ _).stays ((Below.refl _ _).alloc (Nat.le_refl _) _)).stays ((Below.refl _ _).alloc (Nat.le_refl _) _), (Box.madeAt (by simp) _ _).stays ((Below.refl _ _).alloc (Nat.le_refl _) _), Box.madeAt (by simp) _ _, by go_grown, by simp⟩
theorem ThreeB.stays {w : World} {A Z O : Array Value} {tA t : TypeId} {z z' : World} (h : ThreeB w A Z O tA t z) (hb : Below z.heap.size z z') : ThreeB w A Z O tA t z' :=
  ⟨h.bA.stays hb, h.bZ.stays hb, h.bO.stays hb, h.bel.trans (hb.mono h.bel.size), Nat.le_trans h.lt hb.size⟩
theorem ThreeB.put {w : World} {A Z O : Array Value} {tA t : TypeId} {z : World} (h : ThreeB w A Z O tA t z) (i : Nat) (v : Value) : ThreeB w A Z (O.setIfInBounds i v) tA t (z.setCell ⟨w.heap.size + 1 + 1, i, none⟩ v) :=
  ⟨h.bA.other _ _ (by dsimp only; omega), h.bZ.other _ _ (by dsimp only; omega), h.bO.set i v, h.bel.setCell (by dsimp only; omega) _, by
    have := h.lt
    simpa [World.setCell] using this⟩
theorem ThreeB.kept {w : World} {z : World} (i : Nat) (v : Value) : KeptFrom (w.heap.size + 3) z (z.setCell ⟨w.heap.size + 1 + 1, i, none⟩ v) := KeptFrom.setCell (by omega) _ _ _
theorem ThreeB.keptR {w : World} {z : World} (i : Nat) (v : Value) : KeptFrom (w.heap.size + 3) z (z.setCell ⟨w.heap.size + 1, i, none⟩ v) := KeptFrom.setCell (by omega) _ _ _

theorem CellsIn.form {base : Nat} {w : World} {v : Value} {vs : List Value} (h : CellsIn base w v vs) : ∃ o n c, v = .slice o n c := by
  obtain ⟨o, c, rfl, _⟩ := h; exact ⟨_, _, _, rfl⟩
theorem ObjsIn.form {α : Type} {R : Nat → World → List Value → α → Prop} {s base : Nat} {w : World} {v : Value} {xs : List α} (h : ObjsIn R s base w v xs) : ∃ o n c, v = .slice o n c := by
  obtain ⟨css, ⟨o, c, rfl, _⟩, _⟩ := h; exact ⟨_, _, _, rfl⟩
end Go.Proofs.Ytmchgmpdhfefjaa

namespace Go.Proofs.Ytmchgmpdhfefjaa
open Go.RowKit

/-- A program. -/
structure Pg where
  nodes : List Nd
  mons : List Mo
  pros : List Pr
def ProgC (base : Nat) (w : World) (cs : List Value) (x : Pg) : Prop := ∃ nv mv pv, cs = [nv, mv, pv] ∧ NdsIn base w nv x.nodes ∧ MosIn base w mv x.mons ∧ PrsIn base w pv x.pros
instance : Told ProgC where
  kept := fun ⟨nv, mv, pv, e, h1, h2, h3⟩ k => ⟨nv, mv, pv, e, h1.kept k, h2.kept k, h3.kept k⟩
  mono := fun ⟨nv, mv, pv, e, h1, h2, h3⟩ k => ⟨nv, mv, pv, e, h1.mono k, h2.mono k, h3.mono k⟩
/-- A program whose lists are no longer than may be. -/
structure PgLen (x : Pg) : Prop where
  nl : x.nodes.length ≤ 1048576
  ml : x.mons.length ≤ 1048576
  pl : x.pros.length ≤ 1048576
  kids : ∀ y ∈ x.nodes, y.kids.length ≤ 1048576
  mon : ∀ y ∈ x.mons, y.vars.length ≤ 1048576 ∧ y.queues.length ≤ 1048576 ∧ y.ents.length ≤ 1048576
  pro : ∀ y ∈ x.pros, y.uses.length ≤ 1048576 ∧ y.vars.length ≤ 1048576

end Go.Proofs.Ytmchgmpdhfefjaa

namespace Go.Proofs.Ytmchgmpdhfefjaa
open Go.RowKit

def SameR (w : World) (n : Nat) (iv : Value) (wr : World) : Prop := ∃ i : Nat, i ≤ n ∧ iv = .int .i64 i ∧ Hid (Below w.heap.size w wr)
/-- The boxes of two things of one type. -/
structure TwoB (w : World) (A B : Array Value) (t : TypeId) (z : World) : Prop where
  bA : Box z w.heap.size A t
  bB : Box z (w.heap.size + 1) B t
  bel : Below w.heap.size w z
theorem TwoB.start (w : World) (A B : Array Value) (t : TypeId) : TwoB w A B t ((w.alloc (.cells A t)).alloc (.cells B t)) :=
  ⟨(Box.made w _ _).stays ((Below.refl _ _).alloc (Nat.le_refl _) _), Box.madeAt (by simp) _ _, by go_grown⟩
theorem TwoB.stays {w : World} {A B : Array Value} {t : TypeId} {z z' : World} (h : TwoB w A B t z) (hb : Below z.heap.size z z') : TwoB w A B t z' :=
  ⟨h.bA.stays hb, h.bB.stays hb, h.bel.trans (hb.mono h.bel.size)⟩

end Go.Proofs.Ytmchgmpdhfefjaa

namespace Go.Proofs.Ytmchgmpdhfefjaa
open Go.RowKit

def szStrs (xs : List ByteArray) : Nat := xs.length + (xs.map ByteArray.size).sum
def szNd (x : Nd) : Nat := x.name.size + x.more.size + x.into.size + x.kids.length
def szNds (xs : List Nd) : Nat := xs.length + (xs.map szNd).sum
def szEn (x : En) : Nat := x.name.size + x.param.size
def szEns (xs : List En) : Nat := xs.length + (xs.map szEn).sum
def szMo (x : Mo) : Nat := x.name.size + szStrs x.vars + szStrs x.queues + szEns x.ents
def szMos (xs : List Mo) : Nat := xs.length + (xs.map szMo).sum
def szPr (x : Pr) : Nat := x.name.size + szStrs x.uses + szStrs x.vars
def szPrs (xs : List Pr) : Nat := xs.length + (xs.map szPr).sum
def szPg (x : Pg) : Nat := szNds x.nodes + szMos x.mons + szPrs x.pros

/-- What a reading says of lengths. -/
def IntsMax (xs : List Int) : Prop := xs.length ≤ maxLen
def StrsMax (xs : List ByteArray) : Prop := xs.length ≤ maxLen ∧ ∀ x ∈ xs, x.size ≤ maxLen
structure NdMax (x : Nd) : Prop where
  name : x.name.size ≤ maxLen
  more : x.more.size ≤ maxLen
  into : x.into.size ≤ maxLen
  kids : IntsMax x.kids
def NdsMax (xs : List Nd) : Prop := xs.length ≤ maxLen ∧ ∀ x ∈ xs, NdMax x
structure EnMax (x : En) : Prop where
  name : x.name.size ≤ maxLen
  param : x.param.size ≤ maxLen
def EnsMax (xs : List En) : Prop := xs.length ≤ maxLen ∧ ∀ x ∈ xs, EnMax x
structure MoMax (x : Mo) : Prop where
  name : x.name.size ≤ maxLen
  vars : StrsMax x.vars
  queues : StrsMax x.queues
  ents : EnsMax x.ents
def MosMax (xs : List Mo) : Prop := xs.length ≤ maxLen ∧ ∀ x ∈ xs, MoMax x
structure PrMax (x : Pr) : Prop where
  name : x.name.size ≤ maxLen
  uses : StrsMax x.uses
  vars : StrsMax x.vars
def PrsMax (xs : List Pr) : Prop := xs.length ≤ maxLen ∧ ∀ x ∈ xs, PrMax x
structure PgMax (x : Pg) : Prop where
  nodes : NdsMax x.nodes
  mons : MosMax x.mons
  pros : PrsMax x.pros

def SzR (w : World) (n : Nat) (l : Int) (f : Nat → Nat) (iv lv : Value) (wr : World) : Prop :=
  ∃ (k : Nat) (l' : Int), k ≤ n ∧ iv = .int .i64 k ∧ lv = .int .i64 l' ∧ 0 ≤ l' ∧ l' ≤ 1048576 ∧ Hid (l' + (n : Int) + (f k : Nat) = l) ∧ Hid (Below w.heap.size w wr)

end Go.Proofs.Ytmchgmpdhfefjaa

namespace Go.Proofs.Ytmchgmpdhfefjaa
open Go.RowKit
open Go.ChangeShapes Go.WideShapes Go.ChangeAt Go.Deep

/-- A row of things of s cells each, each told by a relation on its cells. -/
def RowOf {α : Type} (s : Nat) (W : World) (v : Value) (Rel : List Value → α → Prop) (ys : List α) : Prop :=
  ys.length ≤ maxLen ∧ ∃ ao c, v = .slice ao ys.length c ∧ ∀ j (h : j < ys.length), ∃ a cs', ao = some a ∧ a.block < W.heap.size ∧ cs'.length = s ∧ Rel cs' ys[j] ∧ ∀ i u, cs'[i]? = some u → W.cell? ((a.add (j * s)).add i) = some u

theorem opens_row {H : Type} {enc : TypeId × Value → H} {P : Program} {W : World} {α : Type} [Inhabited α] {Rel : List Value → α → Prop} {t e : TypeId} {s fuel : Nat} {cs : List Value} {x : DataW H × List MemPlace}
    (ht : P.underlying t = some (.slice e)) (hs : P.cellsOf e = s) (hpos : 0 < s) (hop : ∀ fuel cs x, DataW.trod enc P W 0 (fun _ => true) true fuel e cs = some x → ∃ y, Rel cs y)
    (h : DataW.trod enc P W 0 (fun _ => true) true fuel t cs = some x) : ∃ v ys, cs = [v] ∧ RowOf s W v Rel ys := by
  rcases open_slice ht h with ⟨rfl, _⟩ | ⟨a, len, c, m, n, D, Pl, rfl, _, hl, hm, hmm, _, hx⟩
  · exact ⟨_, [], rfl, by simp, none, 0, rfl, fun j hj => by simp at hj⟩
  · have hlm : len ≤ m := by rw [hmm]; simp; exact hl
    have hone : ∀ i, i < len → ∃ y : α, ∃ cs', a.block < W.heap.size ∧ cs'.length = s ∧ Rel cs' y ∧ ∀ i' u, cs'[i']? = some u → W.cell? ((a.add (i * s)).add i') = some u := by
      intro i hi
      obtain ⟨cs', h1, h2⟩ := hx i (by omega)
      rw [hs] at h1
      obtain ⟨_, hcl, hcell⟩ := World.cells?_some h1
      obtain ⟨y, hy⟩ := hop _ _ _ h2
      have hall : ∀ i' u, cs'[i']? = some u → W.cell? ((a.add (i * s)).add i') = some u := fun i' u hu => by
        have hi' := (List.getElem?_eq_some_iff.1 hu).1
        rw [hcell i' (by omega)]
        exact hu
      refine ⟨y, cs', ?_, hcl, hy, hall⟩
      have h0 : 0 < cs'.length := by omega
      have h3 := World.block_lt_of_cell? _ _ (hall 0 cs'[0] (List.getElem?_eq_getElem h0))
      rwa [block_add, block_add] at h3
    obtain ⟨f, hfx⟩ := choose_lt (α := α) hone
    refine ⟨_, (List.range len).map f, rfl, by simp; omega, some a, c, by simp, fun j hj => ?_⟩
    obtain ⟨cs', q1, q2, q3, q4⟩ := hfx j (by simpa using hj)
    exact ⟨a, cs', rfl, q1, q2, by simpa using q3, q4⟩
def IntRel (cs : List Value) (x : Int) : Prop := cs = [.int .i64 x]
def StrRel (cs : List Value) (x : ByteArray) : Prop := cs = [.string x] ∧ x.size ≤ maxLen
theorem add_nil (a : Addr) : a.add 0 = a := by simp [Addr.add]
theorem add_some (a : Addr) (n : Nat) (hn : 0 < n) : a.add n = { block := a.block, off := a.off + n } := by
  simp only [Addr.add]
  rw [if_neg (by omega)]
theorem RowOf.ints {W : World} {v : Value} {xs : List Int} (h : RowOf 1 W v IntRel xs) : IntsAt W v xs ∧ IntsMax xs := by
  obtain ⟨h0, ao, c, rfl, hc⟩ := h
  refine ⟨⟨ao, c, rfl, fun j hj => ?_⟩, h0⟩
  obtain ⟨a, cs, rfl, h1, _, e, h3⟩ := hc j hj
  rw [e] at h3
  exact ⟨a, rfl, h1, by have := h3 0 _ rfl; rwa [add_nil, Nat.mul_one] at this⟩
theorem RowOf.strs {W : World} {v : Value} {xs : List ByteArray} (h : RowOf 1 W v StrRel xs) : StrsAt W v xs ∧ StrsMax xs := by
  obtain ⟨h0, ao, c, rfl, hc⟩ := h
  refine ⟨⟨ao, c, rfl, fun j hj => ?_⟩, h0, fun x hx => ?_⟩
  · obtain ⟨a, cs, rfl, h1, _, e, h3⟩ := hc j hj
    rw [e.1] at h3
    exact ⟨a, rfl, h1, by have := h3 0 _ rfl; rwa [add_nil, Nat.mul_one] at this⟩
  · obtain ⟨j, hj, rfl⟩ := List.getElem_of_mem hx
    obtain ⟨a, cs, _, _, _, e, _⟩ := hc j hj
    exact e.2
theorem cells_int : Try.prog.cellsOf 3 = 1 := by kernel_rfl
theorem cells_str : Try.prog.cellsOf 9 = 1 := by kernel_rfl
theorem cells_ints : Try.prog.cellsOf 24 = 1 := by kernel_rfl
section
variable {H : Type} {enc : TypeId × Value → H} {W : World}
theorem opens_int (fuel : Nat) (cs : List Value) (x : DataW H × List MemPlace) (h : DataW.trod enc Try.prog W 0 (fun _ => true) true fuel 3 cs = some x) : ∃ y, IntRel cs y := by
  obtain ⟨k, e, _⟩ := DataW.trod_int Try.underlying3 h
  exact ⟨k, e⟩
theorem opens_str (fuel : Nat) (cs : List Value) (x : DataW H × List MemPlace) (h : DataW.trod enc Try.prog W 0 (fun _ => true) true fuel 9 cs = some x) : ∃ y, StrRel cs y := by
  obtain ⟨k, e, _, hb⟩ := DataW.trod_string Try.underlying9 h
  exact ⟨k, e, hb⟩
instance : Inhabited ByteArray := ⟨ByteArray.empty⟩
theorem opens_ints (fuel : Nat) (cs : List Value) (x : DataW H × List MemPlace) (h : DataW.trod enc Try.prog W 0 (fun _ => true) true fuel 24 cs = some x) : ∃ v ys, cs = [v] ∧ IntsAt W v ys ∧ IntsMax ys := by
  obtain ⟨v, ys, e, hr⟩ := opens_row Try.underlying24 cells_int (by omega) opens_int h
  exact ⟨v, ys, e, hr.ints⟩
end
end Go.Proofs.Ytmchgmpdhfefjaa
