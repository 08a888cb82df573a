/-
  A flat struct (Env) by the laws' own helpers.
-/
import Derived.Test.YtmchgmpdhfefjaaLawT
import Derived.Test.YtmchgmpdhfefjaaAidD
import Derived.Test.YtmchgmpdhfefjaaSgP
import Derived.Test.YtmchgmpdhfefjaaInsX
import Derived.Test.YtmchgmpdhfefjaaAid
import Derived.Test.YtmchgmpdhfefjaaChecked
import Derived.Maps.OwnSet
import Derived.BigQuiet
import Derived.WalkSmall
namespace Go.Proofs.Ytmchgmpdhfefjaa
open Go.RowKit

structure Ev where
  names : List ByteArray
  vals : List Int
structure EvAt (w : World) (v0 v1 : Value) (x : Ev) : Prop where
  a0 : StrsAt w v0 x.names
  a1 : IntsAt w v1 x.vals
theorem EvAt.stays {w w' : World} {v0 v1 : Value} {x : Ev} (h : EvAt w v0 v1 x) (hb : Below w.heap.size w w') : EvAt w' v0 v1 x := ⟨h.a0.stays hb, h.a1.stays hb⟩
def EvC (base : Nat) (w : World) (cs : List Value) (x : Ev) : Prop := ∃ v0 v1, cs = [v0, v1] ∧ StrsIn base w v0 x.names ∧ IntsIn base w v1 x.vals
structure EvMax (x : Ev) : Prop where
  m0 : StrsMax x.names
  m1 : IntsMax x.vals
structure EvLen (x : Ev) : Prop where
  l0 : x.names.length ≤ 1048576
  l1 : x.vals.length ≤ 1048576
def szEv (x : Ev) : Nat := szStrs x.names + x.vals.length
theorem szEv_len {x : Ev} (h : szEv x ≤ 1048576) : EvLen x := by
  unfold szEv at h
  unfold szStrs at h
  exact ⟨by omega, by omega⟩
theorem EvC.kept {base : Nat} {w w' : World} {cs : List Value} {x : Ev} (h : EvC base w cs x) (k : KeptFrom base w w') : EvC base w' cs x := by
  obtain ⟨v0, v1, e, h0, h1⟩ := h
  exact ⟨v0, v1, e, h0.kept k, h1.kept k⟩
theorem EvC.stays {base : Nat} {w w' : World} {cs : List Value} {x : Ev} (h : EvC base w cs x) (hb : Below w.heap.size w w') : EvC base w' cs x := h.kept (KeptFrom.below hb)
theorem EvC.at {base : Nat} {w : World} {v0 v1 : Value} {x : Ev} (h : EvC base w [v0, v1] x) : EvAt w v0 v1 x := by
  obtain ⟨v0', v1', e, h0, h1⟩ := h
  injection e with e0 e
  injection e with e1 _
  subst e0 e1
  exact ⟨h0.at, h1.at⟩
theorem EvC.form {base : Nat} {w : World} {cs : List Value} {x : Ev} (h : EvC base w cs x) : ∃ o0 c0 o1 c1, cs = [.slice o0 x.names.length c0, .slice o1 x.vals.length c1] := by
  obtain ⟨v0, v1, e, h0, h1⟩ := h
  obtain ⟨o0, c0, rfl, _⟩ := h0.at
  obtain ⟨o1, c1, rfl, _⟩ := h1.at
  exact ⟨_, _, _, _, e⟩
structure EvSh (B T : Nat) (w : World) (v0 v1 : Value) (x : Ev) : Prop where
  s0 : ShR B T 1 fStr x.names.length w v0
  s1 : ShR B T 1 fInt x.vals.length w v1
theorem EvSh.turn {B T B' T' : Nat} {w w' : World} {v0 v1 : Value} {x : Ev} (h : EvSh B T w v0 v1 x) (ht : Turn B' T' w w') : EvSh B T w' v0 v1 x := ⟨h.s0.turn ht fun i _ => fStr_s i, h.s1.turn ht fun i _ => fInt_s i⟩
theorem EvSh.stays {B T : Nat} {w w' : World} {v0 v1 : Value} {x : Ev} (h : EvSh B T w v0 v1 x) (hb : Below w.heap.size w w') : EvSh B T w' v0 v1 x := h.turn (T' := 0) (Turn.below hb (Nat.le_refl _))
theorem EvC.sh {base T : Nat} {w : World} {v0 v1 : Value} {x : Ev} (h : EvC base w [v0, v1] x) (hT : w.heap.size ≤ T) : EvSh base T w v0 v1 x := by
  obtain ⟨v0', v1', e, h0, h1⟩ := h
  injection e with e0 e
  injection e with e1 _
  subst e0 e1
  exact ⟨CellsIn.shT h0 hT, CellsIn.shI h1 hT⟩
/-- An answer that owns its rows, from a base on, each in a block of its own. -/
structure EvOwn (B : Nat) (w : World) (v0 v1 : Value) (x : Ev) : Prop where
  o0 : w.ownsRow B 9 1 v0 x.names.length (x.names.map S)
  o1 : w.ownsRow B 3 1 v1 x.vals.length (x.vals.map I64)
  ap : ∀ i, v0.ownBlock = some i → v1.ownBlock ≠ some i
theorem EvOwn.stays {B : Nat} {w w' : World} {v0 v1 : Value} {x : Ev} (h : EvOwn B w v0 v1 x) (hb : Below w.heap.size w w') : EvOwn B w' v0 v1 x := ⟨ownsInts_stays h.o0 hb, ownsInts_stays h.o1 hb, h.ap⟩
theorem EvOwn.at {B : Nat} {w : World} {v0 v1 : Value} {x : Ev} (h : EvOwn B w v0 v1 x) : EvAt w v0 v1 x := ⟨StrsIn.at (CellsIn.own h.o0), IntsIn.at (CellsIn.own h.o1)⟩
theorem EvOwn.lo {B b : Nat} {w : World} {v0 v1 : Value} {x : Ev} (h : EvOwn B w v0 v1 x) (hb : b ≤ B) : EvOwn b w v0 v1 x := ⟨owns_lo h.o0 hb, owns_lo h.o1 hb, h.ap⟩
theorem EvOwn.turn {B T b : Nat} {w w' : World} {v0 v1 : Value} {x : Ev} (h : EvOwn b w v0 v1 x) (ht : Turn B T w w') (hb : T ≤ b) : EvOwn b w' v0 v1 x :=
  ⟨owns_eq h.o0 (fun i hi => ht.out i (Nat.le_trans hb (h.o0.lt i hi).1) (h.o0.lt i hi).2), owns_eq h.o1 (fun i hi => ht.out i (Nat.le_trans hb (h.o1.lt i hi).1) (h.o1.lt i hi).2), h.ap⟩
theorem EvOwn.low {B b : Nat} {w w' : World} {v0 v1 : Value} {x : Ev} (h : EvOwn b w v0 v1 x) (ht : Below B w w') (hb : (∀ i, v0.ownBlock = some i → i < B) ∧ (∀ i, v1.ownBlock = some i → i < B)) : EvOwn b w' v0 v1 x :=
  ⟨owns_eq h.o0 (fun i hi => ht.block i (hb.1 i hi)), owns_eq h.o1 (fun i hi => ht.block i (hb.2 i hi)), h.ap⟩
theorem EvOwn.lt {b : Nat} {w : World} {v0 v1 : Value} {x : Ev} (h : EvOwn b w v0 v1 x) : (∀ i, v0.ownBlock = some i → i < w.heap.size) ∧ (∀ i, v1.ownBlock = some i → i < w.heap.size) := ⟨fun i hi => (h.o0.lt i hi).2, fun i hi => (h.o1.lt i hi).2⟩
theorem EvOwn.boxed {B b i : Nat} {z : World} {v0 v1 : Value} {x : Ev} {cs : Array Value} {T : TypeId} (h : EvOwn B z v0 v1 x) (hb : Box z b cs T) (t3 : T ≠ 3) (t9 : T ≠ 9) (u : Value) : EvOwn B (z.setCell ⟨b, i, none⟩ u) v0 v1 x :=
  ⟨owns_eq h.o0 (fun g hg => Below.heap_setCell _ ⟨b, i, none⟩ _ g (fun e => Lib.ownBlock_ne h.o0 hb t9 (by rw [hg, e]))), owns_eq h.o1 (fun g hg => Below.heap_setCell _ ⟨b, i, none⟩ _ g (fun e => Lib.ownBlock_ne h.o1 hb t3 (by rw [hg, e]))), h.ap⟩
structure EvHeld (B : Nat) (w : World) (v0 v1 : Value) (n0 n1 : Nat) : Prop where
  o0 : w.ownsRow B 9 1 v0 n0 ((marks (1) n0).map S)
  o1 : w.ownsRow B 3 1 v1 n1 ((nMarks (1 + n0) n1).map I64)
theorem EvHeld.stays {B : Nat} {w w' : World} {v0 v1 : Value} {n0 n1 : Nat} (h : EvHeld B w v0 v1 n0 n1) (hb : Below w.heap.size w w') : EvHeld B w' v0 v1 n0 n1 := ⟨ownsInts_stays h.o0 hb, ownsInts_stays h.o1 hb⟩

section
open Go.ChangeShapes Go.WideShapes Go.ChangeAt Go.Deep
variable {H : Type} {enc : TypeId × Value → H} {W : World}
end
end Go.Proofs.Ytmchgmpdhfefjaa

namespace Go.Proofs.Ytmchgmpdhfefjaa
open Go.RowKit

/-- The word that stands for what comes out of an entry. -/
def resultN : ByteArray := ⟨#[114, 101, 115, 117, 108, 116]⟩
/-- No two are the same, and none is that word. -/
noncomputable def unlikeB (xs : List ByteArray) : Bool := @decide (xs.Nodup ∧ resultN ∉ xs) (Classical.propDecidable _)
theorem unlike_nil : unlikeB [] = true := by simp [unlikeB]
theorem unlike_snoc (ys : List ByteArray) (x : ByteArray) : unlikeB (ys ++ [x]) = true ↔ unlikeB ys = true ∧ x ≠ resultN ∧ x ∉ ys := by
  simp only [unlikeB, decide_eq_true_eq, List.nodup_append, List.mem_append, List.mem_singleton]
  constructor
  · rintro ⟨⟨h1, _, h3⟩, h4⟩
    exact ⟨⟨h1, fun h => h4 (Or.inl h)⟩, fun e => h4 (Or.inr e.symm), fun h => h3 x h x rfl rfl⟩
  · rintro ⟨⟨h1, h2⟩, h3, h4⟩
    refine ⟨⟨h1, by simp, fun a ha b hb e => ?_⟩, fun h => ?_⟩
    · subst hb; subst e; exact h4 ha
    · rcases h with h | h
      · exact h2 h
      · exact h3 h.symm
theorem unlike_perm {xs ys : List ByteArray} (h : xs.Perm ys) : unlikeB xs = unlikeB ys := by
  unfold unlikeB
  exact decide_eq_decide.2 (and_congr h.nodup_iff (not_congr h.mem_iff))
theorem unlike_take {xs : List ByteArray} {i : Nat} (h : unlikeB (xs.take i) = false) : unlikeB xs = false := by
  rw [Bool.eq_false_iff] at h ⊢
  intro h2
  apply h
  simp only [unlikeB, decide_eq_true_eq] at h2 ⊢
  exact ⟨h2.1.sublist (List.take_sublist i xs), fun q => h2.2 (List.mem_of_mem_take q)⟩
theorem unlike_step {xs : List ByteArray} {i : Nat} (hi : i < xs.length) (h : unlikeB (xs.take i) = true) (h1 : xs[i] ≠ resultN) (h2 : xs[i] ∉ xs.take i) : unlikeB (xs.take (i + 1)) = true := by
  rw [List.take_succ_eq_append_getElem hi]
  exact (unlike_snoc _ _).2 ⟨h, h1, h2⟩
theorem unlike_stop {xs : List ByteArray} {i : Nat} (hi : i < xs.length) (h : xs[i] = resultN ∨ xs[i] ∈ xs.take i) : unlikeB xs = false := by
  apply unlike_take (i := i + 1)
  rw [List.take_succ_eq_append_getElem hi, Bool.eq_false_iff]
  intro q
  obtain ⟨_, q1, q2⟩ := (unlike_snoc _ _).1 q
  rcases h with h | h
  · exact q1 h
  · exact q2 h
theorem mem_take_of {xs : List ByteArray} {i k : Nat} (hk : k < i) (hx : k < xs.length) : xs[k] ∈ xs.take i :=
  List.mem_take_iff_getElem.2 ⟨k, by omega, rfl⟩
theorem not_mem_take {xs : List ByteArray} {i : Nat} {x : ByteArray} (h : ∀ j, j < i → xs[j]? ≠ some x) : x ∉ xs.take i := by
  intro q
  obtain ⟨j, hj, e⟩ := List.mem_take_iff_getElem.1 q
  exact h j (by omega) (by rw [List.getElem?_eq_getElem (by omega), e])
/-- Is the name among these? -/
def memB (ks : List ByteArray) (s : ByteArray) : Bool := ks.any fun x => decide (x = s)
theorem memB_iff {ks : List ByteArray} {s : ByteArray} : memB ks s = true ↔ s ∈ ks := by
  rw [memB, List.any_eq_true]
  exact ⟨fun ⟨x, h, e⟩ => of_decide_eq_true e ▸ h, fun h => ⟨s, h, decide_eq_true rfl⟩⟩
theorem memB_no {ks : List ByteArray} {s : ByteArray} : memB ks s = false ↔ s ∉ ks := by
  rw [Bool.eq_false_iff]
  exact not_congr memB_iff
theorem memB_congr {ks ls : List ByteArray} {s t : ByteArray} (h : s ∈ ks ↔ t ∈ ls) : memB ks s = memB ls t := Bool.eq_iff_iff.2 (memB_iff.trans (h.trans memB_iff.symm))
end Go.Proofs.Ytmchgmpdhfefjaa

namespace Go.Proofs.Ytmchgmpdhfefjaa
open Go.RowKit

/-- The place of the first that is so; -1 without one. -/
def firstAt {α : Type} (f : α → Bool) (xs : List α) : Int := match xs.findIdx? f with
  | some i => (i : Int)
  | none => -1
theorem first_hit {α : Type} {f : α → Bool} {xs : List α} {i : Nat} (hi : i < xs.length) (h : ∀ j (hj : j < xs.length), j < i → f xs[j] = false) (hx : f xs[i] = true) : firstAt f xs = (i : Int) := by
  have e : xs.findIdx? f = some i := List.findIdx?_eq_some_iff_getElem.2 ⟨hi, hx, fun j hj => by rw [h j (by omega) hj]; exact Bool.noConfusion⟩
  rw [firstAt, e]
theorem first_none {α : Type} {f : α → Bool} {xs : List α} (h : ∀ j (hj : j < xs.length), f xs[j] = false) : firstAt f xs = -1 := by
  have e : xs.findIdx? f = none := List.findIdx?_eq_none_iff.2 (fun x hx => by
    obtain ⟨j, hj, rfl⟩ := List.getElem_of_mem hx
    exact h j hj)
  rw [firstAt, e]
theorem first_le {α : Type} (f : α → Bool) (xs : List α) : -1 ≤ firstAt f xs ∧ firstAt f xs < (xs.length : Int) := by
  rw [firstAt]
  split
  · rename_i i e
    have := (List.findIdx?_eq_some_iff_getElem.1 e).1
    omega
  · omega
/-- What a search has seen so far. -/
def NoneTo {α : Type} (f : α → Bool) (xs : List α) (i : Nat) : Prop := ∀ j (hj : j < xs.length), j < i → f xs[j] = false
theorem NoneTo.zero {α : Type} (f : α → Bool) (xs : List α) : NoneTo f xs 0 := fun _ _ h => absurd h (Nat.not_lt_zero _)
theorem NoneTo.step {α : Type} {f : α → Bool} {xs : List α} {i : Nat} (h : NoneTo f xs i) (hx : ∀ hi : i < xs.length, f xs[i] = false) : NoneTo f xs (i + 1) := fun j hj hji => by
  by_cases e : j = i
  · subst e; exact hx hj
  · exact h j hj (by omega)
def monN (name : ByteArray) (m : Mo) : Bool := decide (m.name = name)
def entN (name : ByteArray) (m : En) : Bool := decide (m.name = name)
def SchR {α : Type} (w : World) (f : α → Bool) (xs : List α) (iv : Value) (wr : World) : Prop := ∃ i : Nat, i ≤ xs.length ∧ iv = .int .i64 i ∧ Hid (Below w.heap.size w wr) ∧ Hid (NoneTo f xs i)
theorem NoneTo.hit {α : Type} {f : α → Bool} {xs : List α} {i : Nat} (h : NoneTo f xs i) (hi : i < xs.length) (hx : f xs[i] = true) : firstAt f xs = (i : Int) := first_hit hi h hx
theorem NoneTo.none {α : Type} {f : α → Bool} {xs : List α} {i : Nat} (h : NoneTo f xs i) (hi : xs.length ≤ i) : firstAt f xs = -1 := first_none fun j hj => h j hj (by omega)
/-- A value that is a slice. -/
def SlV (v : Value) : Prop := ∃ o n c, v = .slice o n c
theorem StrsAt.sl {w : World} {v : Value} {xs : List ByteArray} (h : StrsAt w v xs) : SlV v := by obtain ⟨a, c, e, _⟩ := h; exact ⟨_, _, _, e⟩
theorem NdsAt.sl {w : World} {v : Value} {xs : List Nd} (h : NdsAt w v xs) : SlV v := by obtain ⟨a, c, e, _⟩ := h; exact ⟨_, _, _, e⟩
theorem PrsAt.sl {w : World} {v : Value} {xs : List Pr} (h : PrsAt w v xs) : SlV v := by obtain ⟨a, c, e, _⟩ := h; exact ⟨_, _, _, e⟩
end Go.Proofs.Ytmchgmpdhfefjaa

namespace Go.Proofs.Ytmchgmpdhfefjaa
open Go.RowKit Go.Maps
open Go.WideMaps (keyOf_string_mk)

/-- The key words. -/
def keyS : List ByteArray := [⟨#[109, 111, 110, 105, 116, 111, 114]⟩, ⟨#[118, 97, 114]⟩, ⟨#[113, 117, 101, 117, 101]⟩, ⟨#[101, 110, 116, 114, 121]⟩, ⟨#[112, 114, 111, 99, 101, 115, 115]⟩, ⟨#[117, 115, 101, 115]⟩, ⟨#[98, 101, 103, 105, 110]⟩, ⟨#[101, 110, 100]⟩, ⟨#[105, 102]⟩, ⟨#[116, 104, 101, 110]⟩, ⟨#[101, 108, 115, 101]⟩, ⟨#[119, 104, 105, 108, 101]⟩, ⟨#[100, 111]⟩, ⟨#[99, 97, 108, 108]⟩, ⟨#[116, 111]⟩, ⟨#[112, 114, 105, 110, 116]⟩, ⟨#[114, 101, 97, 100]⟩, ⟨#[100, 101, 108, 97, 121]⟩, ⟨#[99, 111, 110, 116, 105, 110, 117, 101]⟩, ⟨#[115, 107, 105, 112]⟩, ⟨#[97, 110, 100]⟩, ⟨#[111, 114]⟩, ⟨#[110, 111, 116]⟩]
def keyB (s : ByteArray) : Bool := keyS.any fun x => decide (x = s)

def keyLits : List Lit := keyS.map fun x => .string x.data.toList
/-- Some map that holds these keys, in a block of its own. -/
def MapIs (w0 w : World) (n : Nat) (ks : List Lit) : Prop := w.ownsMap Try.prog 9 (unitElem (H := Unit)) w0.heap.size n (setOf (.agg []) ks) ∧ Below w0.heap.size w0 w

theorem lawS : Keyed Try.prog 9 := string_keyed Try.underlying9
theorem MapIs.made (w : World) : MapIs w (w.alloc (.map #[] 0)) 0 [] := ⟨World.ownsMap_made _ _ _ _, (Below.refl _ _).alloc (Nat.le_refl _) _⟩

theorem keyLits_key : ∀ x ∈ keyLits, WideAt.IsKeyLit x := by
  intro x hx
  obtain ⟨y, _, rfl⟩ := List.mem_map.1 hx
  trivial

theorem keyHas (s : ByteArray) : Maps.has (setOf (H := Unit) (.agg []) keyLits) (.string s.data.toList) = keyB s := by
  rw [has_setOf _ _ _ keyLits_key, keyLits, List.any_map, keyB]
  congr 1
  funext x
  show Lit.sameKey (.string x.data.toList) (.string s.data.toList) = _
  have e : x = s ↔ x.data = s.data := ⟨fun h => by rw [h], fun h => ByteArray.ext h⟩
  by_cases h : x = s
  · simp [Lit.sameKey, h]
  · have h' : ¬ x.data = s.data := fun q => h (e.2 q)
    simp [Lit.sameKey, h, h']

abbrev keyRow (w : World) : World := w.alloc (.cells (keyS.map Value.string).toArray 9)

theorem keyRow_cell (w : World) (k : Nat) (h : k < 23) : (keyRow w).cell? ⟨w.heap.size, k, none⟩ = some (.string (keyS.getD k ByteArray.empty)) := by
  have := (World.ownsRow_lit (base := w.heap.size) (e := 9) (size := 1) w (keyS.map Value.string).toArray 23 (Nat.le_refl _) (by unfold maxLen; omega) (by simp [keyS])).cellAt k h
  rw [this, List.getD_eq_getElem?_getD]
  simp [List.getElem?_eq_getElem (show k < keyS.length from h)]

theorem keyB_yes {s : ByteArray} {k : Nat} (h : k < 23) (e : keyS.getD k ByteArray.empty = s) : keyB s = true := by
  rw [keyB, List.any_eq_true]
  refine ⟨keyS.getD k ByteArray.empty, ?_, by rw [e]; exact decide_eq_true rfl⟩
  rw [List.getD_eq_getElem?_getD, List.getElem?_eq_getElem (show k < keyS.length from h)]
  exact List.getElem_mem _
theorem keyB_no {s : ByteArray} (h : ∀ k, k < 23 → keyS.getD k ByteArray.empty ≠ s) : keyB s = false := by
  rw [keyB, List.any_eq_false]
  intro x hx
  obtain ⟨j, hj, rfl⟩ := List.getElem_of_mem hx
  have := h j hj
  rw [List.getD_eq_getElem?_getD, List.getElem?_eq_getElem hj] at this
  simpa using this

end Go.Proofs.Ytmchgmpdhfefjaa
