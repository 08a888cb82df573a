/-
  Walks: a program that came in, copied, by the laws' own helpers: numbers, texts, nodes.
-/
import Derived.Test.YtgmihgnbhjgghaaRowQ
import Derived.Test.YtgmihgnbhjgghaaTreeW
import Derived.Laws.OwnMore
import Derived.Handy
namespace Go.Proofs.Ytgmihgnbhjgghaa
open Go.RowKit

def IntC (_base : Nat) (_w : World) (cs : List Value) (x : Int) : Prop := cs = [.int .i64 x]
def StrC (_base : Nat) (_w : World) (cs : List Value) (x : ByteArray) : Prop := cs = [.string x]
instance : Told IntC := ⟨fun h _ => h, fun h _ => h⟩
instance : Told StrC := ⟨fun h _ => h, fun h _ => h⟩
theorem ObjsIn.ints {base : Nat} {w : World} {v : Value} {xs : List Int} (h : ObjsIn IntC 1 base w v xs) : IntsIn base w v xs := by
  obtain ⟨css, ⟨ao, c, rfl, h0, hc⟩, hl, hr⟩ := h
  refine ⟨ao, c, by rw [hl, List.length_map], ⟨by rw [List.length_map]; omega, fun h1 => h0.2 (by rw [List.length_map] at h1; omega)⟩, fun j u hj => ?_⟩
  rw [List.getElem?_map] at hj
  obtain ⟨x, hx, rfl⟩ := Option.map_eq_some_iff.1 hj
  have hj2 := (List.getElem?_eq_some_iff.1 hx).1
  have hj3 : j < css.length := by omega
  obtain ⟨_, a, rfl, h1, h2, h3⟩ := hc j css[j] (List.getElem?_eq_getElem hj3)
  have e := hr j css[j] x (List.getElem?_eq_getElem hj3) hx
  rw [e] at h3
  exact ⟨a, rfl, h1, h2, by have := h3 0 _ rfl; simpa using this⟩
theorem ObjsIn.strs {base : Nat} {w : World} {v : Value} {xs : List ByteArray} (h : ObjsIn StrC 1 base w v xs) : StrsIn base w v xs := by
  obtain ⟨css, ⟨ao, c, rfl, h0, hc⟩, hl, hr⟩ := h
  refine ⟨ao, c, by rw [hl, List.length_map], ⟨by rw [List.length_map]; omega, fun h1 => h0.2 (by rw [List.length_map] at h1; omega)⟩, fun j u hj => ?_⟩
  rw [List.getElem?_map] at hj
  obtain ⟨x, hx, rfl⟩ := Option.map_eq_some_iff.1 hj
  have hj2 := (List.getElem?_eq_some_iff.1 hx).1
  have hj3 : j < css.length := by omega
  obtain ⟨_, a, rfl, h1, h2, h3⟩ := hc j css[j] (List.getElem?_eq_getElem hj3)
  have e := hr j css[j] x (List.getElem?_eq_getElem hj3) hx
  rw [e] at h3
  exact ⟨a, rfl, h1, h2, by have := h3 0 _ rfl; simpa using this⟩

def FillR {α : Type} (R : Nat → World → List Value → α → Prop) (s : Nat) (e : TypeId) (w : World) (xs : List α) (iv : Value) (wr : World) : Prop :=
  ∃ k : Nat, k ≤ xs.length ∧ iv = .int .i64 k ∧ Hid (Filled R s e w xs k wr)

theorem Try.infoStr : (Try.prog.info? 9).map (fun i => (i.zero, i.size, i.bytes)) = some (some (.string ⟨#[]⟩), 1, 16) := by kernel_rfl
end Go.Proofs.Ytgmihgnbhjgghaa

namespace Go.Proofs.Ytgmihgnbhjgghaa
open Go.RowKit

def blockQ (x : Int) : Bool := decide (x = 20)
def BlocksR (W1 : World) (l : List Int) (n m : Nat) (iv : Value) (wr : World) : Prop :=
  ∃ i : Nat, n ≤ i ∧ i ≤ m ∧ iv = .int .i64 i ∧ Hid (Below W1.heap.size W1 wr) ∧ Hid (∀ j x, n ≤ j → j < i → l[j]? = some x → blockQ x = true)

theorem NdsAt.node {w : World} {nv : Value} {ns : List Nd} (h : NdsAt w nv ns) (k : Nat) (hk : k < ns.length) :
    ∃ a c p kv, nv = .slice (some a) ns.length c ∧ a.add (k * 6) = p ∧ p.block < w.heap.size ∧ NdCell w p ns[k] kv := by
  obtain ⟨ao, c, rfl, hc⟩ := h
  obtain ⟨a, kv, rfl, ha, hx⟩ := hc k hk
  exact ⟨a, c, a.add (k * 6), kv, rfl, rfl, by rw [block_add]; exact ha, hx⟩

/-- Are a node's kids what its kind wants? -/
def kidsB (kd : Int) (l : List Int) : Bool :=
  if kd = 1 ∨ kd = 2 ∨ kd = 16 ∨ kd = 17 ∨ kd = 18 ∨ kd = 19 then decide (l.length = 0)
  else if kd = 3 then decide (l.length = 2) && (l.take 2).all valueQ
  else if kd = 4 ∨ kd = 5 ∨ kd = 11 ∨ kd = 14 ∨ kd = 15 then decide (l.length = 1) && (l.take 1).all valueQ
  else if kd = 12 then decide (l.length = 2 ∨ l.length = 3) && (l.take 1).all valueQ && (l.drop 1).all blockQ
  else if kd = 13 then decide (l.length = 2) && (l.take 1).all valueQ && (l.drop 1).all blockQ
  else l.all stmtQ && inZ 1 12 l.length
end Go.Proofs.Ytgmihgnbhjgghaa

namespace Go.Proofs.Ytgmihgnbhjgghaa
open Go.RowKit

end Go.Proofs.Ytgmihgnbhjgghaa
