/-
  Walks: a program that came in, copied, by the laws' own helpers: numbers, texts, nodes.
-/
import Derived.Test.YtjmlpkdloldcjaaRowQ
import Derived.Test.YtjmlpkdloldcjaaTreeX
import Derived.Laws.OwnMore
import Derived.Handy
namespace Go.Proofs.Ytjmlpkdloldcjaa
open Go.RowKit

def IntC (_base : Nat) (_w : World) (cs : List Value) (x : Int) : Prop := cs = [.int .i64 x]
def StrC (_base : Nat) (_w : World) (cs : List Value) (x : ByteArray) : Prop := cs = [.string x]
instance : Told IntC := ⟨fun h _ => h, fun h _ => h⟩
instance : Told StrC := ⟨fun h _ => h, fun h _ => h⟩
theorem ObjsIn.ints {base : Nat} {w : World} {v : Value} {xs : List Int} (h : ObjsIn IntC 1 base w v xs) : IntsIn base w v xs := by
  obtain ⟨css, ⟨ao, c, rfl, h0, hc⟩, hl, hr⟩ := h
  refine ⟨ao, c, by rw [hl, List.length_map], ⟨by rw [List.length_map]; omega, fun h1 => h0.2 (by rw [List.length_map] at h1; omega)⟩, fun j u hj => ?_⟩
  rw [List.getElem?_map] at hj
  obtain ⟨x, hx, rfl⟩ := Option.map_eq_some_iff.1 hj
  have hj2 := (List.getElem?_eq_some_iff.1 hx).1
  have hj3 : j < css.length := by omega
  obtain ⟨_, a, rfl, h1, h2, h3⟩ := hc j css[j] (List.getElem?_eq_getElem hj3)
  have e := hr j css[j] x (List.getElem?_eq_getElem hj3) hx
  rw [e] at h3
  exact ⟨a, rfl, h1, h2, by have := h3 0 _ rfl; simpa using this⟩
theorem ObjsIn.strs {base : Nat} {w : World} {v : Value} {xs : List ByteArray} (h : ObjsIn StrC 1 base w v xs) : StrsIn base w v xs := by
  obtain ⟨css, ⟨ao, c, rfl, h0, hc⟩, hl, hr⟩ := h
  refine ⟨ao, c, by rw [hl, List.length_map], ⟨by rw [List.length_map]; omega, fun h1 => h0.2 (by rw [List.length_map] at h1; omega)⟩, fun j u hj => ?_⟩
  rw [List.getElem?_map] at hj
  obtain ⟨x, hx, rfl⟩ := Option.map_eq_some_iff.1 hj
  have hj2 := (List.getElem?_eq_some_iff.1 hx).1
  have hj3 : j < css.length := by omega
  obtain ⟨_, a, rfl, h1, h2, h3⟩ := hc j css[j] (List.getElem?_eq_getElem hj3)
  have e := hr j css[j] x (List.getElem?_eq_getElem hj3) hx
  rw [e] at h3
  exact ⟨a, rfl, h1, h2, by have := h3 0 _ rfl; simpa using this⟩

def FillR {α : Type} (R : Nat → World → List Value → α → Prop) (s : Nat) (e : TypeId) (w : World) (xs : List α) (iv : Value) (wr : World) : Prop :=
  ∃ k : Nat, k ≤ xs.length ∧ iv = .int .i64 k ∧ Hid (Filled R s e w xs k wr)

theorem Try.infoStr : (Try.prog.info? 9).map (fun i => (i.zero, i.size, i.bytes)) = some (some (.string ⟨#[]⟩), 1, 16) := by kernel_rfl
end Go.Proofs.Ytjmlpkdloldcjaa
