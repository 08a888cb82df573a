/-
  Walks: what kids a node wants, by the specification: blocks, all kinds.
-/
import Derived.Test.YtjmlpkdloldcjaaTreeX
import Derived.Test.YtjmlpkdloldcjaaLawT
namespace Go.Proofs.Ytjmlpkdloldcjaa
open Go.RowKit

def blockQ (x : Int) : Bool := decide (x = 20)
def BlocksR (W1 : World) (l : List Int) (n m : Nat) (iv : Value) (wr : World) : Prop :=
  ∃ i : Nat, n ≤ i ∧ i ≤ m ∧ iv = .int .i64 i ∧ Hid (Below W1.heap.size W1 wr) ∧ Hid (∀ j x, n ≤ j → j < i → l[j]? = some x → blockQ x = true)

theorem NdsAt.node {w : World} {nv : Value} {ns : List Nd} (h : NdsAt w nv ns) (k : Nat) (hk : k < ns.length) :
    ∃ a c p kv, nv = .slice (some a) ns.length c ∧ a.add (k * 6) = p ∧ p.block < w.heap.size ∧ NdCell w p ns[k] kv := by
  obtain ⟨ao, c, rfl, hc⟩ := h
  obtain ⟨a, kv, rfl, ha, hx⟩ := hc k hk
  exact ⟨a, c, a.add (k * 6), kv, rfl, rfl, by rw [block_add]; exact ha, hx⟩

/-- Are a node's kids what its kind wants? -/
def kidsB (kd : Int) (l : List Int) : Bool :=
  if kd = 1 ∨ kd = 2 ∨ kd = 16 ∨ kd = 17 ∨ kd = 18 ∨ kd = 19 then decide (l.length = 0)
  else if kd = 3 then decide (l.length = 2) && (l.take 2).all valueQ
  else if kd = 4 ∨ kd = 5 ∨ kd = 11 ∨ kd = 14 ∨ kd = 15 then decide (l.length = 1) && (l.take 1).all valueQ
  else if kd = 12 then decide (l.length = 2 ∨ l.length = 3) && (l.take 1).all valueQ && (l.drop 1).all blockQ
  else if kd = 13 then decide (l.length = 2) && (l.take 1).all valueQ && (l.drop 1).all blockQ
  else l.all stmtQ && inZ 1 12 l.length
end Go.Proofs.Ytjmlpkdloldcjaa

namespace Go.Proofs.Ytjmlpkdloldcjaa
open Go.RowKit

end Go.Proofs.Ytjmlpkdloldcjaa
