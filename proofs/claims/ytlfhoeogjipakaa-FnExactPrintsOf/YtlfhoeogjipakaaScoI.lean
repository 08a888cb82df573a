/-
  Scopes, by the specification: is a name in a list?
-/
import Derived.Test.YtlfhoeogjipakaaChecked
import Derived.Test.YtlfhoeogjipakaaUnlP
import Derived.BigQuiet
import Derived.WalkSmall
import Derived.Test.YtlfhoeogjipakaaNameW
import Derived.Test.YtlfhoeogjipakaaGatP
import Derived.Test.YtlfhoeogjipakaaCopG
import Derived.Deep.CutRange
import Derived.Deep.RegionLaw
namespace Go.Proofs.Ytlfhoeogjipakaa
open Go.RowKit

def InR (w : World) (xs : List ByteArray) (s : ByteArray) (n : Nat) (iv : Value) (wr : World) : Prop := ∃ i : Nat, i ≤ n ∧ iv = .int .i64 i ∧ wr = w ∧ Hid (∀ j, j < i → xs[j]? ≠ some s)

end Go.Proofs.Ytlfhoeogjipakaa

namespace Go.Proofs.Ytlfhoeogjipakaa
open Go.RowKit

theorem box_more {B e : Nat} {W w' : World} {v v' u : Value} {xs : List Value} (hm : MoreR B e W v xs u v' w') {b : Nat} {cs : Array Value} {T : TypeId} (hown : W.ownsRow B e 1 v xs.length xs) (hb : Box W b cs T) (hT : T ≠ e) : Box w' b cs T := (hm.oth b (Lib.ownBlock_ne hown hb hT) hb.lt).trans hb
theorem set_fst (a b v : Value) : (#[a, b] : Array Value).setIfInBounds 0 v = #[v, b] := rfl
theorem set_snd (a b v : Value) : (#[a, b] : Array Value).setIfInBounds 1 v = #[a, v] := rfl
end Go.Proofs.Ytlfhoeogjipakaa

namespace Go.Proofs.Ytlfhoeogjipakaa
open Go.RowKit
open Go.ChangeShapes Go.WideShapes Go.ChangeAt Go.Deep

def neg1 : Value := .int .i64 (-1)
theorem set_thd (a b c v : Value) : (#[a, b, c] : Array Value).setIfInBounds 2 v = #[a, b, v] := rfl
theorem wpList_more {P : Program} {W : World} {ops : Array Oper} {rest : List Oper} {o : Oper} {a : Act} {Q : Exit → Act → World → Prop} (hgd : o.guard = none) (s x : Operand) (t : TypeId)
    (ho : o.op = .call { callee := .builtin .append, args := #[s, x], argTypes := #[t, t] })
    (B : Nat) (e : TypeId) (z : Value) (bytes : Nat) (ht : P.underlying t = some (.slice e)) (hi : (P.info? e).map (fun i => (i.zero, i.size, i.bytes)) = some (some z, 1, bytes)) (hzs : z.cells.size = 1)
    (v : Value) (xs : List Value) (hs : a.eval s = v) (hown : W.ownsRow B e 1 v xs.length xs) (g : Nat) (u : Value) (hx : a.eval x = .slice (some ⟨g, 0, none⟩) 1 1) (hu : W.cell? ⟨g, 0, none⟩ = some u) (h1 : u.oneCell' = true)
    (h63 : xs.length + 1 ≤ maxLen) (hbytes : (xs.length + 1) * bytes ≤ 140737488355328) (hB : B ≤ W.heap.size)
    (h : ∀ v' w', MoreR B e W v xs u v' w' → wpList P ops Q rest (a.put o.dst v') w') : wpList P ops Q (o :: rest) a W :=
  wpList_step fun _ hK => step_more hgd s x t ho B e z bytes ht hi hzs v xs hs hown g u hx hu h1 h63 hbytes hB fun v' w' hm => hK _ _ (h v' w' hm)
end Go.Proofs.Ytlfhoeogjipakaa
