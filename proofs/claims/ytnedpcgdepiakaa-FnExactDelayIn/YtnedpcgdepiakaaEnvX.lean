/-
  Walks: a value put in an Env, by the specification.
-/
import Derived.Test.YtnedpcgdepiakaaCopP
import Derived.Test.YtnedpcgdepiakaaChecked
import Derived.Test.YtnedpcgdepiakaaFlE
import Derived.BigQuiet
import Derived.WalkSmall
namespace Go.Proofs.Ytnedpcgdepiakaa
open Go.RowKit

def PuR (W : World) (x : Ev) (F : Nat → Prop) (iv : Value) (wr : World) : Prop := ∃ i : Nat, i ≤ (x.names.take x.vals.length).length ∧ iv = .int .i64 i ∧ wr = W ∧ Hid (F i)

end Go.Proofs.Ytnedpcgdepiakaa

namespace Go.Proofs.Ytnedpcgdepiakaa
open Go.RowKit

def InR (w : World) (xs : List ByteArray) (s : ByteArray) (n : Nat) (iv : Value) (wr : World) : Prop := ∃ i : Nat, i ≤ n ∧ iv = .int .i64 i ∧ wr = w ∧ Hid (∀ j, j < i → xs[j]? ≠ some s)

end Go.Proofs.Ytnedpcgdepiakaa

namespace Go.Proofs.Ytnedpcgdepiakaa
open Go.RowKit

theorem box_more {B e : Nat} {W w' : World} {v v' u : Value} {xs : List Value} (hm : MoreR B e W v xs u v' w') {b : Nat} {cs : Array Value} {T : TypeId} (hown : W.ownsRow B e 1 v xs.length xs) (hb : Box W b cs T) (hT : T ≠ e) : Box w' b cs T := (hm.oth b (Lib.ownBlock_ne hown hb hT) hb.lt).trans hb
theorem set_fst (a b v : Value) : (#[a, b] : Array Value).setIfInBounds 0 v = #[v, b] := rfl
theorem set_snd (a b v : Value) : (#[a, b] : Array Value).setIfInBounds 1 v = #[a, v] := rfl
end Go.Proofs.Ytnedpcgdepiakaa
