/-
  The laws' walks over Together, with both sides' contracts.
-/
import Derived.Test.YtbghdbclckanjaaEniT
import Derived.Test.YtbghdbclckanjaaEvOf
import Derived.Test.YtbghdbclckanjaaLwEc
namespace Go.Proofs.Ytbghdbclckanjaa
open Go.RowKit

theorem ipTogether (x0 x1 : Ev) (hl : szEv x0 + szEv x1 ≤ 1048576) (v0 v1 u0 u1 : Value) (z : World) (b0 b1 : Nat) (h : EvC b0 z [v0, v1] x0) (k : EvC b1 z [u0, u1] x1) : Calls Try.prog 11 #[.agg #[v0, v1], .agg #[u0, u1]] z fun e w' => ∃ r0 r1, e = .returned (.agg #[r0, r1]) ∧ EvOwn z.heap.size w' r0 r1 (togE x0 x1) ∧ Below z.heap.size z w' :=
  implTogether_any v0 v1 u0 u1 x0 x1 z h.at k.at hl
theorem lawTogether_whole (v0 v1 u0 u1 : Value) (x0 x1 : Ev) (w : World) (h : EvAt w v0 v1 x0) (m : EvMax x0) (h1 : EvAt w u0 u1 x1) (m1 : EvMax x1) :
    Calls Try.prog 4 #[.agg #[v0, v1], .agg #[u0, u1]] w fun e w' => e = .returned (.bool true) ∧ Below w.heap.size w w' :=
  lawTogether v0 v1 u0 u1 x0 x1 w h m h1 m1 (fun hl a b c d z b0 b1 hc hk => spTogether x0 x1 hl a b c d z b0 b1 hc hk) (fun hl a b c d z b0 b1 hc hk => ipTogether x0 x1 hl a b c d z b0 b1 hc hk) (fun hl => togE_len hl)
end Go.Proofs.Ytbghdbclckanjaa
