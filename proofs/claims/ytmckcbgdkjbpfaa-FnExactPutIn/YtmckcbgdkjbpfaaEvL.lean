/-
  The laws' walks of chapter 10, with both sides' contracts.
-/
import Derived.Test.YtmckcbgdkjbpfaaEniP
import Derived.Test.YtmckcbgdkjbpfaaEniC
import Derived.Test.YtmckcbgdkjbpfaaLwEb
namespace Go.Proofs.Ytmckcbgdkjbpfaa
open Go.RowKit

theorem lawPutIn_whole (v0 v1 : Value) (x : Ev) (s : ByteArray) (n : Int) (w : World) (h : EvAt w v0 v1 x) (m : EvMax x) (hs : s.size ≤ maxLen) :
    Calls Try.prog 3 #[.agg #[v0, v1], .string s, .int .i64 n] w fun e w' => e = .returned (.bool true) ∧ Below w.heap.size w w' :=
  lawPutIn v0 v1 x s n w h m hs (fun hl hz a b z c hc => spPutIn x s n hl hz a b z c hc) (fun hl _ a b z _ hc => implPutIn_any a b x s n z hc.at (szEv_len hl)) (fun hl _ => putE_len hl s n)
end Go.Proofs.Ytmckcbgdkjbpfaa
