/-
  The laws' walks of chapter 10, with both sides' contracts.
-/
import Derived.Test.YtdfncefjdeagdaaEniB
import Derived.Test.YtdfncefjdeagdaaEniC
import Derived.Test.YtdfncefjdeagdaaLwEa
import Derived.Test.YtdfncefjdeagdaaLwEb
namespace Go.Proofs.Ytdfncefjdeagdaa
open Go.RowKit

theorem lawEnvOk_whole (v0 v1 : Value) (x : Ev) (w : World) (h : EvAt w v0 v1 x) (m : EvMax x) :
    Calls Try.prog 3 #[.agg #[v0, v1]] w fun e w' => e = .returned (.bool true) ∧ Below w.heap.size w w' :=
  lawEnvOk v0 v1 x w h m (fun hl a b z c hc => spEnvOk x hl a b z c hc) (fun hl a b z c hc => implEnvOk_any a b x c z hc (szEv_len hl) (fun y hy => Nat.le_trans (szStrs_mem hy) (by unfold szEv at hl; omega)))
theorem lawGetIn_whole (v0 v1 : Value) (x : Ev) (s : ByteArray) (w : World) (h : EvAt w v0 v1 x) (m : EvMax x) (hs : s.size ≤ maxLen) :
    Calls Try.prog 4 #[.agg #[v0, v1], .string s] w fun e w' => e = .returned (.bool true) ∧ Below w.heap.size w w' :=
  lawGetIn v0 v1 x s w h m hs (fun hl hz a b z c hc => spGetIn x s hl hz a b z c hc) (fun hl _ a b z _ hc => implGetIn_any a b x s z hc.at (szEv_len hl))
theorem lawPutIn_whole (v0 v1 : Value) (x : Ev) (s : ByteArray) (n : Int) (w : World) (h : EvAt w v0 v1 x) (m : EvMax x) (hs : s.size ≤ maxLen) :
    Calls Try.prog 5 #[.agg #[v0, v1], .string s, .int .i64 n] w fun e w' => e = .returned (.bool true) ∧ Below w.heap.size w w' :=
  lawPutIn v0 v1 x s n w h m hs (fun hl hz a b z c hc => spPutIn x s n hl hz a b z c hc) (fun hl _ a b z _ hc => implPutIn_any a b x s n z hc.at (szEv_len hl)) (fun hl _ => putE_len hl s n)
end Go.Proofs.Ytdfncefjdeagdaa
