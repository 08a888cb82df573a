/-
  No cell of these rows narrows 'for every input' (looked for: loops, veiled, ifaces, maps, wideKeys, modest, calm, conditions, laid).
  DERIVED. THE GIVEN ROWS OF THIS SEAT. 6 by the template 'for every input the law returns true; each argument reads behind the call as it read before'; 0 by the template 'total and deterministic' (their statements: YtnedpcgdepiakaaTotals.lean).
  GIVEN WITH THE SEED: the statements are not yours to turn. If you find one false, say at which input.
  Laid BY PROGRAM, IN A SANDBOX (cutbox-rows.mjs): the forced cells as the released guide's own fill.sh prints them over the translation a236cb2ddda5be88… (all of the seat's roots in one cut). By AI agents, Wed Nov 11 2026. No macro, syntax, notation, axiom, sorry.
-/
import Derived.Test.YtnedpcgdepiakaaChecked
import GoSem.Claim
import GoSem.ClaimJoined
import GoSem.ClaimMapViews
import Derived.JoinedTies
import Derived.KernelRfl
namespace Go.Proofs.Ytnedpcgdepiakaa
/- THE CELL 'sum', in the pinned program and in every row, IS THE sha256 OF THE DUMP (.gsa) THAT YtnedpcgdepiakaaProg.lean LOADS. Nothing in Lean hashes anything: it is a label: what it is worth is what the hold of that sum in a sandbox is worth. -/
noncomputable def Try.pinned : Pinned := { name := "ytnedpcgdepiakaa", sum := "a236cb2ddda5be8804deba5ff10da7fd682316fe2ceb450afdc1238e6917b31b", checked := Try.checked }
namespace Rows
def none {H : Type} : Left H := { results := [], args := [] }

/-- 'laws.FnExactGateNew': WHATEVER THE INPUT: true; the input reads as it did. -/
def fnExactGateNewSpec : ChangeSpec := { name := "fnExactGateNew", fn := fun _ => fun
  | [d] => { results := [.lit (.bool true)], args := [d] }
  | _ => none }
def fnExactGateNewRow : OpenClaim := { program := "ytnedpcgdepiakaa", sum := "a236cb2ddda5be8804deba5ff10da7fd682316fe2ceb450afdc1238e6917b31b", func := "loop.example/g00290/laws.FnExactGateNew", spec := "fnExactGateNew", apart := false }
def FnExactGateNewSaid : Prop := fnExactGateNewRow.holds Try.pinned (OpenSpec.ofChange fnExactGateNewSpec)

/-- ITS FALSE NEIGHBOUR: 'it returns false'. Refute it at one input. -/
def fnExactGateNewWrong : ChangeSpec := { name := "fnExactGateNew", fn := fun _ => fun
  | [d] => { results := [.lit (.bool false)], args := [d] }
  | _ => none }
def FnExactGateNewWrongFalsely : Prop := fnExactGateNewRow.holds Try.pinned (OpenSpec.ofChange fnExactGateNewWrong)

/-- 'laws.FnExactGateOk': WHATEVER THE INPUT: true; the input reads as it did. -/
def fnExactGateOkSpec : ChangeSpec := { name := "fnExactGateOk", fn := fun _ => fun
  | [d] => { results := [.lit (.bool true)], args := [d] }
  | _ => none }
def fnExactGateOkRow : OpenClaim := { program := "ytnedpcgdepiakaa", sum := "a236cb2ddda5be8804deba5ff10da7fd682316fe2ceb450afdc1238e6917b31b", func := "loop.example/g00290/laws.FnExactGateOk", spec := "fnExactGateOk", apart := false }
def FnExactGateOkSaid : Prop := fnExactGateOkRow.holds Try.pinned (OpenSpec.ofChange fnExactGateOkSpec)

/-- ITS FALSE NEIGHBOUR: 'it returns false'. Refute it at one input. -/
def fnExactGateOkWrong : ChangeSpec := { name := "fnExactGateOk", fn := fun _ => fun
  | [d] => { results := [.lit (.bool false)], args := [d] }
  | _ => none }
def FnExactGateOkWrongFalsely : Prop := fnExactGateOkRow.holds Try.pinned (OpenSpec.ofChange fnExactGateOkWrong)

/-- 'laws.FnExactArrive': WHATEVER THE INPUT: true; the input reads as it did. -/
def fnExactArriveSpec : ChangeSpec := { name := "fnExactArrive", fn := fun _ => fun
  | [d1, d2] => { results := [.lit (.bool true)], args := [d1, d2] }
  | _ => none }
def fnExactArriveRow : OpenClaim := { program := "ytnedpcgdepiakaa", sum := "a236cb2ddda5be8804deba5ff10da7fd682316fe2ceb450afdc1238e6917b31b", func := "loop.example/g00290/laws.FnExactArrive", spec := "fnExactArrive", apart := false }
def FnExactArriveSaid : Prop := fnExactArriveRow.holds Try.pinned (OpenSpec.ofChange fnExactArriveSpec)

/-- ITS FALSE NEIGHBOUR: 'it returns false'. Refute it at one input. -/
def fnExactArriveWrong : ChangeSpec := { name := "fnExactArrive", fn := fun _ => fun
  | [d1, d2] => { results := [.lit (.bool false)], args := [d1, d2] }
  | _ => none }
def FnExactArriveWrongFalsely : Prop := fnExactArriveRow.holds Try.pinned (OpenSpec.ofChange fnExactArriveWrong)

/-- 'laws.FnExactLeave': WHATEVER THE INPUT: true; the input reads as it did. -/
def fnExactLeaveSpec : ChangeSpec := { name := "fnExactLeave", fn := fun _ => fun
  | [d] => { results := [.lit (.bool true)], args := [d] }
  | _ => none }
def fnExactLeaveRow : OpenClaim := { program := "ytnedpcgdepiakaa", sum := "a236cb2ddda5be8804deba5ff10da7fd682316fe2ceb450afdc1238e6917b31b", func := "loop.example/g00290/laws.FnExactLeave", spec := "fnExactLeave", apart := false }
def FnExactLeaveSaid : Prop := fnExactLeaveRow.holds Try.pinned (OpenSpec.ofChange fnExactLeaveSpec)

/-- ITS FALSE NEIGHBOUR: 'it returns false'. Refute it at one input. -/
def fnExactLeaveWrong : ChangeSpec := { name := "fnExactLeave", fn := fun _ => fun
  | [d] => { results := [.lit (.bool false)], args := [d] }
  | _ => none }
def FnExactLeaveWrongFalsely : Prop := fnExactLeaveRow.holds Try.pinned (OpenSpec.ofChange fnExactLeaveWrong)

/-- 'laws.FnExactDelayIn': WHATEVER THE INPUT: true; the input reads as it did. -/
def fnExactDelayInSpec : ChangeSpec := { name := "fnExactDelayIn", fn := fun _ => fun
  | [d1, d2] => { results := [.lit (.bool true)], args := [d1, d2] }
  | _ => none }
def fnExactDelayInRow : OpenClaim := { program := "ytnedpcgdepiakaa", sum := "a236cb2ddda5be8804deba5ff10da7fd682316fe2ceb450afdc1238e6917b31b", func := "loop.example/g00290/laws.FnExactDelayIn", spec := "fnExactDelayIn", apart := false }
def FnExactDelayInSaid : Prop := fnExactDelayInRow.holds Try.pinned (OpenSpec.ofChange fnExactDelayInSpec)

/-- ITS FALSE NEIGHBOUR: 'it returns false'. Refute it at one input. -/
def fnExactDelayInWrong : ChangeSpec := { name := "fnExactDelayIn", fn := fun _ => fun
  | [d1, d2] => { results := [.lit (.bool false)], args := [d1, d2] }
  | _ => none }
def FnExactDelayInWrongFalsely : Prop := fnExactDelayInRow.holds Try.pinned (OpenSpec.ofChange fnExactDelayInWrong)

/-- 'laws.FnExactContinueAt': WHATEVER THE INPUT: true; the input reads as it did. -/
def fnExactContinueAtSpec : ChangeSpec := { name := "fnExactContinueAt", fn := fun _ => fun
  | [d1, d2] => { results := [.lit (.bool true)], args := [d1, d2] }
  | _ => none }
def fnExactContinueAtRow : OpenClaim := { program := "ytnedpcgdepiakaa", sum := "a236cb2ddda5be8804deba5ff10da7fd682316fe2ceb450afdc1238e6917b31b", func := "loop.example/g00290/laws.FnExactContinueAt", spec := "fnExactContinueAt", apart := false }
def FnExactContinueAtSaid : Prop := fnExactContinueAtRow.holds Try.pinned (OpenSpec.ofChange fnExactContinueAtSpec)

/-- ITS FALSE NEIGHBOUR: 'it returns false'. Refute it at one input. -/
def fnExactContinueAtWrong : ChangeSpec := { name := "fnExactContinueAt", fn := fun _ => fun
  | [d1, d2] => { results := [.lit (.bool false)], args := [d1, d2] }
  | _ => none }
def FnExactContinueAtWrongFalsely : Prop := fnExactContinueAtRow.holds Try.pinned (OpenSpec.ofChange fnExactContinueAtWrong)

/- THE SECOND FORM. 'bulk': how many values and letters a reading holds, each counted each time it is reached (what is shared counts as often as it is met; a slice's spare places count too). A statement '..UptoSaid' is the law's where the arguments, and the package variables that the reading takes, are together of bulk at most 1048576: NARROWER than '..Said'. Prove '..Said' where nothing that the law and all that it calls make is longer than what came in: it says more and counts as full. Else prove '..UptoSaid'. A law counts once. -/
mutual
def uptoBulk {H : Type} : DataW H → Nat
  | .lit (.string bytes) => bytes.length + 1
  | .lit _ => 1
  | .nil => 1
  | .ptr d => uptoBulk d + 1
  | .slice elems spare => uptoBulkAll elems + uptoBulkAll spare + 1
  | .agg parts => uptoBulkAll parts + 1
  | .iface _ d => uptoBulk d + 1
  | .map entries => uptoBulkEntries entries + 1
  | .held _ => 1
def uptoBulkAll {H : Type} : List (DataW H) → Nat
  | [] => 0
  | d :: r => uptoBulk d + uptoBulkAll r
def uptoBulkEntries {H : Type} : List (Lit × DataW H) → Nat
  | [] => 0
  | x :: r => uptoBulkEntry x + uptoBulkEntries r
def uptoBulkEntry {H : Type} : Lit × DataW H → Nat
  | (.string bytes, d) => bytes.length + uptoBulk d + 1
  | (_, d) => uptoBulk d + 1
 end
def uptoSmall : (H : Type) → List (DataW H) → Bool := fun _ ds => decide (uptoBulkAll ds ≤ 1048576)
def OpenSpec.upto (s : _root_.Go.ChangeSpec) : _root_.Go.OpenSpec := { _root_.Go.OpenSpec.ofChange s with cond := some uptoSmall }

/-- 'laws.FnExactGateNew', WHERE WHAT IT READS IS OF BULK AT MOST 1048576: true; the input reads as it did. -/
def fnExactGateNewUptoRow : OpenClaim := { program := "ytnedpcgdepiakaa", sum := "a236cb2ddda5be8804deba5ff10da7fd682316fe2ceb450afdc1238e6917b31b", func := "loop.example/g00290/laws.FnExactGateNew", spec := "fnExactGateNew", apart := false, narrowed := true }
def FnExactGateNewUptoSaid : Prop := fnExactGateNewUptoRow.holds Try.pinned (OpenSpec.upto fnExactGateNewSpec)

/-- 'laws.FnExactGateOk', WHERE WHAT IT READS IS OF BULK AT MOST 1048576: true; the input reads as it did. -/
def fnExactGateOkUptoRow : OpenClaim := { program := "ytnedpcgdepiakaa", sum := "a236cb2ddda5be8804deba5ff10da7fd682316fe2ceb450afdc1238e6917b31b", func := "loop.example/g00290/laws.FnExactGateOk", spec := "fnExactGateOk", apart := false, narrowed := true }
def FnExactGateOkUptoSaid : Prop := fnExactGateOkUptoRow.holds Try.pinned (OpenSpec.upto fnExactGateOkSpec)

/-- 'laws.FnExactArrive', WHERE WHAT IT READS IS OF BULK AT MOST 1048576: true; the input reads as it did. -/
def fnExactArriveUptoRow : OpenClaim := { program := "ytnedpcgdepiakaa", sum := "a236cb2ddda5be8804deba5ff10da7fd682316fe2ceb450afdc1238e6917b31b", func := "loop.example/g00290/laws.FnExactArrive", spec := "fnExactArrive", apart := false, narrowed := true }
def FnExactArriveUptoSaid : Prop := fnExactArriveUptoRow.holds Try.pinned (OpenSpec.upto fnExactArriveSpec)

/-- 'laws.FnExactLeave', WHERE WHAT IT READS IS OF BULK AT MOST 1048576: true; the input reads as it did. -/
def fnExactLeaveUptoRow : OpenClaim := { program := "ytnedpcgdepiakaa", sum := "a236cb2ddda5be8804deba5ff10da7fd682316fe2ceb450afdc1238e6917b31b", func := "loop.example/g00290/laws.FnExactLeave", spec := "fnExactLeave", apart := false, narrowed := true }
def FnExactLeaveUptoSaid : Prop := fnExactLeaveUptoRow.holds Try.pinned (OpenSpec.upto fnExactLeaveSpec)

/-- 'laws.FnExactDelayIn', WHERE WHAT IT READS IS OF BULK AT MOST 1048576: true; the input reads as it did. -/
def fnExactDelayInUptoRow : OpenClaim := { program := "ytnedpcgdepiakaa", sum := "a236cb2ddda5be8804deba5ff10da7fd682316fe2ceb450afdc1238e6917b31b", func := "loop.example/g00290/laws.FnExactDelayIn", spec := "fnExactDelayIn", apart := false, narrowed := true }
def FnExactDelayInUptoSaid : Prop := fnExactDelayInUptoRow.holds Try.pinned (OpenSpec.upto fnExactDelayInSpec)

/-- 'laws.FnExactContinueAt', WHERE WHAT IT READS IS OF BULK AT MOST 1048576: true; the input reads as it did. -/
def fnExactContinueAtUptoRow : OpenClaim := { program := "ytnedpcgdepiakaa", sum := "a236cb2ddda5be8804deba5ff10da7fd682316fe2ceb450afdc1238e6917b31b", func := "loop.example/g00290/laws.FnExactContinueAt", spec := "fnExactContinueAt", apart := false, narrowed := true }
def FnExactContinueAtUptoSaid : Prop := fnExactContinueAtUptoRow.holds Try.pinned (OpenSpec.upto fnExactContinueAtSpec)

end Rows
end Go.Proofs.Ytnedpcgdepiakaa
