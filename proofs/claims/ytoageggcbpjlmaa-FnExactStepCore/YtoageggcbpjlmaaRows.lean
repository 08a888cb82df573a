/-
  No cell of these rows narrows 'for every input' (looked for: loops, veiled, ifaces, maps, wideKeys, modest, calm, conditions, laid).
  DERIVED. THE GIVEN ROWS OF THIS SEAT. 4 by the template 'for every input the law returns true; each argument reads behind the call as it read before'; 0 by the template 'total and deterministic' (their statements: YtoageggcbpjlmaaTotals.lean).
  GIVEN WITH THE SEED: the statements are not yours to turn. If you find one false, say at which input.
  Laid BY PROGRAM, IN A SANDBOX (cutbox-rows.mjs): the forced cells as the released guide's own fill.sh prints them over the translation d548bdd78a0f6e21… (all of the seat's roots in one cut). By AI agents, Wed Nov 11 2026. No macro, syntax, notation, axiom, sorry.
-/
import Derived.Test.YtoageggcbpjlmaaChecked
import GoSem.Claim
import GoSem.ClaimJoined
import GoSem.ClaimMapViews
import Derived.JoinedTies
import Derived.KernelRfl
namespace Go.Proofs.Ytoageggcbpjlmaa
/- THE CELL 'sum', in the pinned program and in every row, IS THE sha256 OF THE DUMP (.gsa) THAT YtoageggcbpjlmaaProg.lean LOADS. Nothing in Lean hashes anything: it is a label: what it is worth is what the hold of that sum in a sandbox is worth. -/
noncomputable def Try.pinned : Pinned := { name := "ytoageggcbpjlmaa", sum := "d548bdd78a0f6e21d6ca08c6759bddac3a170b375b5e1c61e838eae7a37554de", checked := Try.checked }
namespace Rows
def none {H : Type} : Left H := { results := [], args := [] }

/-- 'laws.FnExactCoreNew': WHATEVER THE INPUT: true; the input reads as it did. -/
def fnExactCoreNewSpec : ChangeSpec := { name := "fnExactCoreNew", fn := fun _ => fun
  | [] => { results := [.lit (.bool true)], args := [] }
  | _ => none }
def fnExactCoreNewRow : OpenClaim := { program := "ytoageggcbpjlmaa", sum := "d548bdd78a0f6e21d6ca08c6759bddac3a170b375b5e1c61e838eae7a37554de", func := "loop.example/g00290/laws.FnExactCoreNew", spec := "fnExactCoreNew", apart := false }
def FnExactCoreNewSaid : Prop := fnExactCoreNewRow.holds Try.pinned (OpenSpec.ofChange fnExactCoreNewSpec)

/-- ITS FALSE NEIGHBOUR: 'it returns false'. Refute it at one input. -/
def fnExactCoreNewWrong : ChangeSpec := { name := "fnExactCoreNew", fn := fun _ => fun
  | [] => { results := [.lit (.bool false)], args := [] }
  | _ => none }
def FnExactCoreNewWrongFalsely : Prop := fnExactCoreNewRow.holds Try.pinned (OpenSpec.ofChange fnExactCoreNewWrong)

/-- 'laws.FnExactCoreOk': WHATEVER THE INPUT: true; the input reads as it did. -/
def fnExactCoreOkSpec : ChangeSpec := { name := "fnExactCoreOk", fn := fun _ => fun
  | [d] => { results := [.lit (.bool true)], args := [d] }
  | _ => none }
def fnExactCoreOkRow : OpenClaim := { program := "ytoageggcbpjlmaa", sum := "d548bdd78a0f6e21d6ca08c6759bddac3a170b375b5e1c61e838eae7a37554de", func := "loop.example/g00290/laws.FnExactCoreOk", spec := "fnExactCoreOk", apart := false }
def FnExactCoreOkSaid : Prop := fnExactCoreOkRow.holds Try.pinned (OpenSpec.ofChange fnExactCoreOkSpec)

/-- ITS FALSE NEIGHBOUR: 'it returns false'. Refute it at one input. -/
def fnExactCoreOkWrong : ChangeSpec := { name := "fnExactCoreOk", fn := fun _ => fun
  | [d] => { results := [.lit (.bool false)], args := [d] }
  | _ => none }
def FnExactCoreOkWrongFalsely : Prop := fnExactCoreOkRow.holds Try.pinned (OpenSpec.ofChange fnExactCoreOkWrong)

/-- 'laws.FnExactStepCore': WHATEVER THE INPUT: true; the input reads as it did. -/
def fnExactStepCoreSpec : ChangeSpec := { name := "fnExactStepCore", fn := fun _ => fun
  | [d1, d2, d3] => { results := [.lit (.bool true)], args := [d1, d2, d3] }
  | _ => none }
def fnExactStepCoreRow : OpenClaim := { program := "ytoageggcbpjlmaa", sum := "d548bdd78a0f6e21d6ca08c6759bddac3a170b375b5e1c61e838eae7a37554de", func := "loop.example/g00290/laws.FnExactStepCore", spec := "fnExactStepCore", unfollowed := true, recurses := true, apart := false }
def FnExactStepCoreSaid : Prop := fnExactStepCoreRow.holds Try.pinned (OpenSpec.ofChange fnExactStepCoreSpec)

/-- ITS FALSE NEIGHBOUR: 'it returns false'. Refute it at one input. -/
def fnExactStepCoreWrong : ChangeSpec := { name := "fnExactStepCore", fn := fun _ => fun
  | [d1, d2, d3] => { results := [.lit (.bool false)], args := [d1, d2, d3] }
  | _ => none }
def FnExactStepCoreWrongFalsely : Prop := fnExactStepCoreRow.holds Try.pinned (OpenSpec.ofChange fnExactStepCoreWrong)

/-- 'laws.FnExactTouchOf': WHATEVER THE INPUT: true; the input reads as it did. -/
def fnExactTouchOfSpec : ChangeSpec := { name := "fnExactTouchOf", fn := fun _ => fun
  | [d1, d2] => { results := [.lit (.bool true)], args := [d1, d2] }
  | _ => none }
def fnExactTouchOfRow : OpenClaim := { program := "ytoageggcbpjlmaa", sum := "d548bdd78a0f6e21d6ca08c6759bddac3a170b375b5e1c61e838eae7a37554de", func := "loop.example/g00290/laws.FnExactTouchOf", spec := "fnExactTouchOf", unfollowed := true, recurses := true, apart := false }
def FnExactTouchOfSaid : Prop := fnExactTouchOfRow.holds Try.pinned (OpenSpec.ofChange fnExactTouchOfSpec)

/-- ITS FALSE NEIGHBOUR: 'it returns false'. Refute it at one input. -/
def fnExactTouchOfWrong : ChangeSpec := { name := "fnExactTouchOf", fn := fun _ => fun
  | [d1, d2] => { results := [.lit (.bool false)], args := [d1, d2] }
  | _ => none }
def FnExactTouchOfWrongFalsely : Prop := fnExactTouchOfRow.holds Try.pinned (OpenSpec.ofChange fnExactTouchOfWrong)

/- THE SECOND FORM. 'bulk': how many values and letters a reading holds, each counted each time it is reached (what is shared counts as often as it is met; a slice's spare places count too). A statement '..UptoSaid' is the law's where the arguments, and the package variables that the reading takes, are together of bulk at most 1048576: NARROWER than '..Said'. Prove '..Said' where nothing that the law and all that it calls make is longer than what came in: it says more and counts as full. Else prove '..UptoSaid'. A law counts once. -/
mutual
def uptoBulk {H : Type} : DataW H → Nat
  | .lit (.string bytes) => bytes.length + 1
  | .lit _ => 1
  | .nil => 1
  | .ptr d => uptoBulk d + 1
  | .slice elems spare => uptoBulkAll elems + uptoBulkAll spare + 1
  | .agg parts => uptoBulkAll parts + 1
  | .iface _ d => uptoBulk d + 1
  | .map entries => uptoBulkEntries entries + 1
  | .held _ => 1
def uptoBulkAll {H : Type} : List (DataW H) → Nat
  | [] => 0
  | d :: r => uptoBulk d + uptoBulkAll r
def uptoBulkEntries {H : Type} : List (Lit × DataW H) → Nat
  | [] => 0
  | x :: r => uptoBulkEntry x + uptoBulkEntries r
def uptoBulkEntry {H : Type} : Lit × DataW H → Nat
  | (.string bytes, d) => bytes.length + uptoBulk d + 1
  | (_, d) => uptoBulk d + 1
 end
def uptoSmall : (H : Type) → List (DataW H) → Bool := fun _ ds => decide (uptoBulkAll ds ≤ 1048576)
def OpenSpec.upto (s : _root_.Go.ChangeSpec) : _root_.Go.OpenSpec := { _root_.Go.OpenSpec.ofChange s with cond := some uptoSmall }

/-- 'laws.FnExactCoreNew', WHERE WHAT IT READS IS OF BULK AT MOST 1048576: true; the input reads as it did. -/
def fnExactCoreNewUptoRow : OpenClaim := { program := "ytoageggcbpjlmaa", sum := "d548bdd78a0f6e21d6ca08c6759bddac3a170b375b5e1c61e838eae7a37554de", func := "loop.example/g00290/laws.FnExactCoreNew", spec := "fnExactCoreNew", apart := false, narrowed := true }
def FnExactCoreNewUptoSaid : Prop := fnExactCoreNewUptoRow.holds Try.pinned (OpenSpec.upto fnExactCoreNewSpec)

/-- 'laws.FnExactCoreOk', WHERE WHAT IT READS IS OF BULK AT MOST 1048576: true; the input reads as it did. -/
def fnExactCoreOkUptoRow : OpenClaim := { program := "ytoageggcbpjlmaa", sum := "d548bdd78a0f6e21d6ca08c6759bddac3a170b375b5e1c61e838eae7a37554de", func := "loop.example/g00290/laws.FnExactCoreOk", spec := "fnExactCoreOk", apart := false, narrowed := true }
def FnExactCoreOkUptoSaid : Prop := fnExactCoreOkUptoRow.holds Try.pinned (OpenSpec.upto fnExactCoreOkSpec)

/-- 'laws.FnExactStepCore', WHERE WHAT IT READS IS OF BULK AT MOST 1048576: true; the input reads as it did. -/
def fnExactStepCoreUptoRow : OpenClaim := { program := "ytoageggcbpjlmaa", sum := "d548bdd78a0f6e21d6ca08c6759bddac3a170b375b5e1c61e838eae7a37554de", func := "loop.example/g00290/laws.FnExactStepCore", spec := "fnExactStepCore", unfollowed := true, recurses := true, apart := false, narrowed := true }
def FnExactStepCoreUptoSaid : Prop := fnExactStepCoreUptoRow.holds Try.pinned (OpenSpec.upto fnExactStepCoreSpec)

/-- 'laws.FnExactTouchOf', WHERE WHAT IT READS IS OF BULK AT MOST 1048576: true; the input reads as it did. -/
def fnExactTouchOfUptoRow : OpenClaim := { program := "ytoageggcbpjlmaa", sum := "d548bdd78a0f6e21d6ca08c6759bddac3a170b375b5e1c61e838eae7a37554de", func := "loop.example/g00290/laws.FnExactTouchOf", spec := "fnExactTouchOf", unfollowed := true, recurses := true, apart := false, narrowed := true }
def FnExactTouchOfUptoSaid : Prop := fnExactTouchOfUptoRow.holds Try.pinned (OpenSpec.upto fnExactTouchOfSpec)

end Rows
end Go.Proofs.Ytoageggcbpjlmaa
