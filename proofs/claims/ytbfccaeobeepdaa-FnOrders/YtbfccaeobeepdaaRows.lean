/-
  No cell of these rows narrows 'for every input' (looked for: loops, veiled, ifaces, maps, wideKeys, modest, calm, conditions, laid).
  DERIVED. THE GIVEN ROWS OF THIS SEAT. 6 by the template 'for every input the law returns true; each argument reads behind the call as it read before'; 0 by the template 'total and deterministic' (their statements: YtbfccaeobeepdaaTotals.lean).
  GIVEN WITH THE SEED: the statements are not yours to turn. If you find one false, say at which input.
  Laid BY PROGRAM, IN A SANDBOX (cutbox-rows.mjs): the forced cells as the released guide's own fill.sh prints them over the translation 9fb0108a41f69341… (all of the seat's roots in one cut). By AI agents, Wed Nov 11 2026. No macro, syntax, notation, axiom, sorry.
-/
import Derived.Test.YtbfccaeobeepdaaChecked
import GoSem.Claim
import GoSem.ClaimJoined
import GoSem.ClaimMapViews
import Derived.JoinedTies
import Derived.KernelRfl
namespace Go.Proofs.Ytbfccaeobeepdaa
/- THE CELL 'sum', in the pinned program and in every row, IS THE sha256 OF THE DUMP (.gsa) THAT YtbfccaeobeepdaaProg.lean LOADS. Nothing in Lean hashes anything: it is a label: what it is worth is what the hold of that sum in a sandbox is worth. -/
noncomputable def Try.pinned : Pinned := { name := "ytbfccaeobeepdaa", sum := "9fb0108a41f6934177305a054a4e8e512a2dcc22eb225447c95dd5dfd3728eec", checked := Try.checked }
namespace Rows
def none {H : Type} : Left H := { results := [], args := [] }

/-- 'laws.FnValues': WHATEVER THE INPUT: true; the input reads as it did. -/
def fnValuesSpec : ChangeSpec := { name := "fnValues", fn := fun _ => fun
  | [d] => { results := [.lit (.bool true)], args := [d] }
  | _ => none }
def fnValuesRow : OpenClaim := { program := "ytbfccaeobeepdaa", sum := "9fb0108a41f6934177305a054a4e8e512a2dcc22eb225447c95dd5dfd3728eec", func := "loop.example/g00290/laws.FnValues", spec := "fnValues", apart := false }
def FnValuesSaid : Prop := fnValuesRow.holds Try.pinned (OpenSpec.ofChange fnValuesSpec)

/-- ITS FALSE NEIGHBOUR: 'it returns false'. Refute it at one input. -/
def fnValuesWrong : ChangeSpec := { name := "fnValues", fn := fun _ => fun
  | [d] => { results := [.lit (.bool false)], args := [d] }
  | _ => none }
def FnValuesWrongFalsely : Prop := fnValuesRow.holds Try.pinned (OpenSpec.ofChange fnValuesWrong)

/-- 'laws.FnOrders': WHATEVER THE INPUT: true; the input reads as it did. -/
def fnOrdersSpec : ChangeSpec := { name := "fnOrders", fn := fun _ => fun
  | [d] => { results := [.lit (.bool true)], args := [d] }
  | _ => none }
def fnOrdersRow : OpenClaim := { program := "ytbfccaeobeepdaa", sum := "9fb0108a41f6934177305a054a4e8e512a2dcc22eb225447c95dd5dfd3728eec", func := "loop.example/g00290/laws.FnOrders", spec := "fnOrders", apart := false }
def FnOrdersSaid : Prop := fnOrdersRow.holds Try.pinned (OpenSpec.ofChange fnOrdersSpec)

/-- ITS FALSE NEIGHBOUR: 'it returns false'. Refute it at one input. -/
def fnOrdersWrong : ChangeSpec := { name := "fnOrders", fn := fun _ => fun
  | [d] => { results := [.lit (.bool false)], args := [d] }
  | _ => none }
def FnOrdersWrongFalsely : Prop := fnOrdersRow.holds Try.pinned (OpenSpec.ofChange fnOrdersWrong)

/-- 'laws.FnExactValOk': WHATEVER THE INPUT: true; the input reads as it did. -/
def fnExactValOkSpec : ChangeSpec := { name := "fnExactValOk", fn := fun _ => fun
  | [d] => { results := [.lit (.bool true)], args := [d] }
  | _ => none }
def fnExactValOkRow : OpenClaim := { program := "ytbfccaeobeepdaa", sum := "9fb0108a41f6934177305a054a4e8e512a2dcc22eb225447c95dd5dfd3728eec", func := "loop.example/g00290/laws.FnExactValOk", spec := "fnExactValOk", apart := false }
def FnExactValOkSaid : Prop := fnExactValOkRow.holds Try.pinned (OpenSpec.ofChange fnExactValOkSpec)

/-- ITS FALSE NEIGHBOUR: 'it returns false'. Refute it at one input. -/
def fnExactValOkWrong : ChangeSpec := { name := "fnExactValOk", fn := fun _ => fun
  | [d] => { results := [.lit (.bool false)], args := [d] }
  | _ => none }
def FnExactValOkWrongFalsely : Prop := fnExactValOkRow.holds Try.pinned (OpenSpec.ofChange fnExactValOkWrong)

/-- 'laws.FnExactCalc': WHATEVER THE INPUT: true; the input reads as it did. -/
def fnExactCalcSpec : ChangeSpec := { name := "fnExactCalc", fn := fun _ => fun
  | [d1, d2, d3] => { results := [.lit (.bool true)], args := [d1, d2, d3] }
  | _ => none }
def fnExactCalcRow : OpenClaim := { program := "ytbfccaeobeepdaa", sum := "9fb0108a41f6934177305a054a4e8e512a2dcc22eb225447c95dd5dfd3728eec", func := "loop.example/g00290/laws.FnExactCalc", spec := "fnExactCalc", apart := false }
def FnExactCalcSaid : Prop := fnExactCalcRow.holds Try.pinned (OpenSpec.ofChange fnExactCalcSpec)

/-- ITS FALSE NEIGHBOUR: 'it returns false'. Refute it at one input. -/
def fnExactCalcWrong : ChangeSpec := { name := "fnExactCalc", fn := fun _ => fun
  | [d1, d2, d3] => { results := [.lit (.bool false)], args := [d1, d2, d3] }
  | _ => none }
def FnExactCalcWrongFalsely : Prop := fnExactCalcRow.holds Try.pinned (OpenSpec.ofChange fnExactCalcWrong)

/-- 'laws.FnExactNegated': WHATEVER THE INPUT: true; the input reads as it did. -/
def fnExactNegatedSpec : ChangeSpec := { name := "fnExactNegated", fn := fun _ => fun
  | [d] => { results := [.lit (.bool true)], args := [d] }
  | _ => none }
def fnExactNegatedRow : OpenClaim := { program := "ytbfccaeobeepdaa", sum := "9fb0108a41f6934177305a054a4e8e512a2dcc22eb225447c95dd5dfd3728eec", func := "loop.example/g00290/laws.FnExactNegated", spec := "fnExactNegated", apart := false }
def FnExactNegatedSaid : Prop := fnExactNegatedRow.holds Try.pinned (OpenSpec.ofChange fnExactNegatedSpec)

/-- ITS FALSE NEIGHBOUR: 'it returns false'. Refute it at one input. -/
def fnExactNegatedWrong : ChangeSpec := { name := "fnExactNegated", fn := fun _ => fun
  | [d] => { results := [.lit (.bool false)], args := [d] }
  | _ => none }
def FnExactNegatedWrongFalsely : Prop := fnExactNegatedRow.holds Try.pinned (OpenSpec.ofChange fnExactNegatedWrong)

/-- 'laws.FnExactDenied': WHATEVER THE INPUT: true; the input reads as it did. -/
def fnExactDeniedSpec : ChangeSpec := { name := "fnExactDenied", fn := fun _ => fun
  | [d] => { results := [.lit (.bool true)], args := [d] }
  | _ => none }
def fnExactDeniedRow : OpenClaim := { program := "ytbfccaeobeepdaa", sum := "9fb0108a41f6934177305a054a4e8e512a2dcc22eb225447c95dd5dfd3728eec", func := "loop.example/g00290/laws.FnExactDenied", spec := "fnExactDenied", apart := false }
def FnExactDeniedSaid : Prop := fnExactDeniedRow.holds Try.pinned (OpenSpec.ofChange fnExactDeniedSpec)

/-- ITS FALSE NEIGHBOUR: 'it returns false'. Refute it at one input. -/
def fnExactDeniedWrong : ChangeSpec := { name := "fnExactDenied", fn := fun _ => fun
  | [d] => { results := [.lit (.bool false)], args := [d] }
  | _ => none }
def FnExactDeniedWrongFalsely : Prop := fnExactDeniedRow.holds Try.pinned (OpenSpec.ofChange fnExactDeniedWrong)

/- THE SECOND FORM. 'bulk': how many values and letters a reading holds, each counted each time it is reached (what is shared counts as often as it is met; a slice's spare places count too). A statement '..UptoSaid' is the law's where the arguments, and the package variables that the reading takes, are together of bulk at most 1048576: NARROWER than '..Said'. Prove '..Said' where nothing that the law and all that it calls make is longer than what came in: it says more and counts as full. Else prove '..UptoSaid'. A law counts once. -/
mutual
def uptoBulk {H : Type} : DataW H → Nat
  | .lit (.string bytes) => bytes.length + 1
  | .lit _ => 1
  | .nil => 1
  | .ptr d => uptoBulk d + 1
  | .slice elems spare => uptoBulkAll elems + uptoBulkAll spare + 1
  | .agg parts => uptoBulkAll parts + 1
  | .iface _ d => uptoBulk d + 1
  | .map entries => uptoBulkEntries entries + 1
  | .held _ => 1
def uptoBulkAll {H : Type} : List (DataW H) → Nat
  | [] => 0
  | d :: r => uptoBulk d + uptoBulkAll r
def uptoBulkEntries {H : Type} : List (Lit × DataW H) → Nat
  | [] => 0
  | x :: r => uptoBulkEntry x + uptoBulkEntries r
def uptoBulkEntry {H : Type} : Lit × DataW H → Nat
  | (.string bytes, d) => bytes.length + uptoBulk d + 1
  | (_, d) => uptoBulk d + 1
 end
def uptoSmall : (H : Type) → List (DataW H) → Bool := fun _ ds => decide (uptoBulkAll ds ≤ 1048576)
def OpenSpec.upto (s : _root_.Go.ChangeSpec) : _root_.Go.OpenSpec := { _root_.Go.OpenSpec.ofChange s with cond := some uptoSmall }

/-- 'laws.FnValues', WHERE WHAT IT READS IS OF BULK AT MOST 1048576: true; the input reads as it did. -/
def fnValuesUptoRow : OpenClaim := { program := "ytbfccaeobeepdaa", sum := "9fb0108a41f6934177305a054a4e8e512a2dcc22eb225447c95dd5dfd3728eec", func := "loop.example/g00290/laws.FnValues", spec := "fnValues", apart := false, narrowed := true }
def FnValuesUptoSaid : Prop := fnValuesUptoRow.holds Try.pinned (OpenSpec.upto fnValuesSpec)

/-- 'laws.FnOrders', WHERE WHAT IT READS IS OF BULK AT MOST 1048576: true; the input reads as it did. -/
def fnOrdersUptoRow : OpenClaim := { program := "ytbfccaeobeepdaa", sum := "9fb0108a41f6934177305a054a4e8e512a2dcc22eb225447c95dd5dfd3728eec", func := "loop.example/g00290/laws.FnOrders", spec := "fnOrders", apart := false, narrowed := true }
def FnOrdersUptoSaid : Prop := fnOrdersUptoRow.holds Try.pinned (OpenSpec.upto fnOrdersSpec)

/-- 'laws.FnExactValOk', WHERE WHAT IT READS IS OF BULK AT MOST 1048576: true; the input reads as it did. -/
def fnExactValOkUptoRow : OpenClaim := { program := "ytbfccaeobeepdaa", sum := "9fb0108a41f6934177305a054a4e8e512a2dcc22eb225447c95dd5dfd3728eec", func := "loop.example/g00290/laws.FnExactValOk", spec := "fnExactValOk", apart := false, narrowed := true }
def FnExactValOkUptoSaid : Prop := fnExactValOkUptoRow.holds Try.pinned (OpenSpec.upto fnExactValOkSpec)

/-- 'laws.FnExactCalc', WHERE WHAT IT READS IS OF BULK AT MOST 1048576: true; the input reads as it did. -/
def fnExactCalcUptoRow : OpenClaim := { program := "ytbfccaeobeepdaa", sum := "9fb0108a41f6934177305a054a4e8e512a2dcc22eb225447c95dd5dfd3728eec", func := "loop.example/g00290/laws.FnExactCalc", spec := "fnExactCalc", apart := false, narrowed := true }
def FnExactCalcUptoSaid : Prop := fnExactCalcUptoRow.holds Try.pinned (OpenSpec.upto fnExactCalcSpec)

/-- 'laws.FnExactNegated', WHERE WHAT IT READS IS OF BULK AT MOST 1048576: true; the input reads as it did. -/
def fnExactNegatedUptoRow : OpenClaim := { program := "ytbfccaeobeepdaa", sum := "9fb0108a41f6934177305a054a4e8e512a2dcc22eb225447c95dd5dfd3728eec", func := "loop.example/g00290/laws.FnExactNegated", spec := "fnExactNegated", apart := false, narrowed := true }
def FnExactNegatedUptoSaid : Prop := fnExactNegatedUptoRow.holds Try.pinned (OpenSpec.upto fnExactNegatedSpec)

/-- 'laws.FnExactDenied', WHERE WHAT IT READS IS OF BULK AT MOST 1048576: true; the input reads as it did. -/
def fnExactDeniedUptoRow : OpenClaim := { program := "ytbfccaeobeepdaa", sum := "9fb0108a41f6934177305a054a4e8e512a2dcc22eb225447c95dd5dfd3728eec", func := "loop.example/g00290/laws.FnExactDenied", spec := "fnExactDenied", apart := false, narrowed := true }
def FnExactDeniedUptoSaid : Prop := fnExactDeniedUptoRow.holds Try.pinned (OpenSpec.upto fnExactDeniedSpec)

end Rows
end Go.Proofs.Ytbfccaeobeepdaa
