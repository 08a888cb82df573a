/-
  The laws of words of a machine, with both sides' contracts.
-/
import Derived.Test.YtjmlpkdloldcjaaLwIn
import Derived.Test.YtjmlpkdloldcjaaInsK
namespace Go.Proofs.Ytjmlpkdloldcjaa
open Go.RowKit

theorem implInsOk_below (op a b c : Int) (z : World) : Calls Try.prog 8 #[.agg #[.int .i64 op, .int .i64 a, .int .i64 b, .int .i64 c]] z fun e w' => e = .returned (.bool (insB op a b c)) ∧ Below z.heap.size z w' := by
  refine (implInsOk_any op a b c z).mono ?_
  rintro e w' ⟨rfl, rfl⟩
  exact ⟨rfl, by go_grown⟩
theorem lawInsOk_whole (x : In4) (w : World) (_ : True) (_ : True) :
    Calls Try.prog 3 #[.agg #[.int .i64 x.op, .int .i64 x.a, .int .i64 x.b, .int .i64 x.c]] w fun e w' => e = .returned (.bool true) ∧ Below w.heap.size w w' :=
  lawInsOk x.op x.a x.b x.c w fun z => implInsOk_below x.op x.a x.b x.c z
theorem lawEncode_whole (x : In4) (w : World) (_ : True) (_ : True) :
    Calls Try.prog 4 #[.agg #[.int .i64 x.op, .int .i64 x.a, .int .i64 x.b, .int .i64 x.c]] w fun e w' => e = .returned (.bool true) ∧ Below w.heap.size w w' :=
  lawEncode x.op x.a x.b x.c w fun z => implEncode_any x.op x.a x.b x.c z
theorem lawDecode_whole (n : Int) (_ : (Lit.int IntKind.i64 n).wf = true) (w : World) :
    Calls Try.prog 5 #[.int .i64 n] w fun e w' => e = .returned (.bool true) ∧ Below w.heap.size w w' :=
  lawDecode n w fun z => implDecode_any n z
end Go.Proofs.Ytjmlpkdloldcjaa
