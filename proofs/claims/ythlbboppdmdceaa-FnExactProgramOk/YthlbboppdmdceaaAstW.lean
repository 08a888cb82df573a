/-
  What a type switch finds: a value of an interface asked for a type.
-/
import Derived.Test.YthlbboppdmdceaaChecked
import Derived.WalkKit
namespace Go.Proofs.Ythlbboppdmdceaa
open Go.RowKit

def noIface : TypeDesc → Bool
  | .interface _ => false
  | _ => true
theorem run_assert_on {P : Program} (w : World) (t xT : TypeId) (v : Value) (d : TypeDesc) (hu : P.underlying t = some d) (hd : noIface d = true) : (Instr.typeAssert (.iface t v) xT t true).run P w = .ok (.tuple #[v, .bool true]) w := by
  unfold Instr.typeAssert
  simp only [Sem.run_bind, run_underlying hu]
  cases d <;> simp_all [noIface]
theorem run_zero {P : Program} (w : World) (t : TypeId) (z : Value) (hz : (P.info? t).map (·.zero) = some (some z)) : (zeroValue t).run P w = .ok z w := by
  cases hq : P.info? t with
  | none => simp [hq] at hz
  | some i =>
    have hs : i.zero = some z := by simpa [hq] using hz
    simp [zeroValue, typeInfo, hq, hs]
theorem run_assert_off {P : Program} (w : World) (t a xT : TypeId) (v z : Value) (d : TypeDesc) (ht : t ≠ a) (hu : P.underlying a = some d) (hd : noIface d = true) (hz : (P.info? a).map (·.zero) = some (some z)) : (Instr.typeAssert (.iface t v) xT a true).run P w = .ok (.tuple #[z, .bool false]) w := by
  unfold Instr.typeAssert
  simp only [Sem.run_bind, run_underlying hu]
  have := run_zero (P := P) w a z hz
  cases d <;> simp_all [noIface]
theorem run_assert_nil {P : Program} (w : World) (a xT : TypeId) (z : Value) (d : TypeDesc) (hu : P.underlying a = some d) (hd : noIface d = true) (hz : (P.info? a).map (·.zero) = some (some z)) : (Instr.typeAssert .nilIface xT a true).run P w = .ok (.tuple #[z, .bool false]) w := by
  unfold Instr.typeAssert
  simp only [Sem.run_bind, run_underlying hu]
  have := run_zero (P := P) w a z hz
  cases d <;> simp_all [noIface]
theorem on_numNode (v : Value) (w : World) : (Instr.typeAssert (.iface 82 v) 52 82 true).run Try.prog w = .ok (.tuple #[v, .bool true]) w := run_assert_on w _ _ v _ Try.underlying82 rfl
theorem off_numNode (t : TypeId) (v : Value) (w : World) (ht : t ≠ 82) : (Instr.typeAssert (.iface t v) 52 82 true).run Try.prog w = .ok (.tuple #[.agg #[.int .i64 0], .bool false]) w := run_assert_off w _ _ _ v _ _ ht Try.underlying82 rfl (by kernel_rfl)
theorem nil_numNode (w : World) : (Instr.typeAssert .nilIface 52 82 true).run Try.prog w = .ok (.tuple #[.agg #[.int .i64 0], .bool false]) w := run_assert_nil w _ _ _ _ Try.underlying82 rfl (by kernel_rfl)
theorem on_varNode (v : Value) (w : World) : (Instr.typeAssert (.iface 84 v) 52 84 true).run Try.prog w = .ok (.tuple #[v, .bool true]) w := run_assert_on w _ _ v _ Try.underlying84 rfl
theorem off_varNode (t : TypeId) (v : Value) (w : World) (ht : t ≠ 84) : (Instr.typeAssert (.iface t v) 52 84 true).run Try.prog w = .ok (.tuple #[.agg #[.string ⟨#[]⟩], .bool false]) w := run_assert_off w _ _ _ v _ _ ht Try.underlying84 rfl (by kernel_rfl)
theorem nil_varNode (w : World) : (Instr.typeAssert .nilIface 52 84 true).run Try.prog w = .ok (.tuple #[.agg #[.string ⟨#[]⟩], .bool false]) w := run_assert_nil w _ _ _ _ Try.underlying84 rfl (by kernel_rfl)
theorem on_calcNode (v : Value) (w : World) : (Instr.typeAssert (.iface 87 v) 52 87 true).run Try.prog w = .ok (.tuple #[v, .bool true]) w := run_assert_on w _ _ v _ Try.underlying87 rfl
theorem off_calcNode (t : TypeId) (v : Value) (w : World) (ht : t ≠ 87) : (Instr.typeAssert (.iface t v) 52 87 true).run Try.prog w = .ok (.tuple #[.agg #[.int .i64 0, .int .i64 0, .int .i64 0], .bool false]) w := run_assert_off w _ _ _ v _ _ ht Try.underlying87 rfl (by kernel_rfl)
theorem nil_calcNode (w : World) : (Instr.typeAssert .nilIface 52 87 true).run Try.prog w = .ok (.tuple #[.agg #[.int .i64 0, .int .i64 0, .int .i64 0], .bool false]) w := run_assert_nil w _ _ _ _ Try.underlying87 rfl (by kernel_rfl)
theorem on_notNode (v : Value) (w : World) : (Instr.typeAssert (.iface 89 v) 52 89 true).run Try.prog w = .ok (.tuple #[v, .bool true]) w := run_assert_on w _ _ v _ Try.underlying89 rfl
theorem off_notNode (t : TypeId) (v : Value) (w : World) (ht : t ≠ 89) : (Instr.typeAssert (.iface t v) 52 89 true).run Try.prog w = .ok (.tuple #[.agg #[.int .i64 0], .bool false]) w := run_assert_off w _ _ _ v _ _ ht Try.underlying89 rfl (by kernel_rfl)
theorem nil_notNode (w : World) : (Instr.typeAssert .nilIface 52 89 true).run Try.prog w = .ok (.tuple #[.agg #[.int .i64 0], .bool false]) w := run_assert_nil w _ _ _ _ Try.underlying89 rfl (by kernel_rfl)
theorem on_negNode (v : Value) (w : World) : (Instr.typeAssert (.iface 90 v) 52 90 true).run Try.prog w = .ok (.tuple #[v, .bool true]) w := run_assert_on w _ _ v _ Try.underlying90 rfl
theorem off_negNode (t : TypeId) (v : Value) (w : World) (ht : t ≠ 90) : (Instr.typeAssert (.iface t v) 52 90 true).run Try.prog w = .ok (.tuple #[.agg #[.int .i64 0], .bool false]) w := run_assert_off w _ _ _ v _ _ ht Try.underlying90 rfl (by kernel_rfl)
theorem nil_negNode (w : World) : (Instr.typeAssert .nilIface 52 90 true).run Try.prog w = .ok (.tuple #[.agg #[.int .i64 0], .bool false]) w := run_assert_nil w _ _ _ _ Try.underlying90 rfl (by kernel_rfl)
theorem on_setNode (v : Value) (w : World) : (Instr.typeAssert (.iface 92 v) 52 92 true).run Try.prog w = .ok (.tuple #[v, .bool true]) w := run_assert_on w _ _ v _ Try.underlying92 rfl
theorem off_setNode (t : TypeId) (v : Value) (w : World) (ht : t ≠ 92) : (Instr.typeAssert (.iface t v) 52 92 true).run Try.prog w = .ok (.tuple #[.agg #[.string ⟨#[]⟩, .int .i64 0], .bool false]) w := run_assert_off w _ _ _ v _ _ ht Try.underlying92 rfl (by kernel_rfl)
theorem nil_setNode (w : World) : (Instr.typeAssert .nilIface 52 92 true).run Try.prog w = .ok (.tuple #[.agg #[.string ⟨#[]⟩, .int .i64 0], .bool false]) w := run_assert_nil w _ _ _ _ Try.underlying92 rfl (by kernel_rfl)
theorem on_ifNode (v : Value) (w : World) : (Instr.typeAssert (.iface 94 v) 52 94 true).run Try.prog w = .ok (.tuple #[v, .bool true]) w := run_assert_on w _ _ v _ Try.underlying94 rfl
theorem off_ifNode (t : TypeId) (v : Value) (w : World) (ht : t ≠ 94) : (Instr.typeAssert (.iface t v) 52 94 true).run Try.prog w = .ok (.tuple #[.agg #[.int .i64 0, .int .i64 0, .int .i64 0], .bool false]) w := run_assert_off w _ _ _ v _ _ ht Try.underlying94 rfl (by kernel_rfl)
theorem nil_ifNode (w : World) : (Instr.typeAssert .nilIface 52 94 true).run Try.prog w = .ok (.tuple #[.agg #[.int .i64 0, .int .i64 0, .int .i64 0], .bool false]) w := run_assert_nil w _ _ _ _ Try.underlying94 rfl (by kernel_rfl)
theorem on_whileNode (v : Value) (w : World) : (Instr.typeAssert (.iface 96 v) 52 96 true).run Try.prog w = .ok (.tuple #[v, .bool true]) w := run_assert_on w _ _ v _ Try.underlying96 rfl
theorem off_whileNode (t : TypeId) (v : Value) (w : World) (ht : t ≠ 96) : (Instr.typeAssert (.iface t v) 52 96 true).run Try.prog w = .ok (.tuple #[.agg #[.int .i64 0, .int .i64 0], .bool false]) w := run_assert_off w _ _ _ v _ _ ht Try.underlying96 rfl (by kernel_rfl)
theorem nil_whileNode (w : World) : (Instr.typeAssert .nilIface 52 96 true).run Try.prog w = .ok (.tuple #[.agg #[.int .i64 0, .int .i64 0], .bool false]) w := run_assert_nil w _ _ _ _ Try.underlying96 rfl (by kernel_rfl)
theorem on_callNode (v : Value) (w : World) : (Instr.typeAssert (.iface 98 v) 52 98 true).run Try.prog w = .ok (.tuple #[v, .bool true]) w := run_assert_on w _ _ v _ Try.underlying98 rfl
theorem off_callNode (t : TypeId) (v : Value) (w : World) (ht : t ≠ 98) : (Instr.typeAssert (.iface t v) 52 98 true).run Try.prog w = .ok (.tuple #[.agg #[.string ⟨#[]⟩, .string ⟨#[]⟩, .string ⟨#[]⟩, .int .i64 0], .bool false]) w := run_assert_off w _ _ _ v _ _ ht Try.underlying98 rfl (by kernel_rfl)
theorem nil_callNode (w : World) : (Instr.typeAssert .nilIface 52 98 true).run Try.prog w = .ok (.tuple #[.agg #[.string ⟨#[]⟩, .string ⟨#[]⟩, .string ⟨#[]⟩, .int .i64 0], .bool false]) w := run_assert_nil w _ _ _ _ Try.underlying98 rfl (by kernel_rfl)
theorem on_printNode (v : Value) (w : World) : (Instr.typeAssert (.iface 100 v) 52 100 true).run Try.prog w = .ok (.tuple #[v, .bool true]) w := run_assert_on w _ _ v _ Try.underlying100 rfl
theorem off_printNode (t : TypeId) (v : Value) (w : World) (ht : t ≠ 100) : (Instr.typeAssert (.iface t v) 52 100 true).run Try.prog w = .ok (.tuple #[.agg #[.int .i64 0], .bool false]) w := run_assert_off w _ _ _ v _ _ ht Try.underlying100 rfl (by kernel_rfl)
theorem nil_printNode (w : World) : (Instr.typeAssert .nilIface 52 100 true).run Try.prog w = .ok (.tuple #[.agg #[.int .i64 0], .bool false]) w := run_assert_nil w _ _ _ _ Try.underlying100 rfl (by kernel_rfl)
theorem on_readNode (v : Value) (w : World) : (Instr.typeAssert (.iface 101 v) 52 101 true).run Try.prog w = .ok (.tuple #[v, .bool true]) w := run_assert_on w _ _ v _ Try.underlying101 rfl
theorem off_readNode (t : TypeId) (v : Value) (w : World) (ht : t ≠ 101) : (Instr.typeAssert (.iface t v) 52 101 true).run Try.prog w = .ok (.tuple #[.agg #[.string ⟨#[]⟩], .bool false]) w := run_assert_off w _ _ _ v _ _ ht Try.underlying101 rfl (by kernel_rfl)
theorem nil_readNode (w : World) : (Instr.typeAssert .nilIface 52 101 true).run Try.prog w = .ok (.tuple #[.agg #[.string ⟨#[]⟩], .bool false]) w := run_assert_nil w _ _ _ _ Try.underlying101 rfl (by kernel_rfl)
theorem on_delayNode (v : Value) (w : World) : (Instr.typeAssert (.iface 102 v) 52 102 true).run Try.prog w = .ok (.tuple #[v, .bool true]) w := run_assert_on w _ _ v _ Try.underlying102 rfl
theorem off_delayNode (t : TypeId) (v : Value) (w : World) (ht : t ≠ 102) : (Instr.typeAssert (.iface t v) 52 102 true).run Try.prog w = .ok (.tuple #[.agg #[.string ⟨#[]⟩], .bool false]) w := run_assert_off w _ _ _ v _ _ ht Try.underlying102 rfl (by kernel_rfl)
theorem nil_delayNode (w : World) : (Instr.typeAssert .nilIface 52 102 true).run Try.prog w = .ok (.tuple #[.agg #[.string ⟨#[]⟩], .bool false]) w := run_assert_nil w _ _ _ _ Try.underlying102 rfl (by kernel_rfl)
theorem on_contNode (v : Value) (w : World) : (Instr.typeAssert (.iface 103 v) 52 103 true).run Try.prog w = .ok (.tuple #[v, .bool true]) w := run_assert_on w _ _ v _ Try.underlying103 rfl
theorem off_contNode (t : TypeId) (v : Value) (w : World) (ht : t ≠ 103) : (Instr.typeAssert (.iface t v) 52 103 true).run Try.prog w = .ok (.tuple #[.agg #[.string ⟨#[]⟩], .bool false]) w := run_assert_off w _ _ _ v _ _ ht Try.underlying103 rfl (by kernel_rfl)
theorem nil_contNode (w : World) : (Instr.typeAssert .nilIface 52 103 true).run Try.prog w = .ok (.tuple #[.agg #[.string ⟨#[]⟩], .bool false]) w := run_assert_nil w _ _ _ _ Try.underlying103 rfl (by kernel_rfl)
theorem on_skipNode (v : Value) (w : World) : (Instr.typeAssert (.iface 105 v) 52 105 true).run Try.prog w = .ok (.tuple #[v, .bool true]) w := run_assert_on w _ _ v _ Try.underlying105 rfl
theorem off_skipNode (t : TypeId) (v : Value) (w : World) (ht : t ≠ 105) : (Instr.typeAssert (.iface t v) 52 105 true).run Try.prog w = .ok (.tuple #[.agg #[], .bool false]) w := run_assert_off w _ _ _ v _ _ ht Try.underlying105 rfl (by kernel_rfl)
theorem nil_skipNode (w : World) : (Instr.typeAssert .nilIface 52 105 true).run Try.prog w = .ok (.tuple #[.agg #[], .bool false]) w := run_assert_nil w _ _ _ _ Try.underlying105 rfl (by kernel_rfl)
theorem on_blockNode (v : Value) (w : World) : (Instr.typeAssert (.iface 107 v) 52 107 true).run Try.prog w = .ok (.tuple #[v, .bool true]) w := run_assert_on w _ _ v _ Try.underlying107 rfl
theorem off_blockNode (t : TypeId) (v : Value) (w : World) (ht : t ≠ 107) : (Instr.typeAssert (.iface t v) 52 107 true).run Try.prog w = .ok (.tuple #[.agg #[.slice none 0 0], .bool false]) w := run_assert_off w _ _ _ v _ _ ht Try.underlying107 rfl (by kernel_rfl)
theorem nil_blockNode (w : World) : (Instr.typeAssert .nilIface 52 107 true).run Try.prog w = .ok (.tuple #[.agg #[.slice none 0 0], .bool false]) w := run_assert_nil w _ _ _ _ Try.underlying107 rfl (by kernel_rfl)
end Go.Proofs.Ythlbboppdmdceaa
