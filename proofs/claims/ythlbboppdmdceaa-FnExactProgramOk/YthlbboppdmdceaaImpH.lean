/-
  Walks: as what a node may stand, by the program.
-/
import Derived.Test.YthlbboppdmdceaaImpE
import Derived.Test.YthlbboppdmdceaaAstW
namespace Go.Proofs.Ythlbboppdmdceaa
open Go.RowKit

/-- As what a node of a kind may stand: 1 a value, 2 a statement, 3 a block, 0 nothing. -/
def roleOf (kd : Int) : Int := if valueQ kd then 1 else if stmtQ kd then 2 else if kd = 20 then 3 else 0

set_option maxRecDepth 100000 in
set_option maxHeartbeats 4000000 in
theorem stands_any (kd nu : Int) (nm mo it : ByteArray) (kv : Value) (ks : List Int) (w : World) (hK : IntsAt w kv ks) :
    Calls Try.prog 73 #[.agg #[.int .i64 kd, .int .i64 nu, .string nm, .string mo, .string it, kv]] w fun e w' => e = .returned (.int .i64 (roleOf kd)) ∧ Below w.heap.size w w' := by
  have hb : Below w.heap.size w (w.alloc (.cells #[.int .i64 kd, .int .i64 nu, .string nm, .string mo, .string it, kv] 45)) := (Below.refl _ _).alloc (Nat.le_refl _) _
  have HK := hide (hK.stays hb)
  have HB := hide hb
  have C := fun w h => hide (typed_any kd nu nm mo it kv ks w h)
  clear hb
  obtain ⟨ao, c, rfl, _⟩ := hK
  by_cases h1 : kd = 1
  · subst h1
    have e : roleOf 1 = 1 := rfl
    rw [e]
    have e : typedV 1 nu nm mo it (.slice ao ks.length c) ks = .iface 82 (.agg #[.int .i64 nu]) := rfl
    rw [e] at C
    clear e
    have y0 := fun w => on_numNode (.agg #[.int .i64 nu]) w
    have y1 := fun w => off_varNode 82 (.agg #[.int .i64 nu]) w (by decide)
    have y2 := fun w => off_calcNode 82 (.agg #[.int .i64 nu]) w (by decide)
    have y3 := fun w => off_notNode 82 (.agg #[.int .i64 nu]) w (by decide)
    have y4 := fun w => off_negNode 82 (.agg #[.int .i64 nu]) w (by decide)
    have y5 := fun w => off_setNode 82 (.agg #[.int .i64 nu]) w (by decide)
    have y6 := fun w => off_ifNode 82 (.agg #[.int .i64 nu]) w (by decide)
    have y7 := fun w => off_whileNode 82 (.agg #[.int .i64 nu]) w (by decide)
    have y8 := fun w => off_callNode 82 (.agg #[.int .i64 nu]) w (by decide)
    have y9 := fun w => off_printNode 82 (.agg #[.int .i64 nu]) w (by decide)
    have y10 := fun w => off_readNode 82 (.agg #[.int .i64 nu]) w (by decide)
    have y11 := fun w => off_delayNode 82 (.agg #[.int .i64 nu]) w (by decide)
    have y12 := fun w => off_contNode 82 (.agg #[.int .i64 nu]) w (by decide)
    have y13 := fun w => off_skipNode 82 (.agg #[.int .i64 nu]) w (by decide)
    have y14 := fun w => off_blockNode 82 (.agg #[.int .i64 nu]) w (by decide)
    (
  go_enter Try.func73, Try.ntmps73;
  go_wp2_with (go_at_call 24; refine (unhide (C _ HK.out)).mono ?_; rintro e w2 ⟨rfl, hb2⟩; have HB := hide (HB.out.trans (hb2.mono HB.out.size)); clear hb2);
  go_ret;
  exact ⟨rfl, HB.out⟩)
  by_cases h2 : kd = 2
  · subst h2
    have e : roleOf 2 = 1 := rfl
    rw [e]
    have e : typedV 2 nu nm mo it (.slice ao ks.length c) ks = .iface 84 (.agg #[.string nm]) := rfl
    rw [e] at C
    clear e
    have y0 := fun w => off_numNode 84 (.agg #[.string nm]) w (by decide)
    have y1 := fun w => on_varNode (.agg #[.string nm]) w
    have y2 := fun w => off_calcNode 84 (.agg #[.string nm]) w (by decide)
    have y3 := fun w => off_notNode 84 (.agg #[.string nm]) w (by decide)
    have y4 := fun w => off_negNode 84 (.agg #[.string nm]) w (by decide)
    have y5 := fun w => off_setNode 84 (.agg #[.string nm]) w (by decide)
    have y6 := fun w => off_ifNode 84 (.agg #[.string nm]) w (by decide)
    have y7 := fun w => off_whileNode 84 (.agg #[.string nm]) w (by decide)
    have y8 := fun w => off_callNode 84 (.agg #[.string nm]) w (by decide)
    have y9 := fun w => off_printNode 84 (.agg #[.string nm]) w (by decide)
    have y10 := fun w => off_readNode 84 (.agg #[.string nm]) w (by decide)
    have y11 := fun w => off_delayNode 84 (.agg #[.string nm]) w (by decide)
    have y12 := fun w => off_contNode 84 (.agg #[.string nm]) w (by decide)
    have y13 := fun w => off_skipNode 84 (.agg #[.string nm]) w (by decide)
    have y14 := fun w => off_blockNode 84 (.agg #[.string nm]) w (by decide)
    (
  go_enter Try.func73, Try.ntmps73;
  go_wp2_with (go_at_call 24; refine (unhide (C _ HK.out)).mono ?_; rintro e w2 ⟨rfl, hb2⟩; have HB := hide (HB.out.trans (hb2.mono HB.out.size)); clear hb2);
  go_ret;
  exact ⟨rfl, HB.out⟩)
  by_cases h3 : kd = 3
  · subst h3
    have e : roleOf 3 = 1 := rfl
    rw [e]
    have e : typedV 3 nu nm mo it (.slice ao ks.length c) ks = .iface 87 (.agg #[.int .i64 nu, .int .i64 (ks[0]?.getD (-1)), .int .i64 (ks[1]?.getD (-1))]) := rfl
    rw [e] at C
    clear e
    have y0 := fun w => off_numNode 87 (.agg #[.int .i64 nu, .int .i64 (ks[0]?.getD (-1)), .int .i64 (ks[1]?.getD (-1))]) w (by decide)
    have y1 := fun w => off_varNode 87 (.agg #[.int .i64 nu, .int .i64 (ks[0]?.getD (-1)), .int .i64 (ks[1]?.getD (-1))]) w (by decide)
    have y2 := fun w => on_calcNode (.agg #[.int .i64 nu, .int .i64 (ks[0]?.getD (-1)), .int .i64 (ks[1]?.getD (-1))]) w
    have y3 := fun w => off_notNode 87 (.agg #[.int .i64 nu, .int .i64 (ks[0]?.getD (-1)), .int .i64 (ks[1]?.getD (-1))]) w (by decide)
    have y4 := fun w => off_negNode 87 (.agg #[.int .i64 nu, .int .i64 (ks[0]?.getD (-1)), .int .i64 (ks[1]?.getD (-1))]) w (by decide)
    have y5 := fun w => off_setNode 87 (.agg #[.int .i64 nu, .int .i64 (ks[0]?.getD (-1)), .int .i64 (ks[1]?.getD (-1))]) w (by decide)
    have y6 := fun w => off_ifNode 87 (.agg #[.int .i64 nu, .int .i64 (ks[0]?.getD (-1)), .int .i64 (ks[1]?.getD (-1))]) w (by decide)
    have y7 := fun w => off_whileNode 87 (.agg #[.int .i64 nu, .int .i64 (ks[0]?.getD (-1)), .int .i64 (ks[1]?.getD (-1))]) w (by decide)
    have y8 := fun w => off_callNode 87 (.agg #[.int .i64 nu, .int .i64 (ks[0]?.getD (-1)), .int .i64 (ks[1]?.getD (-1))]) w (by decide)
    have y9 := fun w => off_printNode 87 (.agg #[.int .i64 nu, .int .i64 (ks[0]?.getD (-1)), .int .i64 (ks[1]?.getD (-1))]) w (by decide)
    have y10 := fun w => off_readNode 87 (.agg #[.int .i64 nu, .int .i64 (ks[0]?.getD (-1)), .int .i64 (ks[1]?.getD (-1))]) w (by decide)
    have y11 := fun w => off_delayNode 87 (.agg #[.int .i64 nu, .int .i64 (ks[0]?.getD (-1)), .int .i64 (ks[1]?.getD (-1))]) w (by decide)
    have y12 := fun w => off_contNode 87 (.agg #[.int .i64 nu, .int .i64 (ks[0]?.getD (-1)), .int .i64 (ks[1]?.getD (-1))]) w (by decide)
    have y13 := fun w => off_skipNode 87 (.agg #[.int .i64 nu, .int .i64 (ks[0]?.getD (-1)), .int .i64 (ks[1]?.getD (-1))]) w (by decide)
    have y14 := fun w => off_blockNode 87 (.agg #[.int .i64 nu, .int .i64 (ks[0]?.getD (-1)), .int .i64 (ks[1]?.getD (-1))]) w (by decide)
    (
  go_enter Try.func73, Try.ntmps73;
  go_wp2_with (go_at_call 24; refine (unhide (C _ HK.out)).mono ?_; rintro e w2 ⟨rfl, hb2⟩; have HB := hide (HB.out.trans (hb2.mono HB.out.size)); clear hb2);
  go_ret;
  exact ⟨rfl, HB.out⟩)
  by_cases h4 : kd = 4
  · subst h4
    have e : roleOf 4 = 1 := rfl
    rw [e]
    have e : typedV 4 nu nm mo it (.slice ao ks.length c) ks = .iface 89 (.agg #[.int .i64 (ks[0]?.getD (-1))]) := rfl
    rw [e] at C
    clear e
    have y0 := fun w => off_numNode 89 (.agg #[.int .i64 (ks[0]?.getD (-1))]) w (by decide)
    have y1 := fun w => off_varNode 89 (.agg #[.int .i64 (ks[0]?.getD (-1))]) w (by decide)
    have y2 := fun w => off_calcNode 89 (.agg #[.int .i64 (ks[0]?.getD (-1))]) w (by decide)
    have y3 := fun w => on_notNode (.agg #[.int .i64 (ks[0]?.getD (-1))]) w
    have y4 := fun w => off_negNode 89 (.agg #[.int .i64 (ks[0]?.getD (-1))]) w (by decide)
    have y5 := fun w => off_setNode 89 (.agg #[.int .i64 (ks[0]?.getD (-1))]) w (by decide)
    have y6 := fun w => off_ifNode 89 (.agg #[.int .i64 (ks[0]?.getD (-1))]) w (by decide)
    have y7 := fun w => off_whileNode 89 (.agg #[.int .i64 (ks[0]?.getD (-1))]) w (by decide)
    have y8 := fun w => off_callNode 89 (.agg #[.int .i64 (ks[0]?.getD (-1))]) w (by decide)
    have y9 := fun w => off_printNode 89 (.agg #[.int .i64 (ks[0]?.getD (-1))]) w (by decide)
    have y10 := fun w => off_readNode 89 (.agg #[.int .i64 (ks[0]?.getD (-1))]) w (by decide)
    have y11 := fun w => off_delayNode 89 (.agg #[.int .i64 (ks[0]?.getD (-1))]) w (by decide)
    have y12 := fun w => off_contNode 89 (.agg #[.int .i64 (ks[0]?.getD (-1))]) w (by decide)
    have y13 := fun w => off_skipNode 89 (.agg #[.int .i64 (ks[0]?.getD (-1))]) w (by decide)
    have y14 := fun w => off_blockNode 89 (.agg #[.int .i64 (ks[0]?.getD (-1))]) w (by decide)
    (
  go_enter Try.func73, Try.ntmps73;
  go_wp2_with (go_at_call 24; refine (unhide (C _ HK.out)).mono ?_; rintro e w2 ⟨rfl, hb2⟩; have HB := hide (HB.out.trans (hb2.mono HB.out.size)); clear hb2);
  go_ret;
  exact ⟨rfl, HB.out⟩)
  by_cases h5 : kd = 5
  · subst h5
    have e : roleOf 5 = 1 := rfl
    rw [e]
    have e : typedV 5 nu nm mo it (.slice ao ks.length c) ks = .iface 90 (.agg #[.int .i64 (ks[0]?.getD (-1))]) := rfl
    rw [e] at C
    clear e
    have y0 := fun w => off_numNode 90 (.agg #[.int .i64 (ks[0]?.getD (-1))]) w (by decide)
    have y1 := fun w => off_varNode 90 (.agg #[.int .i64 (ks[0]?.getD (-1))]) w (by decide)
    have y2 := fun w => off_calcNode 90 (.agg #[.int .i64 (ks[0]?.getD (-1))]) w (by decide)
    have y3 := fun w => off_notNode 90 (.agg #[.int .i64 (ks[0]?.getD (-1))]) w (by decide)
    have y4 := fun w => on_negNode (.agg #[.int .i64 (ks[0]?.getD (-1))]) w
    have y5 := fun w => off_setNode 90 (.agg #[.int .i64 (ks[0]?.getD (-1))]) w (by decide)
    have y6 := fun w => off_ifNode 90 (.agg #[.int .i64 (ks[0]?.getD (-1))]) w (by decide)
    have y7 := fun w => off_whileNode 90 (.agg #[.int .i64 (ks[0]?.getD (-1))]) w (by decide)
    have y8 := fun w => off_callNode 90 (.agg #[.int .i64 (ks[0]?.getD (-1))]) w (by decide)
    have y9 := fun w => off_printNode 90 (.agg #[.int .i64 (ks[0]?.getD (-1))]) w (by decide)
    have y10 := fun w => off_readNode 90 (.agg #[.int .i64 (ks[0]?.getD (-1))]) w (by decide)
    have y11 := fun w => off_delayNode 90 (.agg #[.int .i64 (ks[0]?.getD (-1))]) w (by decide)
    have y12 := fun w => off_contNode 90 (.agg #[.int .i64 (ks[0]?.getD (-1))]) w (by decide)
    have y13 := fun w => off_skipNode 90 (.agg #[.int .i64 (ks[0]?.getD (-1))]) w (by decide)
    have y14 := fun w => off_blockNode 90 (.agg #[.int .i64 (ks[0]?.getD (-1))]) w (by decide)
    (
  go_enter Try.func73, Try.ntmps73;
  go_wp2_with (go_at_call 24; refine (unhide (C _ HK.out)).mono ?_; rintro e w2 ⟨rfl, hb2⟩; have HB := hide (HB.out.trans (hb2.mono HB.out.size)); clear hb2);
  go_ret;
  exact ⟨rfl, HB.out⟩)
  by_cases h11 : kd = 11
  · subst h11
    have e : roleOf 11 = 2 := rfl
    rw [e]
    have e : typedV 11 nu nm mo it (.slice ao ks.length c) ks = .iface 92 (.agg #[.string nm, .int .i64 (ks[0]?.getD (-1))]) := rfl
    rw [e] at C
    clear e
    have y0 := fun w => off_numNode 92 (.agg #[.string nm, .int .i64 (ks[0]?.getD (-1))]) w (by decide)
    have y1 := fun w => off_varNode 92 (.agg #[.string nm, .int .i64 (ks[0]?.getD (-1))]) w (by decide)
    have y2 := fun w => off_calcNode 92 (.agg #[.string nm, .int .i64 (ks[0]?.getD (-1))]) w (by decide)
    have y3 := fun w => off_notNode 92 (.agg #[.string nm, .int .i64 (ks[0]?.getD (-1))]) w (by decide)
    have y4 := fun w => off_negNode 92 (.agg #[.string nm, .int .i64 (ks[0]?.getD (-1))]) w (by decide)
    have y5 := fun w => on_setNode (.agg #[.string nm, .int .i64 (ks[0]?.getD (-1))]) w
    have y6 := fun w => off_ifNode 92 (.agg #[.string nm, .int .i64 (ks[0]?.getD (-1))]) w (by decide)
    have y7 := fun w => off_whileNode 92 (.agg #[.string nm, .int .i64 (ks[0]?.getD (-1))]) w (by decide)
    have y8 := fun w => off_callNode 92 (.agg #[.string nm, .int .i64 (ks[0]?.getD (-1))]) w (by decide)
    have y9 := fun w => off_printNode 92 (.agg #[.string nm, .int .i64 (ks[0]?.getD (-1))]) w (by decide)
    have y10 := fun w => off_readNode 92 (.agg #[.string nm, .int .i64 (ks[0]?.getD (-1))]) w (by decide)
    have y11 := fun w => off_delayNode 92 (.agg #[.string nm, .int .i64 (ks[0]?.getD (-1))]) w (by decide)
    have y12 := fun w => off_contNode 92 (.agg #[.string nm, .int .i64 (ks[0]?.getD (-1))]) w (by decide)
    have y13 := fun w => off_skipNode 92 (.agg #[.string nm, .int .i64 (ks[0]?.getD (-1))]) w (by decide)
    have y14 := fun w => off_blockNode 92 (.agg #[.string nm, .int .i64 (ks[0]?.getD (-1))]) w (by decide)
    (
  go_enter Try.func73, Try.ntmps73;
  go_wp2_with (go_at_call 24; refine (unhide (C _ HK.out)).mono ?_; rintro e w2 ⟨rfl, hb2⟩; have HB := hide (HB.out.trans (hb2.mono HB.out.size)); clear hb2);
  go_ret;
  exact ⟨rfl, HB.out⟩)
  by_cases h12 : kd = 12
  · subst h12
    have e : roleOf 12 = 2 := rfl
    rw [e]
    have e : typedV 12 nu nm mo it (.slice ao ks.length c) ks = .iface 94 (.agg #[.int .i64 (ks[0]?.getD (-1)), .int .i64 (ks[1]?.getD (-1)), .int .i64 (ks[2]?.getD (-1))]) := rfl
    rw [e] at C
    clear e
    have y0 := fun w => off_numNode 94 (.agg #[.int .i64 (ks[0]?.getD (-1)), .int .i64 (ks[1]?.getD (-1)), .int .i64 (ks[2]?.getD (-1))]) w (by decide)
    have y1 := fun w => off_varNode 94 (.agg #[.int .i64 (ks[0]?.getD (-1)), .int .i64 (ks[1]?.getD (-1)), .int .i64 (ks[2]?.getD (-1))]) w (by decide)
    have y2 := fun w => off_calcNode 94 (.agg #[.int .i64 (ks[0]?.getD (-1)), .int .i64 (ks[1]?.getD (-1)), .int .i64 (ks[2]?.getD (-1))]) w (by decide)
    have y3 := fun w => off_notNode 94 (.agg #[.int .i64 (ks[0]?.getD (-1)), .int .i64 (ks[1]?.getD (-1)), .int .i64 (ks[2]?.getD (-1))]) w (by decide)
    have y4 := fun w => off_negNode 94 (.agg #[.int .i64 (ks[0]?.getD (-1)), .int .i64 (ks[1]?.getD (-1)), .int .i64 (ks[2]?.getD (-1))]) w (by decide)
    have y5 := fun w => off_setNode 94 (.agg #[.int .i64 (ks[0]?.getD (-1)), .int .i64 (ks[1]?.getD (-1)), .int .i64 (ks[2]?.getD (-1))]) w (by decide)
    have y6 := fun w => on_ifNode (.agg #[.int .i64 (ks[0]?.getD (-1)), .int .i64 (ks[1]?.getD (-1)), .int .i64 (ks[2]?.getD (-1))]) w
    have y7 := fun w => off_whileNode 94 (.agg #[.int .i64 (ks[0]?.getD (-1)), .int .i64 (ks[1]?.getD (-1)), .int .i64 (ks[2]?.getD (-1))]) w (by decide)
    have y8 := fun w => off_callNode 94 (.agg #[.int .i64 (ks[0]?.getD (-1)), .int .i64 (ks[1]?.getD (-1)), .int .i64 (ks[2]?.getD (-1))]) w (by decide)
    have y9 := fun w => off_printNode 94 (.agg #[.int .i64 (ks[0]?.getD (-1)), .int .i64 (ks[1]?.getD (-1)), .int .i64 (ks[2]?.getD (-1))]) w (by decide)
    have y10 := fun w => off_readNode 94 (.agg #[.int .i64 (ks[0]?.getD (-1)), .int .i64 (ks[1]?.getD (-1)), .int .i64 (ks[2]?.getD (-1))]) w (by decide)
    have y11 := fun w => off_delayNode 94 (.agg #[.int .i64 (ks[0]?.getD (-1)), .int .i64 (ks[1]?.getD (-1)), .int .i64 (ks[2]?.getD (-1))]) w (by decide)
    have y12 := fun w => off_contNode 94 (.agg #[.int .i64 (ks[0]?.getD (-1)), .int .i64 (ks[1]?.getD (-1)), .int .i64 (ks[2]?.getD (-1))]) w (by decide)
    have y13 := fun w => off_skipNode 94 (.agg #[.int .i64 (ks[0]?.getD (-1)), .int .i64 (ks[1]?.getD (-1)), .int .i64 (ks[2]?.getD (-1))]) w (by decide)
    have y14 := fun w => off_blockNode 94 (.agg #[.int .i64 (ks[0]?.getD (-1)), .int .i64 (ks[1]?.getD (-1)), .int .i64 (ks[2]?.getD (-1))]) w (by decide)
    (
  go_enter Try.func73, Try.ntmps73;
  go_wp2_with (go_at_call 24; refine (unhide (C _ HK.out)).mono ?_; rintro e w2 ⟨rfl, hb2⟩; have HB := hide (HB.out.trans (hb2.mono HB.out.size)); clear hb2);
  go_ret;
  exact ⟨rfl, HB.out⟩)
  by_cases h13 : kd = 13
  · subst h13
    have e : roleOf 13 = 2 := rfl
    rw [e]
    have e : typedV 13 nu nm mo it (.slice ao ks.length c) ks = .iface 96 (.agg #[.int .i64 (ks[0]?.getD (-1)), .int .i64 (ks[1]?.getD (-1))]) := rfl
    rw [e] at C
    clear e
    have y0 := fun w => off_numNode 96 (.agg #[.int .i64 (ks[0]?.getD (-1)), .int .i64 (ks[1]?.getD (-1))]) w (by decide)
    have y1 := fun w => off_varNode 96 (.agg #[.int .i64 (ks[0]?.getD (-1)), .int .i64 (ks[1]?.getD (-1))]) w (by decide)
    have y2 := fun w => off_calcNode 96 (.agg #[.int .i64 (ks[0]?.getD (-1)), .int .i64 (ks[1]?.getD (-1))]) w (by decide)
    have y3 := fun w => off_notNode 96 (.agg #[.int .i64 (ks[0]?.getD (-1)), .int .i64 (ks[1]?.getD (-1))]) w (by decide)
    have y4 := fun w => off_negNode 96 (.agg #[.int .i64 (ks[0]?.getD (-1)), .int .i64 (ks[1]?.getD (-1))]) w (by decide)
    have y5 := fun w => off_setNode 96 (.agg #[.int .i64 (ks[0]?.getD (-1)), .int .i64 (ks[1]?.getD (-1))]) w (by decide)
    have y6 := fun w => off_ifNode 96 (.agg #[.int .i64 (ks[0]?.getD (-1)), .int .i64 (ks[1]?.getD (-1))]) w (by decide)
    have y7 := fun w => on_whileNode (.agg #[.int .i64 (ks[0]?.getD (-1)), .int .i64 (ks[1]?.getD (-1))]) w
    have y8 := fun w => off_callNode 96 (.agg #[.int .i64 (ks[0]?.getD (-1)), .int .i64 (ks[1]?.getD (-1))]) w (by decide)
    have y9 := fun w => off_printNode 96 (.agg #[.int .i64 (ks[0]?.getD (-1)), .int .i64 (ks[1]?.getD (-1))]) w (by decide)
    have y10 := fun w => off_readNode 96 (.agg #[.int .i64 (ks[0]?.getD (-1)), .int .i64 (ks[1]?.getD (-1))]) w (by decide)
    have y11 := fun w => off_delayNode 96 (.agg #[.int .i64 (ks[0]?.getD (-1)), .int .i64 (ks[1]?.getD (-1))]) w (by decide)
    have y12 := fun w => off_contNode 96 (.agg #[.int .i64 (ks[0]?.getD (-1)), .int .i64 (ks[1]?.getD (-1))]) w (by decide)
    have y13 := fun w => off_skipNode 96 (.agg #[.int .i64 (ks[0]?.getD (-1)), .int .i64 (ks[1]?.getD (-1))]) w (by decide)
    have y14 := fun w => off_blockNode 96 (.agg #[.int .i64 (ks[0]?.getD (-1)), .int .i64 (ks[1]?.getD (-1))]) w (by decide)
    (
  go_enter Try.func73, Try.ntmps73;
  go_wp2_with (go_at_call 24; refine (unhide (C _ HK.out)).mono ?_; rintro e w2 ⟨rfl, hb2⟩; have HB := hide (HB.out.trans (hb2.mono HB.out.size)); clear hb2);
  go_ret;
  exact ⟨rfl, HB.out⟩)
  by_cases h14 : kd = 14
  · subst h14
    have e : roleOf 14 = 2 := rfl
    rw [e]
    have e : typedV 14 nu nm mo it (.slice ao ks.length c) ks = .iface 98 (.agg #[.string nm, .string mo, .string it, .int .i64 (ks[0]?.getD (-1))]) := rfl
    rw [e] at C
    clear e
    have y0 := fun w => off_numNode 98 (.agg #[.string nm, .string mo, .string it, .int .i64 (ks[0]?.getD (-1))]) w (by decide)
    have y1 := fun w => off_varNode 98 (.agg #[.string nm, .string mo, .string it, .int .i64 (ks[0]?.getD (-1))]) w (by decide)
    have y2 := fun w => off_calcNode 98 (.agg #[.string nm, .string mo, .string it, .int .i64 (ks[0]?.getD (-1))]) w (by decide)
    have y3 := fun w => off_notNode 98 (.agg #[.string nm, .string mo, .string it, .int .i64 (ks[0]?.getD (-1))]) w (by decide)
    have y4 := fun w => off_negNode 98 (.agg #[.string nm, .string mo, .string it, .int .i64 (ks[0]?.getD (-1))]) w (by decide)
    have y5 := fun w => off_setNode 98 (.agg #[.string nm, .string mo, .string it, .int .i64 (ks[0]?.getD (-1))]) w (by decide)
    have y6 := fun w => off_ifNode 98 (.agg #[.string nm, .string mo, .string it, .int .i64 (ks[0]?.getD (-1))]) w (by decide)
    have y7 := fun w => off_whileNode 98 (.agg #[.string nm, .string mo, .string it, .int .i64 (ks[0]?.getD (-1))]) w (by decide)
    have y8 := fun w => on_callNode (.agg #[.string nm, .string mo, .string it, .int .i64 (ks[0]?.getD (-1))]) w
    have y9 := fun w => off_printNode 98 (.agg #[.string nm, .string mo, .string it, .int .i64 (ks[0]?.getD (-1))]) w (by decide)
    have y10 := fun w => off_readNode 98 (.agg #[.string nm, .string mo, .string it, .int .i64 (ks[0]?.getD (-1))]) w (by decide)
    have y11 := fun w => off_delayNode 98 (.agg #[.string nm, .string mo, .string it, .int .i64 (ks[0]?.getD (-1))]) w (by decide)
    have y12 := fun w => off_contNode 98 (.agg #[.string nm, .string mo, .string it, .int .i64 (ks[0]?.getD (-1))]) w (by decide)
    have y13 := fun w => off_skipNode 98 (.agg #[.string nm, .string mo, .string it, .int .i64 (ks[0]?.getD (-1))]) w (by decide)
    have y14 := fun w => off_blockNode 98 (.agg #[.string nm, .string mo, .string it, .int .i64 (ks[0]?.getD (-1))]) w (by decide)
    (
  go_enter Try.func73, Try.ntmps73;
  go_wp2_with (go_at_call 24; refine (unhide (C _ HK.out)).mono ?_; rintro e w2 ⟨rfl, hb2⟩; have HB := hide (HB.out.trans (hb2.mono HB.out.size)); clear hb2);
  go_ret;
  exact ⟨rfl, HB.out⟩)
  by_cases h15 : kd = 15
  · subst h15
    have e : roleOf 15 = 2 := rfl
    rw [e]
    have e : typedV 15 nu nm mo it (.slice ao ks.length c) ks = .iface 100 (.agg #[.int .i64 (ks[0]?.getD (-1))]) := rfl
    rw [e] at C
    clear e
    have y0 := fun w => off_numNode 100 (.agg #[.int .i64 (ks[0]?.getD (-1))]) w (by decide)
    have y1 := fun w => off_varNode 100 (.agg #[.int .i64 (ks[0]?.getD (-1))]) w (by decide)
    have y2 := fun w => off_calcNode 100 (.agg #[.int .i64 (ks[0]?.getD (-1))]) w (by decide)
    have y3 := fun w => off_notNode 100 (.agg #[.int .i64 (ks[0]?.getD (-1))]) w (by decide)
    have y4 := fun w => off_negNode 100 (.agg #[.int .i64 (ks[0]?.getD (-1))]) w (by decide)
    have y5 := fun w => off_setNode 100 (.agg #[.int .i64 (ks[0]?.getD (-1))]) w (by decide)
    have y6 := fun w => off_ifNode 100 (.agg #[.int .i64 (ks[0]?.getD (-1))]) w (by decide)
    have y7 := fun w => off_whileNode 100 (.agg #[.int .i64 (ks[0]?.getD (-1))]) w (by decide)
    have y8 := fun w => off_callNode 100 (.agg #[.int .i64 (ks[0]?.getD (-1))]) w (by decide)
    have y9 := fun w => on_printNode (.agg #[.int .i64 (ks[0]?.getD (-1))]) w
    have y10 := fun w => off_readNode 100 (.agg #[.int .i64 (ks[0]?.getD (-1))]) w (by decide)
    have y11 := fun w => off_delayNode 100 (.agg #[.int .i64 (ks[0]?.getD (-1))]) w (by decide)
    have y12 := fun w => off_contNode 100 (.agg #[.int .i64 (ks[0]?.getD (-1))]) w (by decide)
    have y13 := fun w => off_skipNode 100 (.agg #[.int .i64 (ks[0]?.getD (-1))]) w (by decide)
    have y14 := fun w => off_blockNode 100 (.agg #[.int .i64 (ks[0]?.getD (-1))]) w (by decide)
    (
  go_enter Try.func73, Try.ntmps73;
  go_wp2_with (go_at_call 24; refine (unhide (C _ HK.out)).mono ?_; rintro e w2 ⟨rfl, hb2⟩; have HB := hide (HB.out.trans (hb2.mono HB.out.size)); clear hb2);
  go_ret;
  exact ⟨rfl, HB.out⟩)
  by_cases h16 : kd = 16
  · subst h16
    have e : roleOf 16 = 2 := rfl
    rw [e]
    have e : typedV 16 nu nm mo it (.slice ao ks.length c) ks = .iface 101 (.agg #[.string nm]) := rfl
    rw [e] at C
    clear e
    have y0 := fun w => off_numNode 101 (.agg #[.string nm]) w (by decide)
    have y1 := fun w => off_varNode 101 (.agg #[.string nm]) w (by decide)
    have y2 := fun w => off_calcNode 101 (.agg #[.string nm]) w (by decide)
    have y3 := fun w => off_notNode 101 (.agg #[.string nm]) w (by decide)
    have y4 := fun w => off_negNode 101 (.agg #[.string nm]) w (by decide)
    have y5 := fun w => off_setNode 101 (.agg #[.string nm]) w (by decide)
    have y6 := fun w => off_ifNode 101 (.agg #[.string nm]) w (by decide)
    have y7 := fun w => off_whileNode 101 (.agg #[.string nm]) w (by decide)
    have y8 := fun w => off_callNode 101 (.agg #[.string nm]) w (by decide)
    have y9 := fun w => off_printNode 101 (.agg #[.string nm]) w (by decide)
    have y10 := fun w => on_readNode (.agg #[.string nm]) w
    have y11 := fun w => off_delayNode 101 (.agg #[.string nm]) w (by decide)
    have y12 := fun w => off_contNode 101 (.agg #[.string nm]) w (by decide)
    have y13 := fun w => off_skipNode 101 (.agg #[.string nm]) w (by decide)
    have y14 := fun w => off_blockNode 101 (.agg #[.string nm]) w (by decide)
    (
  go_enter Try.func73, Try.ntmps73;
  go_wp2_with (go_at_call 24; refine (unhide (C _ HK.out)).mono ?_; rintro e w2 ⟨rfl, hb2⟩; have HB := hide (HB.out.trans (hb2.mono HB.out.size)); clear hb2);
  go_ret;
  exact ⟨rfl, HB.out⟩)
  by_cases h17 : kd = 17
  · subst h17
    have e : roleOf 17 = 2 := rfl
    rw [e]
    have e : typedV 17 nu nm mo it (.slice ao ks.length c) ks = .iface 102 (.agg #[.string nm]) := rfl
    rw [e] at C
    clear e
    have y0 := fun w => off_numNode 102 (.agg #[.string nm]) w (by decide)
    have y1 := fun w => off_varNode 102 (.agg #[.string nm]) w (by decide)
    have y2 := fun w => off_calcNode 102 (.agg #[.string nm]) w (by decide)
    have y3 := fun w => off_notNode 102 (.agg #[.string nm]) w (by decide)
    have y4 := fun w => off_negNode 102 (.agg #[.string nm]) w (by decide)
    have y5 := fun w => off_setNode 102 (.agg #[.string nm]) w (by decide)
    have y6 := fun w => off_ifNode 102 (.agg #[.string nm]) w (by decide)
    have y7 := fun w => off_whileNode 102 (.agg #[.string nm]) w (by decide)
    have y8 := fun w => off_callNode 102 (.agg #[.string nm]) w (by decide)
    have y9 := fun w => off_printNode 102 (.agg #[.string nm]) w (by decide)
    have y10 := fun w => off_readNode 102 (.agg #[.string nm]) w (by decide)
    have y11 := fun w => on_delayNode (.agg #[.string nm]) w
    have y12 := fun w => off_contNode 102 (.agg #[.string nm]) w (by decide)
    have y13 := fun w => off_skipNode 102 (.agg #[.string nm]) w (by decide)
    have y14 := fun w => off_blockNode 102 (.agg #[.string nm]) w (by decide)
    (
  go_enter Try.func73, Try.ntmps73;
  go_wp2_with (go_at_call 24; refine (unhide (C _ HK.out)).mono ?_; rintro e w2 ⟨rfl, hb2⟩; have HB := hide (HB.out.trans (hb2.mono HB.out.size)); clear hb2);
  go_ret;
  exact ⟨rfl, HB.out⟩)
  by_cases h18 : kd = 18
  · subst h18
    have e : roleOf 18 = 2 := rfl
    rw [e]
    have e : typedV 18 nu nm mo it (.slice ao ks.length c) ks = .iface 103 (.agg #[.string nm]) := rfl
    rw [e] at C
    clear e
    have y0 := fun w => off_numNode 103 (.agg #[.string nm]) w (by decide)
    have y1 := fun w => off_varNode 103 (.agg #[.string nm]) w (by decide)
    have y2 := fun w => off_calcNode 103 (.agg #[.string nm]) w (by decide)
    have y3 := fun w => off_notNode 103 (.agg #[.string nm]) w (by decide)
    have y4 := fun w => off_negNode 103 (.agg #[.string nm]) w (by decide)
    have y5 := fun w => off_setNode 103 (.agg #[.string nm]) w (by decide)
    have y6 := fun w => off_ifNode 103 (.agg #[.string nm]) w (by decide)
    have y7 := fun w => off_whileNode 103 (.agg #[.string nm]) w (by decide)
    have y8 := fun w => off_callNode 103 (.agg #[.string nm]) w (by decide)
    have y9 := fun w => off_printNode 103 (.agg #[.string nm]) w (by decide)
    have y10 := fun w => off_readNode 103 (.agg #[.string nm]) w (by decide)
    have y11 := fun w => off_delayNode 103 (.agg #[.string nm]) w (by decide)
    have y12 := fun w => on_contNode (.agg #[.string nm]) w
    have y13 := fun w => off_skipNode 103 (.agg #[.string nm]) w (by decide)
    have y14 := fun w => off_blockNode 103 (.agg #[.string nm]) w (by decide)
    (
  go_enter Try.func73, Try.ntmps73;
  go_wp2_with (go_at_call 24; refine (unhide (C _ HK.out)).mono ?_; rintro e w2 ⟨rfl, hb2⟩; have HB := hide (HB.out.trans (hb2.mono HB.out.size)); clear hb2);
  go_ret;
  exact ⟨rfl, HB.out⟩)
  by_cases h19 : kd = 19
  · subst h19
    have e : roleOf 19 = 2 := rfl
    rw [e]
    have e : typedV 19 nu nm mo it (.slice ao ks.length c) ks = .iface 105 (.agg #[]) := rfl
    rw [e] at C
    clear e
    have y0 := fun w => off_numNode 105 (.agg #[]) w (by decide)
    have y1 := fun w => off_varNode 105 (.agg #[]) w (by decide)
    have y2 := fun w => off_calcNode 105 (.agg #[]) w (by decide)
    have y3 := fun w => off_notNode 105 (.agg #[]) w (by decide)
    have y4 := fun w => off_negNode 105 (.agg #[]) w (by decide)
    have y5 := fun w => off_setNode 105 (.agg #[]) w (by decide)
    have y6 := fun w => off_ifNode 105 (.agg #[]) w (by decide)
    have y7 := fun w => off_whileNode 105 (.agg #[]) w (by decide)
    have y8 := fun w => off_callNode 105 (.agg #[]) w (by decide)
    have y9 := fun w => off_printNode 105 (.agg #[]) w (by decide)
    have y10 := fun w => off_readNode 105 (.agg #[]) w (by decide)
    have y11 := fun w => off_delayNode 105 (.agg #[]) w (by decide)
    have y12 := fun w => off_contNode 105 (.agg #[]) w (by decide)
    have y13 := fun w => on_skipNode (.agg #[]) w
    have y14 := fun w => off_blockNode 105 (.agg #[]) w (by decide)
    (
  go_enter Try.func73, Try.ntmps73;
  go_wp2_with (go_at_call 24; refine (unhide (C _ HK.out)).mono ?_; rintro e w2 ⟨rfl, hb2⟩; have HB := hide (HB.out.trans (hb2.mono HB.out.size)); clear hb2);
  go_ret;
  exact ⟨rfl, HB.out⟩)
  by_cases h20 : kd = 20
  · subst h20
    have e : roleOf 20 = 3 := rfl
    rw [e]
    have e : typedV 20 nu nm mo it (.slice ao ks.length c) ks = .iface 107 (.agg #[.slice ao ks.length c]) := rfl
    rw [e] at C
    clear e
    have y0 := fun w => off_numNode 107 (.agg #[.slice ao ks.length c]) w (by decide)
    have y1 := fun w => off_varNode 107 (.agg #[.slice ao ks.length c]) w (by decide)
    have y2 := fun w => off_calcNode 107 (.agg #[.slice ao ks.length c]) w (by decide)
    have y3 := fun w => off_notNode 107 (.agg #[.slice ao ks.length c]) w (by decide)
    have y4 := fun w => off_negNode 107 (.agg #[.slice ao ks.length c]) w (by decide)
    have y5 := fun w => off_setNode 107 (.agg #[.slice ao ks.length c]) w (by decide)
    have y6 := fun w => off_ifNode 107 (.agg #[.slice ao ks.length c]) w (by decide)
    have y7 := fun w => off_whileNode 107 (.agg #[.slice ao ks.length c]) w (by decide)
    have y8 := fun w => off_callNode 107 (.agg #[.slice ao ks.length c]) w (by decide)
    have y9 := fun w => off_printNode 107 (.agg #[.slice ao ks.length c]) w (by decide)
    have y10 := fun w => off_readNode 107 (.agg #[.slice ao ks.length c]) w (by decide)
    have y11 := fun w => off_delayNode 107 (.agg #[.slice ao ks.length c]) w (by decide)
    have y12 := fun w => off_contNode 107 (.agg #[.slice ao ks.length c]) w (by decide)
    have y13 := fun w => off_skipNode 107 (.agg #[.slice ao ks.length c]) w (by decide)
    have y14 := fun w => on_blockNode (.agg #[.slice ao ks.length c]) w
    (
  go_enter Try.func73, Try.ntmps73;
  go_wp2_with (go_at_call 24; refine (unhide (C _ HK.out)).mono ?_; rintro e w2 ⟨rfl, hb2⟩; have HB := hide (HB.out.trans (hb2.mono HB.out.size)); clear hb2);
  go_ret;
  exact ⟨rfl, HB.out⟩)
  have e : roleOf kd = 0 := by
    have e1 : valueQ kd = false := by rw [valueQ, inZ_no]; omega
    have e2 : stmtQ kd = false := by rw [stmtQ, inZ_no]; omega
    simp [roleOf, e1, e2, h20]
  rw [e]
  have e : typedV kd nu nm mo it (.slice ao ks.length c) ks = .nilIface := by
    simp only [typedV, if_neg h1, if_neg h2, if_neg h3, if_neg h4, if_neg h5, if_neg h11, if_neg h12, if_neg h13, if_neg h14, if_neg h15, if_neg h16, if_neg h17, if_neg h18, if_neg h19, if_neg h20]
  rw [e] at C
  clear e
  have y0 := nil_numNode
  have y1 := nil_varNode
  have y2 := nil_calcNode
  have y3 := nil_notNode
  have y4 := nil_negNode
  have y5 := nil_setNode
  have y6 := nil_ifNode
  have y7 := nil_whileNode
  have y8 := nil_callNode
  have y9 := nil_printNode
  have y10 := nil_readNode
  have y11 := nil_delayNode
  have y12 := nil_contNode
  have y13 := nil_skipNode
  have y14 := nil_blockNode
  (
  go_enter Try.func73, Try.ntmps73;
  go_wp2_with (go_at_call 24; refine (unhide (C _ HK.out)).mono ?_; rintro e w2 ⟨rfl, hb2⟩; have HB := hide (HB.out.trans (hb2.mono HB.out.size)); clear hb2);
  go_ret;
  exact ⟨rfl, HB.out⟩)
end Go.Proofs.Ythlbboppdmdceaa
