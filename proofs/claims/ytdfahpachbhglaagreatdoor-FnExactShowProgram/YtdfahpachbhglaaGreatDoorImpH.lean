/-
  Walks: as what a node may stand, by the program.
-/
import Derived.Test.YtdfahpachbhglaaGreatDoorImpF
namespace Go.Proofs.YtdfahpachbhglaaGreatDoor
open Go.RowKit

/-- As what a node of a kind may stand: 1 a value, 2 a statement, 3 a block, 0 nothing. -/
def roleOf (kd : Int) : Int := if valueQ kd then 1 else if stmtQ kd then 2 else if kd = 20 then 3 else 0

set_option maxRecDepth 100000 in
set_option maxHeartbeats 4000000 in
theorem stands_any (kd nu : Int) (nm mo it : ByteArray) (kv : Value) (ks : List Int) (w : World) (hK : IntsAt w kv ks) :
    Calls Tryz.prog 87 #[.agg #[.int .i64 kd, .int .i64 nu, .string nm, .string mo, .string it, kv]] w fun e w' => e = .returned (.int .i64 (roleOf kd)) ∧ Below w.heap.size w w' := by
  have hb : Below w.heap.size w (w.alloc (.cells #[.int .i64 kd, .int .i64 nu, .string nm, .string mo, .string it, kv] 78)) := (Below.refl _ _).alloc (Nat.le_refl _) _
  have HK := hide (hK.stays hb)
  have HB := hide hb
  have C := fun w h => hide (typed_any kd nu nm mo it kv ks w h)
  clear hb
  obtain ⟨ao, c, rfl, _⟩ := hK
  by_cases h1 : kd = 1
  · subst h1
    have e : roleOf 1 = 1 := rfl
    rw [e]
    have e : typedV 1 nu nm mo it (.slice ao ks.length c) ks = .iface 138 (.agg #[.int .i64 nu]) := rfl
    rw [e] at C
    clear e
    have y0 := fun w => on_numNode (.agg #[.int .i64 nu]) w
    have y1 := fun w => off_varNode 138 (.agg #[.int .i64 nu]) w (by decide)
    have y2 := fun w => off_calcNode 138 (.agg #[.int .i64 nu]) w (by decide)
    have y3 := fun w => off_notNode 138 (.agg #[.int .i64 nu]) w (by decide)
    have y4 := fun w => off_negNode 138 (.agg #[.int .i64 nu]) w (by decide)
    have y5 := fun w => off_setNode 138 (.agg #[.int .i64 nu]) w (by decide)
    have y6 := fun w => off_ifNode 138 (.agg #[.int .i64 nu]) w (by decide)
    have y7 := fun w => off_whileNode 138 (.agg #[.int .i64 nu]) w (by decide)
    have y8 := fun w => off_callNode 138 (.agg #[.int .i64 nu]) w (by decide)
    have y9 := fun w => off_printNode 138 (.agg #[.int .i64 nu]) w (by decide)
    have y10 := fun w => off_readNode 138 (.agg #[.int .i64 nu]) w (by decide)
    have y11 := fun w => off_delayNode 138 (.agg #[.int .i64 nu]) w (by decide)
    have y12 := fun w => off_contNode 138 (.agg #[.int .i64 nu]) w (by decide)
    have y13 := fun w => off_skipNode 138 (.agg #[.int .i64 nu]) w (by decide)
    have y14 := fun w => off_blockNode 138 (.agg #[.int .i64 nu]) w (by decide)
    (
  go_enter Tryz.func87, Tryz.ntmps87;
  go_wp2_with (go_at_call 80; refine (unhide (C _ HK.out)).mono ?_; rintro e w2 ⟨rfl, hb2⟩; have HB := hide (HB.out.trans (hb2.mono HB.out.size)); clear hb2);
  go_ret;
  exact ⟨rfl, HB.out⟩)
  by_cases h2 : kd = 2
  · subst h2
    have e : roleOf 2 = 1 := rfl
    rw [e]
    have e : typedV 2 nu nm mo it (.slice ao ks.length c) ks = .iface 140 (.agg #[.string nm]) := rfl
    rw [e] at C
    clear e
    have y0 := fun w => off_numNode 140 (.agg #[.string nm]) w (by decide)
    have y1 := fun w => on_varNode (.agg #[.string nm]) w
    have y2 := fun w => off_calcNode 140 (.agg #[.string nm]) w (by decide)
    have y3 := fun w => off_notNode 140 (.agg #[.string nm]) w (by decide)
    have y4 := fun w => off_negNode 140 (.agg #[.string nm]) w (by decide)
    have y5 := fun w => off_setNode 140 (.agg #[.string nm]) w (by decide)
    have y6 := fun w => off_ifNode 140 (.agg #[.string nm]) w (by decide)
    have y7 := fun w => off_whileNode 140 (.agg #[.string nm]) w (by decide)
    have y8 := fun w => off_callNode 140 (.agg #[.string nm]) w (by decide)
    have y9 := fun w => off_printNode 140 (.agg #[.string nm]) w (by decide)
    have y10 := fun w => off_readNode 140 (.agg #[.string nm]) w (by decide)
    have y11 := fun w => off_delayNode 140 (.agg #[.string nm]) w (by decide)
    have y12 := fun w => off_contNode 140 (.agg #[.string nm]) w (by decide)
    have y13 := fun w => off_skipNode 140 (.agg #[.string nm]) w (by decide)
    have y14 := fun w => off_blockNode 140 (.agg #[.string nm]) w (by decide)
    (
  go_enter Tryz.func87, Tryz.ntmps87;
  go_wp2_with (go_at_call 80; refine (unhide (C _ HK.out)).mono ?_; rintro e w2 ⟨rfl, hb2⟩; have HB := hide (HB.out.trans (hb2.mono HB.out.size)); clear hb2);
  go_ret;
  exact ⟨rfl, HB.out⟩)
  by_cases h3 : kd = 3
  · subst h3
    have e : roleOf 3 = 1 := rfl
    rw [e]
    have e : typedV 3 nu nm mo it (.slice ao ks.length c) ks = .iface 143 (.agg #[.int .i64 nu, .int .i64 (ks[0]?.getD (-1)), .int .i64 (ks[1]?.getD (-1))]) := rfl
    rw [e] at C
    clear e
    have y0 := fun w => off_numNode 143 (.agg #[.int .i64 nu, .int .i64 (ks[0]?.getD (-1)), .int .i64 (ks[1]?.getD (-1))]) w (by decide)
    have y1 := fun w => off_varNode 143 (.agg #[.int .i64 nu, .int .i64 (ks[0]?.getD (-1)), .int .i64 (ks[1]?.getD (-1))]) w (by decide)
    have y2 := fun w => on_calcNode (.agg #[.int .i64 nu, .int .i64 (ks[0]?.getD (-1)), .int .i64 (ks[1]?.getD (-1))]) w
    have y3 := fun w => off_notNode 143 (.agg #[.int .i64 nu, .int .i64 (ks[0]?.getD (-1)), .int .i64 (ks[1]?.getD (-1))]) w (by decide)
    have y4 := fun w => off_negNode 143 (.agg #[.int .i64 nu, .int .i64 (ks[0]?.getD (-1)), .int .i64 (ks[1]?.getD (-1))]) w (by decide)
    have y5 := fun w => off_setNode 143 (.agg #[.int .i64 nu, .int .i64 (ks[0]?.getD (-1)), .int .i64 (ks[1]?.getD (-1))]) w (by decide)
    have y6 := fun w => off_ifNode 143 (.agg #[.int .i64 nu, .int .i64 (ks[0]?.getD (-1)), .int .i64 (ks[1]?.getD (-1))]) w (by decide)
    have y7 := fun w => off_whileNode 143 (.agg #[.int .i64 nu, .int .i64 (ks[0]?.getD (-1)), .int .i64 (ks[1]?.getD (-1))]) w (by decide)
    have y8 := fun w => off_callNode 143 (.agg #[.int .i64 nu, .int .i64 (ks[0]?.getD (-1)), .int .i64 (ks[1]?.getD (-1))]) w (by decide)
    have y9 := fun w => off_printNode 143 (.agg #[.int .i64 nu, .int .i64 (ks[0]?.getD (-1)), .int .i64 (ks[1]?.getD (-1))]) w (by decide)
    have y10 := fun w => off_readNode 143 (.agg #[.int .i64 nu, .int .i64 (ks[0]?.getD (-1)), .int .i64 (ks[1]?.getD (-1))]) w (by decide)
    have y11 := fun w => off_delayNode 143 (.agg #[.int .i64 nu, .int .i64 (ks[0]?.getD (-1)), .int .i64 (ks[1]?.getD (-1))]) w (by decide)
    have y12 := fun w => off_contNode 143 (.agg #[.int .i64 nu, .int .i64 (ks[0]?.getD (-1)), .int .i64 (ks[1]?.getD (-1))]) w (by decide)
    have y13 := fun w => off_skipNode 143 (.agg #[.int .i64 nu, .int .i64 (ks[0]?.getD (-1)), .int .i64 (ks[1]?.getD (-1))]) w (by decide)
    have y14 := fun w => off_blockNode 143 (.agg #[.int .i64 nu, .int .i64 (ks[0]?.getD (-1)), .int .i64 (ks[1]?.getD (-1))]) w (by decide)
    (
  go_enter Tryz.func87, Tryz.ntmps87;
  go_wp2_with (go_at_call 80; refine (unhide (C _ HK.out)).mono ?_; rintro e w2 ⟨rfl, hb2⟩; have HB := hide (HB.out.trans (hb2.mono HB.out.size)); clear hb2);
  go_ret;
  exact ⟨rfl, HB.out⟩)
  by_cases h4 : kd = 4
  · subst h4
    have e : roleOf 4 = 1 := rfl
    rw [e]
    have e : typedV 4 nu nm mo it (.slice ao ks.length c) ks = .iface 145 (.agg #[.int .i64 (ks[0]?.getD (-1))]) := rfl
    rw [e] at C
    clear e
    have y0 := fun w => off_numNode 145 (.agg #[.int .i64 (ks[0]?.getD (-1))]) w (by decide)
    have y1 := fun w => off_varNode 145 (.agg #[.int .i64 (ks[0]?.getD (-1))]) w (by decide)
    have y2 := fun w => off_calcNode 145 (.agg #[.int .i64 (ks[0]?.getD (-1))]) w (by decide)
    have y3 := fun w => on_notNode (.agg #[.int .i64 (ks[0]?.getD (-1))]) w
    have y4 := fun w => off_negNode 145 (.agg #[.int .i64 (ks[0]?.getD (-1))]) w (by decide)
    have y5 := fun w => off_setNode 145 (.agg #[.int .i64 (ks[0]?.getD (-1))]) w (by decide)
    have y6 := fun w => off_ifNode 145 (.agg #[.int .i64 (ks[0]?.getD (-1))]) w (by decide)
    have y7 := fun w => off_whileNode 145 (.agg #[.int .i64 (ks[0]?.getD (-1))]) w (by decide)
    have y8 := fun w => off_callNode 145 (.agg #[.int .i64 (ks[0]?.getD (-1))]) w (by decide)
    have y9 := fun w => off_printNode 145 (.agg #[.int .i64 (ks[0]?.getD (-1))]) w (by decide)
    have y10 := fun w => off_readNode 145 (.agg #[.int .i64 (ks[0]?.getD (-1))]) w (by decide)
    have y11 := fun w => off_delayNode 145 (.agg #[.int .i64 (ks[0]?.getD (-1))]) w (by decide)
    have y12 := fun w => off_contNode 145 (.agg #[.int .i64 (ks[0]?.getD (-1))]) w (by decide)
    have y13 := fun w => off_skipNode 145 (.agg #[.int .i64 (ks[0]?.getD (-1))]) w (by decide)
    have y14 := fun w => off_blockNode 145 (.agg #[.int .i64 (ks[0]?.getD (-1))]) w (by decide)
    (
  go_enter Tryz.func87, Tryz.ntmps87;
  go_wp2_with (go_at_call 80; refine (unhide (C _ HK.out)).mono ?_; rintro e w2 ⟨rfl, hb2⟩; have HB := hide (HB.out.trans (hb2.mono HB.out.size)); clear hb2);
  go_ret;
  exact ⟨rfl, HB.out⟩)
  by_cases h5 : kd = 5
  · subst h5
    have e : roleOf 5 = 1 := rfl
    rw [e]
    have e : typedV 5 nu nm mo it (.slice ao ks.length c) ks = .iface 146 (.agg #[.int .i64 (ks[0]?.getD (-1))]) := rfl
    rw [e] at C
    clear e
    have y0 := fun w => off_numNode 146 (.agg #[.int .i64 (ks[0]?.getD (-1))]) w (by decide)
    have y1 := fun w => off_varNode 146 (.agg #[.int .i64 (ks[0]?.getD (-1))]) w (by decide)
    have y2 := fun w => off_calcNode 146 (.agg #[.int .i64 (ks[0]?.getD (-1))]) w (by decide)
    have y3 := fun w => off_notNode 146 (.agg #[.int .i64 (ks[0]?.getD (-1))]) w (by decide)
    have y4 := fun w => on_negNode (.agg #[.int .i64 (ks[0]?.getD (-1))]) w
    have y5 := fun w => off_setNode 146 (.agg #[.int .i64 (ks[0]?.getD (-1))]) w (by decide)
    have y6 := fun w => off_ifNode 146 (.agg #[.int .i64 (ks[0]?.getD (-1))]) w (by decide)
    have y7 := fun w => off_whileNode 146 (.agg #[.int .i64 (ks[0]?.getD (-1))]) w (by decide)
    have y8 := fun w => off_callNode 146 (.agg #[.int .i64 (ks[0]?.getD (-1))]) w (by decide)
    have y9 := fun w => off_printNode 146 (.agg #[.int .i64 (ks[0]?.getD (-1))]) w (by decide)
    have y10 := fun w => off_readNode 146 (.agg #[.int .i64 (ks[0]?.getD (-1))]) w (by decide)
    have y11 := fun w => off_delayNode 146 (.agg #[.int .i64 (ks[0]?.getD (-1))]) w (by decide)
    have y12 := fun w => off_contNode 146 (.agg #[.int .i64 (ks[0]?.getD (-1))]) w (by decide)
    have y13 := fun w => off_skipNode 146 (.agg #[.int .i64 (ks[0]?.getD (-1))]) w (by decide)
    have y14 := fun w => off_blockNode 146 (.agg #[.int .i64 (ks[0]?.getD (-1))]) w (by decide)
    (
  go_enter Tryz.func87, Tryz.ntmps87;
  go_wp2_with (go_at_call 80; refine (unhide (C _ HK.out)).mono ?_; rintro e w2 ⟨rfl, hb2⟩; have HB := hide (HB.out.trans (hb2.mono HB.out.size)); clear hb2);
  go_ret;
  exact ⟨rfl, HB.out⟩)
  by_cases h11 : kd = 11
  · subst h11
    have e : roleOf 11 = 2 := rfl
    rw [e]
    have e : typedV 11 nu nm mo it (.slice ao ks.length c) ks = .iface 148 (.agg #[.string nm, .int .i64 (ks[0]?.getD (-1))]) := rfl
    rw [e] at C
    clear e
    have y0 := fun w => off_numNode 148 (.agg #[.string nm, .int .i64 (ks[0]?.getD (-1))]) w (by decide)
    have y1 := fun w => off_varNode 148 (.agg #[.string nm, .int .i64 (ks[0]?.getD (-1))]) w (by decide)
    have y2 := fun w => off_calcNode 148 (.agg #[.string nm, .int .i64 (ks[0]?.getD (-1))]) w (by decide)
    have y3 := fun w => off_notNode 148 (.agg #[.string nm, .int .i64 (ks[0]?.getD (-1))]) w (by decide)
    have y4 := fun w => off_negNode 148 (.agg #[.string nm, .int .i64 (ks[0]?.getD (-1))]) w (by decide)
    have y5 := fun w => on_setNode (.agg #[.string nm, .int .i64 (ks[0]?.getD (-1))]) w
    have y6 := fun w => off_ifNode 148 (.agg #[.string nm, .int .i64 (ks[0]?.getD (-1))]) w (by decide)
    have y7 := fun w => off_whileNode 148 (.agg #[.string nm, .int .i64 (ks[0]?.getD (-1))]) w (by decide)
    have y8 := fun w => off_callNode 148 (.agg #[.string nm, .int .i64 (ks[0]?.getD (-1))]) w (by decide)
    have y9 := fun w => off_printNode 148 (.agg #[.string nm, .int .i64 (ks[0]?.getD (-1))]) w (by decide)
    have y10 := fun w => off_readNode 148 (.agg #[.string nm, .int .i64 (ks[0]?.getD (-1))]) w (by decide)
    have y11 := fun w => off_delayNode 148 (.agg #[.string nm, .int .i64 (ks[0]?.getD (-1))]) w (by decide)
    have y12 := fun w => off_contNode 148 (.agg #[.string nm, .int .i64 (ks[0]?.getD (-1))]) w (by decide)
    have y13 := fun w => off_skipNode 148 (.agg #[.string nm, .int .i64 (ks[0]?.getD (-1))]) w (by decide)
    have y14 := fun w => off_blockNode 148 (.agg #[.string nm, .int .i64 (ks[0]?.getD (-1))]) w (by decide)
    (
  go_enter Tryz.func87, Tryz.ntmps87;
  go_wp2_with (go_at_call 80; refine (unhide (C _ HK.out)).mono ?_; rintro e w2 ⟨rfl, hb2⟩; have HB := hide (HB.out.trans (hb2.mono HB.out.size)); clear hb2);
  go_ret;
  exact ⟨rfl, HB.out⟩)
  by_cases h12 : kd = 12
  · subst h12
    have e : roleOf 12 = 2 := rfl
    rw [e]
    have e : typedV 12 nu nm mo it (.slice ao ks.length c) ks = .iface 150 (.agg #[.int .i64 (ks[0]?.getD (-1)), .int .i64 (ks[1]?.getD (-1)), .int .i64 (ks[2]?.getD (-1))]) := rfl
    rw [e] at C
    clear e
    have y0 := fun w => off_numNode 150 (.agg #[.int .i64 (ks[0]?.getD (-1)), .int .i64 (ks[1]?.getD (-1)), .int .i64 (ks[2]?.getD (-1))]) w (by decide)
    have y1 := fun w => off_varNode 150 (.agg #[.int .i64 (ks[0]?.getD (-1)), .int .i64 (ks[1]?.getD (-1)), .int .i64 (ks[2]?.getD (-1))]) w (by decide)
    have y2 := fun w => off_calcNode 150 (.agg #[.int .i64 (ks[0]?.getD (-1)), .int .i64 (ks[1]?.getD (-1)), .int .i64 (ks[2]?.getD (-1))]) w (by decide)
    have y3 := fun w => off_notNode 150 (.agg #[.int .i64 (ks[0]?.getD (-1)), .int .i64 (ks[1]?.getD (-1)), .int .i64 (ks[2]?.getD (-1))]) w (by decide)
    have y4 := fun w => off_negNode 150 (.agg #[.int .i64 (ks[0]?.getD (-1)), .int .i64 (ks[1]?.getD (-1)), .int .i64 (ks[2]?.getD (-1))]) w (by decide)
    have y5 := fun w => off_setNode 150 (.agg #[.int .i64 (ks[0]?.getD (-1)), .int .i64 (ks[1]?.getD (-1)), .int .i64 (ks[2]?.getD (-1))]) w (by decide)
    have y6 := fun w => on_ifNode (.agg #[.int .i64 (ks[0]?.getD (-1)), .int .i64 (ks[1]?.getD (-1)), .int .i64 (ks[2]?.getD (-1))]) w
    have y7 := fun w => off_whileNode 150 (.agg #[.int .i64 (ks[0]?.getD (-1)), .int .i64 (ks[1]?.getD (-1)), .int .i64 (ks[2]?.getD (-1))]) w (by decide)
    have y8 := fun w => off_callNode 150 (.agg #[.int .i64 (ks[0]?.getD (-1)), .int .i64 (ks[1]?.getD (-1)), .int .i64 (ks[2]?.getD (-1))]) w (by decide)
    have y9 := fun w => off_printNode 150 (.agg #[.int .i64 (ks[0]?.getD (-1)), .int .i64 (ks[1]?.getD (-1)), .int .i64 (ks[2]?.getD (-1))]) w (by decide)
    have y10 := fun w => off_readNode 150 (.agg #[.int .i64 (ks[0]?.getD (-1)), .int .i64 (ks[1]?.getD (-1)), .int .i64 (ks[2]?.getD (-1))]) w (by decide)
    have y11 := fun w => off_delayNode 150 (.agg #[.int .i64 (ks[0]?.getD (-1)), .int .i64 (ks[1]?.getD (-1)), .int .i64 (ks[2]?.getD (-1))]) w (by decide)
    have y12 := fun w => off_contNode 150 (.agg #[.int .i64 (ks[0]?.getD (-1)), .int .i64 (ks[1]?.getD (-1)), .int .i64 (ks[2]?.getD (-1))]) w (by decide)
    have y13 := fun w => off_skipNode 150 (.agg #[.int .i64 (ks[0]?.getD (-1)), .int .i64 (ks[1]?.getD (-1)), .int .i64 (ks[2]?.getD (-1))]) w (by decide)
    have y14 := fun w => off_blockNode 150 (.agg #[.int .i64 (ks[0]?.getD (-1)), .int .i64 (ks[1]?.getD (-1)), .int .i64 (ks[2]?.getD (-1))]) w (by decide)
    (
  go_enter Tryz.func87, Tryz.ntmps87;
  go_wp2_with (go_at_call 80; refine (unhide (C _ HK.out)).mono ?_; rintro e w2 ⟨rfl, hb2⟩; have HB := hide (HB.out.trans (hb2.mono HB.out.size)); clear hb2);
  go_ret;
  exact ⟨rfl, HB.out⟩)
  by_cases h13 : kd = 13
  · subst h13
    have e : roleOf 13 = 2 := rfl
    rw [e]
    have e : typedV 13 nu nm mo it (.slice ao ks.length c) ks = .iface 152 (.agg #[.int .i64 (ks[0]?.getD (-1)), .int .i64 (ks[1]?.getD (-1))]) := rfl
    rw [e] at C
    clear e
    have y0 := fun w => off_numNode 152 (.agg #[.int .i64 (ks[0]?.getD (-1)), .int .i64 (ks[1]?.getD (-1))]) w (by decide)
    have y1 := fun w => off_varNode 152 (.agg #[.int .i64 (ks[0]?.getD (-1)), .int .i64 (ks[1]?.getD (-1))]) w (by decide)
    have y2 := fun w => off_calcNode 152 (.agg #[.int .i64 (ks[0]?.getD (-1)), .int .i64 (ks[1]?.getD (-1))]) w (by decide)
    have y3 := fun w => off_notNode 152 (.agg #[.int .i64 (ks[0]?.getD (-1)), .int .i64 (ks[1]?.getD (-1))]) w (by decide)
    have y4 := fun w => off_negNode 152 (.agg #[.int .i64 (ks[0]?.getD (-1)), .int .i64 (ks[1]?.getD (-1))]) w (by decide)
    have y5 := fun w => off_setNode 152 (.agg #[.int .i64 (ks[0]?.getD (-1)), .int .i64 (ks[1]?.getD (-1))]) w (by decide)
    have y6 := fun w => off_ifNode 152 (.agg #[.int .i64 (ks[0]?.getD (-1)), .int .i64 (ks[1]?.getD (-1))]) w (by decide)
    have y7 := fun w => on_whileNode (.agg #[.int .i64 (ks[0]?.getD (-1)), .int .i64 (ks[1]?.getD (-1))]) w
    have y8 := fun w => off_callNode 152 (.agg #[.int .i64 (ks[0]?.getD (-1)), .int .i64 (ks[1]?.getD (-1))]) w (by decide)
    have y9 := fun w => off_printNode 152 (.agg #[.int .i64 (ks[0]?.getD (-1)), .int .i64 (ks[1]?.getD (-1))]) w (by decide)
    have y10 := fun w => off_readNode 152 (.agg #[.int .i64 (ks[0]?.getD (-1)), .int .i64 (ks[1]?.getD (-1))]) w (by decide)
    have y11 := fun w => off_delayNode 152 (.agg #[.int .i64 (ks[0]?.getD (-1)), .int .i64 (ks[1]?.getD (-1))]) w (by decide)
    have y12 := fun w => off_contNode 152 (.agg #[.int .i64 (ks[0]?.getD (-1)), .int .i64 (ks[1]?.getD (-1))]) w (by decide)
    have y13 := fun w => off_skipNode 152 (.agg #[.int .i64 (ks[0]?.getD (-1)), .int .i64 (ks[1]?.getD (-1))]) w (by decide)
    have y14 := fun w => off_blockNode 152 (.agg #[.int .i64 (ks[0]?.getD (-1)), .int .i64 (ks[1]?.getD (-1))]) w (by decide)
    (
  go_enter Tryz.func87, Tryz.ntmps87;
  go_wp2_with (go_at_call 80; refine (unhide (C _ HK.out)).mono ?_; rintro e w2 ⟨rfl, hb2⟩; have HB := hide (HB.out.trans (hb2.mono HB.out.size)); clear hb2);
  go_ret;
  exact ⟨rfl, HB.out⟩)
  by_cases h14 : kd = 14
  · subst h14
    have e : roleOf 14 = 2 := rfl
    rw [e]
    have e : typedV 14 nu nm mo it (.slice ao ks.length c) ks = .iface 154 (.agg #[.string nm, .string mo, .string it, .int .i64 (ks[0]?.getD (-1))]) := rfl
    rw [e] at C
    clear e
    have y0 := fun w => off_numNode 154 (.agg #[.string nm, .string mo, .string it, .int .i64 (ks[0]?.getD (-1))]) w (by decide)
    have y1 := fun w => off_varNode 154 (.agg #[.string nm, .string mo, .string it, .int .i64 (ks[0]?.getD (-1))]) w (by decide)
    have y2 := fun w => off_calcNode 154 (.agg #[.string nm, .string mo, .string it, .int .i64 (ks[0]?.getD (-1))]) w (by decide)
    have y3 := fun w => off_notNode 154 (.agg #[.string nm, .string mo, .string it, .int .i64 (ks[0]?.getD (-1))]) w (by decide)
    have y4 := fun w => off_negNode 154 (.agg #[.string nm, .string mo, .string it, .int .i64 (ks[0]?.getD (-1))]) w (by decide)
    have y5 := fun w => off_setNode 154 (.agg #[.string nm, .string mo, .string it, .int .i64 (ks[0]?.getD (-1))]) w (by decide)
    have y6 := fun w => off_ifNode 154 (.agg #[.string nm, .string mo, .string it, .int .i64 (ks[0]?.getD (-1))]) w (by decide)
    have y7 := fun w => off_whileNode 154 (.agg #[.string nm, .string mo, .string it, .int .i64 (ks[0]?.getD (-1))]) w (by decide)
    have y8 := fun w => on_callNode (.agg #[.string nm, .string mo, .string it, .int .i64 (ks[0]?.getD (-1))]) w
    have y9 := fun w => off_printNode 154 (.agg #[.string nm, .string mo, .string it, .int .i64 (ks[0]?.getD (-1))]) w (by decide)
    have y10 := fun w => off_readNode 154 (.agg #[.string nm, .string mo, .string it, .int .i64 (ks[0]?.getD (-1))]) w (by decide)
    have y11 := fun w => off_delayNode 154 (.agg #[.string nm, .string mo, .string it, .int .i64 (ks[0]?.getD (-1))]) w (by decide)
    have y12 := fun w => off_contNode 154 (.agg #[.string nm, .string mo, .string it, .int .i64 (ks[0]?.getD (-1))]) w (by decide)
    have y13 := fun w => off_skipNode 154 (.agg #[.string nm, .string mo, .string it, .int .i64 (ks[0]?.getD (-1))]) w (by decide)
    have y14 := fun w => off_blockNode 154 (.agg #[.string nm, .string mo, .string it, .int .i64 (ks[0]?.getD (-1))]) w (by decide)
    (
  go_enter Tryz.func87, Tryz.ntmps87;
  go_wp2_with (go_at_call 80; refine (unhide (C _ HK.out)).mono ?_; rintro e w2 ⟨rfl, hb2⟩; have HB := hide (HB.out.trans (hb2.mono HB.out.size)); clear hb2);
  go_ret;
  exact ⟨rfl, HB.out⟩)
  by_cases h15 : kd = 15
  · subst h15
    have e : roleOf 15 = 2 := rfl
    rw [e]
    have e : typedV 15 nu nm mo it (.slice ao ks.length c) ks = .iface 156 (.agg #[.int .i64 (ks[0]?.getD (-1))]) := rfl
    rw [e] at C
    clear e
    have y0 := fun w => off_numNode 156 (.agg #[.int .i64 (ks[0]?.getD (-1))]) w (by decide)
    have y1 := fun w => off_varNode 156 (.agg #[.int .i64 (ks[0]?.getD (-1))]) w (by decide)
    have y2 := fun w => off_calcNode 156 (.agg #[.int .i64 (ks[0]?.getD (-1))]) w (by decide)
    have y3 := fun w => off_notNode 156 (.agg #[.int .i64 (ks[0]?.getD (-1))]) w (by decide)
    have y4 := fun w => off_negNode 156 (.agg #[.int .i64 (ks[0]?.getD (-1))]) w (by decide)
    have y5 := fun w => off_setNode 156 (.agg #[.int .i64 (ks[0]?.getD (-1))]) w (by decide)
    have y6 := fun w => off_ifNode 156 (.agg #[.int .i64 (ks[0]?.getD (-1))]) w (by decide)
    have y7 := fun w => off_whileNode 156 (.agg #[.int .i64 (ks[0]?.getD (-1))]) w (by decide)
    have y8 := fun w => off_callNode 156 (.agg #[.int .i64 (ks[0]?.getD (-1))]) w (by decide)
    have y9 := fun w => on_printNode (.agg #[.int .i64 (ks[0]?.getD (-1))]) w
    have y10 := fun w => off_readNode 156 (.agg #[.int .i64 (ks[0]?.getD (-1))]) w (by decide)
    have y11 := fun w => off_delayNode 156 (.agg #[.int .i64 (ks[0]?.getD (-1))]) w (by decide)
    have y12 := fun w => off_contNode 156 (.agg #[.int .i64 (ks[0]?.getD (-1))]) w (by decide)
    have y13 := fun w => off_skipNode 156 (.agg #[.int .i64 (ks[0]?.getD (-1))]) w (by decide)
    have y14 := fun w => off_blockNode 156 (.agg #[.int .i64 (ks[0]?.getD (-1))]) w (by decide)
    (
  go_enter Tryz.func87, Tryz.ntmps87;
  go_wp2_with (go_at_call 80; refine (unhide (C _ HK.out)).mono ?_; rintro e w2 ⟨rfl, hb2⟩; have HB := hide (HB.out.trans (hb2.mono HB.out.size)); clear hb2);
  go_ret;
  exact ⟨rfl, HB.out⟩)
  by_cases h16 : kd = 16
  · subst h16
    have e : roleOf 16 = 2 := rfl
    rw [e]
    have e : typedV 16 nu nm mo it (.slice ao ks.length c) ks = .iface 157 (.agg #[.string nm]) := rfl
    rw [e] at C
    clear e
    have y0 := fun w => off_numNode 157 (.agg #[.string nm]) w (by decide)
    have y1 := fun w => off_varNode 157 (.agg #[.string nm]) w (by decide)
    have y2 := fun w => off_calcNode 157 (.agg #[.string nm]) w (by decide)
    have y3 := fun w => off_notNode 157 (.agg #[.string nm]) w (by decide)
    have y4 := fun w => off_negNode 157 (.agg #[.string nm]) w (by decide)
    have y5 := fun w => off_setNode 157 (.agg #[.string nm]) w (by decide)
    have y6 := fun w => off_ifNode 157 (.agg #[.string nm]) w (by decide)
    have y7 := fun w => off_whileNode 157 (.agg #[.string nm]) w (by decide)
    have y8 := fun w => off_callNode 157 (.agg #[.string nm]) w (by decide)
    have y9 := fun w => off_printNode 157 (.agg #[.string nm]) w (by decide)
    have y10 := fun w => on_readNode (.agg #[.string nm]) w
    have y11 := fun w => off_delayNode 157 (.agg #[.string nm]) w (by decide)
    have y12 := fun w => off_contNode 157 (.agg #[.string nm]) w (by decide)
    have y13 := fun w => off_skipNode 157 (.agg #[.string nm]) w (by decide)
    have y14 := fun w => off_blockNode 157 (.agg #[.string nm]) w (by decide)
    (
  go_enter Tryz.func87, Tryz.ntmps87;
  go_wp2_with (go_at_call 80; refine (unhide (C _ HK.out)).mono ?_; rintro e w2 ⟨rfl, hb2⟩; have HB := hide (HB.out.trans (hb2.mono HB.out.size)); clear hb2);
  go_ret;
  exact ⟨rfl, HB.out⟩)
  by_cases h17 : kd = 17
  · subst h17
    have e : roleOf 17 = 2 := rfl
    rw [e]
    have e : typedV 17 nu nm mo it (.slice ao ks.length c) ks = .iface 158 (.agg #[.string nm]) := rfl
    rw [e] at C
    clear e
    have y0 := fun w => off_numNode 158 (.agg #[.string nm]) w (by decide)
    have y1 := fun w => off_varNode 158 (.agg #[.string nm]) w (by decide)
    have y2 := fun w => off_calcNode 158 (.agg #[.string nm]) w (by decide)
    have y3 := fun w => off_notNode 158 (.agg #[.string nm]) w (by decide)
    have y4 := fun w => off_negNode 158 (.agg #[.string nm]) w (by decide)
    have y5 := fun w => off_setNode 158 (.agg #[.string nm]) w (by decide)
    have y6 := fun w => off_ifNode 158 (.agg #[.string nm]) w (by decide)
    have y7 := fun w => off_whileNode 158 (.agg #[.string nm]) w (by decide)
    have y8 := fun w => off_callNode 158 (.agg #[.string nm]) w (by decide)
    have y9 := fun w => off_printNode 158 (.agg #[.string nm]) w (by decide)
    have y10 := fun w => off_readNode 158 (.agg #[.string nm]) w (by decide)
    have y11 := fun w => on_delayNode (.agg #[.string nm]) w
    have y12 := fun w => off_contNode 158 (.agg #[.string nm]) w (by decide)
    have y13 := fun w => off_skipNode 158 (.agg #[.string nm]) w (by decide)
    have y14 := fun w => off_blockNode 158 (.agg #[.string nm]) w (by decide)
    (
  go_enter Tryz.func87, Tryz.ntmps87;
  go_wp2_with (go_at_call 80; refine (unhide (C _ HK.out)).mono ?_; rintro e w2 ⟨rfl, hb2⟩; have HB := hide (HB.out.trans (hb2.mono HB.out.size)); clear hb2);
  go_ret;
  exact ⟨rfl, HB.out⟩)
  by_cases h18 : kd = 18
  · subst h18
    have e : roleOf 18 = 2 := rfl
    rw [e]
    have e : typedV 18 nu nm mo it (.slice ao ks.length c) ks = .iface 159 (.agg #[.string nm]) := rfl
    rw [e] at C
    clear e
    have y0 := fun w => off_numNode 159 (.agg #[.string nm]) w (by decide)
    have y1 := fun w => off_varNode 159 (.agg #[.string nm]) w (by decide)
    have y2 := fun w => off_calcNode 159 (.agg #[.string nm]) w (by decide)
    have y3 := fun w => off_notNode 159 (.agg #[.string nm]) w (by decide)
    have y4 := fun w => off_negNode 159 (.agg #[.string nm]) w (by decide)
    have y5 := fun w => off_setNode 159 (.agg #[.string nm]) w (by decide)
    have y6 := fun w => off_ifNode 159 (.agg #[.string nm]) w (by decide)
    have y7 := fun w => off_whileNode 159 (.agg #[.string nm]) w (by decide)
    have y8 := fun w => off_callNode 159 (.agg #[.string nm]) w (by decide)
    have y9 := fun w => off_printNode 159 (.agg #[.string nm]) w (by decide)
    have y10 := fun w => off_readNode 159 (.agg #[.string nm]) w (by decide)
    have y11 := fun w => off_delayNode 159 (.agg #[.string nm]) w (by decide)
    have y12 := fun w => on_contNode (.agg #[.string nm]) w
    have y13 := fun w => off_skipNode 159 (.agg #[.string nm]) w (by decide)
    have y14 := fun w => off_blockNode 159 (.agg #[.string nm]) w (by decide)
    (
  go_enter Tryz.func87, Tryz.ntmps87;
  go_wp2_with (go_at_call 80; refine (unhide (C _ HK.out)).mono ?_; rintro e w2 ⟨rfl, hb2⟩; have HB := hide (HB.out.trans (hb2.mono HB.out.size)); clear hb2);
  go_ret;
  exact ⟨rfl, HB.out⟩)
  by_cases h19 : kd = 19
  · subst h19
    have e : roleOf 19 = 2 := rfl
    rw [e]
    have e : typedV 19 nu nm mo it (.slice ao ks.length c) ks = .iface 161 (.agg #[]) := rfl
    rw [e] at C
    clear e
    have y0 := fun w => off_numNode 161 (.agg #[]) w (by decide)
    have y1 := fun w => off_varNode 161 (.agg #[]) w (by decide)
    have y2 := fun w => off_calcNode 161 (.agg #[]) w (by decide)
    have y3 := fun w => off_notNode 161 (.agg #[]) w (by decide)
    have y4 := fun w => off_negNode 161 (.agg #[]) w (by decide)
    have y5 := fun w => off_setNode 161 (.agg #[]) w (by decide)
    have y6 := fun w => off_ifNode 161 (.agg #[]) w (by decide)
    have y7 := fun w => off_whileNode 161 (.agg #[]) w (by decide)
    have y8 := fun w => off_callNode 161 (.agg #[]) w (by decide)
    have y9 := fun w => off_printNode 161 (.agg #[]) w (by decide)
    have y10 := fun w => off_readNode 161 (.agg #[]) w (by decide)
    have y11 := fun w => off_delayNode 161 (.agg #[]) w (by decide)
    have y12 := fun w => off_contNode 161 (.agg #[]) w (by decide)
    have y13 := fun w => on_skipNode (.agg #[]) w
    have y14 := fun w => off_blockNode 161 (.agg #[]) w (by decide)
    (
  go_enter Tryz.func87, Tryz.ntmps87;
  go_wp2_with (go_at_call 80; refine (unhide (C _ HK.out)).mono ?_; rintro e w2 ⟨rfl, hb2⟩; have HB := hide (HB.out.trans (hb2.mono HB.out.size)); clear hb2);
  go_ret;
  exact ⟨rfl, HB.out⟩)
  by_cases h20 : kd = 20
  · subst h20
    have e : roleOf 20 = 3 := rfl
    rw [e]
    have e : typedV 20 nu nm mo it (.slice ao ks.length c) ks = .iface 130 (.agg #[.slice ao ks.length c]) := rfl
    rw [e] at C
    clear e
    have y0 := fun w => off_numNode 130 (.agg #[.slice ao ks.length c]) w (by decide)
    have y1 := fun w => off_varNode 130 (.agg #[.slice ao ks.length c]) w (by decide)
    have y2 := fun w => off_calcNode 130 (.agg #[.slice ao ks.length c]) w (by decide)
    have y3 := fun w => off_notNode 130 (.agg #[.slice ao ks.length c]) w (by decide)
    have y4 := fun w => off_negNode 130 (.agg #[.slice ao ks.length c]) w (by decide)
    have y5 := fun w => off_setNode 130 (.agg #[.slice ao ks.length c]) w (by decide)
    have y6 := fun w => off_ifNode 130 (.agg #[.slice ao ks.length c]) w (by decide)
    have y7 := fun w => off_whileNode 130 (.agg #[.slice ao ks.length c]) w (by decide)
    have y8 := fun w => off_callNode 130 (.agg #[.slice ao ks.length c]) w (by decide)
    have y9 := fun w => off_printNode 130 (.agg #[.slice ao ks.length c]) w (by decide)
    have y10 := fun w => off_readNode 130 (.agg #[.slice ao ks.length c]) w (by decide)
    have y11 := fun w => off_delayNode 130 (.agg #[.slice ao ks.length c]) w (by decide)
    have y12 := fun w => off_contNode 130 (.agg #[.slice ao ks.length c]) w (by decide)
    have y13 := fun w => off_skipNode 130 (.agg #[.slice ao ks.length c]) w (by decide)
    have y14 := fun w => on_blockNode (.agg #[.slice ao ks.length c]) w
    (
  go_enter Tryz.func87, Tryz.ntmps87;
  go_wp2_with (go_at_call 80; refine (unhide (C _ HK.out)).mono ?_; rintro e w2 ⟨rfl, hb2⟩; have HB := hide (HB.out.trans (hb2.mono HB.out.size)); clear hb2);
  go_ret;
  exact ⟨rfl, HB.out⟩)
  have e : roleOf kd = 0 := by
    have e1 : valueQ kd = false := by rw [valueQ, inZ_no]; omega
    have e2 : stmtQ kd = false := by rw [stmtQ, inZ_no]; omega
    simp [roleOf, e1, e2, h20]
  rw [e]
  have e : typedV kd nu nm mo it (.slice ao ks.length c) ks = .nilIface := by
    simp only [typedV, if_neg h1, if_neg h2, if_neg h3, if_neg h4, if_neg h5, if_neg h11, if_neg h12, if_neg h13, if_neg h14, if_neg h15, if_neg h16, if_neg h17, if_neg h18, if_neg h19, if_neg h20]
  rw [e] at C
  clear e
  have y0 := nil_numNode
  have y1 := nil_varNode
  have y2 := nil_calcNode
  have y3 := nil_notNode
  have y4 := nil_negNode
  have y5 := nil_setNode
  have y6 := nil_ifNode
  have y7 := nil_whileNode
  have y8 := nil_callNode
  have y9 := nil_printNode
  have y10 := nil_readNode
  have y11 := nil_delayNode
  have y12 := nil_contNode
  have y13 := nil_skipNode
  have y14 := nil_blockNode
  (
  go_enter Tryz.func87, Tryz.ntmps87;
  go_wp2_with (go_at_call 80; refine (unhide (C _ HK.out)).mono ?_; rintro e w2 ⟨rfl, hb2⟩; have HB := hide (HB.out.trans (hb2.mono HB.out.size)); clear hb2);
  go_ret;
  exact ⟨rfl, HB.out⟩)
end Go.Proofs.YtdfahpachbhglaaGreatDoor
