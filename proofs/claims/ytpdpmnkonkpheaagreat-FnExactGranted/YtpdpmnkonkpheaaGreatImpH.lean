/-
  Walks: as what a node may stand, by the program.
-/
import Derived.Test.YtpdpmnkonkpheaaGreatTreeZ
namespace Go.Proofs.YtpdpmnkonkpheaaGreat
open Go.RowKit

/-- As what a node of a kind may stand: 1 a value, 2 a statement, 3 a block, 0 nothing. -/
def roleOf (kd : Int) : Int := if valueQ kd then 1 else if stmtQ kd then 2 else if kd = 20 then 3 else 0

set_option maxRecDepth 100000 in
set_option maxHeartbeats 4000000 in
theorem stands_any (kd nu : Int) (nm mo it : ByteArray) (kv : Value) (ks : List Int) (w : World) (hK : IntsAt w kv ks) :
    Calls Tryz.prog 112 #[.agg #[.int .i64 kd, .int .i64 nu, .string nm, .string mo, .string it, kv]] w fun e w' => e = .returned (.int .i64 (roleOf kd)) ∧ Below w.heap.size w w' := by
  have hb : Below w.heap.size w (w.alloc (.cells #[.int .i64 kd, .int .i64 nu, .string nm, .string mo, .string it, kv] 73)) := (Below.refl _ _).alloc (Nat.le_refl _) _
  have HK := hide (hK.stays hb)
  have HB := hide hb
  have C := fun w h => hide (typed_any kd nu nm mo it kv ks w h)
  clear hb
  obtain ⟨ao, c, rfl, _⟩ := hK
  by_cases h1 : kd = 1
  · subst h1
    have e : roleOf 1 = 1 := rfl
    rw [e]
    have e : typedV 1 nu nm mo it (.slice ao ks.length c) ks = .iface 147 (.agg #[.int .i64 nu]) := rfl
    rw [e] at C
    clear e
    have y0 := fun w => on_numNode (.agg #[.int .i64 nu]) w
    have y1 := fun w => off_varNode 147 (.agg #[.int .i64 nu]) w (by decide)
    have y2 := fun w => off_calcNode 147 (.agg #[.int .i64 nu]) w (by decide)
    have y3 := fun w => off_notNode 147 (.agg #[.int .i64 nu]) w (by decide)
    have y4 := fun w => off_negNode 147 (.agg #[.int .i64 nu]) w (by decide)
    have y5 := fun w => off_setNode 147 (.agg #[.int .i64 nu]) w (by decide)
    have y6 := fun w => off_ifNode 147 (.agg #[.int .i64 nu]) w (by decide)
    have y7 := fun w => off_whileNode 147 (.agg #[.int .i64 nu]) w (by decide)
    have y8 := fun w => off_callNode 147 (.agg #[.int .i64 nu]) w (by decide)
    have y9 := fun w => off_printNode 147 (.agg #[.int .i64 nu]) w (by decide)
    have y10 := fun w => off_readNode 147 (.agg #[.int .i64 nu]) w (by decide)
    have y11 := fun w => off_delayNode 147 (.agg #[.int .i64 nu]) w (by decide)
    have y12 := fun w => off_contNode 147 (.agg #[.int .i64 nu]) w (by decide)
    have y13 := fun w => off_skipNode 147 (.agg #[.int .i64 nu]) w (by decide)
    have y14 := fun w => off_blockNode 147 (.agg #[.int .i64 nu]) w (by decide)
    (
  go_enter Tryz.func112, Tryz.ntmps112;
  go_wp2_with (go_at_call 76; refine (unhide (C _ HK.out)).mono ?_; rintro e w2 ⟨rfl, hb2⟩; have HB := hide (HB.out.trans (hb2.mono HB.out.size)); clear hb2);
  go_ret;
  exact ⟨rfl, HB.out⟩)
  by_cases h2 : kd = 2
  · subst h2
    have e : roleOf 2 = 1 := rfl
    rw [e]
    have e : typedV 2 nu nm mo it (.slice ao ks.length c) ks = .iface 137 (.agg #[.string nm]) := rfl
    rw [e] at C
    clear e
    have y0 := fun w => off_numNode 137 (.agg #[.string nm]) w (by decide)
    have y1 := fun w => on_varNode (.agg #[.string nm]) w
    have y2 := fun w => off_calcNode 137 (.agg #[.string nm]) w (by decide)
    have y3 := fun w => off_notNode 137 (.agg #[.string nm]) w (by decide)
    have y4 := fun w => off_negNode 137 (.agg #[.string nm]) w (by decide)
    have y5 := fun w => off_setNode 137 (.agg #[.string nm]) w (by decide)
    have y6 := fun w => off_ifNode 137 (.agg #[.string nm]) w (by decide)
    have y7 := fun w => off_whileNode 137 (.agg #[.string nm]) w (by decide)
    have y8 := fun w => off_callNode 137 (.agg #[.string nm]) w (by decide)
    have y9 := fun w => off_printNode 137 (.agg #[.string nm]) w (by decide)
    have y10 := fun w => off_readNode 137 (.agg #[.string nm]) w (by decide)
    have y11 := fun w => off_delayNode 137 (.agg #[.string nm]) w (by decide)
    have y12 := fun w => off_contNode 137 (.agg #[.string nm]) w (by decide)
    have y13 := fun w => off_skipNode 137 (.agg #[.string nm]) w (by decide)
    have y14 := fun w => off_blockNode 137 (.agg #[.string nm]) w (by decide)
    (
  go_enter Tryz.func112, Tryz.ntmps112;
  go_wp2_with (go_at_call 76; refine (unhide (C _ HK.out)).mono ?_; rintro e w2 ⟨rfl, hb2⟩; have HB := hide (HB.out.trans (hb2.mono HB.out.size)); clear hb2);
  go_ret;
  exact ⟨rfl, HB.out⟩)
  by_cases h3 : kd = 3
  · subst h3
    have e : roleOf 3 = 1 := rfl
    rw [e]
    have e : typedV 3 nu nm mo it (.slice ao ks.length c) ks = .iface 150 (.agg #[.int .i64 nu, .int .i64 (ks[0]?.getD (-1)), .int .i64 (ks[1]?.getD (-1))]) := rfl
    rw [e] at C
    clear e
    have y0 := fun w => off_numNode 150 (.agg #[.int .i64 nu, .int .i64 (ks[0]?.getD (-1)), .int .i64 (ks[1]?.getD (-1))]) w (by decide)
    have y1 := fun w => off_varNode 150 (.agg #[.int .i64 nu, .int .i64 (ks[0]?.getD (-1)), .int .i64 (ks[1]?.getD (-1))]) w (by decide)
    have y2 := fun w => on_calcNode (.agg #[.int .i64 nu, .int .i64 (ks[0]?.getD (-1)), .int .i64 (ks[1]?.getD (-1))]) w
    have y3 := fun w => off_notNode 150 (.agg #[.int .i64 nu, .int .i64 (ks[0]?.getD (-1)), .int .i64 (ks[1]?.getD (-1))]) w (by decide)
    have y4 := fun w => off_negNode 150 (.agg #[.int .i64 nu, .int .i64 (ks[0]?.getD (-1)), .int .i64 (ks[1]?.getD (-1))]) w (by decide)
    have y5 := fun w => off_setNode 150 (.agg #[.int .i64 nu, .int .i64 (ks[0]?.getD (-1)), .int .i64 (ks[1]?.getD (-1))]) w (by decide)
    have y6 := fun w => off_ifNode 150 (.agg #[.int .i64 nu, .int .i64 (ks[0]?.getD (-1)), .int .i64 (ks[1]?.getD (-1))]) w (by decide)
    have y7 := fun w => off_whileNode 150 (.agg #[.int .i64 nu, .int .i64 (ks[0]?.getD (-1)), .int .i64 (ks[1]?.getD (-1))]) w (by decide)
    have y8 := fun w => off_callNode 150 (.agg #[.int .i64 nu, .int .i64 (ks[0]?.getD (-1)), .int .i64 (ks[1]?.getD (-1))]) w (by decide)
    have y9 := fun w => off_printNode 150 (.agg #[.int .i64 nu, .int .i64 (ks[0]?.getD (-1)), .int .i64 (ks[1]?.getD (-1))]) w (by decide)
    have y10 := fun w => off_readNode 150 (.agg #[.int .i64 nu, .int .i64 (ks[0]?.getD (-1)), .int .i64 (ks[1]?.getD (-1))]) w (by decide)
    have y11 := fun w => off_delayNode 150 (.agg #[.int .i64 nu, .int .i64 (ks[0]?.getD (-1)), .int .i64 (ks[1]?.getD (-1))]) w (by decide)
    have y12 := fun w => off_contNode 150 (.agg #[.int .i64 nu, .int .i64 (ks[0]?.getD (-1)), .int .i64 (ks[1]?.getD (-1))]) w (by decide)
    have y13 := fun w => off_skipNode 150 (.agg #[.int .i64 nu, .int .i64 (ks[0]?.getD (-1)), .int .i64 (ks[1]?.getD (-1))]) w (by decide)
    have y14 := fun w => off_blockNode 150 (.agg #[.int .i64 nu, .int .i64 (ks[0]?.getD (-1)), .int .i64 (ks[1]?.getD (-1))]) w (by decide)
    (
  go_enter Tryz.func112, Tryz.ntmps112;
  go_wp2_with (go_at_call 76; refine (unhide (C _ HK.out)).mono ?_; rintro e w2 ⟨rfl, hb2⟩; have HB := hide (HB.out.trans (hb2.mono HB.out.size)); clear hb2);
  go_ret;
  exact ⟨rfl, HB.out⟩)
  by_cases h4 : kd = 4
  · subst h4
    have e : roleOf 4 = 1 := rfl
    rw [e]
    have e : typedV 4 nu nm mo it (.slice ao ks.length c) ks = .iface 152 (.agg #[.int .i64 (ks[0]?.getD (-1))]) := rfl
    rw [e] at C
    clear e
    have y0 := fun w => off_numNode 152 (.agg #[.int .i64 (ks[0]?.getD (-1))]) w (by decide)
    have y1 := fun w => off_varNode 152 (.agg #[.int .i64 (ks[0]?.getD (-1))]) w (by decide)
    have y2 := fun w => off_calcNode 152 (.agg #[.int .i64 (ks[0]?.getD (-1))]) w (by decide)
    have y3 := fun w => on_notNode (.agg #[.int .i64 (ks[0]?.getD (-1))]) w
    have y4 := fun w => off_negNode 152 (.agg #[.int .i64 (ks[0]?.getD (-1))]) w (by decide)
    have y5 := fun w => off_setNode 152 (.agg #[.int .i64 (ks[0]?.getD (-1))]) w (by decide)
    have y6 := fun w => off_ifNode 152 (.agg #[.int .i64 (ks[0]?.getD (-1))]) w (by decide)
    have y7 := fun w => off_whileNode 152 (.agg #[.int .i64 (ks[0]?.getD (-1))]) w (by decide)
    have y8 := fun w => off_callNode 152 (.agg #[.int .i64 (ks[0]?.getD (-1))]) w (by decide)
    have y9 := fun w => off_printNode 152 (.agg #[.int .i64 (ks[0]?.getD (-1))]) w (by decide)
    have y10 := fun w => off_readNode 152 (.agg #[.int .i64 (ks[0]?.getD (-1))]) w (by decide)
    have y11 := fun w => off_delayNode 152 (.agg #[.int .i64 (ks[0]?.getD (-1))]) w (by decide)
    have y12 := fun w => off_contNode 152 (.agg #[.int .i64 (ks[0]?.getD (-1))]) w (by decide)
    have y13 := fun w => off_skipNode 152 (.agg #[.int .i64 (ks[0]?.getD (-1))]) w (by decide)
    have y14 := fun w => off_blockNode 152 (.agg #[.int .i64 (ks[0]?.getD (-1))]) w (by decide)
    (
  go_enter Tryz.func112, Tryz.ntmps112;
  go_wp2_with (go_at_call 76; refine (unhide (C _ HK.out)).mono ?_; rintro e w2 ⟨rfl, hb2⟩; have HB := hide (HB.out.trans (hb2.mono HB.out.size)); clear hb2);
  go_ret;
  exact ⟨rfl, HB.out⟩)
  by_cases h5 : kd = 5
  · subst h5
    have e : roleOf 5 = 1 := rfl
    rw [e]
    have e : typedV 5 nu nm mo it (.slice ao ks.length c) ks = .iface 153 (.agg #[.int .i64 (ks[0]?.getD (-1))]) := rfl
    rw [e] at C
    clear e
    have y0 := fun w => off_numNode 153 (.agg #[.int .i64 (ks[0]?.getD (-1))]) w (by decide)
    have y1 := fun w => off_varNode 153 (.agg #[.int .i64 (ks[0]?.getD (-1))]) w (by decide)
    have y2 := fun w => off_calcNode 153 (.agg #[.int .i64 (ks[0]?.getD (-1))]) w (by decide)
    have y3 := fun w => off_notNode 153 (.agg #[.int .i64 (ks[0]?.getD (-1))]) w (by decide)
    have y4 := fun w => on_negNode (.agg #[.int .i64 (ks[0]?.getD (-1))]) w
    have y5 := fun w => off_setNode 153 (.agg #[.int .i64 (ks[0]?.getD (-1))]) w (by decide)
    have y6 := fun w => off_ifNode 153 (.agg #[.int .i64 (ks[0]?.getD (-1))]) w (by decide)
    have y7 := fun w => off_whileNode 153 (.agg #[.int .i64 (ks[0]?.getD (-1))]) w (by decide)
    have y8 := fun w => off_callNode 153 (.agg #[.int .i64 (ks[0]?.getD (-1))]) w (by decide)
    have y9 := fun w => off_printNode 153 (.agg #[.int .i64 (ks[0]?.getD (-1))]) w (by decide)
    have y10 := fun w => off_readNode 153 (.agg #[.int .i64 (ks[0]?.getD (-1))]) w (by decide)
    have y11 := fun w => off_delayNode 153 (.agg #[.int .i64 (ks[0]?.getD (-1))]) w (by decide)
    have y12 := fun w => off_contNode 153 (.agg #[.int .i64 (ks[0]?.getD (-1))]) w (by decide)
    have y13 := fun w => off_skipNode 153 (.agg #[.int .i64 (ks[0]?.getD (-1))]) w (by decide)
    have y14 := fun w => off_blockNode 153 (.agg #[.int .i64 (ks[0]?.getD (-1))]) w (by decide)
    (
  go_enter Tryz.func112, Tryz.ntmps112;
  go_wp2_with (go_at_call 76; refine (unhide (C _ HK.out)).mono ?_; rintro e w2 ⟨rfl, hb2⟩; have HB := hide (HB.out.trans (hb2.mono HB.out.size)); clear hb2);
  go_ret;
  exact ⟨rfl, HB.out⟩)
  by_cases h11 : kd = 11
  · subst h11
    have e : roleOf 11 = 2 := rfl
    rw [e]
    have e : typedV 11 nu nm mo it (.slice ao ks.length c) ks = .iface 140 (.agg #[.string nm, .int .i64 (ks[0]?.getD (-1))]) := rfl
    rw [e] at C
    clear e
    have y0 := fun w => off_numNode 140 (.agg #[.string nm, .int .i64 (ks[0]?.getD (-1))]) w (by decide)
    have y1 := fun w => off_varNode 140 (.agg #[.string nm, .int .i64 (ks[0]?.getD (-1))]) w (by decide)
    have y2 := fun w => off_calcNode 140 (.agg #[.string nm, .int .i64 (ks[0]?.getD (-1))]) w (by decide)
    have y3 := fun w => off_notNode 140 (.agg #[.string nm, .int .i64 (ks[0]?.getD (-1))]) w (by decide)
    have y4 := fun w => off_negNode 140 (.agg #[.string nm, .int .i64 (ks[0]?.getD (-1))]) w (by decide)
    have y5 := fun w => on_setNode (.agg #[.string nm, .int .i64 (ks[0]?.getD (-1))]) w
    have y6 := fun w => off_ifNode 140 (.agg #[.string nm, .int .i64 (ks[0]?.getD (-1))]) w (by decide)
    have y7 := fun w => off_whileNode 140 (.agg #[.string nm, .int .i64 (ks[0]?.getD (-1))]) w (by decide)
    have y8 := fun w => off_callNode 140 (.agg #[.string nm, .int .i64 (ks[0]?.getD (-1))]) w (by decide)
    have y9 := fun w => off_printNode 140 (.agg #[.string nm, .int .i64 (ks[0]?.getD (-1))]) w (by decide)
    have y10 := fun w => off_readNode 140 (.agg #[.string nm, .int .i64 (ks[0]?.getD (-1))]) w (by decide)
    have y11 := fun w => off_delayNode 140 (.agg #[.string nm, .int .i64 (ks[0]?.getD (-1))]) w (by decide)
    have y12 := fun w => off_contNode 140 (.agg #[.string nm, .int .i64 (ks[0]?.getD (-1))]) w (by decide)
    have y13 := fun w => off_skipNode 140 (.agg #[.string nm, .int .i64 (ks[0]?.getD (-1))]) w (by decide)
    have y14 := fun w => off_blockNode 140 (.agg #[.string nm, .int .i64 (ks[0]?.getD (-1))]) w (by decide)
    (
  go_enter Tryz.func112, Tryz.ntmps112;
  go_wp2_with (go_at_call 76; refine (unhide (C _ HK.out)).mono ?_; rintro e w2 ⟨rfl, hb2⟩; have HB := hide (HB.out.trans (hb2.mono HB.out.size)); clear hb2);
  go_ret;
  exact ⟨rfl, HB.out⟩)
  by_cases h12 : kd = 12
  · subst h12
    have e : roleOf 12 = 2 := rfl
    rw [e]
    have e : typedV 12 nu nm mo it (.slice ao ks.length c) ks = .iface 155 (.agg #[.int .i64 (ks[0]?.getD (-1)), .int .i64 (ks[1]?.getD (-1)), .int .i64 (ks[2]?.getD (-1))]) := rfl
    rw [e] at C
    clear e
    have y0 := fun w => off_numNode 155 (.agg #[.int .i64 (ks[0]?.getD (-1)), .int .i64 (ks[1]?.getD (-1)), .int .i64 (ks[2]?.getD (-1))]) w (by decide)
    have y1 := fun w => off_varNode 155 (.agg #[.int .i64 (ks[0]?.getD (-1)), .int .i64 (ks[1]?.getD (-1)), .int .i64 (ks[2]?.getD (-1))]) w (by decide)
    have y2 := fun w => off_calcNode 155 (.agg #[.int .i64 (ks[0]?.getD (-1)), .int .i64 (ks[1]?.getD (-1)), .int .i64 (ks[2]?.getD (-1))]) w (by decide)
    have y3 := fun w => off_notNode 155 (.agg #[.int .i64 (ks[0]?.getD (-1)), .int .i64 (ks[1]?.getD (-1)), .int .i64 (ks[2]?.getD (-1))]) w (by decide)
    have y4 := fun w => off_negNode 155 (.agg #[.int .i64 (ks[0]?.getD (-1)), .int .i64 (ks[1]?.getD (-1)), .int .i64 (ks[2]?.getD (-1))]) w (by decide)
    have y5 := fun w => off_setNode 155 (.agg #[.int .i64 (ks[0]?.getD (-1)), .int .i64 (ks[1]?.getD (-1)), .int .i64 (ks[2]?.getD (-1))]) w (by decide)
    have y6 := fun w => on_ifNode (.agg #[.int .i64 (ks[0]?.getD (-1)), .int .i64 (ks[1]?.getD (-1)), .int .i64 (ks[2]?.getD (-1))]) w
    have y7 := fun w => off_whileNode 155 (.agg #[.int .i64 (ks[0]?.getD (-1)), .int .i64 (ks[1]?.getD (-1)), .int .i64 (ks[2]?.getD (-1))]) w (by decide)
    have y8 := fun w => off_callNode 155 (.agg #[.int .i64 (ks[0]?.getD (-1)), .int .i64 (ks[1]?.getD (-1)), .int .i64 (ks[2]?.getD (-1))]) w (by decide)
    have y9 := fun w => off_printNode 155 (.agg #[.int .i64 (ks[0]?.getD (-1)), .int .i64 (ks[1]?.getD (-1)), .int .i64 (ks[2]?.getD (-1))]) w (by decide)
    have y10 := fun w => off_readNode 155 (.agg #[.int .i64 (ks[0]?.getD (-1)), .int .i64 (ks[1]?.getD (-1)), .int .i64 (ks[2]?.getD (-1))]) w (by decide)
    have y11 := fun w => off_delayNode 155 (.agg #[.int .i64 (ks[0]?.getD (-1)), .int .i64 (ks[1]?.getD (-1)), .int .i64 (ks[2]?.getD (-1))]) w (by decide)
    have y12 := fun w => off_contNode 155 (.agg #[.int .i64 (ks[0]?.getD (-1)), .int .i64 (ks[1]?.getD (-1)), .int .i64 (ks[2]?.getD (-1))]) w (by decide)
    have y13 := fun w => off_skipNode 155 (.agg #[.int .i64 (ks[0]?.getD (-1)), .int .i64 (ks[1]?.getD (-1)), .int .i64 (ks[2]?.getD (-1))]) w (by decide)
    have y14 := fun w => off_blockNode 155 (.agg #[.int .i64 (ks[0]?.getD (-1)), .int .i64 (ks[1]?.getD (-1)), .int .i64 (ks[2]?.getD (-1))]) w (by decide)
    (
  go_enter Tryz.func112, Tryz.ntmps112;
  go_wp2_with (go_at_call 76; refine (unhide (C _ HK.out)).mono ?_; rintro e w2 ⟨rfl, hb2⟩; have HB := hide (HB.out.trans (hb2.mono HB.out.size)); clear hb2);
  go_ret;
  exact ⟨rfl, HB.out⟩)
  by_cases h13 : kd = 13
  · subst h13
    have e : roleOf 13 = 2 := rfl
    rw [e]
    have e : typedV 13 nu nm mo it (.slice ao ks.length c) ks = .iface 157 (.agg #[.int .i64 (ks[0]?.getD (-1)), .int .i64 (ks[1]?.getD (-1))]) := rfl
    rw [e] at C
    clear e
    have y0 := fun w => off_numNode 157 (.agg #[.int .i64 (ks[0]?.getD (-1)), .int .i64 (ks[1]?.getD (-1))]) w (by decide)
    have y1 := fun w => off_varNode 157 (.agg #[.int .i64 (ks[0]?.getD (-1)), .int .i64 (ks[1]?.getD (-1))]) w (by decide)
    have y2 := fun w => off_calcNode 157 (.agg #[.int .i64 (ks[0]?.getD (-1)), .int .i64 (ks[1]?.getD (-1))]) w (by decide)
    have y3 := fun w => off_notNode 157 (.agg #[.int .i64 (ks[0]?.getD (-1)), .int .i64 (ks[1]?.getD (-1))]) w (by decide)
    have y4 := fun w => off_negNode 157 (.agg #[.int .i64 (ks[0]?.getD (-1)), .int .i64 (ks[1]?.getD (-1))]) w (by decide)
    have y5 := fun w => off_setNode 157 (.agg #[.int .i64 (ks[0]?.getD (-1)), .int .i64 (ks[1]?.getD (-1))]) w (by decide)
    have y6 := fun w => off_ifNode 157 (.agg #[.int .i64 (ks[0]?.getD (-1)), .int .i64 (ks[1]?.getD (-1))]) w (by decide)
    have y7 := fun w => on_whileNode (.agg #[.int .i64 (ks[0]?.getD (-1)), .int .i64 (ks[1]?.getD (-1))]) w
    have y8 := fun w => off_callNode 157 (.agg #[.int .i64 (ks[0]?.getD (-1)), .int .i64 (ks[1]?.getD (-1))]) w (by decide)
    have y9 := fun w => off_printNode 157 (.agg #[.int .i64 (ks[0]?.getD (-1)), .int .i64 (ks[1]?.getD (-1))]) w (by decide)
    have y10 := fun w => off_readNode 157 (.agg #[.int .i64 (ks[0]?.getD (-1)), .int .i64 (ks[1]?.getD (-1))]) w (by decide)
    have y11 := fun w => off_delayNode 157 (.agg #[.int .i64 (ks[0]?.getD (-1)), .int .i64 (ks[1]?.getD (-1))]) w (by decide)
    have y12 := fun w => off_contNode 157 (.agg #[.int .i64 (ks[0]?.getD (-1)), .int .i64 (ks[1]?.getD (-1))]) w (by decide)
    have y13 := fun w => off_skipNode 157 (.agg #[.int .i64 (ks[0]?.getD (-1)), .int .i64 (ks[1]?.getD (-1))]) w (by decide)
    have y14 := fun w => off_blockNode 157 (.agg #[.int .i64 (ks[0]?.getD (-1)), .int .i64 (ks[1]?.getD (-1))]) w (by decide)
    (
  go_enter Tryz.func112, Tryz.ntmps112;
  go_wp2_with (go_at_call 76; refine (unhide (C _ HK.out)).mono ?_; rintro e w2 ⟨rfl, hb2⟩; have HB := hide (HB.out.trans (hb2.mono HB.out.size)); clear hb2);
  go_ret;
  exact ⟨rfl, HB.out⟩)
  by_cases h14 : kd = 14
  · subst h14
    have e : roleOf 14 = 2 := rfl
    rw [e]
    have e : typedV 14 nu nm mo it (.slice ao ks.length c) ks = .iface 118 (.agg #[.string nm, .string mo, .string it, .int .i64 (ks[0]?.getD (-1))]) := rfl
    rw [e] at C
    clear e
    have y0 := fun w => off_numNode 118 (.agg #[.string nm, .string mo, .string it, .int .i64 (ks[0]?.getD (-1))]) w (by decide)
    have y1 := fun w => off_varNode 118 (.agg #[.string nm, .string mo, .string it, .int .i64 (ks[0]?.getD (-1))]) w (by decide)
    have y2 := fun w => off_calcNode 118 (.agg #[.string nm, .string mo, .string it, .int .i64 (ks[0]?.getD (-1))]) w (by decide)
    have y3 := fun w => off_notNode 118 (.agg #[.string nm, .string mo, .string it, .int .i64 (ks[0]?.getD (-1))]) w (by decide)
    have y4 := fun w => off_negNode 118 (.agg #[.string nm, .string mo, .string it, .int .i64 (ks[0]?.getD (-1))]) w (by decide)
    have y5 := fun w => off_setNode 118 (.agg #[.string nm, .string mo, .string it, .int .i64 (ks[0]?.getD (-1))]) w (by decide)
    have y6 := fun w => off_ifNode 118 (.agg #[.string nm, .string mo, .string it, .int .i64 (ks[0]?.getD (-1))]) w (by decide)
    have y7 := fun w => off_whileNode 118 (.agg #[.string nm, .string mo, .string it, .int .i64 (ks[0]?.getD (-1))]) w (by decide)
    have y8 := fun w => on_callNode (.agg #[.string nm, .string mo, .string it, .int .i64 (ks[0]?.getD (-1))]) w
    have y9 := fun w => off_printNode 118 (.agg #[.string nm, .string mo, .string it, .int .i64 (ks[0]?.getD (-1))]) w (by decide)
    have y10 := fun w => off_readNode 118 (.agg #[.string nm, .string mo, .string it, .int .i64 (ks[0]?.getD (-1))]) w (by decide)
    have y11 := fun w => off_delayNode 118 (.agg #[.string nm, .string mo, .string it, .int .i64 (ks[0]?.getD (-1))]) w (by decide)
    have y12 := fun w => off_contNode 118 (.agg #[.string nm, .string mo, .string it, .int .i64 (ks[0]?.getD (-1))]) w (by decide)
    have y13 := fun w => off_skipNode 118 (.agg #[.string nm, .string mo, .string it, .int .i64 (ks[0]?.getD (-1))]) w (by decide)
    have y14 := fun w => off_blockNode 118 (.agg #[.string nm, .string mo, .string it, .int .i64 (ks[0]?.getD (-1))]) w (by decide)
    (
  go_enter Tryz.func112, Tryz.ntmps112;
  go_wp2_with (go_at_call 76; refine (unhide (C _ HK.out)).mono ?_; rintro e w2 ⟨rfl, hb2⟩; have HB := hide (HB.out.trans (hb2.mono HB.out.size)); clear hb2);
  go_ret;
  exact ⟨rfl, HB.out⟩)
  by_cases h15 : kd = 15
  · subst h15
    have e : roleOf 15 = 2 := rfl
    rw [e]
    have e : typedV 15 nu nm mo it (.slice ao ks.length c) ks = .iface 159 (.agg #[.int .i64 (ks[0]?.getD (-1))]) := rfl
    rw [e] at C
    clear e
    have y0 := fun w => off_numNode 159 (.agg #[.int .i64 (ks[0]?.getD (-1))]) w (by decide)
    have y1 := fun w => off_varNode 159 (.agg #[.int .i64 (ks[0]?.getD (-1))]) w (by decide)
    have y2 := fun w => off_calcNode 159 (.agg #[.int .i64 (ks[0]?.getD (-1))]) w (by decide)
    have y3 := fun w => off_notNode 159 (.agg #[.int .i64 (ks[0]?.getD (-1))]) w (by decide)
    have y4 := fun w => off_negNode 159 (.agg #[.int .i64 (ks[0]?.getD (-1))]) w (by decide)
    have y5 := fun w => off_setNode 159 (.agg #[.int .i64 (ks[0]?.getD (-1))]) w (by decide)
    have y6 := fun w => off_ifNode 159 (.agg #[.int .i64 (ks[0]?.getD (-1))]) w (by decide)
    have y7 := fun w => off_whileNode 159 (.agg #[.int .i64 (ks[0]?.getD (-1))]) w (by decide)
    have y8 := fun w => off_callNode 159 (.agg #[.int .i64 (ks[0]?.getD (-1))]) w (by decide)
    have y9 := fun w => on_printNode (.agg #[.int .i64 (ks[0]?.getD (-1))]) w
    have y10 := fun w => off_readNode 159 (.agg #[.int .i64 (ks[0]?.getD (-1))]) w (by decide)
    have y11 := fun w => off_delayNode 159 (.agg #[.int .i64 (ks[0]?.getD (-1))]) w (by decide)
    have y12 := fun w => off_contNode 159 (.agg #[.int .i64 (ks[0]?.getD (-1))]) w (by decide)
    have y13 := fun w => off_skipNode 159 (.agg #[.int .i64 (ks[0]?.getD (-1))]) w (by decide)
    have y14 := fun w => off_blockNode 159 (.agg #[.int .i64 (ks[0]?.getD (-1))]) w (by decide)
    (
  go_enter Tryz.func112, Tryz.ntmps112;
  go_wp2_with (go_at_call 76; refine (unhide (C _ HK.out)).mono ?_; rintro e w2 ⟨rfl, hb2⟩; have HB := hide (HB.out.trans (hb2.mono HB.out.size)); clear hb2);
  go_ret;
  exact ⟨rfl, HB.out⟩)
  by_cases h16 : kd = 16
  · subst h16
    have e : roleOf 16 = 2 := rfl
    rw [e]
    have e : typedV 16 nu nm mo it (.slice ao ks.length c) ks = .iface 141 (.agg #[.string nm]) := rfl
    rw [e] at C
    clear e
    have y0 := fun w => off_numNode 141 (.agg #[.string nm]) w (by decide)
    have y1 := fun w => off_varNode 141 (.agg #[.string nm]) w (by decide)
    have y2 := fun w => off_calcNode 141 (.agg #[.string nm]) w (by decide)
    have y3 := fun w => off_notNode 141 (.agg #[.string nm]) w (by decide)
    have y4 := fun w => off_negNode 141 (.agg #[.string nm]) w (by decide)
    have y5 := fun w => off_setNode 141 (.agg #[.string nm]) w (by decide)
    have y6 := fun w => off_ifNode 141 (.agg #[.string nm]) w (by decide)
    have y7 := fun w => off_whileNode 141 (.agg #[.string nm]) w (by decide)
    have y8 := fun w => off_callNode 141 (.agg #[.string nm]) w (by decide)
    have y9 := fun w => off_printNode 141 (.agg #[.string nm]) w (by decide)
    have y10 := fun w => on_readNode (.agg #[.string nm]) w
    have y11 := fun w => off_delayNode 141 (.agg #[.string nm]) w (by decide)
    have y12 := fun w => off_contNode 141 (.agg #[.string nm]) w (by decide)
    have y13 := fun w => off_skipNode 141 (.agg #[.string nm]) w (by decide)
    have y14 := fun w => off_blockNode 141 (.agg #[.string nm]) w (by decide)
    (
  go_enter Tryz.func112, Tryz.ntmps112;
  go_wp2_with (go_at_call 76; refine (unhide (C _ HK.out)).mono ?_; rintro e w2 ⟨rfl, hb2⟩; have HB := hide (HB.out.trans (hb2.mono HB.out.size)); clear hb2);
  go_ret;
  exact ⟨rfl, HB.out⟩)
  by_cases h17 : kd = 17
  · subst h17
    have e : roleOf 17 = 2 := rfl
    rw [e]
    have e : typedV 17 nu nm mo it (.slice ao ks.length c) ks = .iface 144 (.agg #[.string nm]) := rfl
    rw [e] at C
    clear e
    have y0 := fun w => off_numNode 144 (.agg #[.string nm]) w (by decide)
    have y1 := fun w => off_varNode 144 (.agg #[.string nm]) w (by decide)
    have y2 := fun w => off_calcNode 144 (.agg #[.string nm]) w (by decide)
    have y3 := fun w => off_notNode 144 (.agg #[.string nm]) w (by decide)
    have y4 := fun w => off_negNode 144 (.agg #[.string nm]) w (by decide)
    have y5 := fun w => off_setNode 144 (.agg #[.string nm]) w (by decide)
    have y6 := fun w => off_ifNode 144 (.agg #[.string nm]) w (by decide)
    have y7 := fun w => off_whileNode 144 (.agg #[.string nm]) w (by decide)
    have y8 := fun w => off_callNode 144 (.agg #[.string nm]) w (by decide)
    have y9 := fun w => off_printNode 144 (.agg #[.string nm]) w (by decide)
    have y10 := fun w => off_readNode 144 (.agg #[.string nm]) w (by decide)
    have y11 := fun w => on_delayNode (.agg #[.string nm]) w
    have y12 := fun w => off_contNode 144 (.agg #[.string nm]) w (by decide)
    have y13 := fun w => off_skipNode 144 (.agg #[.string nm]) w (by decide)
    have y14 := fun w => off_blockNode 144 (.agg #[.string nm]) w (by decide)
    (
  go_enter Tryz.func112, Tryz.ntmps112;
  go_wp2_with (go_at_call 76; refine (unhide (C _ HK.out)).mono ?_; rintro e w2 ⟨rfl, hb2⟩; have HB := hide (HB.out.trans (hb2.mono HB.out.size)); clear hb2);
  go_ret;
  exact ⟨rfl, HB.out⟩)
  by_cases h18 : kd = 18
  · subst h18
    have e : roleOf 18 = 2 := rfl
    rw [e]
    have e : typedV 18 nu nm mo it (.slice ao ks.length c) ks = .iface 145 (.agg #[.string nm]) := rfl
    rw [e] at C
    clear e
    have y0 := fun w => off_numNode 145 (.agg #[.string nm]) w (by decide)
    have y1 := fun w => off_varNode 145 (.agg #[.string nm]) w (by decide)
    have y2 := fun w => off_calcNode 145 (.agg #[.string nm]) w (by decide)
    have y3 := fun w => off_notNode 145 (.agg #[.string nm]) w (by decide)
    have y4 := fun w => off_negNode 145 (.agg #[.string nm]) w (by decide)
    have y5 := fun w => off_setNode 145 (.agg #[.string nm]) w (by decide)
    have y6 := fun w => off_ifNode 145 (.agg #[.string nm]) w (by decide)
    have y7 := fun w => off_whileNode 145 (.agg #[.string nm]) w (by decide)
    have y8 := fun w => off_callNode 145 (.agg #[.string nm]) w (by decide)
    have y9 := fun w => off_printNode 145 (.agg #[.string nm]) w (by decide)
    have y10 := fun w => off_readNode 145 (.agg #[.string nm]) w (by decide)
    have y11 := fun w => off_delayNode 145 (.agg #[.string nm]) w (by decide)
    have y12 := fun w => on_contNode (.agg #[.string nm]) w
    have y13 := fun w => off_skipNode 145 (.agg #[.string nm]) w (by decide)
    have y14 := fun w => off_blockNode 145 (.agg #[.string nm]) w (by decide)
    (
  go_enter Tryz.func112, Tryz.ntmps112;
  go_wp2_with (go_at_call 76; refine (unhide (C _ HK.out)).mono ?_; rintro e w2 ⟨rfl, hb2⟩; have HB := hide (HB.out.trans (hb2.mono HB.out.size)); clear hb2);
  go_ret;
  exact ⟨rfl, HB.out⟩)
  by_cases h19 : kd = 19
  · subst h19
    have e : roleOf 19 = 2 := rfl
    rw [e]
    have e : typedV 19 nu nm mo it (.slice ao ks.length c) ks = .iface 160 (.agg #[]) := rfl
    rw [e] at C
    clear e
    have y0 := fun w => off_numNode 160 (.agg #[]) w (by decide)
    have y1 := fun w => off_varNode 160 (.agg #[]) w (by decide)
    have y2 := fun w => off_calcNode 160 (.agg #[]) w (by decide)
    have y3 := fun w => off_notNode 160 (.agg #[]) w (by decide)
    have y4 := fun w => off_negNode 160 (.agg #[]) w (by decide)
    have y5 := fun w => off_setNode 160 (.agg #[]) w (by decide)
    have y6 := fun w => off_ifNode 160 (.agg #[]) w (by decide)
    have y7 := fun w => off_whileNode 160 (.agg #[]) w (by decide)
    have y8 := fun w => off_callNode 160 (.agg #[]) w (by decide)
    have y9 := fun w => off_printNode 160 (.agg #[]) w (by decide)
    have y10 := fun w => off_readNode 160 (.agg #[]) w (by decide)
    have y11 := fun w => off_delayNode 160 (.agg #[]) w (by decide)
    have y12 := fun w => off_contNode 160 (.agg #[]) w (by decide)
    have y13 := fun w => on_skipNode (.agg #[]) w
    have y14 := fun w => off_blockNode 160 (.agg #[]) w (by decide)
    (
  go_enter Tryz.func112, Tryz.ntmps112;
  go_wp2_with (go_at_call 76; refine (unhide (C _ HK.out)).mono ?_; rintro e w2 ⟨rfl, hb2⟩; have HB := hide (HB.out.trans (hb2.mono HB.out.size)); clear hb2);
  go_ret;
  exact ⟨rfl, HB.out⟩)
  by_cases h20 : kd = 20
  · subst h20
    have e : roleOf 20 = 3 := rfl
    rw [e]
    have e : typedV 20 nu nm mo it (.slice ao ks.length c) ks = .iface 162 (.agg #[.slice ao ks.length c]) := rfl
    rw [e] at C
    clear e
    have y0 := fun w => off_numNode 162 (.agg #[.slice ao ks.length c]) w (by decide)
    have y1 := fun w => off_varNode 162 (.agg #[.slice ao ks.length c]) w (by decide)
    have y2 := fun w => off_calcNode 162 (.agg #[.slice ao ks.length c]) w (by decide)
    have y3 := fun w => off_notNode 162 (.agg #[.slice ao ks.length c]) w (by decide)
    have y4 := fun w => off_negNode 162 (.agg #[.slice ao ks.length c]) w (by decide)
    have y5 := fun w => off_setNode 162 (.agg #[.slice ao ks.length c]) w (by decide)
    have y6 := fun w => off_ifNode 162 (.agg #[.slice ao ks.length c]) w (by decide)
    have y7 := fun w => off_whileNode 162 (.agg #[.slice ao ks.length c]) w (by decide)
    have y8 := fun w => off_callNode 162 (.agg #[.slice ao ks.length c]) w (by decide)
    have y9 := fun w => off_printNode 162 (.agg #[.slice ao ks.length c]) w (by decide)
    have y10 := fun w => off_readNode 162 (.agg #[.slice ao ks.length c]) w (by decide)
    have y11 := fun w => off_delayNode 162 (.agg #[.slice ao ks.length c]) w (by decide)
    have y12 := fun w => off_contNode 162 (.agg #[.slice ao ks.length c]) w (by decide)
    have y13 := fun w => off_skipNode 162 (.agg #[.slice ao ks.length c]) w (by decide)
    have y14 := fun w => on_blockNode (.agg #[.slice ao ks.length c]) w
    (
  go_enter Tryz.func112, Tryz.ntmps112;
  go_wp2_with (go_at_call 76; refine (unhide (C _ HK.out)).mono ?_; rintro e w2 ⟨rfl, hb2⟩; have HB := hide (HB.out.trans (hb2.mono HB.out.size)); clear hb2);
  go_ret;
  exact ⟨rfl, HB.out⟩)
  have e : roleOf kd = 0 := by
    have e1 : valueQ kd = false := by rw [valueQ, inZ_no]; omega
    have e2 : stmtQ kd = false := by rw [stmtQ, inZ_no]; omega
    simp [roleOf, e1, e2, h20]
  rw [e]
  have e : typedV kd nu nm mo it (.slice ao ks.length c) ks = .nilIface := by
    simp only [typedV, if_neg h1, if_neg h2, if_neg h3, if_neg h4, if_neg h5, if_neg h11, if_neg h12, if_neg h13, if_neg h14, if_neg h15, if_neg h16, if_neg h17, if_neg h18, if_neg h19, if_neg h20]
  rw [e] at C
  clear e
  have y0 := nil_numNode
  have y1 := nil_varNode
  have y2 := nil_calcNode
  have y3 := nil_notNode
  have y4 := nil_negNode
  have y5 := nil_setNode
  have y6 := nil_ifNode
  have y7 := nil_whileNode
  have y8 := nil_callNode
  have y9 := nil_printNode
  have y10 := nil_readNode
  have y11 := nil_delayNode
  have y12 := nil_contNode
  have y13 := nil_skipNode
  have y14 := nil_blockNode
  (
  go_enter Tryz.func112, Tryz.ntmps112;
  go_wp2_with (go_at_call 76; refine (unhide (C _ HK.out)).mono ?_; rintro e w2 ⟨rfl, hb2⟩; have HB := hide (HB.out.trans (hb2.mono HB.out.size)); clear hb2);
  go_ret;
  exact ⟨rfl, HB.out⟩)
end Go.Proofs.YtpdpmnkonkpheaaGreat

namespace Go.Proofs.YtpdpmnkonkpheaaGreat
open Go.RowKit

/-- May the node at a place stand as this? -/
def standQ (ns : List Nd) (r : Int) (x : Int) : Bool := inZ 0 ((ns.length : Int) - 1) x && decide (roleOf (ns.getD x.toNat default).kind = r)

def StandR (W : World) (xs : List Int) (q : Int → Bool) (iv : Value) (wr : World) : Prop :=
  ∃ i : Nat, i ≤ xs.length ∧ iv = .int .i64 i ∧ Hid (Below W.heap.size W wr) ∧ Hid (∀ j x, j < i → xs[j]? = some x → q x = true)

set_option maxRecDepth 100000 in
set_option maxHeartbeats 2000000 in
theorem stand_any (nv mv pv v : Value) (ns : List Nd) (r : Int) (xs : List Int) (w : World) (hN : NdsAt w nv ns) (hv : IntsAt w v xs) (_hl : ns.length ≤ 1048576) (hxl : xs.length ≤ 1048576) :
    Calls Tryz.prog 90 #[.agg #[nv, mv, pv], .int .i64 r, v] w fun e w' => e = .returned (.bool (xs.all (standQ ns r))) ∧ Below w.heap.size w w' := by
  have hb1 : Below w.heap.size w (w.alloc (.cells #[nv, mv, pv] 33)) := (Below.refl _ _).alloc (Nat.le_refl _) _
  have HN := hide (hN.stays hb1)
  have HV := hide (hv.stays hb1)
  have HX := hide (Boxed.made w nv mv pv 33)
  have HB := hide hb1
  clear hb1
  obtain ⟨ao, c, rfl, _⟩ := hN
  obtain ⟨bo, d, rfl, _⟩ := hv
  obtain ⟨m, em⟩ : ∃ m, xs.length = m := ⟨_, rfl⟩
  have EM := hide em
  rw [em] at HV hxl ⊢
  go_enter Tryz.func90, Tryz.ntmps90
  go_wp2
  obtain ⟨W1, hW⟩ : ∃ W1, w.alloc (.cells #[.slice ao ns.length c, mv, pv] 33) = W1 := ⟨_, rfl⟩
  rw [hW] at HN HV HX HB ⊢
  clear hW em
  go_loopw [11] (StandR W1 xs (standQ ns r)) (fun iv _ => m - (intOf iv).toNat)
  case atStart => exact ⟨0, by omega, rfl, Below.refl _ _, fun j x hj => absurd hj (Nat.not_lt_zero j)⟩
  case round =>
    obtain ⟨i, hi, rfl, HB2, HA⟩ := hrel
    rw [EM.out] at hi
    obtain ⟨c0, c1, c2, _⟩ := HX.out.stays HB2.out
    have HN2 := hide (HN.out.stays HB2.out)
    by_cases hlt : i < m
    · have hlt' : (i : Int) < (m : Int) := by omega
      have hi0 : (0 : Int) ≤ (i : Int) := by omega
      have hix : i < xs.length := by rw [EM.out]; exact hlt
      obtain ⟨bo', d', e1, hc1⟩ := HV.out.stays HB2.out
      injection e1 with e2 e3 e4
      subst e2
      obtain ⟨b, rfl, _, hx⟩ := hc1 i hix
      have EX : Hid (xs[i]? = some xs[i]) := List.getElem?_eq_getElem hix
      obtain ⟨x, ex⟩ : ∃ x, xs[i] = x := ⟨_, rfl⟩
      rw [ex] at hx EX
      clear ex hc1 e3 e4
      have CH := fun w h => hide (has_any (.slice ao ns.length c) mv pv ns x w h)
      cases hin : inZ 0 ((ns.length : Int) - 1) x with
      | false =>
        have HF : Hid (xs.all (standQ ns r) = false) := all_no EX.out (by simp [standQ, hin])
        rw [hin] at CH
        clear hin
        (go_wp2_with (go_at_call 105; refine (unhide (CH _ HN2.out)).mono ?_; rintro e w2 ⟨rfl, hb2⟩; have HB3 := hide (HB2.out.trans (hb2.mono HB2.out.size)); clear hb2))
        go_ret
        exact ⟨by rw [HF.out]; rfl, HB.out.trans (HB3.out.mono HB.out.size)⟩
      | true =>
        obtain ⟨hx0, hx1⟩ := inZ_yes.1 hin
        obtain ⟨y, hy⟩ : ∃ y : Nat, x = (y : Int) := ⟨x.toNat, by omega⟩
        subst hy
        have hyn : y < ns.length := by omega
        have hy1 : (y : Int) < (ns.length : Int) := by omega
        have ES : Hid (standQ ns r (y : Int) = decide (roleOf ns[y].kind = r)) := by
          show _ = _
          rw [standQ, hin, Int.toNat_natCast, getD_at hyn]
          rfl
        rw [hin] at CH
        clear hin
        by_cases hr : roleOf ns[y].kind = r
        · have HT : Hid (standQ ns r (y : Int) = true) := by show _ = _; rw [ES.out]; exact decide_eq_true hr
          (go_wp2_with (first
    | (go_at_call 105; refine (unhide (CH _ HN2.out)).mono ?_; rintro e w2 ⟨rfl, hb2⟩; have HB3 := hide (HB2.out.trans (hb2.mono HB2.out.size)); have HN3 := hide (HN2.out.stays hb2); obtain ⟨f0, f1, f2, _⟩ := HX.out.stays HB3.out; obtain ⟨a', c', p, kv, e5, hpa, hpb, hnode⟩ := HN3.out.node y hyn; injection e5 with e6 e7 e8; subst e6; have d0 := hnode.c0; have d1 := hnode.c1; have d2 := hnode.c2; have d3 := hnode.c3; have d4 := hnode.c4; have d5 := hnode.c5; have HKI := hide hnode.kids; obtain ⟨ko, kc, rfl, _⟩ := hnode.kids; clear e7 e8 hnode hb2)
    | (go_at_call 112; refine Calls.mono (stands_any _ _ _ _ _ _ _ _ HKI.out) ?_; rintro e w4 ⟨rfl, hb4⟩; have HB3 := hide (HB3.out.trans (hb4.mono HB3.out.size)); clear hb4)))
          go_roundw
          case rel => exact ⟨i + 1, by rw [EM.out]; omega, by go_num, HB3.out, fun j z hj hz => by
            rcases Nat.lt_succ_iff_lt_or_eq.1 hj with h | h
            · exact HA.out j z h hz
            · subst h; rw [EX.out] at hz; cases hz; exact HT.out⟩
          case measure => simp [intOf]; omega
        · have HF : Hid (xs.all (standQ ns r) = false) := all_no EX.out (by rw [ES.out]; exact decide_eq_false hr)
          (go_wp2_with (first
    | (go_at_call 105; refine (unhide (CH _ HN2.out)).mono ?_; rintro e w2 ⟨rfl, hb2⟩; have HB3 := hide (HB2.out.trans (hb2.mono HB2.out.size)); have HN3 := hide (HN2.out.stays hb2); obtain ⟨f0, f1, f2, _⟩ := HX.out.stays HB3.out; obtain ⟨a', c', p, kv, e5, hpa, hpb, hnode⟩ := HN3.out.node y hyn; injection e5 with e6 e7 e8; subst e6; have d0 := hnode.c0; have d1 := hnode.c1; have d2 := hnode.c2; have d3 := hnode.c3; have d4 := hnode.c4; have d5 := hnode.c5; have HKI := hide hnode.kids; obtain ⟨ko, kc, rfl, _⟩ := hnode.kids; clear e7 e8 hnode hb2)
    | (go_at_call 112; refine Calls.mono (stands_any _ _ _ _ _ _ _ _ HKI.out) ?_; rintro e w4 ⟨rfl, hb4⟩; have HB3 := hide (HB3.out.trans (hb4.mono HB3.out.size)); clear hb4)))
          go_ret
          exact ⟨by rw [HF.out]; rfl, HB.out.trans (HB3.out.mono HB.out.size)⟩
    · have hlt' : ¬ (i : Int) < (m : Int) := by omega
      have HF : Hid (xs.all (standQ ns r) = true) := all_yes (fun j x hx => HA.out j x (by have := (List.getElem?_eq_some_iff.1 hx).1; rw [EM.out] at this; omega) hx)
      go_wp2
      go_ret
      exact ⟨by rw [HF.out]; rfl, HB.out.trans (HB2.out.mono HB.out.size)⟩
end Go.Proofs.YtpdpmnkonkpheaaGreat
