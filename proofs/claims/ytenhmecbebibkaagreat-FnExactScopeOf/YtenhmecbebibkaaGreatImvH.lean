/-
  Walks of the program: what is wrong with a node in a scope, all kinds.
-/
import Derived.Test.YtenhmecbebibkaaGreatSetW
namespace Go.Proofs.YtenhmecbebibkaaGreat
open Go.RowKit

set_option maxRecDepth 100000 in
set_option maxHeartbeats 4000000 in
theorem codeOf_any (va qa ea : Value) (s : Sco) (kd nu : Int) (nm mo it : ByteArray) (kv : Value) (ks : List Int) (w : World) (h : ScAt w va qa ea s) (hk : ∃ o n c, kv = .slice o n c) (hn : nm.size ≤ 1048576) (hm : mo.size ≤ 1048576) (hi : it.size ≤ 1048576) :
    Calls Tryz.prog 56 #[.agg #[.bool s.inE, va, qa, ea], typedV kd nu nm mo it kv ks] w fun e w' => e = .returned (.int .i64 (codeS s kd nm mo it)) ∧ Below w.heap.size w w' := by
  have hb : Below w.heap.size w (w.alloc (.cells #[.bool s.inE, va, qa, ea] 63)) := (Below.refl _ _).alloc (Nat.le_refl _) _
  have CV := fun z hz => hide (codeVar_any va qa ea s nm z hz hn)
  have CQ := fun z hz => hide (codeQueue_any va qa ea s nm z hz hn)
  have CR := fun z hz => hide (codeRead_any va qa ea s nm z hz hn)
  have CC := fun k z hz => hide (codeCall_any va qa ea s nm mo it k z hz hn hm hi)
  have H1 := hide (h.stays hb)
  have HB := hide hb
  have BX := hide (Box.made w #[.bool s.inE, va, qa, ea] 63)
  have BS := fun o => hide ((Below.refl (w.alloc (.cells #[.bool s.inE, va, qa, ea] 63)).heap.size (w.alloc (.cells #[.bool s.inE, va, qa, ea] 63))).alloc (Nat.le_refl _) o)
  obtain ⟨m1, rfl⟩ := h.vars.is
  obtain ⟨m2, rfl⟩ := h.queues.is
  obtain ⟨m3, rfl⟩ := h.ents.is
  obtain ⟨ko, kn, kc, rfl⟩ := hk
  clear hb h hn hm hi
  obtain ⟨i, ei⟩ : ∃ i, s.inE = i := ⟨_, rfl⟩
  rw [ei] at H1 HB CV CQ CR CC BX BS ⊢
  clear ei
  by_cases h0 : kd = 1
  · subst h0
    have e : codeS s 1 nm mo it = 0 := rfl
    rw [e]
    have e : typedV 1 nu nm mo it (.slice ko kn kc) ks = .iface 133 (.agg #[.int .i64 nu]) := rfl
    rw [e]
    clear e
    have y0 := fun w => off_varNode 133 (.agg #[.int .i64 nu]) w (by decide)
    have y1 := fun w => off_setNode 133 (.agg #[.int .i64 nu]) w (by decide)
    have y2 := fun w => off_readNode 133 (.agg #[.int .i64 nu]) w (by decide)
    have y3 := fun w => off_callNode 133 (.agg #[.int .i64 nu]) w (by decide)
    have y4 := fun w => off_delayNode 133 (.agg #[.int .i64 nu]) w (by decide)
    have y5 := fun w => off_contNode 133 (.agg #[.int .i64 nu]) w (by decide)
    clear CV CQ CR CC BS
    go_enter Tryz.func56, Tryz.ntmps56
    go_wp2
    go_ret
    exact ⟨rfl, HB.out⟩
  by_cases h1 : kd = 2
  · subst h1
    have e : codeS s 2 nm mo it = varS s nm := rfl
    rw [e]
    have e : typedV 2 nu nm mo it (.slice ko kn kc) ks = .iface 121 (.agg #[.string nm]) := rfl
    rw [e]
    clear e
    have y0 := fun w => on_varNode (.agg #[.string nm]) w
    have b1 := BS (.cells #[.string nm] 121)
    have C1 := CV _ (H1.out.stays b1.out)
    have HB1 := hide (HB.out.trans (b1.out.mono HB.out.size))
    have B1 := BX.out.stays b1.out
    have q0 := Lib.cell_of_heap B1 0
    have q1 := Lib.cell_of_heap B1 1
    have q2 := Lib.cell_of_heap B1 2
    have q3 := Lib.cell_of_heap B1 3
    simp only [List.getElem?_toArray, List.getElem?_cons_succ, List.getElem?_cons_zero] at q0 q1 q2 q3
    obtain ⟨R, eR⟩ : ∃ R, varS s nm = R := ⟨_, rfl⟩
    rw [eR] at C1 ⊢
    clear B1 b1 CV CQ CR CC BS eR
    go_enter Tryz.func56, Tryz.ntmps56
    go_wp2_with (go_at_call 80; refine (unhide C1).mono ?_; rintro e w2 ⟨rfl, hb2⟩)
    go_ret
    exact ⟨rfl, HB1.out.trans (hb2.mono HB1.out.size)⟩
  by_cases h2 : kd = 3
  · subst h2
    have e : codeS s 3 nm mo it = 0 := rfl
    rw [e]
    have e : typedV 3 nu nm mo it (.slice ko kn kc) ks = .iface 136 (.agg #[.int .i64 nu, .int .i64 (ks[0]?.getD (-1)), .int .i64 (ks[1]?.getD (-1))]) := rfl
    rw [e]
    clear e
    have y0 := fun w => off_varNode 136 (.agg #[.int .i64 nu, .int .i64 (ks[0]?.getD (-1)), .int .i64 (ks[1]?.getD (-1))]) w (by decide)
    have y1 := fun w => off_setNode 136 (.agg #[.int .i64 nu, .int .i64 (ks[0]?.getD (-1)), .int .i64 (ks[1]?.getD (-1))]) w (by decide)
    have y2 := fun w => off_readNode 136 (.agg #[.int .i64 nu, .int .i64 (ks[0]?.getD (-1)), .int .i64 (ks[1]?.getD (-1))]) w (by decide)
    have y3 := fun w => off_callNode 136 (.agg #[.int .i64 nu, .int .i64 (ks[0]?.getD (-1)), .int .i64 (ks[1]?.getD (-1))]) w (by decide)
    have y4 := fun w => off_delayNode 136 (.agg #[.int .i64 nu, .int .i64 (ks[0]?.getD (-1)), .int .i64 (ks[1]?.getD (-1))]) w (by decide)
    have y5 := fun w => off_contNode 136 (.agg #[.int .i64 nu, .int .i64 (ks[0]?.getD (-1)), .int .i64 (ks[1]?.getD (-1))]) w (by decide)
    clear CV CQ CR CC BS
    go_enter Tryz.func56, Tryz.ntmps56
    go_wp2
    go_ret
    exact ⟨rfl, HB.out⟩
  by_cases h3 : kd = 4
  · subst h3
    have e : codeS s 4 nm mo it = 0 := rfl
    rw [e]
    have e : typedV 4 nu nm mo it (.slice ko kn kc) ks = .iface 138 (.agg #[.int .i64 (ks[0]?.getD (-1))]) := rfl
    rw [e]
    clear e
    have y0 := fun w => off_varNode 138 (.agg #[.int .i64 (ks[0]?.getD (-1))]) w (by decide)
    have y1 := fun w => off_setNode 138 (.agg #[.int .i64 (ks[0]?.getD (-1))]) w (by decide)
    have y2 := fun w => off_readNode 138 (.agg #[.int .i64 (ks[0]?.getD (-1))]) w (by decide)
    have y3 := fun w => off_callNode 138 (.agg #[.int .i64 (ks[0]?.getD (-1))]) w (by decide)
    have y4 := fun w => off_delayNode 138 (.agg #[.int .i64 (ks[0]?.getD (-1))]) w (by decide)
    have y5 := fun w => off_contNode 138 (.agg #[.int .i64 (ks[0]?.getD (-1))]) w (by decide)
    clear CV CQ CR CC BS
    go_enter Tryz.func56, Tryz.ntmps56
    go_wp2
    go_ret
    exact ⟨rfl, HB.out⟩
  by_cases h4 : kd = 5
  · subst h4
    have e : codeS s 5 nm mo it = 0 := rfl
    rw [e]
    have e : typedV 5 nu nm mo it (.slice ko kn kc) ks = .iface 139 (.agg #[.int .i64 (ks[0]?.getD (-1))]) := rfl
    rw [e]
    clear e
    have y0 := fun w => off_varNode 139 (.agg #[.int .i64 (ks[0]?.getD (-1))]) w (by decide)
    have y1 := fun w => off_setNode 139 (.agg #[.int .i64 (ks[0]?.getD (-1))]) w (by decide)
    have y2 := fun w => off_readNode 139 (.agg #[.int .i64 (ks[0]?.getD (-1))]) w (by decide)
    have y3 := fun w => off_callNode 139 (.agg #[.int .i64 (ks[0]?.getD (-1))]) w (by decide)
    have y4 := fun w => off_delayNode 139 (.agg #[.int .i64 (ks[0]?.getD (-1))]) w (by decide)
    have y5 := fun w => off_contNode 139 (.agg #[.int .i64 (ks[0]?.getD (-1))]) w (by decide)
    clear CV CQ CR CC BS
    go_enter Tryz.func56, Tryz.ntmps56
    go_wp2
    go_ret
    exact ⟨rfl, HB.out⟩
  by_cases h5 : kd = 11
  · subst h5
    have e : codeS s 11 nm mo it = varS s nm := rfl
    rw [e]
    have e : typedV 11 nu nm mo it (.slice ko kn kc) ks = .iface 124 (.agg #[.string nm, .int .i64 (ks[0]?.getD (-1))]) := rfl
    rw [e]
    clear e
    have y0 := fun w => off_varNode 124 (.agg #[.string nm, .int .i64 (ks[0]?.getD (-1))]) w (by decide)
    have y1 := fun w => on_setNode (.agg #[.string nm, .int .i64 (ks[0]?.getD (-1))]) w
    have b1 := BS (.cells #[.string nm, .int .i64 (ks[0]?.getD (-1))] 124)
    have C1 := CV _ (H1.out.stays b1.out)
    have HB1 := hide (HB.out.trans (b1.out.mono HB.out.size))
    have B1 := BX.out.stays b1.out
    have q0 := Lib.cell_of_heap B1 0
    have q1 := Lib.cell_of_heap B1 1
    have q2 := Lib.cell_of_heap B1 2
    have q3 := Lib.cell_of_heap B1 3
    simp only [List.getElem?_toArray, List.getElem?_cons_succ, List.getElem?_cons_zero] at q0 q1 q2 q3
    obtain ⟨R, eR⟩ : ∃ R, varS s nm = R := ⟨_, rfl⟩
    rw [eR] at C1 ⊢
    clear B1 b1 CV CQ CR CC BS eR
    go_enter Tryz.func56, Tryz.ntmps56
    go_wp2_with (go_at_call 80; refine (unhide C1).mono ?_; rintro e w2 ⟨rfl, hb2⟩)
    go_ret
    exact ⟨rfl, HB1.out.trans (hb2.mono HB1.out.size)⟩
  by_cases h6 : kd = 12
  · subst h6
    have e : codeS s 12 nm mo it = 0 := rfl
    rw [e]
    have e : typedV 12 nu nm mo it (.slice ko kn kc) ks = .iface 141 (.agg #[.int .i64 (ks[0]?.getD (-1)), .int .i64 (ks[1]?.getD (-1)), .int .i64 (ks[2]?.getD (-1))]) := rfl
    rw [e]
    clear e
    have y0 := fun w => off_varNode 141 (.agg #[.int .i64 (ks[0]?.getD (-1)), .int .i64 (ks[1]?.getD (-1)), .int .i64 (ks[2]?.getD (-1))]) w (by decide)
    have y1 := fun w => off_setNode 141 (.agg #[.int .i64 (ks[0]?.getD (-1)), .int .i64 (ks[1]?.getD (-1)), .int .i64 (ks[2]?.getD (-1))]) w (by decide)
    have y2 := fun w => off_readNode 141 (.agg #[.int .i64 (ks[0]?.getD (-1)), .int .i64 (ks[1]?.getD (-1)), .int .i64 (ks[2]?.getD (-1))]) w (by decide)
    have y3 := fun w => off_callNode 141 (.agg #[.int .i64 (ks[0]?.getD (-1)), .int .i64 (ks[1]?.getD (-1)), .int .i64 (ks[2]?.getD (-1))]) w (by decide)
    have y4 := fun w => off_delayNode 141 (.agg #[.int .i64 (ks[0]?.getD (-1)), .int .i64 (ks[1]?.getD (-1)), .int .i64 (ks[2]?.getD (-1))]) w (by decide)
    have y5 := fun w => off_contNode 141 (.agg #[.int .i64 (ks[0]?.getD (-1)), .int .i64 (ks[1]?.getD (-1)), .int .i64 (ks[2]?.getD (-1))]) w (by decide)
    clear CV CQ CR CC BS
    go_enter Tryz.func56, Tryz.ntmps56
    go_wp2
    go_ret
    exact ⟨rfl, HB.out⟩
  by_cases h7 : kd = 13
  · subst h7
    have e : codeS s 13 nm mo it = 0 := rfl
    rw [e]
    have e : typedV 13 nu nm mo it (.slice ko kn kc) ks = .iface 143 (.agg #[.int .i64 (ks[0]?.getD (-1)), .int .i64 (ks[1]?.getD (-1))]) := rfl
    rw [e]
    clear e
    have y0 := fun w => off_varNode 143 (.agg #[.int .i64 (ks[0]?.getD (-1)), .int .i64 (ks[1]?.getD (-1))]) w (by decide)
    have y1 := fun w => off_setNode 143 (.agg #[.int .i64 (ks[0]?.getD (-1)), .int .i64 (ks[1]?.getD (-1))]) w (by decide)
    have y2 := fun w => off_readNode 143 (.agg #[.int .i64 (ks[0]?.getD (-1)), .int .i64 (ks[1]?.getD (-1))]) w (by decide)
    have y3 := fun w => off_callNode 143 (.agg #[.int .i64 (ks[0]?.getD (-1)), .int .i64 (ks[1]?.getD (-1))]) w (by decide)
    have y4 := fun w => off_delayNode 143 (.agg #[.int .i64 (ks[0]?.getD (-1)), .int .i64 (ks[1]?.getD (-1))]) w (by decide)
    have y5 := fun w => off_contNode 143 (.agg #[.int .i64 (ks[0]?.getD (-1)), .int .i64 (ks[1]?.getD (-1))]) w (by decide)
    clear CV CQ CR CC BS
    go_enter Tryz.func56, Tryz.ntmps56
    go_wp2
    go_ret
    exact ⟨rfl, HB.out⟩
  by_cases h8 : kd = 14
  · subst h8
    have e : codeS s 14 nm mo it = callS s nm mo it := rfl
    rw [e]
    have e : typedV 14 nu nm mo it (.slice ko kn kc) ks = .iface 128 (.agg #[.string nm, .string mo, .string it, .int .i64 (ks[0]?.getD (-1))]) := rfl
    rw [e]
    clear e
    have y0 := fun w => off_varNode 128 (.agg #[.string nm, .string mo, .string it, .int .i64 (ks[0]?.getD (-1))]) w (by decide)
    have y1 := fun w => off_setNode 128 (.agg #[.string nm, .string mo, .string it, .int .i64 (ks[0]?.getD (-1))]) w (by decide)
    have y2 := fun w => off_readNode 128 (.agg #[.string nm, .string mo, .string it, .int .i64 (ks[0]?.getD (-1))]) w (by decide)
    have y3 := fun w => on_callNode (.agg #[.string nm, .string mo, .string it, .int .i64 (ks[0]?.getD (-1))]) w
    have b1 := BS (.cells #[.string nm, .string mo, .string it, .int .i64 (ks[0]?.getD (-1))] 128)
    have C1 := CC (ks[0]?.getD (-1)) _ (H1.out.stays b1.out)
    have HB1 := hide (HB.out.trans (b1.out.mono HB.out.size))
    have B1 := BX.out.stays b1.out
    have q0 := Lib.cell_of_heap B1 0
    have q1 := Lib.cell_of_heap B1 1
    have q2 := Lib.cell_of_heap B1 2
    have q3 := Lib.cell_of_heap B1 3
    simp only [List.getElem?_toArray, List.getElem?_cons_succ, List.getElem?_cons_zero] at q0 q1 q2 q3
    obtain ⟨R, eR⟩ : ∃ R, callS s nm mo it = R := ⟨_, rfl⟩
    rw [eR] at C1 ⊢
    clear B1 b1 CV CQ CR CC BS eR
    go_enter Tryz.func56, Tryz.ntmps56
    go_wp2_with (go_at_call 82; refine (unhide C1).mono ?_; rintro e w2 ⟨rfl, hb2⟩)
    go_ret
    exact ⟨rfl, HB1.out.trans (hb2.mono HB1.out.size)⟩
  by_cases h9 : kd = 15
  · subst h9
    have e : codeS s 15 nm mo it = 0 := rfl
    rw [e]
    have e : typedV 15 nu nm mo it (.slice ko kn kc) ks = .iface 145 (.agg #[.int .i64 (ks[0]?.getD (-1))]) := rfl
    rw [e]
    clear e
    have y0 := fun w => off_varNode 145 (.agg #[.int .i64 (ks[0]?.getD (-1))]) w (by decide)
    have y1 := fun w => off_setNode 145 (.agg #[.int .i64 (ks[0]?.getD (-1))]) w (by decide)
    have y2 := fun w => off_readNode 145 (.agg #[.int .i64 (ks[0]?.getD (-1))]) w (by decide)
    have y3 := fun w => off_callNode 145 (.agg #[.int .i64 (ks[0]?.getD (-1))]) w (by decide)
    have y4 := fun w => off_delayNode 145 (.agg #[.int .i64 (ks[0]?.getD (-1))]) w (by decide)
    have y5 := fun w => off_contNode 145 (.agg #[.int .i64 (ks[0]?.getD (-1))]) w (by decide)
    clear CV CQ CR CC BS
    go_enter Tryz.func56, Tryz.ntmps56
    go_wp2
    go_ret
    exact ⟨rfl, HB.out⟩
  by_cases h10 : kd = 16
  · subst h10
    have e : codeS s 16 nm mo it = readS s nm := rfl
    rw [e]
    have e : typedV 16 nu nm mo it (.slice ko kn kc) ks = .iface 125 (.agg #[.string nm]) := rfl
    rw [e]
    clear e
    have y0 := fun w => off_varNode 125 (.agg #[.string nm]) w (by decide)
    have y1 := fun w => off_setNode 125 (.agg #[.string nm]) w (by decide)
    have y2 := fun w => on_readNode (.agg #[.string nm]) w
    have b1 := BS (.cells #[.string nm] 125)
    have C1 := CR _ (H1.out.stays b1.out)
    have HB1 := hide (HB.out.trans (b1.out.mono HB.out.size))
    have B1 := BX.out.stays b1.out
    have q0 := Lib.cell_of_heap B1 0
    have q1 := Lib.cell_of_heap B1 1
    have q2 := Lib.cell_of_heap B1 2
    have q3 := Lib.cell_of_heap B1 3
    simp only [List.getElem?_toArray, List.getElem?_cons_succ, List.getElem?_cons_zero] at q0 q1 q2 q3
    obtain ⟨R, eR⟩ : ∃ R, readS s nm = R := ⟨_, rfl⟩
    rw [eR] at C1 ⊢
    clear B1 b1 CV CQ CR CC BS eR
    go_enter Tryz.func56, Tryz.ntmps56
    go_wp2_with (go_at_call 81; refine (unhide C1).mono ?_; rintro e w2 ⟨rfl, hb2⟩)
    go_ret
    exact ⟨rfl, HB1.out.trans (hb2.mono HB1.out.size)⟩
  by_cases h11 : kd = 17
  · subst h11
    have e : codeS s 17 nm mo it = queueS s nm := rfl
    rw [e]
    have e : typedV 17 nu nm mo it (.slice ko kn kc) ks = .iface 130 (.agg #[.string nm]) := rfl
    rw [e]
    clear e
    have y0 := fun w => off_varNode 130 (.agg #[.string nm]) w (by decide)
    have y1 := fun w => off_setNode 130 (.agg #[.string nm]) w (by decide)
    have y2 := fun w => off_readNode 130 (.agg #[.string nm]) w (by decide)
    have y3 := fun w => off_callNode 130 (.agg #[.string nm]) w (by decide)
    have y4 := fun w => on_delayNode (.agg #[.string nm]) w
    have b1 := BS (.cells #[.string nm] 130)
    have C1 := CQ _ (H1.out.stays b1.out)
    have HB1 := hide (HB.out.trans (b1.out.mono HB.out.size))
    have B1 := BX.out.stays b1.out
    have q0 := Lib.cell_of_heap B1 0
    have q1 := Lib.cell_of_heap B1 1
    have q2 := Lib.cell_of_heap B1 2
    have q3 := Lib.cell_of_heap B1 3
    simp only [List.getElem?_toArray, List.getElem?_cons_succ, List.getElem?_cons_zero] at q0 q1 q2 q3
    obtain ⟨R, eR⟩ : ∃ R, queueS s nm = R := ⟨_, rfl⟩
    rw [eR] at C1 ⊢
    clear B1 b1 CV CQ CR CC BS eR
    go_enter Tryz.func56, Tryz.ntmps56
    go_wp2_with (go_at_call 83; refine (unhide C1).mono ?_; rintro e w2 ⟨rfl, hb2⟩)
    go_ret
    exact ⟨rfl, HB1.out.trans (hb2.mono HB1.out.size)⟩
  by_cases h12 : kd = 18
  · subst h12
    have e : codeS s 18 nm mo it = queueS s nm := rfl
    rw [e]
    have e : typedV 18 nu nm mo it (.slice ko kn kc) ks = .iface 131 (.agg #[.string nm]) := rfl
    rw [e]
    clear e
    have y0 := fun w => off_varNode 131 (.agg #[.string nm]) w (by decide)
    have y1 := fun w => off_setNode 131 (.agg #[.string nm]) w (by decide)
    have y2 := fun w => off_readNode 131 (.agg #[.string nm]) w (by decide)
    have y3 := fun w => off_callNode 131 (.agg #[.string nm]) w (by decide)
    have y4 := fun w => off_delayNode 131 (.agg #[.string nm]) w (by decide)
    have y5 := fun w => on_contNode (.agg #[.string nm]) w
    have b1 := BS (.cells #[.string nm] 131)
    have C1 := CQ _ (H1.out.stays b1.out)
    have HB1 := hide (HB.out.trans (b1.out.mono HB.out.size))
    have B1 := BX.out.stays b1.out
    have q0 := Lib.cell_of_heap B1 0
    have q1 := Lib.cell_of_heap B1 1
    have q2 := Lib.cell_of_heap B1 2
    have q3 := Lib.cell_of_heap B1 3
    simp only [List.getElem?_toArray, List.getElem?_cons_succ, List.getElem?_cons_zero] at q0 q1 q2 q3
    obtain ⟨R, eR⟩ : ∃ R, queueS s nm = R := ⟨_, rfl⟩
    rw [eR] at C1 ⊢
    clear B1 b1 CV CQ CR CC BS eR
    go_enter Tryz.func56, Tryz.ntmps56
    go_wp2_with (go_at_call 83; refine (unhide C1).mono ?_; rintro e w2 ⟨rfl, hb2⟩)
    go_ret
    exact ⟨rfl, HB1.out.trans (hb2.mono HB1.out.size)⟩
  by_cases h13 : kd = 19
  · subst h13
    have e : codeS s 19 nm mo it = 0 := rfl
    rw [e]
    have e : typedV 19 nu nm mo it (.slice ko kn kc) ks = .iface 146 (.agg #[]) := rfl
    rw [e]
    clear e
    have y0 := fun w => off_varNode 146 (.agg #[]) w (by decide)
    have y1 := fun w => off_setNode 146 (.agg #[]) w (by decide)
    have y2 := fun w => off_readNode 146 (.agg #[]) w (by decide)
    have y3 := fun w => off_callNode 146 (.agg #[]) w (by decide)
    have y4 := fun w => off_delayNode 146 (.agg #[]) w (by decide)
    have y5 := fun w => off_contNode 146 (.agg #[]) w (by decide)
    clear CV CQ CR CC BS
    go_enter Tryz.func56, Tryz.ntmps56
    go_wp2
    go_ret
    exact ⟨rfl, HB.out⟩
  by_cases h14 : kd = 20
  · subst h14
    have e : codeS s 20 nm mo it = 0 := rfl
    rw [e]
    have e : typedV 20 nu nm mo it (.slice ko kn kc) ks = .iface 148 (.agg #[.slice ko kn kc]) := rfl
    rw [e]
    clear e
    have y0 := fun w => off_varNode 148 (.agg #[.slice ko kn kc]) w (by decide)
    have y1 := fun w => off_setNode 148 (.agg #[.slice ko kn kc]) w (by decide)
    have y2 := fun w => off_readNode 148 (.agg #[.slice ko kn kc]) w (by decide)
    have y3 := fun w => off_callNode 148 (.agg #[.slice ko kn kc]) w (by decide)
    have y4 := fun w => off_delayNode 148 (.agg #[.slice ko kn kc]) w (by decide)
    have y5 := fun w => off_contNode 148 (.agg #[.slice ko kn kc]) w (by decide)
    clear CV CQ CR CC BS
    go_enter Tryz.func56, Tryz.ntmps56
    go_wp2
    go_ret
    exact ⟨rfl, HB.out⟩
  have e : codeS s kd nm mo it = 0 := by
    unfold codeS
    rw [if_neg (by omega), if_neg (by omega), if_neg (by omega), if_neg (by omega)]
  rw [e]
  have e : typedV kd nu nm mo it (.slice ko kn kc) ks = .nilIface := by
    unfold typedV
    simp only [h0, h1, h2, h3, h4, h5, h6, h7, h8, h9, h10, h11, h12, h13, h14, if_false]
  rw [e]
  clear e CV CQ CR CC BS
  have y0 := fun w => nil_varNode w
  have y1 := fun w => nil_setNode w
  have y2 := fun w => nil_readNode w
  have y3 := fun w => nil_callNode w
  have y4 := fun w => nil_delayNode w
  have y5 := fun w => nil_contNode w
  clear h0 h1 h2 h3 h4 h5 h6 h7 h8 h9 h10 h11 h12 h13 h14
  go_enter Tryz.func56, Tryz.ntmps56
  go_wp2
  go_ret
  exact ⟨rfl, HB.out⟩
end Go.Proofs.YtenhmecbebibkaaGreat
