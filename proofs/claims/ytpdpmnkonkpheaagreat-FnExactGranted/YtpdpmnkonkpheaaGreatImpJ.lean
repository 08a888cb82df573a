/-
  Walks: what stands in a node is right, by the program.
-/
import Derived.Test.YtpdpmnkonkpheaaGreatImpH
import Derived.Test.YtpdpmnkonkpheaaGreatKeyW
namespace Go.Proofs.YtpdpmnkonkpheaaGreat
open Go.RowKit

theorem IntsAt.one {w : World} {g : Nat} (hg : g = w.heap.size) (a : Int) (t : TypeId) (c : Nat) : IntsAt (w.alloc (.cells #[.int .i64 a] t)) (.slice (some ⟨g, 0, none⟩) 1 c) [a] := IntsAt.made hg [a] t 1 c rfl
theorem IntsAt.two {w : World} {g : Nat} (hg : g = w.heap.size) (a b : Int) (t : TypeId) (c : Nat) : IntsAt (w.alloc (.cells #[.int .i64 a, .int .i64 b] t)) (.slice (some ⟨g, 0, none⟩) 2 c) [a, b] := IntsAt.made hg [a, b] t 2 c rfl
theorem stand_one (nv mv pv : Value) (ns : List Nd) (r a : Int) (g c : Nat) (w : World) (hg : g = w.heap.size) (hN : NdsAt w nv ns) (hl : ns.length ≤ 1048576) :
    Calls Tryz.prog 90 #[.agg #[nv, mv, pv], .int .i64 r, .slice (some ⟨g, 0, none⟩) 1 c] (w.alloc (.cells #[.int .i64 a] 3)) fun e w' => e = .returned (.bool (standQ ns r a)) ∧ Below w.heap.size w w' := by
  have hb : Below w.heap.size w (w.alloc (.cells #[.int .i64 a] 3)) := (Below.refl _ _).alloc (Nat.le_refl _) _
  refine (stand_any nv mv pv _ ns r [a] _ (hN.stays hb) (IntsAt.one hg a 3 c) hl (by simp)).mono ?_
  rintro e w' ⟨rfl, h⟩
  exact ⟨by simp, hb.trans (h.mono hb.size)⟩
theorem stand_two (nv mv pv : Value) (ns : List Nd) (r a b : Int) (g c : Nat) (w : World) (hg : g = w.heap.size) (hN : NdsAt w nv ns) (hl : ns.length ≤ 1048576) :
    Calls Tryz.prog 90 #[.agg #[nv, mv, pv], .int .i64 r, .slice (some ⟨g, 0, none⟩) 2 c] (w.alloc (.cells #[.int .i64 a, .int .i64 b] 3)) fun e w' => e = .returned (.bool (standQ ns r a && standQ ns r b)) ∧ Below w.heap.size w w' := by
  have hb : Below w.heap.size w (w.alloc (.cells #[.int .i64 a, .int .i64 b] 3)) := (Below.refl _ _).alloc (Nat.le_refl _) _
  refine (stand_any nv mv pv _ ns r [a, b] _ (hN.stays hb) (IntsAt.two hg a b 3 c) hl (by simp)).mono ?_
  rintro e w' ⟨rfl, h⟩
  exact ⟨by simp, hb.trans (h.mono hb.size)⟩

/-- The program's box and the box of a typed node, while they are looked at. -/
structure TB (w : World) (nv mv pv : Value) (cs : Array Value) (t : TypeId) (z : World) : Prop where
  b0 : Box z w.heap.size #[nv, mv, pv] 33
  b1 : Box z (w.heap.size + 1) cs t
  bel : Below w.heap.size w z
theorem TB.start (w : World) (nv mv pv : Value) (cs : Array Value) (t : TypeId) : TB w nv mv pv cs t ((w.alloc (.cells #[nv, mv, pv] 33)).alloc (.cells cs t)) :=
  ⟨(Box.made w _ _).stays ((Below.refl _ _).alloc (Nat.le_refl _) _), Box.madeAt (by simp) _ _, by go_grown⟩
theorem TB.stays {w : World} {nv mv pv : Value} {cs : Array Value} {t : TypeId} {z z' : World} (h : TB w nv mv pv cs t z) (hb : Below z.heap.size z z') : TB w nv mv pv cs t z' :=
  ⟨h.b0.stays hb, h.b1.stays hb, h.bel.trans (hb.mono h.bel.size)⟩

set_option maxRecDepth 100000 in
set_option maxHeartbeats 4000000 in
theorem right_num (nv mv pv : Value) (ns : List Nd) (w : World) (_hN : NdsAt w nv ns) (nu : Int) :
    Calls Tryz.prog 108 #[.agg #[nv, mv, pv], .iface 147 (.agg #[.int .i64 nu])] w fun e w' => e = .returned (.bool (inZ 0 1000000 nu)) ∧ Below w.heap.size w w' := by
  have y0 := fun w => on_numNode (.agg #[.int .i64 nu]) w
  have T := hide (TB.start w nv mv pv #[.int .i64 nu] 147)
  clear _hN
  by_cases h0 : 0 ≤ nu
  · have e : inZ 0 1000000 nu = vok nu := by
      rw [Bool.eq_iff_iff, inZ_yes, vok_iff]
      omega
    rw [e]
    clear e
    go_enter Tryz.func108, Tryz.ntmps108
    (go_wp2_with (first
    | (go_at_call 88; refine Calls.mono (implNameOk_any _ _ ?_) ?_; (first | exact hs1 | exact hs2 | exact hs3); rintro e w2 ⟨rfl, hb2⟩; (
  have T := hide (T.out.stays hb2); have N := hide (N.out.stays hb2);
  have c0 := Lib.cell_of_heap T.out.b0 0; have c1 := Lib.cell_of_heap T.out.b0 1; have c2 := Lib.cell_of_heap T.out.b0 2;
  have t0 := Lib.cell_of_heap T.out.b1 0; have t1 := Lib.cell_of_heap T.out.b1 1; have t2 := Lib.cell_of_heap T.out.b1 2; have t3 := Lib.cell_of_heap T.out.b1 3;
  simp at c0 c1 c2 t0 t1 t2 t3;
  clear hb2))
    | (go_at_call 120; refine Calls.mono (implValOk _ _) ?_; rintro e w2 ⟨rfl, rfl⟩)
    | (go_at_call 121; refine Calls.mono (implKnown _ _) ?_; rintro e w2 ⟨rfl, rfl⟩)
    | (go_at_call 90; refine Calls.mono (stand_one _ _ _ ns _ _ _ _ _ ?_ N.out hl) ?_; (simp); rintro e w2 ⟨rfl, hb2⟩; (
  have T := hide (T.out.stays hb2); have N := hide (N.out.stays hb2);
  have c0 := Lib.cell_of_heap T.out.b0 0; have c1 := Lib.cell_of_heap T.out.b0 1; have c2 := Lib.cell_of_heap T.out.b0 2;
  have t0 := Lib.cell_of_heap T.out.b1 0; have t1 := Lib.cell_of_heap T.out.b1 1; have t2 := Lib.cell_of_heap T.out.b1 2; have t3 := Lib.cell_of_heap T.out.b1 3;
  simp at c0 c1 c2 t0 t1 t2 t3;
  clear hb2))))
    go_ret
    exact ⟨rfl, T.out.bel⟩
  · have e : inZ 0 1000000 nu = false := inZ_no.2 (by omega)
    rw [e]
    clear e
    go_enter Tryz.func108, Tryz.ntmps108
    (go_wp2_with (first
    | (go_at_call 88; refine Calls.mono (implNameOk_any _ _ ?_) ?_; (first | exact hs1 | exact hs2 | exact hs3); rintro e w2 ⟨rfl, hb2⟩; (
  have T := hide (T.out.stays hb2); have N := hide (N.out.stays hb2);
  have c0 := Lib.cell_of_heap T.out.b0 0; have c1 := Lib.cell_of_heap T.out.b0 1; have c2 := Lib.cell_of_heap T.out.b0 2;
  have t0 := Lib.cell_of_heap T.out.b1 0; have t1 := Lib.cell_of_heap T.out.b1 1; have t2 := Lib.cell_of_heap T.out.b1 2; have t3 := Lib.cell_of_heap T.out.b1 3;
  simp at c0 c1 c2 t0 t1 t2 t3;
  clear hb2))
    | (go_at_call 120; refine Calls.mono (implValOk _ _) ?_; rintro e w2 ⟨rfl, rfl⟩)
    | (go_at_call 121; refine Calls.mono (implKnown _ _) ?_; rintro e w2 ⟨rfl, rfl⟩)
    | (go_at_call 90; refine Calls.mono (stand_one _ _ _ ns _ _ _ _ _ ?_ N.out hl) ?_; (simp); rintro e w2 ⟨rfl, hb2⟩; (
  have T := hide (T.out.stays hb2); have N := hide (N.out.stays hb2);
  have c0 := Lib.cell_of_heap T.out.b0 0; have c1 := Lib.cell_of_heap T.out.b0 1; have c2 := Lib.cell_of_heap T.out.b0 2;
  have t0 := Lib.cell_of_heap T.out.b1 0; have t1 := Lib.cell_of_heap T.out.b1 1; have t2 := Lib.cell_of_heap T.out.b1 2; have t3 := Lib.cell_of_heap T.out.b1 3;
  simp at c0 c1 c2 t0 t1 t2 t3;
  clear hb2))))
    go_ret
    exact ⟨rfl, T.out.bel⟩
set_option maxRecDepth 100000 in
set_option maxHeartbeats 4000000 in
theorem right_var (nv mv pv : Value) (ns : List Nd) (w : World) (hN : NdsAt w nv ns) (_hl : ns.length ≤ 1048576) (nm : ByteArray) (hs1 : nm.size ≤ 1048576) :
    Calls Tryz.prog 108 #[.agg #[nv, mv, pv], .iface 137 (.agg #[.string nm])] w fun e w' => e = .returned (.bool (nameB nm)) ∧ Below w.heap.size w w' := by
  have y0 := fun w => off_numNode 137 (.agg #[.string nm]) w (by decide)
  have y1 := fun w => on_varNode (.agg #[.string nm]) w
  have T := hide (TB.start w nv mv pv #[.string nm] 137)
  have N := hide (hN.stays T.out.bel)
  clear hN
  go_enter Tryz.func108, Tryz.ntmps108
  (go_wp2_with (first
    | (go_at_call 88; refine Calls.mono (implNameOk_any _ _ ?_) ?_; (first | exact hs1 | exact hs2 | exact hs3); rintro e w2 ⟨rfl, hb2⟩; (
  have T := hide (T.out.stays hb2); have N := hide (N.out.stays hb2);
  have c0 := Lib.cell_of_heap T.out.b0 0; have c1 := Lib.cell_of_heap T.out.b0 1; have c2 := Lib.cell_of_heap T.out.b0 2;
  have t0 := Lib.cell_of_heap T.out.b1 0; have t1 := Lib.cell_of_heap T.out.b1 1; have t2 := Lib.cell_of_heap T.out.b1 2; have t3 := Lib.cell_of_heap T.out.b1 3;
  simp at c0 c1 c2 t0 t1 t2 t3;
  clear hb2))
    | (go_at_call 120; refine Calls.mono (implValOk _ _) ?_; rintro e w2 ⟨rfl, rfl⟩)
    | (go_at_call 121; refine Calls.mono (implKnown _ _) ?_; rintro e w2 ⟨rfl, rfl⟩)
    | (go_at_call 90; refine Calls.mono (stand_one _ _ _ ns _ _ _ _ _ ?_ N.out hl) ?_; (simp); rintro e w2 ⟨rfl, hb2⟩; (
  have T := hide (T.out.stays hb2); have N := hide (N.out.stays hb2);
  have c0 := Lib.cell_of_heap T.out.b0 0; have c1 := Lib.cell_of_heap T.out.b0 1; have c2 := Lib.cell_of_heap T.out.b0 2;
  have t0 := Lib.cell_of_heap T.out.b1 0; have t1 := Lib.cell_of_heap T.out.b1 1; have t2 := Lib.cell_of_heap T.out.b1 2; have t3 := Lib.cell_of_heap T.out.b1 3;
  simp at c0 c1 c2 t0 t1 t2 t3;
  clear hb2))))
  go_ret
  exact ⟨rfl, T.out.bel⟩
set_option maxRecDepth 100000 in
set_option maxHeartbeats 4000000 in
theorem right_read (nv mv pv : Value) (ns : List Nd) (w : World) (hN : NdsAt w nv ns) (_hl : ns.length ≤ 1048576) (nm : ByteArray) (hs1 : nm.size ≤ 1048576) :
    Calls Tryz.prog 108 #[.agg #[nv, mv, pv], .iface 141 (.agg #[.string nm])] w fun e w' => e = .returned (.bool (nameB nm)) ∧ Below w.heap.size w w' := by
  have y0 := fun w => off_numNode 141 (.agg #[.string nm]) w (by decide)
  have y1 := fun w => off_varNode 141 (.agg #[.string nm]) w (by decide)
  have y2 := fun w => off_calcNode 141 (.agg #[.string nm]) w (by decide)
  have y3 := fun w => off_notNode 141 (.agg #[.string nm]) w (by decide)
  have y4 := fun w => off_negNode 141 (.agg #[.string nm]) w (by decide)
  have y5 := fun w => off_setNode 141 (.agg #[.string nm]) w (by decide)
  have y6 := fun w => off_ifNode 141 (.agg #[.string nm]) w (by decide)
  have y7 := fun w => off_whileNode 141 (.agg #[.string nm]) w (by decide)
  have y8 := fun w => off_callNode 141 (.agg #[.string nm]) w (by decide)
  have y9 := fun w => off_printNode 141 (.agg #[.string nm]) w (by decide)
  have y10 := fun w => on_readNode (.agg #[.string nm]) w
  have T := hide (TB.start w nv mv pv #[.string nm] 141)
  have N := hide (hN.stays T.out.bel)
  clear hN
  go_enter Tryz.func108, Tryz.ntmps108
  (go_wp2_with (first
    | (go_at_call 88; refine Calls.mono (implNameOk_any _ _ ?_) ?_; (first | exact hs1 | exact hs2 | exact hs3); rintro e w2 ⟨rfl, hb2⟩; (
  have T := hide (T.out.stays hb2); have N := hide (N.out.stays hb2);
  have c0 := Lib.cell_of_heap T.out.b0 0; have c1 := Lib.cell_of_heap T.out.b0 1; have c2 := Lib.cell_of_heap T.out.b0 2;
  have t0 := Lib.cell_of_heap T.out.b1 0; have t1 := Lib.cell_of_heap T.out.b1 1; have t2 := Lib.cell_of_heap T.out.b1 2; have t3 := Lib.cell_of_heap T.out.b1 3;
  simp at c0 c1 c2 t0 t1 t2 t3;
  clear hb2))
    | (go_at_call 120; refine Calls.mono (implValOk _ _) ?_; rintro e w2 ⟨rfl, rfl⟩)
    | (go_at_call 121; refine Calls.mono (implKnown _ _) ?_; rintro e w2 ⟨rfl, rfl⟩)
    | (go_at_call 90; refine Calls.mono (stand_one _ _ _ ns _ _ _ _ _ ?_ N.out hl) ?_; (simp); rintro e w2 ⟨rfl, hb2⟩; (
  have T := hide (T.out.stays hb2); have N := hide (N.out.stays hb2);
  have c0 := Lib.cell_of_heap T.out.b0 0; have c1 := Lib.cell_of_heap T.out.b0 1; have c2 := Lib.cell_of_heap T.out.b0 2;
  have t0 := Lib.cell_of_heap T.out.b1 0; have t1 := Lib.cell_of_heap T.out.b1 1; have t2 := Lib.cell_of_heap T.out.b1 2; have t3 := Lib.cell_of_heap T.out.b1 3;
  simp at c0 c1 c2 t0 t1 t2 t3;
  clear hb2))))
  go_ret
  exact ⟨rfl, T.out.bel⟩
set_option maxRecDepth 100000 in
set_option maxHeartbeats 4000000 in
theorem right_delay (nv mv pv : Value) (ns : List Nd) (w : World) (hN : NdsAt w nv ns) (_hl : ns.length ≤ 1048576) (nm : ByteArray) (hs1 : nm.size ≤ 1048576) :
    Calls Tryz.prog 108 #[.agg #[nv, mv, pv], .iface 144 (.agg #[.string nm])] w fun e w' => e = .returned (.bool (nameB nm)) ∧ Below w.heap.size w w' := by
  have y0 := fun w => off_numNode 144 (.agg #[.string nm]) w (by decide)
  have y1 := fun w => off_varNode 144 (.agg #[.string nm]) w (by decide)
  have y2 := fun w => off_calcNode 144 (.agg #[.string nm]) w (by decide)
  have y3 := fun w => off_notNode 144 (.agg #[.string nm]) w (by decide)
  have y4 := fun w => off_negNode 144 (.agg #[.string nm]) w (by decide)
  have y5 := fun w => off_setNode 144 (.agg #[.string nm]) w (by decide)
  have y6 := fun w => off_ifNode 144 (.agg #[.string nm]) w (by decide)
  have y7 := fun w => off_whileNode 144 (.agg #[.string nm]) w (by decide)
  have y8 := fun w => off_callNode 144 (.agg #[.string nm]) w (by decide)
  have y9 := fun w => off_printNode 144 (.agg #[.string nm]) w (by decide)
  have y10 := fun w => off_readNode 144 (.agg #[.string nm]) w (by decide)
  have y11 := fun w => on_delayNode (.agg #[.string nm]) w
  have T := hide (TB.start w nv mv pv #[.string nm] 144)
  have N := hide (hN.stays T.out.bel)
  clear hN
  go_enter Tryz.func108, Tryz.ntmps108
  (go_wp2_with (first
    | (go_at_call 88; refine Calls.mono (implNameOk_any _ _ ?_) ?_; (first | exact hs1 | exact hs2 | exact hs3); rintro e w2 ⟨rfl, hb2⟩; (
  have T := hide (T.out.stays hb2); have N := hide (N.out.stays hb2);
  have c0 := Lib.cell_of_heap T.out.b0 0; have c1 := Lib.cell_of_heap T.out.b0 1; have c2 := Lib.cell_of_heap T.out.b0 2;
  have t0 := Lib.cell_of_heap T.out.b1 0; have t1 := Lib.cell_of_heap T.out.b1 1; have t2 := Lib.cell_of_heap T.out.b1 2; have t3 := Lib.cell_of_heap T.out.b1 3;
  simp at c0 c1 c2 t0 t1 t2 t3;
  clear hb2))
    | (go_at_call 120; refine Calls.mono (implValOk _ _) ?_; rintro e w2 ⟨rfl, rfl⟩)
    | (go_at_call 121; refine Calls.mono (implKnown _ _) ?_; rintro e w2 ⟨rfl, rfl⟩)
    | (go_at_call 90; refine Calls.mono (stand_one _ _ _ ns _ _ _ _ _ ?_ N.out hl) ?_; (simp); rintro e w2 ⟨rfl, hb2⟩; (
  have T := hide (T.out.stays hb2); have N := hide (N.out.stays hb2);
  have c0 := Lib.cell_of_heap T.out.b0 0; have c1 := Lib.cell_of_heap T.out.b0 1; have c2 := Lib.cell_of_heap T.out.b0 2;
  have t0 := Lib.cell_of_heap T.out.b1 0; have t1 := Lib.cell_of_heap T.out.b1 1; have t2 := Lib.cell_of_heap T.out.b1 2; have t3 := Lib.cell_of_heap T.out.b1 3;
  simp at c0 c1 c2 t0 t1 t2 t3;
  clear hb2))))
  go_ret
  exact ⟨rfl, T.out.bel⟩
set_option maxRecDepth 100000 in
set_option maxHeartbeats 4000000 in
theorem right_cont (nv mv pv : Value) (ns : List Nd) (w : World) (hN : NdsAt w nv ns) (_hl : ns.length ≤ 1048576) (nm : ByteArray) (hs1 : nm.size ≤ 1048576) :
    Calls Tryz.prog 108 #[.agg #[nv, mv, pv], .iface 145 (.agg #[.string nm])] w fun e w' => e = .returned (.bool (nameB nm)) ∧ Below w.heap.size w w' := by
  have y0 := fun w => off_numNode 145 (.agg #[.string nm]) w (by decide)
  have y1 := fun w => off_varNode 145 (.agg #[.string nm]) w (by decide)
  have y2 := fun w => off_calcNode 145 (.agg #[.string nm]) w (by decide)
  have y3 := fun w => off_notNode 145 (.agg #[.string nm]) w (by decide)
  have y4 := fun w => off_negNode 145 (.agg #[.string nm]) w (by decide)
  have y5 := fun w => off_setNode 145 (.agg #[.string nm]) w (by decide)
  have y6 := fun w => off_ifNode 145 (.agg #[.string nm]) w (by decide)
  have y7 := fun w => off_whileNode 145 (.agg #[.string nm]) w (by decide)
  have y8 := fun w => off_callNode 145 (.agg #[.string nm]) w (by decide)
  have y9 := fun w => off_printNode 145 (.agg #[.string nm]) w (by decide)
  have y10 := fun w => off_readNode 145 (.agg #[.string nm]) w (by decide)
  have y11 := fun w => off_delayNode 145 (.agg #[.string nm]) w (by decide)
  have y12 := fun w => on_contNode (.agg #[.string nm]) w
  have T := hide (TB.start w nv mv pv #[.string nm] 145)
  have N := hide (hN.stays T.out.bel)
  clear hN
  go_enter Tryz.func108, Tryz.ntmps108
  (go_wp2_with (first
    | (go_at_call 88; refine Calls.mono (implNameOk_any _ _ ?_) ?_; (first | exact hs1 | exact hs2 | exact hs3); rintro e w2 ⟨rfl, hb2⟩; (
  have T := hide (T.out.stays hb2); have N := hide (N.out.stays hb2);
  have c0 := Lib.cell_of_heap T.out.b0 0; have c1 := Lib.cell_of_heap T.out.b0 1; have c2 := Lib.cell_of_heap T.out.b0 2;
  have t0 := Lib.cell_of_heap T.out.b1 0; have t1 := Lib.cell_of_heap T.out.b1 1; have t2 := Lib.cell_of_heap T.out.b1 2; have t3 := Lib.cell_of_heap T.out.b1 3;
  simp at c0 c1 c2 t0 t1 t2 t3;
  clear hb2))
    | (go_at_call 120; refine Calls.mono (implValOk _ _) ?_; rintro e w2 ⟨rfl, rfl⟩)
    | (go_at_call 121; refine Calls.mono (implKnown _ _) ?_; rintro e w2 ⟨rfl, rfl⟩)
    | (go_at_call 90; refine Calls.mono (stand_one _ _ _ ns _ _ _ _ _ ?_ N.out hl) ?_; (simp); rintro e w2 ⟨rfl, hb2⟩; (
  have T := hide (T.out.stays hb2); have N := hide (N.out.stays hb2);
  have c0 := Lib.cell_of_heap T.out.b0 0; have c1 := Lib.cell_of_heap T.out.b0 1; have c2 := Lib.cell_of_heap T.out.b0 2;
  have t0 := Lib.cell_of_heap T.out.b1 0; have t1 := Lib.cell_of_heap T.out.b1 1; have t2 := Lib.cell_of_heap T.out.b1 2; have t3 := Lib.cell_of_heap T.out.b1 3;
  simp at c0 c1 c2 t0 t1 t2 t3;
  clear hb2))))
  go_ret
  exact ⟨rfl, T.out.bel⟩
set_option maxRecDepth 100000 in
set_option maxHeartbeats 4000000 in
theorem right_calc (nv mv pv : Value) (ns : List Nd) (w : World) (hN : NdsAt w nv ns) (hl : ns.length ≤ 1048576) (nu a b : Int) :
    Calls Tryz.prog 108 #[.agg #[nv, mv, pv], .iface 150 (.agg #[.int .i64 nu, .int .i64 a, .int .i64 b])] w fun e w' => e = .returned (.bool ((decide (1 ≤ nu) && decide (nu ≤ 9)) && (standQ ns 1 a && standQ ns 1 b))) ∧ Below w.heap.size w w' := by
  have y0 := fun w => off_numNode 150 (.agg #[.int .i64 nu, .int .i64 a, .int .i64 b]) w (by decide)
  have y1 := fun w => off_varNode 150 (.agg #[.int .i64 nu, .int .i64 a, .int .i64 b]) w (by decide)
  have y2 := fun w => on_calcNode (.agg #[.int .i64 nu, .int .i64 a, .int .i64 b]) w
  have T := hide (TB.start w nv mv pv #[.int .i64 nu, .int .i64 a, .int .i64 b] 150)
  have N := hide (hN.stays T.out.bel)
  clear hN
  cases h : (decide (1 ≤ nu) && decide (nu ≤ 9)) with
  | false =>
    rw [Bool.false_and]
    go_enter Tryz.func108, Tryz.ntmps108
    (go_wp2_with (first
    | (go_at_call 121; refine Calls.mono (implKnown _ _) ?_; rintro e w2 ⟨rfl, rfl⟩)
    | (go_at_call 90; refine Calls.mono (stand_two _ _ _ ns _ _ _ _ _ _ ?_ N.out hl) ?_; (simp); rintro e w2 ⟨rfl, hb2⟩; (
  have T := hide (T.out.stays hb2); have N := hide (N.out.stays hb2);
  have c0 := Lib.cell_of_heap T.out.b0 0; have c1 := Lib.cell_of_heap T.out.b0 1; have c2 := Lib.cell_of_heap T.out.b0 2;
  have t0 := Lib.cell_of_heap T.out.b1 0; have t1 := Lib.cell_of_heap T.out.b1 1; have t2 := Lib.cell_of_heap T.out.b1 2; have t3 := Lib.cell_of_heap T.out.b1 3;
  simp at c0 c1 c2 t0 t1 t2 t3;
  clear hb2))))
    go_ret
    exact ⟨rfl, T.out.bel⟩
  | true =>
    rw [Bool.true_and]
    go_enter Tryz.func108, Tryz.ntmps108
    (go_wp2_with (first
    | (go_at_call 121; refine Calls.mono (implKnown _ _) ?_; rintro e w2 ⟨rfl, rfl⟩)
    | (go_at_call 90; refine Calls.mono (stand_two _ _ _ ns _ _ _ _ _ _ ?_ N.out hl) ?_; (simp); rintro e w2 ⟨rfl, hb2⟩; (
  have T := hide (T.out.stays hb2); have N := hide (N.out.stays hb2);
  have c0 := Lib.cell_of_heap T.out.b0 0; have c1 := Lib.cell_of_heap T.out.b0 1; have c2 := Lib.cell_of_heap T.out.b0 2;
  have t0 := Lib.cell_of_heap T.out.b1 0; have t1 := Lib.cell_of_heap T.out.b1 1; have t2 := Lib.cell_of_heap T.out.b1 2; have t3 := Lib.cell_of_heap T.out.b1 3;
  simp at c0 c1 c2 t0 t1 t2 t3;
  clear hb2))))
    go_ret
    exact ⟨rfl, T.out.bel⟩
set_option maxRecDepth 100000 in
set_option maxHeartbeats 4000000 in
theorem right_not (nv mv pv : Value) (ns : List Nd) (w : World) (hN : NdsAt w nv ns) (hl : ns.length ≤ 1048576) (a : Int) :
    Calls Tryz.prog 108 #[.agg #[nv, mv, pv], .iface 152 (.agg #[.int .i64 a])] w fun e w' => e = .returned (.bool (standQ ns 1 a)) ∧ Below w.heap.size w w' := by
  have y0 := fun w => off_numNode 152 (.agg #[.int .i64 a]) w (by decide)
  have y1 := fun w => off_varNode 152 (.agg #[.int .i64 a]) w (by decide)
  have y2 := fun w => off_calcNode 152 (.agg #[.int .i64 a]) w (by decide)
  have y3 := fun w => on_notNode (.agg #[.int .i64 a]) w
  have T := hide (TB.start w nv mv pv #[.int .i64 a] 152)
  have N := hide (hN.stays T.out.bel)
  clear hN
  go_enter Tryz.func108, Tryz.ntmps108
  (go_wp2_with (first
    | (go_at_call 88; refine Calls.mono (implNameOk_any _ _ ?_) ?_; (first | exact hs1 | exact hs2 | exact hs3); rintro e w2 ⟨rfl, hb2⟩; (
  have T := hide (T.out.stays hb2); have N := hide (N.out.stays hb2);
  have c0 := Lib.cell_of_heap T.out.b0 0; have c1 := Lib.cell_of_heap T.out.b0 1; have c2 := Lib.cell_of_heap T.out.b0 2;
  have t0 := Lib.cell_of_heap T.out.b1 0; have t1 := Lib.cell_of_heap T.out.b1 1; have t2 := Lib.cell_of_heap T.out.b1 2; have t3 := Lib.cell_of_heap T.out.b1 3;
  simp at c0 c1 c2 t0 t1 t2 t3;
  clear hb2))
    | (go_at_call 120; refine Calls.mono (implValOk _ _) ?_; rintro e w2 ⟨rfl, rfl⟩)
    | (go_at_call 121; refine Calls.mono (implKnown _ _) ?_; rintro e w2 ⟨rfl, rfl⟩)
    | (go_at_call 90; refine Calls.mono (stand_one _ _ _ ns _ _ _ _ _ ?_ N.out hl) ?_; (simp); rintro e w2 ⟨rfl, hb2⟩; (
  have T := hide (T.out.stays hb2); have N := hide (N.out.stays hb2);
  have c0 := Lib.cell_of_heap T.out.b0 0; have c1 := Lib.cell_of_heap T.out.b0 1; have c2 := Lib.cell_of_heap T.out.b0 2;
  have t0 := Lib.cell_of_heap T.out.b1 0; have t1 := Lib.cell_of_heap T.out.b1 1; have t2 := Lib.cell_of_heap T.out.b1 2; have t3 := Lib.cell_of_heap T.out.b1 3;
  simp at c0 c1 c2 t0 t1 t2 t3;
  clear hb2))))
  go_ret
  exact ⟨rfl, T.out.bel⟩
set_option maxRecDepth 100000 in
set_option maxHeartbeats 4000000 in
theorem right_neg (nv mv pv : Value) (ns : List Nd) (w : World) (hN : NdsAt w nv ns) (hl : ns.length ≤ 1048576) (a : Int) :
    Calls Tryz.prog 108 #[.agg #[nv, mv, pv], .iface 153 (.agg #[.int .i64 a])] w fun e w' => e = .returned (.bool (standQ ns 1 a)) ∧ Below w.heap.size w w' := by
  have y0 := fun w => off_numNode 153 (.agg #[.int .i64 a]) w (by decide)
  have y1 := fun w => off_varNode 153 (.agg #[.int .i64 a]) w (by decide)
  have y2 := fun w => off_calcNode 153 (.agg #[.int .i64 a]) w (by decide)
  have y3 := fun w => off_notNode 153 (.agg #[.int .i64 a]) w (by decide)
  have y4 := fun w => on_negNode (.agg #[.int .i64 a]) w
  have T := hide (TB.start w nv mv pv #[.int .i64 a] 153)
  have N := hide (hN.stays T.out.bel)
  clear hN
  go_enter Tryz.func108, Tryz.ntmps108
  (go_wp2_with (first
    | (go_at_call 88; refine Calls.mono (implNameOk_any _ _ ?_) ?_; (first | exact hs1 | exact hs2 | exact hs3); rintro e w2 ⟨rfl, hb2⟩; (
  have T := hide (T.out.stays hb2); have N := hide (N.out.stays hb2);
  have c0 := Lib.cell_of_heap T.out.b0 0; have c1 := Lib.cell_of_heap T.out.b0 1; have c2 := Lib.cell_of_heap T.out.b0 2;
  have t0 := Lib.cell_of_heap T.out.b1 0; have t1 := Lib.cell_of_heap T.out.b1 1; have t2 := Lib.cell_of_heap T.out.b1 2; have t3 := Lib.cell_of_heap T.out.b1 3;
  simp at c0 c1 c2 t0 t1 t2 t3;
  clear hb2))
    | (go_at_call 120; refine Calls.mono (implValOk _ _) ?_; rintro e w2 ⟨rfl, rfl⟩)
    | (go_at_call 121; refine Calls.mono (implKnown _ _) ?_; rintro e w2 ⟨rfl, rfl⟩)
    | (go_at_call 90; refine Calls.mono (stand_one _ _ _ ns _ _ _ _ _ ?_ N.out hl) ?_; (simp); rintro e w2 ⟨rfl, hb2⟩; (
  have T := hide (T.out.stays hb2); have N := hide (N.out.stays hb2);
  have c0 := Lib.cell_of_heap T.out.b0 0; have c1 := Lib.cell_of_heap T.out.b0 1; have c2 := Lib.cell_of_heap T.out.b0 2;
  have t0 := Lib.cell_of_heap T.out.b1 0; have t1 := Lib.cell_of_heap T.out.b1 1; have t2 := Lib.cell_of_heap T.out.b1 2; have t3 := Lib.cell_of_heap T.out.b1 3;
  simp at c0 c1 c2 t0 t1 t2 t3;
  clear hb2))))
  go_ret
  exact ⟨rfl, T.out.bel⟩
set_option maxRecDepth 100000 in
set_option maxHeartbeats 4000000 in
theorem right_print (nv mv pv : Value) (ns : List Nd) (w : World) (hN : NdsAt w nv ns) (hl : ns.length ≤ 1048576) (a : Int) :
    Calls Tryz.prog 108 #[.agg #[nv, mv, pv], .iface 159 (.agg #[.int .i64 a])] w fun e w' => e = .returned (.bool (standQ ns 1 a)) ∧ Below w.heap.size w w' := by
  have y0 := fun w => off_numNode 159 (.agg #[.int .i64 a]) w (by decide)
  have y1 := fun w => off_varNode 159 (.agg #[.int .i64 a]) w (by decide)
  have y2 := fun w => off_calcNode 159 (.agg #[.int .i64 a]) w (by decide)
  have y3 := fun w => off_notNode 159 (.agg #[.int .i64 a]) w (by decide)
  have y4 := fun w => off_negNode 159 (.agg #[.int .i64 a]) w (by decide)
  have y5 := fun w => off_setNode 159 (.agg #[.int .i64 a]) w (by decide)
  have y6 := fun w => off_ifNode 159 (.agg #[.int .i64 a]) w (by decide)
  have y7 := fun w => off_whileNode 159 (.agg #[.int .i64 a]) w (by decide)
  have y8 := fun w => off_callNode 159 (.agg #[.int .i64 a]) w (by decide)
  have y9 := fun w => on_printNode (.agg #[.int .i64 a]) w
  have T := hide (TB.start w nv mv pv #[.int .i64 a] 159)
  have N := hide (hN.stays T.out.bel)
  clear hN
  go_enter Tryz.func108, Tryz.ntmps108
  (go_wp2_with (first
    | (go_at_call 88; refine Calls.mono (implNameOk_any _ _ ?_) ?_; (first | exact hs1 | exact hs2 | exact hs3); rintro e w2 ⟨rfl, hb2⟩; (
  have T := hide (T.out.stays hb2); have N := hide (N.out.stays hb2);
  have c0 := Lib.cell_of_heap T.out.b0 0; have c1 := Lib.cell_of_heap T.out.b0 1; have c2 := Lib.cell_of_heap T.out.b0 2;
  have t0 := Lib.cell_of_heap T.out.b1 0; have t1 := Lib.cell_of_heap T.out.b1 1; have t2 := Lib.cell_of_heap T.out.b1 2; have t3 := Lib.cell_of_heap T.out.b1 3;
  simp at c0 c1 c2 t0 t1 t2 t3;
  clear hb2))
    | (go_at_call 120; refine Calls.mono (implValOk _ _) ?_; rintro e w2 ⟨rfl, rfl⟩)
    | (go_at_call 121; refine Calls.mono (implKnown _ _) ?_; rintro e w2 ⟨rfl, rfl⟩)
    | (go_at_call 90; refine Calls.mono (stand_one _ _ _ ns _ _ _ _ _ ?_ N.out hl) ?_; (simp); rintro e w2 ⟨rfl, hb2⟩; (
  have T := hide (T.out.stays hb2); have N := hide (N.out.stays hb2);
  have c0 := Lib.cell_of_heap T.out.b0 0; have c1 := Lib.cell_of_heap T.out.b0 1; have c2 := Lib.cell_of_heap T.out.b0 2;
  have t0 := Lib.cell_of_heap T.out.b1 0; have t1 := Lib.cell_of_heap T.out.b1 1; have t2 := Lib.cell_of_heap T.out.b1 2; have t3 := Lib.cell_of_heap T.out.b1 3;
  simp at c0 c1 c2 t0 t1 t2 t3;
  clear hb2))))
  go_ret
  exact ⟨rfl, T.out.bel⟩
set_option maxRecDepth 100000 in
set_option maxHeartbeats 4000000 in
theorem right_set (nv mv pv : Value) (ns : List Nd) (w : World) (hN : NdsAt w nv ns) (hl : ns.length ≤ 1048576) (nm : ByteArray) (hs1 : nm.size ≤ 1048576) (a : Int) :
    Calls Tryz.prog 108 #[.agg #[nv, mv, pv], .iface 140 (.agg #[.string nm, .int .i64 a])] w fun e w' => e = .returned (.bool (nameB nm && standQ ns 1 a)) ∧ Below w.heap.size w w' := by
  have y0 := fun w => off_numNode 140 (.agg #[.string nm, .int .i64 a]) w (by decide)
  have y1 := fun w => off_varNode 140 (.agg #[.string nm, .int .i64 a]) w (by decide)
  have y2 := fun w => off_calcNode 140 (.agg #[.string nm, .int .i64 a]) w (by decide)
  have y3 := fun w => off_notNode 140 (.agg #[.string nm, .int .i64 a]) w (by decide)
  have y4 := fun w => off_negNode 140 (.agg #[.string nm, .int .i64 a]) w (by decide)
  have y5 := fun w => on_setNode (.agg #[.string nm, .int .i64 a]) w
  have T := hide (TB.start w nv mv pv #[.string nm, .int .i64 a] 140)
  have N := hide (hN.stays T.out.bel)
  clear hN
  cases h : (nameB nm) with
  | false =>
    rw [Bool.false_and]
    go_enter Tryz.func108, Tryz.ntmps108
    (go_wp2_with (first
    | (go_at_call 88; refine Calls.mono (implNameOk_any _ _ ?_) ?_; (first | exact hs1 | exact hs2 | exact hs3); rintro e w2 ⟨rfl, hb2⟩; (
  have T := hide (T.out.stays hb2); have N := hide (N.out.stays hb2);
  have c0 := Lib.cell_of_heap T.out.b0 0; have c1 := Lib.cell_of_heap T.out.b0 1; have c2 := Lib.cell_of_heap T.out.b0 2;
  have t0 := Lib.cell_of_heap T.out.b1 0; have t1 := Lib.cell_of_heap T.out.b1 1; have t2 := Lib.cell_of_heap T.out.b1 2; have t3 := Lib.cell_of_heap T.out.b1 3;
  simp at c0 c1 c2 t0 t1 t2 t3;
  clear hb2))
    | (go_at_call 120; refine Calls.mono (implValOk _ _) ?_; rintro e w2 ⟨rfl, rfl⟩)
    | (go_at_call 121; refine Calls.mono (implKnown _ _) ?_; rintro e w2 ⟨rfl, rfl⟩)
    | (go_at_call 90; refine Calls.mono (stand_one _ _ _ ns _ _ _ _ _ ?_ N.out hl) ?_; (simp); rintro e w2 ⟨rfl, hb2⟩; (
  have T := hide (T.out.stays hb2); have N := hide (N.out.stays hb2);
  have c0 := Lib.cell_of_heap T.out.b0 0; have c1 := Lib.cell_of_heap T.out.b0 1; have c2 := Lib.cell_of_heap T.out.b0 2;
  have t0 := Lib.cell_of_heap T.out.b1 0; have t1 := Lib.cell_of_heap T.out.b1 1; have t2 := Lib.cell_of_heap T.out.b1 2; have t3 := Lib.cell_of_heap T.out.b1 3;
  simp at c0 c1 c2 t0 t1 t2 t3;
  clear hb2))))
    go_ret
    exact ⟨rfl, T.out.bel⟩
  | true =>
    rw [Bool.true_and]
    go_enter Tryz.func108, Tryz.ntmps108
    (go_wp2_with (first
    | (go_at_call 88; refine Calls.mono (implNameOk_any _ _ ?_) ?_; (first | exact hs1 | exact hs2 | exact hs3); rintro e w2 ⟨rfl, hb2⟩; (
  have T := hide (T.out.stays hb2); have N := hide (N.out.stays hb2);
  have c0 := Lib.cell_of_heap T.out.b0 0; have c1 := Lib.cell_of_heap T.out.b0 1; have c2 := Lib.cell_of_heap T.out.b0 2;
  have t0 := Lib.cell_of_heap T.out.b1 0; have t1 := Lib.cell_of_heap T.out.b1 1; have t2 := Lib.cell_of_heap T.out.b1 2; have t3 := Lib.cell_of_heap T.out.b1 3;
  simp at c0 c1 c2 t0 t1 t2 t3;
  clear hb2))
    | (go_at_call 120; refine Calls.mono (implValOk _ _) ?_; rintro e w2 ⟨rfl, rfl⟩)
    | (go_at_call 121; refine Calls.mono (implKnown _ _) ?_; rintro e w2 ⟨rfl, rfl⟩)
    | (go_at_call 90; refine Calls.mono (stand_one _ _ _ ns _ _ _ _ _ ?_ N.out hl) ?_; (simp); rintro e w2 ⟨rfl, hb2⟩; (
  have T := hide (T.out.stays hb2); have N := hide (N.out.stays hb2);
  have c0 := Lib.cell_of_heap T.out.b0 0; have c1 := Lib.cell_of_heap T.out.b0 1; have c2 := Lib.cell_of_heap T.out.b0 2;
  have t0 := Lib.cell_of_heap T.out.b1 0; have t1 := Lib.cell_of_heap T.out.b1 1; have t2 := Lib.cell_of_heap T.out.b1 2; have t3 := Lib.cell_of_heap T.out.b1 3;
  simp at c0 c1 c2 t0 t1 t2 t3;
  clear hb2))))
    go_ret
    exact ⟨rfl, T.out.bel⟩
set_option maxRecDepth 100000 in
set_option maxHeartbeats 4000000 in
theorem right_while (nv mv pv : Value) (ns : List Nd) (w : World) (hN : NdsAt w nv ns) (hl : ns.length ≤ 1048576) (a b : Int) :
    Calls Tryz.prog 108 #[.agg #[nv, mv, pv], .iface 157 (.agg #[.int .i64 a, .int .i64 b])] w fun e w' => e = .returned (.bool (standQ ns 1 a && standQ ns 3 b)) ∧ Below w.heap.size w w' := by
  have y0 := fun w => off_numNode 157 (.agg #[.int .i64 a, .int .i64 b]) w (by decide)
  have y1 := fun w => off_varNode 157 (.agg #[.int .i64 a, .int .i64 b]) w (by decide)
  have y2 := fun w => off_calcNode 157 (.agg #[.int .i64 a, .int .i64 b]) w (by decide)
  have y3 := fun w => off_notNode 157 (.agg #[.int .i64 a, .int .i64 b]) w (by decide)
  have y4 := fun w => off_negNode 157 (.agg #[.int .i64 a, .int .i64 b]) w (by decide)
  have y5 := fun w => off_setNode 157 (.agg #[.int .i64 a, .int .i64 b]) w (by decide)
  have y6 := fun w => off_ifNode 157 (.agg #[.int .i64 a, .int .i64 b]) w (by decide)
  have y7 := fun w => on_whileNode (.agg #[.int .i64 a, .int .i64 b]) w
  have T := hide (TB.start w nv mv pv #[.int .i64 a, .int .i64 b] 157)
  have N := hide (hN.stays T.out.bel)
  clear hN
  cases h : (standQ ns 1 a) with
  | false =>
    rw [Bool.false_and]
    go_enter Tryz.func108, Tryz.ntmps108
    (go_wp2_with (first
    | (go_at_call 88; refine Calls.mono (implNameOk_any _ _ ?_) ?_; (first | exact hs1 | exact hs2 | exact hs3); rintro e w2 ⟨rfl, hb2⟩; (
  have T := hide (T.out.stays hb2); have N := hide (N.out.stays hb2);
  have c0 := Lib.cell_of_heap T.out.b0 0; have c1 := Lib.cell_of_heap T.out.b0 1; have c2 := Lib.cell_of_heap T.out.b0 2;
  have t0 := Lib.cell_of_heap T.out.b1 0; have t1 := Lib.cell_of_heap T.out.b1 1; have t2 := Lib.cell_of_heap T.out.b1 2; have t3 := Lib.cell_of_heap T.out.b1 3;
  simp at c0 c1 c2 t0 t1 t2 t3;
  clear hb2))
    | (go_at_call 120; refine Calls.mono (implValOk _ _) ?_; rintro e w2 ⟨rfl, rfl⟩)
    | (go_at_call 121; refine Calls.mono (implKnown _ _) ?_; rintro e w2 ⟨rfl, rfl⟩)
    | (go_at_call 90; refine Calls.mono (stand_one _ _ _ ns _ _ _ _ _ ?_ N.out hl) ?_; (simp); rintro e w2 ⟨rfl, hb2⟩; (
  have T := hide (T.out.stays hb2); have N := hide (N.out.stays hb2);
  have c0 := Lib.cell_of_heap T.out.b0 0; have c1 := Lib.cell_of_heap T.out.b0 1; have c2 := Lib.cell_of_heap T.out.b0 2;
  have t0 := Lib.cell_of_heap T.out.b1 0; have t1 := Lib.cell_of_heap T.out.b1 1; have t2 := Lib.cell_of_heap T.out.b1 2; have t3 := Lib.cell_of_heap T.out.b1 3;
  simp at c0 c1 c2 t0 t1 t2 t3;
  clear hb2))))
    go_ret
    exact ⟨rfl, T.out.bel⟩
  | true =>
    rw [Bool.true_and]
    go_enter Tryz.func108, Tryz.ntmps108
    (go_wp2_with (first
    | (go_at_call 88; refine Calls.mono (implNameOk_any _ _ ?_) ?_; (first | exact hs1 | exact hs2 | exact hs3); rintro e w2 ⟨rfl, hb2⟩; (
  have T := hide (T.out.stays hb2); have N := hide (N.out.stays hb2);
  have c0 := Lib.cell_of_heap T.out.b0 0; have c1 := Lib.cell_of_heap T.out.b0 1; have c2 := Lib.cell_of_heap T.out.b0 2;
  have t0 := Lib.cell_of_heap T.out.b1 0; have t1 := Lib.cell_of_heap T.out.b1 1; have t2 := Lib.cell_of_heap T.out.b1 2; have t3 := Lib.cell_of_heap T.out.b1 3;
  simp at c0 c1 c2 t0 t1 t2 t3;
  clear hb2))
    | (go_at_call 120; refine Calls.mono (implValOk _ _) ?_; rintro e w2 ⟨rfl, rfl⟩)
    | (go_at_call 121; refine Calls.mono (implKnown _ _) ?_; rintro e w2 ⟨rfl, rfl⟩)
    | (go_at_call 90; refine Calls.mono (stand_one _ _ _ ns _ _ _ _ _ ?_ N.out hl) ?_; (simp); rintro e w2 ⟨rfl, hb2⟩; (
  have T := hide (T.out.stays hb2); have N := hide (N.out.stays hb2);
  have c0 := Lib.cell_of_heap T.out.b0 0; have c1 := Lib.cell_of_heap T.out.b0 1; have c2 := Lib.cell_of_heap T.out.b0 2;
  have t0 := Lib.cell_of_heap T.out.b1 0; have t1 := Lib.cell_of_heap T.out.b1 1; have t2 := Lib.cell_of_heap T.out.b1 2; have t3 := Lib.cell_of_heap T.out.b1 3;
  simp at c0 c1 c2 t0 t1 t2 t3;
  clear hb2))))
    go_ret
    exact ⟨rfl, T.out.bel⟩
set_option maxRecDepth 100000 in
set_option maxHeartbeats 4000000 in
theorem right_if (nv mv pv : Value) (ns : List Nd) (w : World) (hN : NdsAt w nv ns) (hl : ns.length ≤ 1048576) (a b c : Int) :
    Calls Tryz.prog 108 #[.agg #[nv, mv, pv], .iface 155 (.agg #[.int .i64 a, .int .i64 b, .int .i64 c])] w fun e w' => e = .returned (.bool (standQ ns 1 a && standQ ns 3 b && (decide (c = -1) || standQ ns 3 c))) ∧ Below w.heap.size w w' := by
  have y0 := fun w => off_numNode 155 (.agg #[.int .i64 a, .int .i64 b, .int .i64 c]) w (by decide)
  have y1 := fun w => off_varNode 155 (.agg #[.int .i64 a, .int .i64 b, .int .i64 c]) w (by decide)
  have y2 := fun w => off_calcNode 155 (.agg #[.int .i64 a, .int .i64 b, .int .i64 c]) w (by decide)
  have y3 := fun w => off_notNode 155 (.agg #[.int .i64 a, .int .i64 b, .int .i64 c]) w (by decide)
  have y4 := fun w => off_negNode 155 (.agg #[.int .i64 a, .int .i64 b, .int .i64 c]) w (by decide)
  have y5 := fun w => off_setNode 155 (.agg #[.int .i64 a, .int .i64 b, .int .i64 c]) w (by decide)
  have y6 := fun w => on_ifNode (.agg #[.int .i64 a, .int .i64 b, .int .i64 c]) w
  have T := hide (TB.start w nv mv pv #[.int .i64 a, .int .i64 b, .int .i64 c] 155)
  have N := hide (hN.stays T.out.bel)
  clear hN
  obtain ⟨s, es⟩ : ∃ s, (standQ ns 1 a && standQ ns 3 b && (decide (c = -1) || standQ ns 3 c)) = s := ⟨_, rfl⟩
  rw [es]
  cases h1 : standQ ns 1 a with
  | false =>
    have e : s = false := by rw [← es, h1]; rfl
    subst e
    clear es
    go_enter Tryz.func108, Tryz.ntmps108
    (go_wp2_with (first
    | (go_at_call 88; refine Calls.mono (implNameOk_any _ _ ?_) ?_; (first | exact hs1 | exact hs2 | exact hs3); rintro e w2 ⟨rfl, hb2⟩; (
  have T := hide (T.out.stays hb2); have N := hide (N.out.stays hb2);
  have c0 := Lib.cell_of_heap T.out.b0 0; have c1 := Lib.cell_of_heap T.out.b0 1; have c2 := Lib.cell_of_heap T.out.b0 2;
  have t0 := Lib.cell_of_heap T.out.b1 0; have t1 := Lib.cell_of_heap T.out.b1 1; have t2 := Lib.cell_of_heap T.out.b1 2; have t3 := Lib.cell_of_heap T.out.b1 3;
  simp at c0 c1 c2 t0 t1 t2 t3;
  clear hb2))
    | (go_at_call 120; refine Calls.mono (implValOk _ _) ?_; rintro e w2 ⟨rfl, rfl⟩)
    | (go_at_call 121; refine Calls.mono (implKnown _ _) ?_; rintro e w2 ⟨rfl, rfl⟩)
    | (go_at_call 90; refine Calls.mono (stand_one _ _ _ ns _ _ _ _ _ ?_ N.out hl) ?_; (simp); rintro e w2 ⟨rfl, hb2⟩; (
  have T := hide (T.out.stays hb2); have N := hide (N.out.stays hb2);
  have c0 := Lib.cell_of_heap T.out.b0 0; have c1 := Lib.cell_of_heap T.out.b0 1; have c2 := Lib.cell_of_heap T.out.b0 2;
  have t0 := Lib.cell_of_heap T.out.b1 0; have t1 := Lib.cell_of_heap T.out.b1 1; have t2 := Lib.cell_of_heap T.out.b1 2; have t3 := Lib.cell_of_heap T.out.b1 3;
  simp at c0 c1 c2 t0 t1 t2 t3;
  clear hb2))))
    go_ret
    exact ⟨rfl, T.out.bel⟩
  | true =>
    cases h2 : standQ ns 3 b with
    | false =>
      have e : s = false := by rw [← es, h1, h2]; rfl
      subst e
      clear es
      go_enter Tryz.func108, Tryz.ntmps108
      (go_wp2_with (first
    | (go_at_call 88; refine Calls.mono (implNameOk_any _ _ ?_) ?_; (first | exact hs1 | exact hs2 | exact hs3); rintro e w2 ⟨rfl, hb2⟩; (
  have T := hide (T.out.stays hb2); have N := hide (N.out.stays hb2);
  have c0 := Lib.cell_of_heap T.out.b0 0; have c1 := Lib.cell_of_heap T.out.b0 1; have c2 := Lib.cell_of_heap T.out.b0 2;
  have t0 := Lib.cell_of_heap T.out.b1 0; have t1 := Lib.cell_of_heap T.out.b1 1; have t2 := Lib.cell_of_heap T.out.b1 2; have t3 := Lib.cell_of_heap T.out.b1 3;
  simp at c0 c1 c2 t0 t1 t2 t3;
  clear hb2))
    | (go_at_call 120; refine Calls.mono (implValOk _ _) ?_; rintro e w2 ⟨rfl, rfl⟩)
    | (go_at_call 121; refine Calls.mono (implKnown _ _) ?_; rintro e w2 ⟨rfl, rfl⟩)
    | (go_at_call 90; refine Calls.mono (stand_one _ _ _ ns _ _ _ _ _ ?_ N.out hl) ?_; (simp); rintro e w2 ⟨rfl, hb2⟩; (
  have T := hide (T.out.stays hb2); have N := hide (N.out.stays hb2);
  have c0 := Lib.cell_of_heap T.out.b0 0; have c1 := Lib.cell_of_heap T.out.b0 1; have c2 := Lib.cell_of_heap T.out.b0 2;
  have t0 := Lib.cell_of_heap T.out.b1 0; have t1 := Lib.cell_of_heap T.out.b1 1; have t2 := Lib.cell_of_heap T.out.b1 2; have t3 := Lib.cell_of_heap T.out.b1 3;
  simp at c0 c1 c2 t0 t1 t2 t3;
  clear hb2))))
      go_ret
      exact ⟨rfl, T.out.bel⟩
    | true =>
      by_cases h3 : c = -1
      · have e : s = true := by rw [← es, h1, h2, h3]; rfl
        subst e
        subst h3
        clear es
        go_enter Tryz.func108, Tryz.ntmps108
        (go_wp2_with (first
    | (go_at_call 88; refine Calls.mono (implNameOk_any _ _ ?_) ?_; (first | exact hs1 | exact hs2 | exact hs3); rintro e w2 ⟨rfl, hb2⟩; (
  have T := hide (T.out.stays hb2); have N := hide (N.out.stays hb2);
  have c0 := Lib.cell_of_heap T.out.b0 0; have c1 := Lib.cell_of_heap T.out.b0 1; have c2 := Lib.cell_of_heap T.out.b0 2;
  have t0 := Lib.cell_of_heap T.out.b1 0; have t1 := Lib.cell_of_heap T.out.b1 1; have t2 := Lib.cell_of_heap T.out.b1 2; have t3 := Lib.cell_of_heap T.out.b1 3;
  simp at c0 c1 c2 t0 t1 t2 t3;
  clear hb2))
    | (go_at_call 120; refine Calls.mono (implValOk _ _) ?_; rintro e w2 ⟨rfl, rfl⟩)
    | (go_at_call 121; refine Calls.mono (implKnown _ _) ?_; rintro e w2 ⟨rfl, rfl⟩)
    | (go_at_call 90; refine Calls.mono (stand_one _ _ _ ns _ _ _ _ _ ?_ N.out hl) ?_; (simp); rintro e w2 ⟨rfl, hb2⟩; (
  have T := hide (T.out.stays hb2); have N := hide (N.out.stays hb2);
  have c0 := Lib.cell_of_heap T.out.b0 0; have c1 := Lib.cell_of_heap T.out.b0 1; have c2 := Lib.cell_of_heap T.out.b0 2;
  have t0 := Lib.cell_of_heap T.out.b1 0; have t1 := Lib.cell_of_heap T.out.b1 1; have t2 := Lib.cell_of_heap T.out.b1 2; have t3 := Lib.cell_of_heap T.out.b1 3;
  simp at c0 c1 c2 t0 t1 t2 t3;
  clear hb2))))
        go_ret
        exact ⟨rfl, T.out.bel⟩
      · have e : s = standQ ns 3 c := by rw [← es, h1, h2]; simp [h3]
        subst e
        clear es
        go_enter Tryz.func108, Tryz.ntmps108
        (go_wp2_with (first
    | (go_at_call 88; refine Calls.mono (implNameOk_any _ _ ?_) ?_; (first | exact hs1 | exact hs2 | exact hs3); rintro e w2 ⟨rfl, hb2⟩; (
  have T := hide (T.out.stays hb2); have N := hide (N.out.stays hb2);
  have c0 := Lib.cell_of_heap T.out.b0 0; have c1 := Lib.cell_of_heap T.out.b0 1; have c2 := Lib.cell_of_heap T.out.b0 2;
  have t0 := Lib.cell_of_heap T.out.b1 0; have t1 := Lib.cell_of_heap T.out.b1 1; have t2 := Lib.cell_of_heap T.out.b1 2; have t3 := Lib.cell_of_heap T.out.b1 3;
  simp at c0 c1 c2 t0 t1 t2 t3;
  clear hb2))
    | (go_at_call 120; refine Calls.mono (implValOk _ _) ?_; rintro e w2 ⟨rfl, rfl⟩)
    | (go_at_call 121; refine Calls.mono (implKnown _ _) ?_; rintro e w2 ⟨rfl, rfl⟩)
    | (go_at_call 90; refine Calls.mono (stand_one _ _ _ ns _ _ _ _ _ ?_ N.out hl) ?_; (simp); rintro e w2 ⟨rfl, hb2⟩; (
  have T := hide (T.out.stays hb2); have N := hide (N.out.stays hb2);
  have c0 := Lib.cell_of_heap T.out.b0 0; have c1 := Lib.cell_of_heap T.out.b0 1; have c2 := Lib.cell_of_heap T.out.b0 2;
  have t0 := Lib.cell_of_heap T.out.b1 0; have t1 := Lib.cell_of_heap T.out.b1 1; have t2 := Lib.cell_of_heap T.out.b1 2; have t3 := Lib.cell_of_heap T.out.b1 3;
  simp at c0 c1 c2 t0 t1 t2 t3;
  clear hb2))))
        go_ret
        exact ⟨by show Ending.returned (Value.bool (c == -1 || standQ ns 3 c)) = _; simp [h3], T.out.bel⟩
set_option maxRecDepth 100000 in
set_option maxHeartbeats 4000000 in
theorem right_call (nv mv pv : Value) (ns : List Nd) (w : World) (hN : NdsAt w nv ns) (hl : ns.length ≤ 1048576) (nm mo it : ByteArray) (hs1 : nm.size ≤ 1048576) (hs2 : mo.size ≤ 1048576) (hs3 : it.size ≤ 1048576) (a : Int) :
    Calls Tryz.prog 108 #[.agg #[nv, mv, pv], .iface 118 (.agg #[.string nm, .string mo, .string it, .int .i64 a])] w fun e w' => e = .returned (.bool (nameB nm && nameB mo && (it.toList.isEmpty || nameB it) && standQ ns 1 a)) ∧ Below w.heap.size w w' := by
  have y0 := fun w => off_numNode 118 (.agg #[.string nm, .string mo, .string it, .int .i64 a]) w (by decide)
  have y1 := fun w => off_varNode 118 (.agg #[.string nm, .string mo, .string it, .int .i64 a]) w (by decide)
  have y2 := fun w => off_calcNode 118 (.agg #[.string nm, .string mo, .string it, .int .i64 a]) w (by decide)
  have y3 := fun w => off_notNode 118 (.agg #[.string nm, .string mo, .string it, .int .i64 a]) w (by decide)
  have y4 := fun w => off_negNode 118 (.agg #[.string nm, .string mo, .string it, .int .i64 a]) w (by decide)
  have y5 := fun w => off_setNode 118 (.agg #[.string nm, .string mo, .string it, .int .i64 a]) w (by decide)
  have y6 := fun w => off_ifNode 118 (.agg #[.string nm, .string mo, .string it, .int .i64 a]) w (by decide)
  have y7 := fun w => off_whileNode 118 (.agg #[.string nm, .string mo, .string it, .int .i64 a]) w (by decide)
  have y8 := fun w => on_callNode (.agg #[.string nm, .string mo, .string it, .int .i64 a]) w
  have T := hide (TB.start w nv mv pv #[.string nm, .string mo, .string it, .int .i64 a] 118)
  have N := hide (hN.stays T.out.bel)
  clear hN
  obtain ⟨s, es⟩ : ∃ s, (nameB nm && nameB mo && (it.toList.isEmpty || nameB it) && standQ ns 1 a) = s := ⟨_, rfl⟩
  rw [es]
  cases h1 : nameB nm with
  | false =>
    have e : s = false := by rw [← es, h1]; rfl
    subst e
    clear es
    go_enter Tryz.func108, Tryz.ntmps108
    (go_wp2_with (first
    | (go_at_call 88; refine Calls.mono (implNameOk_any _ _ ?_) ?_; (first | exact hs1 | exact hs2 | exact hs3); rintro e w2 ⟨rfl, hb2⟩; (
  have T := hide (T.out.stays hb2); have N := hide (N.out.stays hb2);
  have c0 := Lib.cell_of_heap T.out.b0 0; have c1 := Lib.cell_of_heap T.out.b0 1; have c2 := Lib.cell_of_heap T.out.b0 2;
  have t0 := Lib.cell_of_heap T.out.b1 0; have t1 := Lib.cell_of_heap T.out.b1 1; have t2 := Lib.cell_of_heap T.out.b1 2; have t3 := Lib.cell_of_heap T.out.b1 3;
  simp at c0 c1 c2 t0 t1 t2 t3;
  clear hb2))
    | (go_at_call 120; refine Calls.mono (implValOk _ _) ?_; rintro e w2 ⟨rfl, rfl⟩)
    | (go_at_call 121; refine Calls.mono (implKnown _ _) ?_; rintro e w2 ⟨rfl, rfl⟩)
    | (go_at_call 90; refine Calls.mono (stand_one _ _ _ ns _ _ _ _ _ ?_ N.out hl) ?_; (simp); rintro e w2 ⟨rfl, hb2⟩; (
  have T := hide (T.out.stays hb2); have N := hide (N.out.stays hb2);
  have c0 := Lib.cell_of_heap T.out.b0 0; have c1 := Lib.cell_of_heap T.out.b0 1; have c2 := Lib.cell_of_heap T.out.b0 2;
  have t0 := Lib.cell_of_heap T.out.b1 0; have t1 := Lib.cell_of_heap T.out.b1 1; have t2 := Lib.cell_of_heap T.out.b1 2; have t3 := Lib.cell_of_heap T.out.b1 3;
  simp at c0 c1 c2 t0 t1 t2 t3;
  clear hb2))))
    go_ret
    exact ⟨rfl, T.out.bel⟩
  | true =>
    cases h2 : nameB mo with
    | false =>
      have e : s = false := by rw [← es, h1, h2]; rfl
      subst e
      clear es
      go_enter Tryz.func108, Tryz.ntmps108
      (go_wp2_with (first
    | (go_at_call 88; refine Calls.mono (implNameOk_any _ _ ?_) ?_; (first | exact hs1 | exact hs2 | exact hs3); rintro e w2 ⟨rfl, hb2⟩; (
  have T := hide (T.out.stays hb2); have N := hide (N.out.stays hb2);
  have c0 := Lib.cell_of_heap T.out.b0 0; have c1 := Lib.cell_of_heap T.out.b0 1; have c2 := Lib.cell_of_heap T.out.b0 2;
  have t0 := Lib.cell_of_heap T.out.b1 0; have t1 := Lib.cell_of_heap T.out.b1 1; have t2 := Lib.cell_of_heap T.out.b1 2; have t3 := Lib.cell_of_heap T.out.b1 3;
  simp at c0 c1 c2 t0 t1 t2 t3;
  clear hb2))
    | (go_at_call 120; refine Calls.mono (implValOk _ _) ?_; rintro e w2 ⟨rfl, rfl⟩)
    | (go_at_call 121; refine Calls.mono (implKnown _ _) ?_; rintro e w2 ⟨rfl, rfl⟩)
    | (go_at_call 90; refine Calls.mono (stand_one _ _ _ ns _ _ _ _ _ ?_ N.out hl) ?_; (simp); rintro e w2 ⟨rfl, hb2⟩; (
  have T := hide (T.out.stays hb2); have N := hide (N.out.stays hb2);
  have c0 := Lib.cell_of_heap T.out.b0 0; have c1 := Lib.cell_of_heap T.out.b0 1; have c2 := Lib.cell_of_heap T.out.b0 2;
  have t0 := Lib.cell_of_heap T.out.b1 0; have t1 := Lib.cell_of_heap T.out.b1 1; have t2 := Lib.cell_of_heap T.out.b1 2; have t3 := Lib.cell_of_heap T.out.b1 3;
  simp at c0 c1 c2 t0 t1 t2 t3;
  clear hb2))))
      go_ret
      exact ⟨rfl, T.out.bel⟩
    | true =>
      cases h3 : it.toList.isEmpty with
      | true =>
        have e : s = standQ ns 1 a := by rw [← es, h1, h2, h3]; rfl
        subst e
        clear es
        go_enter Tryz.func108, Tryz.ntmps108
        (go_wp2_with (first
    | (go_at_call 88; refine Calls.mono (implNameOk_any _ _ ?_) ?_; (first | exact hs1 | exact hs2 | exact hs3); rintro e w2 ⟨rfl, hb2⟩; (
  have T := hide (T.out.stays hb2); have N := hide (N.out.stays hb2);
  have c0 := Lib.cell_of_heap T.out.b0 0; have c1 := Lib.cell_of_heap T.out.b0 1; have c2 := Lib.cell_of_heap T.out.b0 2;
  have t0 := Lib.cell_of_heap T.out.b1 0; have t1 := Lib.cell_of_heap T.out.b1 1; have t2 := Lib.cell_of_heap T.out.b1 2; have t3 := Lib.cell_of_heap T.out.b1 3;
  simp at c0 c1 c2 t0 t1 t2 t3;
  clear hb2))
    | (go_at_call 120; refine Calls.mono (implValOk _ _) ?_; rintro e w2 ⟨rfl, rfl⟩)
    | (go_at_call 121; refine Calls.mono (implKnown _ _) ?_; rintro e w2 ⟨rfl, rfl⟩)
    | (go_at_call 90; refine Calls.mono (stand_one _ _ _ ns _ _ _ _ _ ?_ N.out hl) ?_; (simp); rintro e w2 ⟨rfl, hb2⟩; (
  have T := hide (T.out.stays hb2); have N := hide (N.out.stays hb2);
  have c0 := Lib.cell_of_heap T.out.b0 0; have c1 := Lib.cell_of_heap T.out.b0 1; have c2 := Lib.cell_of_heap T.out.b0 2;
  have t0 := Lib.cell_of_heap T.out.b1 0; have t1 := Lib.cell_of_heap T.out.b1 1; have t2 := Lib.cell_of_heap T.out.b1 2; have t3 := Lib.cell_of_heap T.out.b1 3;
  simp at c0 c1 c2 t0 t1 t2 t3;
  clear hb2))))
        go_ret
        exact ⟨rfl, T.out.bel⟩
      | false =>
        cases h4 : nameB it with
        | false =>
          have e : s = false := by rw [← es, h1, h2, h3, h4]; rfl
          subst e
          clear es
          go_enter Tryz.func108, Tryz.ntmps108
          (go_wp2_with (first
    | (go_at_call 88; refine Calls.mono (implNameOk_any _ _ ?_) ?_; (first | exact hs1 | exact hs2 | exact hs3); rintro e w2 ⟨rfl, hb2⟩; (
  have T := hide (T.out.stays hb2); have N := hide (N.out.stays hb2);
  have c0 := Lib.cell_of_heap T.out.b0 0; have c1 := Lib.cell_of_heap T.out.b0 1; have c2 := Lib.cell_of_heap T.out.b0 2;
  have t0 := Lib.cell_of_heap T.out.b1 0; have t1 := Lib.cell_of_heap T.out.b1 1; have t2 := Lib.cell_of_heap T.out.b1 2; have t3 := Lib.cell_of_heap T.out.b1 3;
  simp at c0 c1 c2 t0 t1 t2 t3;
  clear hb2))
    | (go_at_call 120; refine Calls.mono (implValOk _ _) ?_; rintro e w2 ⟨rfl, rfl⟩)
    | (go_at_call 121; refine Calls.mono (implKnown _ _) ?_; rintro e w2 ⟨rfl, rfl⟩)
    | (go_at_call 90; refine Calls.mono (stand_one _ _ _ ns _ _ _ _ _ ?_ N.out hl) ?_; (simp); rintro e w2 ⟨rfl, hb2⟩; (
  have T := hide (T.out.stays hb2); have N := hide (N.out.stays hb2);
  have c0 := Lib.cell_of_heap T.out.b0 0; have c1 := Lib.cell_of_heap T.out.b0 1; have c2 := Lib.cell_of_heap T.out.b0 2;
  have t0 := Lib.cell_of_heap T.out.b1 0; have t1 := Lib.cell_of_heap T.out.b1 1; have t2 := Lib.cell_of_heap T.out.b1 2; have t3 := Lib.cell_of_heap T.out.b1 3;
  simp at c0 c1 c2 t0 t1 t2 t3;
  clear hb2))))
          go_ret
          exact ⟨rfl, T.out.bel⟩
        | true =>
          have e : s = standQ ns 1 a := by rw [← es, h1, h2, h3, h4]; rfl
          subst e
          clear es
          go_enter Tryz.func108, Tryz.ntmps108
          (go_wp2_with (first
    | (go_at_call 88; refine Calls.mono (implNameOk_any _ _ ?_) ?_; (first | exact hs1 | exact hs2 | exact hs3); rintro e w2 ⟨rfl, hb2⟩; (
  have T := hide (T.out.stays hb2); have N := hide (N.out.stays hb2);
  have c0 := Lib.cell_of_heap T.out.b0 0; have c1 := Lib.cell_of_heap T.out.b0 1; have c2 := Lib.cell_of_heap T.out.b0 2;
  have t0 := Lib.cell_of_heap T.out.b1 0; have t1 := Lib.cell_of_heap T.out.b1 1; have t2 := Lib.cell_of_heap T.out.b1 2; have t3 := Lib.cell_of_heap T.out.b1 3;
  simp at c0 c1 c2 t0 t1 t2 t3;
  clear hb2))
    | (go_at_call 120; refine Calls.mono (implValOk _ _) ?_; rintro e w2 ⟨rfl, rfl⟩)
    | (go_at_call 121; refine Calls.mono (implKnown _ _) ?_; rintro e w2 ⟨rfl, rfl⟩)
    | (go_at_call 90; refine Calls.mono (stand_one _ _ _ ns _ _ _ _ _ ?_ N.out hl) ?_; (simp); rintro e w2 ⟨rfl, hb2⟩; (
  have T := hide (T.out.stays hb2); have N := hide (N.out.stays hb2);
  have c0 := Lib.cell_of_heap T.out.b0 0; have c1 := Lib.cell_of_heap T.out.b0 1; have c2 := Lib.cell_of_heap T.out.b0 2;
  have t0 := Lib.cell_of_heap T.out.b1 0; have t1 := Lib.cell_of_heap T.out.b1 1; have t2 := Lib.cell_of_heap T.out.b1 2; have t3 := Lib.cell_of_heap T.out.b1 3;
  simp at c0 c1 c2 t0 t1 t2 t3;
  clear hb2))))
          go_ret
          exact ⟨rfl, T.out.bel⟩
set_option maxRecDepth 100000 in
set_option maxHeartbeats 4000000 in
theorem right_skip (nv mv pv : Value) (w : World) :
    Calls Tryz.prog 108 #[.agg #[nv, mv, pv], .iface 160 (.agg #[])] w fun e w' => e = .returned (.bool true) ∧ Below w.heap.size w w' := by
  have y0 := fun w => off_numNode 160 (.agg #[]) w (by decide)
  have y1 := fun w => off_varNode 160 (.agg #[]) w (by decide)
  have y2 := fun w => off_calcNode 160 (.agg #[]) w (by decide)
  have y3 := fun w => off_notNode 160 (.agg #[]) w (by decide)
  have y4 := fun w => off_negNode 160 (.agg #[]) w (by decide)
  have y5 := fun w => off_setNode 160 (.agg #[]) w (by decide)
  have y6 := fun w => off_ifNode 160 (.agg #[]) w (by decide)
  have y7 := fun w => off_whileNode 160 (.agg #[]) w (by decide)
  have y8 := fun w => off_callNode 160 (.agg #[]) w (by decide)
  have y9 := fun w => off_printNode 160 (.agg #[]) w (by decide)
  have y10 := fun w => off_readNode 160 (.agg #[]) w (by decide)
  have y11 := fun w => off_delayNode 160 (.agg #[]) w (by decide)
  have y12 := fun w => off_contNode 160 (.agg #[]) w (by decide)
  have y14 := fun w => off_blockNode 160 (.agg #[]) w (by decide)
  go_enter Tryz.func108, Tryz.ntmps108
  go_wp2
  go_ret
  exact ⟨rfl, (Below.refl _ _).alloc (Nat.le_refl _) _⟩
set_option maxRecDepth 100000 in
set_option maxHeartbeats 4000000 in
theorem right_block (nv mv pv : Value) (ns : List Nd) (w : World) (hN : NdsAt w nv ns) (hl : ns.length ≤ 1048576) (ao : Option Addr) (c : Nat) (ks : List Int) (hK : IntsAt w (.slice ao ks.length c) ks) (hkl : ks.length ≤ 1048576) :
    Calls Tryz.prog 108 #[.agg #[nv, mv, pv], .iface 162 (.agg #[.slice ao ks.length c])] w fun e w' => e = .returned (.bool (decide (0 < ks.length) && ks.all (standQ ns 2))) ∧ Below w.heap.size w w' := by
  have y0 := fun w => off_numNode 162 (.agg #[.slice ao ks.length c]) w (by decide)
  have y1 := fun w => off_varNode 162 (.agg #[.slice ao ks.length c]) w (by decide)
  have y2 := fun w => off_calcNode 162 (.agg #[.slice ao ks.length c]) w (by decide)
  have y3 := fun w => off_notNode 162 (.agg #[.slice ao ks.length c]) w (by decide)
  have y4 := fun w => off_negNode 162 (.agg #[.slice ao ks.length c]) w (by decide)
  have y5 := fun w => off_setNode 162 (.agg #[.slice ao ks.length c]) w (by decide)
  have y6 := fun w => off_ifNode 162 (.agg #[.slice ao ks.length c]) w (by decide)
  have y7 := fun w => off_whileNode 162 (.agg #[.slice ao ks.length c]) w (by decide)
  have y8 := fun w => off_callNode 162 (.agg #[.slice ao ks.length c]) w (by decide)
  have y9 := fun w => off_printNode 162 (.agg #[.slice ao ks.length c]) w (by decide)
  have y10 := fun w => off_readNode 162 (.agg #[.slice ao ks.length c]) w (by decide)
  have y11 := fun w => off_delayNode 162 (.agg #[.slice ao ks.length c]) w (by decide)
  have y12 := fun w => off_contNode 162 (.agg #[.slice ao ks.length c]) w (by decide)
  have y14 := fun w => on_blockNode (.agg #[.slice ao ks.length c]) w
  have T := hide (TB.start w nv mv pv #[.slice ao ks.length c] 162)
  have N := hide (hN.stays T.out.bel)
  clear hN
  have K := hide (hK.stays T.out.bel)
  have CS := fun w h1 h2 => hide (stand_any nv mv pv (.slice ao ks.length c) ns 2 ks w h1 h2 hl hkl)
  obtain ⟨n, en⟩ : ∃ n, ks.length = n := ⟨_, rfl⟩
  simp only [en] at *
  clear hK
  by_cases h0 : 0 < n
  · have h0' : (0 : Int) < (n : Int) := by omega
    have e : (decide (0 < n) && ks.all (standQ ns 2)) = ks.all (standQ ns 2) := by simp [h0]
    rw [e]
    obtain ⟨q, eq⟩ : ∃ q, ks.all (standQ ns 2) = q := ⟨_, rfl⟩
    simp only [eq] at CS ⊢
    clear e eq
    go_enter Tryz.func108, Tryz.ntmps108
    go_wp2_with (go_at_call 90; refine (unhide (CS _ N.out K.out)).mono ?_; rintro e w2 ⟨rfl, hb2⟩; have T := hide (T.out.stays hb2); clear hb2)
    go_ret
    exact ⟨rfl, T.out.bel⟩
  · have h0' : ¬ (0 : Int) < (n : Int) := by omega
    have e : (decide (0 < n) && ks.all (standQ ns 2)) = false := by simp [h0]
    rw [e]
    go_enter Tryz.func108, Tryz.ntmps108
    (go_wp2_with (first
    | (go_at_call 88; refine Calls.mono (implNameOk_any _ _ ?_) ?_; (first | exact hs1 | exact hs2 | exact hs3); rintro e w2 ⟨rfl, hb2⟩; (
  have T := hide (T.out.stays hb2); have N := hide (N.out.stays hb2);
  have c0 := Lib.cell_of_heap T.out.b0 0; have c1 := Lib.cell_of_heap T.out.b0 1; have c2 := Lib.cell_of_heap T.out.b0 2;
  have t0 := Lib.cell_of_heap T.out.b1 0; have t1 := Lib.cell_of_heap T.out.b1 1; have t2 := Lib.cell_of_heap T.out.b1 2; have t3 := Lib.cell_of_heap T.out.b1 3;
  simp at c0 c1 c2 t0 t1 t2 t3;
  clear hb2))
    | (go_at_call 120; refine Calls.mono (implValOk _ _) ?_; rintro e w2 ⟨rfl, rfl⟩)
    | (go_at_call 121; refine Calls.mono (implKnown _ _) ?_; rintro e w2 ⟨rfl, rfl⟩)
    | (go_at_call 90; refine Calls.mono (stand_one _ _ _ ns _ _ _ _ _ ?_ N.out hl) ?_; (simp); rintro e w2 ⟨rfl, hb2⟩; (
  have T := hide (T.out.stays hb2); have N := hide (N.out.stays hb2);
  have c0 := Lib.cell_of_heap T.out.b0 0; have c1 := Lib.cell_of_heap T.out.b0 1; have c2 := Lib.cell_of_heap T.out.b0 2;
  have t0 := Lib.cell_of_heap T.out.b1 0; have t1 := Lib.cell_of_heap T.out.b1 1; have t2 := Lib.cell_of_heap T.out.b1 2; have t3 := Lib.cell_of_heap T.out.b1 3;
  simp at c0 c1 c2 t0 t1 t2 t3;
  clear hb2))))
    go_ret
    exact ⟨rfl, T.out.bel⟩
end Go.Proofs.YtpdpmnkonkpheaaGreat
