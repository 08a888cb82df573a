/-
  Walks: what stands in a node is right, by the program.
-/
import Derived.Test.YtdfahpachbhglaaGreatDoorImpI
import Derived.Test.YtdfahpachbhglaaGreatDoorNameW
namespace Go.Proofs.YtdfahpachbhglaaGreatDoor
open Go.RowKit

theorem IntsAt.one {w : World} {g : Nat} (hg : g = w.heap.size) (a : Int) (t : TypeId) (c : Nat) : IntsAt (w.alloc (.cells #[.int .i64 a] t)) (.slice (some ⟨g, 0, none⟩) 1 c) [a] := IntsAt.made hg [a] t 1 c rfl
theorem IntsAt.two {w : World} {g : Nat} (hg : g = w.heap.size) (a b : Int) (t : TypeId) (c : Nat) : IntsAt (w.alloc (.cells #[.int .i64 a, .int .i64 b] t)) (.slice (some ⟨g, 0, none⟩) 2 c) [a, b] := IntsAt.made hg [a, b] t 2 c rfl
theorem stand_one (nv mv pv : Value) (ns : List Nd) (r a : Int) (g c : Nat) (w : World) (hg : g = w.heap.size) (hN : NdsAt w nv ns) (hl : ns.length ≤ 1048576) :
    Calls Tryz.prog 62 #[.agg #[nv, mv, pv], .int .i64 r, .slice (some ⟨g, 0, none⟩) 1 c] (w.alloc (.cells #[.int .i64 a] 3)) fun e w' => e = .returned (.bool (standQ ns r a)) ∧ Below w.heap.size w w' := by
  have hb : Below w.heap.size w (w.alloc (.cells #[.int .i64 a] 3)) := (Below.refl _ _).alloc (Nat.le_refl _) _
  refine (stand_any nv mv pv _ ns r [a] _ (hN.stays hb) (IntsAt.one hg a 3 c) hl (by simp)).mono ?_
  rintro e w' ⟨rfl, h⟩
  exact ⟨by simp, hb.trans (h.mono hb.size)⟩
theorem stand_two (nv mv pv : Value) (ns : List Nd) (r a b : Int) (g c : Nat) (w : World) (hg : g = w.heap.size) (hN : NdsAt w nv ns) (hl : ns.length ≤ 1048576) :
    Calls Tryz.prog 62 #[.agg #[nv, mv, pv], .int .i64 r, .slice (some ⟨g, 0, none⟩) 2 c] (w.alloc (.cells #[.int .i64 a, .int .i64 b] 3)) fun e w' => e = .returned (.bool (standQ ns r a && standQ ns r b)) ∧ Below w.heap.size w w' := by
  have hb : Below w.heap.size w (w.alloc (.cells #[.int .i64 a, .int .i64 b] 3)) := (Below.refl _ _).alloc (Nat.le_refl _) _
  refine (stand_any nv mv pv _ ns r [a, b] _ (hN.stays hb) (IntsAt.two hg a b 3 c) hl (by simp)).mono ?_
  rintro e w' ⟨rfl, h⟩
  exact ⟨by simp, hb.trans (h.mono hb.size)⟩

/-- The program's box and the box of a typed node, while they are looked at. -/
structure TB (w : World) (nv mv pv : Value) (cs : Array Value) (t : TypeId) (z : World) : Prop where
  b0 : Box z w.heap.size #[nv, mv, pv] 34
  b1 : Box z (w.heap.size + 1) cs t
  bel : Below w.heap.size w z
theorem TB.start (w : World) (nv mv pv : Value) (cs : Array Value) (t : TypeId) : TB w nv mv pv cs t ((w.alloc (.cells #[nv, mv, pv] 34)).alloc (.cells cs t)) :=
  ⟨(Box.made w _ _).stays ((Below.refl _ _).alloc (Nat.le_refl _) _), Box.madeAt (by simp) _ _, by go_grown⟩
theorem TB.stays {w : World} {nv mv pv : Value} {cs : Array Value} {t : TypeId} {z z' : World} (h : TB w nv mv pv cs t z) (hb : Below z.heap.size z z') : TB w nv mv pv cs t z' :=
  ⟨h.b0.stays hb, h.b1.stays hb, h.bel.trans (hb.mono h.bel.size)⟩

set_option maxRecDepth 100000 in
set_option maxHeartbeats 4000000 in
theorem right_num (nv mv pv : Value) (ns : List Nd) (w : World) (_hN : NdsAt w nv ns) (nu : Int) :
    Calls Tryz.prog 83 #[.agg #[nv, mv, pv], .iface 138 (.agg #[.int .i64 nu])] w fun e w' => e = .returned (.bool (inZ 0 1000000 nu)) ∧ Below w.heap.size w w' := by
  have y0 := fun w => on_numNode (.agg #[.int .i64 nu]) w
  have T := hide (TB.start w nv mv pv #[.int .i64 nu] 138)
  clear _hN
  by_cases h0 : 0 ≤ nu
  · have e : inZ 0 1000000 nu = vok nu := by
      rw [Bool.eq_iff_iff, inZ_yes, vok_iff]
      omega
    rw [e]
    clear e
    go_enter Tryz.func83, Tryz.ntmps83
    (go_wp2_with (first
    | (go_at_call 60; refine Calls.mono (implNameOk_any _ _ ?_) ?_; (first | exact hs1 | exact hs2 | exact hs3); rintro e w2 ⟨rfl, hb2⟩; (
  have T := hide (T.out.stays hb2); have N := hide (N.out.stays hb2);
  have c0 := Lib.cell_of_heap T.out.b0 0; have c1 := Lib.cell_of_heap T.out.b0 1; have c2 := Lib.cell_of_heap T.out.b0 2;
  have t0 := Lib.cell_of_heap T.out.b1 0; have t1 := Lib.cell_of_heap T.out.b1 1; have t2 := Lib.cell_of_heap T.out.b1 2; have t3 := Lib.cell_of_heap T.out.b1 3;
  simp at c0 c1 c2 t0 t1 t2 t3;
  clear hb2))
    | (go_at_call 100; refine Calls.mono (implValOk _ _) ?_; rintro e w2 ⟨rfl, rfl⟩)
    | (go_at_call 101; refine Calls.mono (implKnown _ _) ?_; rintro e w2 ⟨rfl, rfl⟩)
    | (go_at_call 62; refine Calls.mono (stand_one _ _ _ ns _ _ _ _ _ ?_ N.out hl) ?_; (simp); rintro e w2 ⟨rfl, hb2⟩; (
  have T := hide (T.out.stays hb2); have N := hide (N.out.stays hb2);
  have c0 := Lib.cell_of_heap T.out.b0 0; have c1 := Lib.cell_of_heap T.out.b0 1; have c2 := Lib.cell_of_heap T.out.b0 2;
  have t0 := Lib.cell_of_heap T.out.b1 0; have t1 := Lib.cell_of_heap T.out.b1 1; have t2 := Lib.cell_of_heap T.out.b1 2; have t3 := Lib.cell_of_heap T.out.b1 3;
  simp at c0 c1 c2 t0 t1 t2 t3;
  clear hb2))))
    go_ret
    exact ⟨rfl, T.out.bel⟩
  · have e : inZ 0 1000000 nu = false := inZ_no.2 (by omega)
    rw [e]
    clear e
    go_enter Tryz.func83, Tryz.ntmps83
    (go_wp2_with (first
    | (go_at_call 60; refine Calls.mono (implNameOk_any _ _ ?_) ?_; (first | exact hs1 | exact hs2 | exact hs3); rintro e w2 ⟨rfl, hb2⟩; (
  have T := hide (T.out.stays hb2); have N := hide (N.out.stays hb2);
  have c0 := Lib.cell_of_heap T.out.b0 0; have c1 := Lib.cell_of_heap T.out.b0 1; have c2 := Lib.cell_of_heap T.out.b0 2;
  have t0 := Lib.cell_of_heap T.out.b1 0; have t1 := Lib.cell_of_heap T.out.b1 1; have t2 := Lib.cell_of_heap T.out.b1 2; have t3 := Lib.cell_of_heap T.out.b1 3;
  simp at c0 c1 c2 t0 t1 t2 t3;
  clear hb2))
    | (go_at_call 100; refine Calls.mono (implValOk _ _) ?_; rintro e w2 ⟨rfl, rfl⟩)
    | (go_at_call 101; refine Calls.mono (implKnown _ _) ?_; rintro e w2 ⟨rfl, rfl⟩)
    | (go_at_call 62; refine Calls.mono (stand_one _ _ _ ns _ _ _ _ _ ?_ N.out hl) ?_; (simp); rintro e w2 ⟨rfl, hb2⟩; (
  have T := hide (T.out.stays hb2); have N := hide (N.out.stays hb2);
  have c0 := Lib.cell_of_heap T.out.b0 0; have c1 := Lib.cell_of_heap T.out.b0 1; have c2 := Lib.cell_of_heap T.out.b0 2;
  have t0 := Lib.cell_of_heap T.out.b1 0; have t1 := Lib.cell_of_heap T.out.b1 1; have t2 := Lib.cell_of_heap T.out.b1 2; have t3 := Lib.cell_of_heap T.out.b1 3;
  simp at c0 c1 c2 t0 t1 t2 t3;
  clear hb2))))
    go_ret
    exact ⟨rfl, T.out.bel⟩
set_option maxRecDepth 100000 in
set_option maxHeartbeats 4000000 in
theorem right_var (nv mv pv : Value) (ns : List Nd) (w : World) (hN : NdsAt w nv ns) (_hl : ns.length ≤ 1048576) (nm : ByteArray) (hs1 : nm.size ≤ 1048576) :
    Calls Tryz.prog 83 #[.agg #[nv, mv, pv], .iface 140 (.agg #[.string nm])] w fun e w' => e = .returned (.bool (nameB nm)) ∧ Below w.heap.size w w' := by
  have y0 := fun w => off_numNode 140 (.agg #[.string nm]) w (by decide)
  have y1 := fun w => on_varNode (.agg #[.string nm]) w
  have T := hide (TB.start w nv mv pv #[.string nm] 140)
  have N := hide (hN.stays T.out.bel)
  clear hN
  go_enter Tryz.func83, Tryz.ntmps83
  (go_wp2_with (first
    | (go_at_call 60; refine Calls.mono (implNameOk_any _ _ ?_) ?_; (first | exact hs1 | exact hs2 | exact hs3); rintro e w2 ⟨rfl, hb2⟩; (
  have T := hide (T.out.stays hb2); have N := hide (N.out.stays hb2);
  have c0 := Lib.cell_of_heap T.out.b0 0; have c1 := Lib.cell_of_heap T.out.b0 1; have c2 := Lib.cell_of_heap T.out.b0 2;
  have t0 := Lib.cell_of_heap T.out.b1 0; have t1 := Lib.cell_of_heap T.out.b1 1; have t2 := Lib.cell_of_heap T.out.b1 2; have t3 := Lib.cell_of_heap T.out.b1 3;
  simp at c0 c1 c2 t0 t1 t2 t3;
  clear hb2))
    | (go_at_call 100; refine Calls.mono (implValOk _ _) ?_; rintro e w2 ⟨rfl, rfl⟩)
    | (go_at_call 101; refine Calls.mono (implKnown _ _) ?_; rintro e w2 ⟨rfl, rfl⟩)
    | (go_at_call 62; refine Calls.mono (stand_one _ _ _ ns _ _ _ _ _ ?_ N.out hl) ?_; (simp); rintro e w2 ⟨rfl, hb2⟩; (
  have T := hide (T.out.stays hb2); have N := hide (N.out.stays hb2);
  have c0 := Lib.cell_of_heap T.out.b0 0; have c1 := Lib.cell_of_heap T.out.b0 1; have c2 := Lib.cell_of_heap T.out.b0 2;
  have t0 := Lib.cell_of_heap T.out.b1 0; have t1 := Lib.cell_of_heap T.out.b1 1; have t2 := Lib.cell_of_heap T.out.b1 2; have t3 := Lib.cell_of_heap T.out.b1 3;
  simp at c0 c1 c2 t0 t1 t2 t3;
  clear hb2))))
  go_ret
  exact ⟨rfl, T.out.bel⟩
set_option maxRecDepth 100000 in
set_option maxHeartbeats 4000000 in
theorem right_read (nv mv pv : Value) (ns : List Nd) (w : World) (hN : NdsAt w nv ns) (_hl : ns.length ≤ 1048576) (nm : ByteArray) (hs1 : nm.size ≤ 1048576) :
    Calls Tryz.prog 83 #[.agg #[nv, mv, pv], .iface 157 (.agg #[.string nm])] w fun e w' => e = .returned (.bool (nameB nm)) ∧ Below w.heap.size w w' := by
  have y0 := fun w => off_numNode 157 (.agg #[.string nm]) w (by decide)
  have y1 := fun w => off_varNode 157 (.agg #[.string nm]) w (by decide)
  have y2 := fun w => off_calcNode 157 (.agg #[.string nm]) w (by decide)
  have y3 := fun w => off_notNode 157 (.agg #[.string nm]) w (by decide)
  have y4 := fun w => off_negNode 157 (.agg #[.string nm]) w (by decide)
  have y5 := fun w => off_setNode 157 (.agg #[.string nm]) w (by decide)
  have y6 := fun w => off_ifNode 157 (.agg #[.string nm]) w (by decide)
  have y7 := fun w => off_whileNode 157 (.agg #[.string nm]) w (by decide)
  have y8 := fun w => off_callNode 157 (.agg #[.string nm]) w (by decide)
  have y9 := fun w => off_printNode 157 (.agg #[.string nm]) w (by decide)
  have y10 := fun w => on_readNode (.agg #[.string nm]) w
  have T := hide (TB.start w nv mv pv #[.string nm] 157)
  have N := hide (hN.stays T.out.bel)
  clear hN
  go_enter Tryz.func83, Tryz.ntmps83
  (go_wp2_with (first
    | (go_at_call 60; refine Calls.mono (implNameOk_any _ _ ?_) ?_; (first | exact hs1 | exact hs2 | exact hs3); rintro e w2 ⟨rfl, hb2⟩; (
  have T := hide (T.out.stays hb2); have N := hide (N.out.stays hb2);
  have c0 := Lib.cell_of_heap T.out.b0 0; have c1 := Lib.cell_of_heap T.out.b0 1; have c2 := Lib.cell_of_heap T.out.b0 2;
  have t0 := Lib.cell_of_heap T.out.b1 0; have t1 := Lib.cell_of_heap T.out.b1 1; have t2 := Lib.cell_of_heap T.out.b1 2; have t3 := Lib.cell_of_heap T.out.b1 3;
  simp at c0 c1 c2 t0 t1 t2 t3;
  clear hb2))
    | (go_at_call 100; refine Calls.mono (implValOk _ _) ?_; rintro e w2 ⟨rfl, rfl⟩)
    | (go_at_call 101; refine Calls.mono (implKnown _ _) ?_; rintro e w2 ⟨rfl, rfl⟩)
    | (go_at_call 62; refine Calls.mono (stand_one _ _ _ ns _ _ _ _ _ ?_ N.out hl) ?_; (simp); rintro e w2 ⟨rfl, hb2⟩; (
  have T := hide (T.out.stays hb2); have N := hide (N.out.stays hb2);
  have c0 := Lib.cell_of_heap T.out.b0 0; have c1 := Lib.cell_of_heap T.out.b0 1; have c2 := Lib.cell_of_heap T.out.b0 2;
  have t0 := Lib.cell_of_heap T.out.b1 0; have t1 := Lib.cell_of_heap T.out.b1 1; have t2 := Lib.cell_of_heap T.out.b1 2; have t3 := Lib.cell_of_heap T.out.b1 3;
  simp at c0 c1 c2 t0 t1 t2 t3;
  clear hb2))))
  go_ret
  exact ⟨rfl, T.out.bel⟩
set_option maxRecDepth 100000 in
set_option maxHeartbeats 4000000 in
theorem right_delay (nv mv pv : Value) (ns : List Nd) (w : World) (hN : NdsAt w nv ns) (_hl : ns.length ≤ 1048576) (nm : ByteArray) (hs1 : nm.size ≤ 1048576) :
    Calls Tryz.prog 83 #[.agg #[nv, mv, pv], .iface 158 (.agg #[.string nm])] w fun e w' => e = .returned (.bool (nameB nm)) ∧ Below w.heap.size w w' := by
  have y0 := fun w => off_numNode 158 (.agg #[.string nm]) w (by decide)
  have y1 := fun w => off_varNode 158 (.agg #[.string nm]) w (by decide)
  have y2 := fun w => off_calcNode 158 (.agg #[.string nm]) w (by decide)
  have y3 := fun w => off_notNode 158 (.agg #[.string nm]) w (by decide)
  have y4 := fun w => off_negNode 158 (.agg #[.string nm]) w (by decide)
  have y5 := fun w => off_setNode 158 (.agg #[.string nm]) w (by decide)
  have y6 := fun w => off_ifNode 158 (.agg #[.string nm]) w (by decide)
  have y7 := fun w => off_whileNode 158 (.agg #[.string nm]) w (by decide)
  have y8 := fun w => off_callNode 158 (.agg #[.string nm]) w (by decide)
  have y9 := fun w => off_printNode 158 (.agg #[.string nm]) w (by decide)
  have y10 := fun w => off_readNode 158 (.agg #[.string nm]) w (by decide)
  have y11 := fun w => on_delayNode (.agg #[.string nm]) w
  have T := hide (TB.start w nv mv pv #[.string nm] 158)
  have N := hide (hN.stays T.out.bel)
  clear hN
  go_enter Tryz.func83, Tryz.ntmps83
  (go_wp2_with (first
    | (go_at_call 60; refine Calls.mono (implNameOk_any _ _ ?_) ?_; (first | exact hs1 | exact hs2 | exact hs3); rintro e w2 ⟨rfl, hb2⟩; (
  have T := hide (T.out.stays hb2); have N := hide (N.out.stays hb2);
  have c0 := Lib.cell_of_heap T.out.b0 0; have c1 := Lib.cell_of_heap T.out.b0 1; have c2 := Lib.cell_of_heap T.out.b0 2;
  have t0 := Lib.cell_of_heap T.out.b1 0; have t1 := Lib.cell_of_heap T.out.b1 1; have t2 := Lib.cell_of_heap T.out.b1 2; have t3 := Lib.cell_of_heap T.out.b1 3;
  simp at c0 c1 c2 t0 t1 t2 t3;
  clear hb2))
    | (go_at_call 100; refine Calls.mono (implValOk _ _) ?_; rintro e w2 ⟨rfl, rfl⟩)
    | (go_at_call 101; refine Calls.mono (implKnown _ _) ?_; rintro e w2 ⟨rfl, rfl⟩)
    | (go_at_call 62; refine Calls.mono (stand_one _ _ _ ns _ _ _ _ _ ?_ N.out hl) ?_; (simp); rintro e w2 ⟨rfl, hb2⟩; (
  have T := hide (T.out.stays hb2); have N := hide (N.out.stays hb2);
  have c0 := Lib.cell_of_heap T.out.b0 0; have c1 := Lib.cell_of_heap T.out.b0 1; have c2 := Lib.cell_of_heap T.out.b0 2;
  have t0 := Lib.cell_of_heap T.out.b1 0; have t1 := Lib.cell_of_heap T.out.b1 1; have t2 := Lib.cell_of_heap T.out.b1 2; have t3 := Lib.cell_of_heap T.out.b1 3;
  simp at c0 c1 c2 t0 t1 t2 t3;
  clear hb2))))
  go_ret
  exact ⟨rfl, T.out.bel⟩
set_option maxRecDepth 100000 in
set_option maxHeartbeats 4000000 in
theorem right_cont (nv mv pv : Value) (ns : List Nd) (w : World) (hN : NdsAt w nv ns) (_hl : ns.length ≤ 1048576) (nm : ByteArray) (hs1 : nm.size ≤ 1048576) :
    Calls Tryz.prog 83 #[.agg #[nv, mv, pv], .iface 159 (.agg #[.string nm])] w fun e w' => e = .returned (.bool (nameB nm)) ∧ Below w.heap.size w w' := by
  have y0 := fun w => off_numNode 159 (.agg #[.string nm]) w (by decide)
  have y1 := fun w => off_varNode 159 (.agg #[.string nm]) w (by decide)
  have y2 := fun w => off_calcNode 159 (.agg #[.string nm]) w (by decide)
  have y3 := fun w => off_notNode 159 (.agg #[.string nm]) w (by decide)
  have y4 := fun w => off_negNode 159 (.agg #[.string nm]) w (by decide)
  have y5 := fun w => off_setNode 159 (.agg #[.string nm]) w (by decide)
  have y6 := fun w => off_ifNode 159 (.agg #[.string nm]) w (by decide)
  have y7 := fun w => off_whileNode 159 (.agg #[.string nm]) w (by decide)
  have y8 := fun w => off_callNode 159 (.agg #[.string nm]) w (by decide)
  have y9 := fun w => off_printNode 159 (.agg #[.string nm]) w (by decide)
  have y10 := fun w => off_readNode 159 (.agg #[.string nm]) w (by decide)
  have y11 := fun w => off_delayNode 159 (.agg #[.string nm]) w (by decide)
  have y12 := fun w => on_contNode (.agg #[.string nm]) w
  have T := hide (TB.start w nv mv pv #[.string nm] 159)
  have N := hide (hN.stays T.out.bel)
  clear hN
  go_enter Tryz.func83, Tryz.ntmps83
  (go_wp2_with (first
    | (go_at_call 60; refine Calls.mono (implNameOk_any _ _ ?_) ?_; (first | exact hs1 | exact hs2 | exact hs3); rintro e w2 ⟨rfl, hb2⟩; (
  have T := hide (T.out.stays hb2); have N := hide (N.out.stays hb2);
  have c0 := Lib.cell_of_heap T.out.b0 0; have c1 := Lib.cell_of_heap T.out.b0 1; have c2 := Lib.cell_of_heap T.out.b0 2;
  have t0 := Lib.cell_of_heap T.out.b1 0; have t1 := Lib.cell_of_heap T.out.b1 1; have t2 := Lib.cell_of_heap T.out.b1 2; have t3 := Lib.cell_of_heap T.out.b1 3;
  simp at c0 c1 c2 t0 t1 t2 t3;
  clear hb2))
    | (go_at_call 100; refine Calls.mono (implValOk _ _) ?_; rintro e w2 ⟨rfl, rfl⟩)
    | (go_at_call 101; refine Calls.mono (implKnown _ _) ?_; rintro e w2 ⟨rfl, rfl⟩)
    | (go_at_call 62; refine Calls.mono (stand_one _ _ _ ns _ _ _ _ _ ?_ N.out hl) ?_; (simp); rintro e w2 ⟨rfl, hb2⟩; (
  have T := hide (T.out.stays hb2); have N := hide (N.out.stays hb2);
  have c0 := Lib.cell_of_heap T.out.b0 0; have c1 := Lib.cell_of_heap T.out.b0 1; have c2 := Lib.cell_of_heap T.out.b0 2;
  have t0 := Lib.cell_of_heap T.out.b1 0; have t1 := Lib.cell_of_heap T.out.b1 1; have t2 := Lib.cell_of_heap T.out.b1 2; have t3 := Lib.cell_of_heap T.out.b1 3;
  simp at c0 c1 c2 t0 t1 t2 t3;
  clear hb2))))
  go_ret
  exact ⟨rfl, T.out.bel⟩
set_option maxRecDepth 100000 in
set_option maxHeartbeats 4000000 in
theorem right_calc (nv mv pv : Value) (ns : List Nd) (w : World) (hN : NdsAt w nv ns) (hl : ns.length ≤ 1048576) (nu a b : Int) :
    Calls Tryz.prog 83 #[.agg #[nv, mv, pv], .iface 143 (.agg #[.int .i64 nu, .int .i64 a, .int .i64 b])] w fun e w' => e = .returned (.bool ((decide (1 ≤ nu) && decide (nu ≤ 9)) && (standQ ns 1 a && standQ ns 1 b))) ∧ Below w.heap.size w w' := by
  have y0 := fun w => off_numNode 143 (.agg #[.int .i64 nu, .int .i64 a, .int .i64 b]) w (by decide)
  have y1 := fun w => off_varNode 143 (.agg #[.int .i64 nu, .int .i64 a, .int .i64 b]) w (by decide)
  have y2 := fun w => on_calcNode (.agg #[.int .i64 nu, .int .i64 a, .int .i64 b]) w
  have T := hide (TB.start w nv mv pv #[.int .i64 nu, .int .i64 a, .int .i64 b] 143)
  have N := hide (hN.stays T.out.bel)
  clear hN
  cases h : (decide (1 ≤ nu) && decide (nu ≤ 9)) with
  | false =>
    rw [Bool.false_and]
    go_enter Tryz.func83, Tryz.ntmps83
    (go_wp2_with (first
    | (go_at_call 101; refine Calls.mono (implKnown _ _) ?_; rintro e w2 ⟨rfl, rfl⟩)
    | (go_at_call 62; refine Calls.mono (stand_two _ _ _ ns _ _ _ _ _ _ ?_ N.out hl) ?_; (simp); rintro e w2 ⟨rfl, hb2⟩; (
  have T := hide (T.out.stays hb2); have N := hide (N.out.stays hb2);
  have c0 := Lib.cell_of_heap T.out.b0 0; have c1 := Lib.cell_of_heap T.out.b0 1; have c2 := Lib.cell_of_heap T.out.b0 2;
  have t0 := Lib.cell_of_heap T.out.b1 0; have t1 := Lib.cell_of_heap T.out.b1 1; have t2 := Lib.cell_of_heap T.out.b1 2; have t3 := Lib.cell_of_heap T.out.b1 3;
  simp at c0 c1 c2 t0 t1 t2 t3;
  clear hb2))))
    go_ret
    exact ⟨rfl, T.out.bel⟩
  | true =>
    rw [Bool.true_and]
    go_enter Tryz.func83, Tryz.ntmps83
    (go_wp2_with (first
    | (go_at_call 101; refine Calls.mono (implKnown _ _) ?_; rintro e w2 ⟨rfl, rfl⟩)
    | (go_at_call 62; refine Calls.mono (stand_two _ _ _ ns _ _ _ _ _ _ ?_ N.out hl) ?_; (simp); rintro e w2 ⟨rfl, hb2⟩; (
  have T := hide (T.out.stays hb2); have N := hide (N.out.stays hb2);
  have c0 := Lib.cell_of_heap T.out.b0 0; have c1 := Lib.cell_of_heap T.out.b0 1; have c2 := Lib.cell_of_heap T.out.b0 2;
  have t0 := Lib.cell_of_heap T.out.b1 0; have t1 := Lib.cell_of_heap T.out.b1 1; have t2 := Lib.cell_of_heap T.out.b1 2; have t3 := Lib.cell_of_heap T.out.b1 3;
  simp at c0 c1 c2 t0 t1 t2 t3;
  clear hb2))))
    go_ret
    exact ⟨rfl, T.out.bel⟩
set_option maxRecDepth 100000 in
set_option maxHeartbeats 4000000 in
theorem right_not (nv mv pv : Value) (ns : List Nd) (w : World) (hN : NdsAt w nv ns) (hl : ns.length ≤ 1048576) (a : Int) :
    Calls Tryz.prog 83 #[.agg #[nv, mv, pv], .iface 145 (.agg #[.int .i64 a])] w fun e w' => e = .returned (.bool (standQ ns 1 a)) ∧ Below w.heap.size w w' := by
  have y0 := fun w => off_numNode 145 (.agg #[.int .i64 a]) w (by decide)
  have y1 := fun w => off_varNode 145 (.agg #[.int .i64 a]) w (by decide)
  have y2 := fun w => off_calcNode 145 (.agg #[.int .i64 a]) w (by decide)
  have y3 := fun w => on_notNode (.agg #[.int .i64 a]) w
  have T := hide (TB.start w nv mv pv #[.int .i64 a] 145)
  have N := hide (hN.stays T.out.bel)
  clear hN
  go_enter Tryz.func83, Tryz.ntmps83
  (go_wp2_with (first
    | (go_at_call 60; refine Calls.mono (implNameOk_any _ _ ?_) ?_; (first | exact hs1 | exact hs2 | exact hs3); rintro e w2 ⟨rfl, hb2⟩; (
  have T := hide (T.out.stays hb2); have N := hide (N.out.stays hb2);
  have c0 := Lib.cell_of_heap T.out.b0 0; have c1 := Lib.cell_of_heap T.out.b0 1; have c2 := Lib.cell_of_heap T.out.b0 2;
  have t0 := Lib.cell_of_heap T.out.b1 0; have t1 := Lib.cell_of_heap T.out.b1 1; have t2 := Lib.cell_of_heap T.out.b1 2; have t3 := Lib.cell_of_heap T.out.b1 3;
  simp at c0 c1 c2 t0 t1 t2 t3;
  clear hb2))
    | (go_at_call 100; refine Calls.mono (implValOk _ _) ?_; rintro e w2 ⟨rfl, rfl⟩)
    | (go_at_call 101; refine Calls.mono (implKnown _ _) ?_; rintro e w2 ⟨rfl, rfl⟩)
    | (go_at_call 62; refine Calls.mono (stand_one _ _ _ ns _ _ _ _ _ ?_ N.out hl) ?_; (simp); rintro e w2 ⟨rfl, hb2⟩; (
  have T := hide (T.out.stays hb2); have N := hide (N.out.stays hb2);
  have c0 := Lib.cell_of_heap T.out.b0 0; have c1 := Lib.cell_of_heap T.out.b0 1; have c2 := Lib.cell_of_heap T.out.b0 2;
  have t0 := Lib.cell_of_heap T.out.b1 0; have t1 := Lib.cell_of_heap T.out.b1 1; have t2 := Lib.cell_of_heap T.out.b1 2; have t3 := Lib.cell_of_heap T.out.b1 3;
  simp at c0 c1 c2 t0 t1 t2 t3;
  clear hb2))))
  go_ret
  exact ⟨rfl, T.out.bel⟩
set_option maxRecDepth 100000 in
set_option maxHeartbeats 4000000 in
theorem right_neg (nv mv pv : Value) (ns : List Nd) (w : World) (hN : NdsAt w nv ns) (hl : ns.length ≤ 1048576) (a : Int) :
    Calls Tryz.prog 83 #[.agg #[nv, mv, pv], .iface 146 (.agg #[.int .i64 a])] w fun e w' => e = .returned (.bool (standQ ns 1 a)) ∧ Below w.heap.size w w' := by
  have y0 := fun w => off_numNode 146 (.agg #[.int .i64 a]) w (by decide)
  have y1 := fun w => off_varNode 146 (.agg #[.int .i64 a]) w (by decide)
  have y2 := fun w => off_calcNode 146 (.agg #[.int .i64 a]) w (by decide)
  have y3 := fun w => off_notNode 146 (.agg #[.int .i64 a]) w (by decide)
  have y4 := fun w => on_negNode (.agg #[.int .i64 a]) w
  have T := hide (TB.start w nv mv pv #[.int .i64 a] 146)
  have N := hide (hN.stays T.out.bel)
  clear hN
  go_enter Tryz.func83, Tryz.ntmps83
  (go_wp2_with (first
    | (go_at_call 60; refine Calls.mono (implNameOk_any _ _ ?_) ?_; (first | exact hs1 | exact hs2 | exact hs3); rintro e w2 ⟨rfl, hb2⟩; (
  have T := hide (T.out.stays hb2); have N := hide (N.out.stays hb2);
  have c0 := Lib.cell_of_heap T.out.b0 0; have c1 := Lib.cell_of_heap T.out.b0 1; have c2 := Lib.cell_of_heap T.out.b0 2;
  have t0 := Lib.cell_of_heap T.out.b1 0; have t1 := Lib.cell_of_heap T.out.b1 1; have t2 := Lib.cell_of_heap T.out.b1 2; have t3 := Lib.cell_of_heap T.out.b1 3;
  simp at c0 c1 c2 t0 t1 t2 t3;
  clear hb2))
    | (go_at_call 100; refine Calls.mono (implValOk _ _) ?_; rintro e w2 ⟨rfl, rfl⟩)
    | (go_at_call 101; refine Calls.mono (implKnown _ _) ?_; rintro e w2 ⟨rfl, rfl⟩)
    | (go_at_call 62; refine Calls.mono (stand_one _ _ _ ns _ _ _ _ _ ?_ N.out hl) ?_; (simp); rintro e w2 ⟨rfl, hb2⟩; (
  have T := hide (T.out.stays hb2); have N := hide (N.out.stays hb2);
  have c0 := Lib.cell_of_heap T.out.b0 0; have c1 := Lib.cell_of_heap T.out.b0 1; have c2 := Lib.cell_of_heap T.out.b0 2;
  have t0 := Lib.cell_of_heap T.out.b1 0; have t1 := Lib.cell_of_heap T.out.b1 1; have t2 := Lib.cell_of_heap T.out.b1 2; have t3 := Lib.cell_of_heap T.out.b1 3;
  simp at c0 c1 c2 t0 t1 t2 t3;
  clear hb2))))
  go_ret
  exact ⟨rfl, T.out.bel⟩
set_option maxRecDepth 100000 in
set_option maxHeartbeats 4000000 in
theorem right_print (nv mv pv : Value) (ns : List Nd) (w : World) (hN : NdsAt w nv ns) (hl : ns.length ≤ 1048576) (a : Int) :
    Calls Tryz.prog 83 #[.agg #[nv, mv, pv], .iface 156 (.agg #[.int .i64 a])] w fun e w' => e = .returned (.bool (standQ ns 1 a)) ∧ Below w.heap.size w w' := by
  have y0 := fun w => off_numNode 156 (.agg #[.int .i64 a]) w (by decide)
  have y1 := fun w => off_varNode 156 (.agg #[.int .i64 a]) w (by decide)
  have y2 := fun w => off_calcNode 156 (.agg #[.int .i64 a]) w (by decide)
  have y3 := fun w => off_notNode 156 (.agg #[.int .i64 a]) w (by decide)
  have y4 := fun w => off_negNode 156 (.agg #[.int .i64 a]) w (by decide)
  have y5 := fun w => off_setNode 156 (.agg #[.int .i64 a]) w (by decide)
  have y6 := fun w => off_ifNode 156 (.agg #[.int .i64 a]) w (by decide)
  have y7 := fun w => off_whileNode 156 (.agg #[.int .i64 a]) w (by decide)
  have y8 := fun w => off_callNode 156 (.agg #[.int .i64 a]) w (by decide)
  have y9 := fun w => on_printNode (.agg #[.int .i64 a]) w
  have T := hide (TB.start w nv mv pv #[.int .i64 a] 156)
  have N := hide (hN.stays T.out.bel)
  clear hN
  go_enter Tryz.func83, Tryz.ntmps83
  (go_wp2_with (first
    | (go_at_call 60; refine Calls.mono (implNameOk_any _ _ ?_) ?_; (first | exact hs1 | exact hs2 | exact hs3); rintro e w2 ⟨rfl, hb2⟩; (
  have T := hide (T.out.stays hb2); have N := hide (N.out.stays hb2);
  have c0 := Lib.cell_of_heap T.out.b0 0; have c1 := Lib.cell_of_heap T.out.b0 1; have c2 := Lib.cell_of_heap T.out.b0 2;
  have t0 := Lib.cell_of_heap T.out.b1 0; have t1 := Lib.cell_of_heap T.out.b1 1; have t2 := Lib.cell_of_heap T.out.b1 2; have t3 := Lib.cell_of_heap T.out.b1 3;
  simp at c0 c1 c2 t0 t1 t2 t3;
  clear hb2))
    | (go_at_call 100; refine Calls.mono (implValOk _ _) ?_; rintro e w2 ⟨rfl, rfl⟩)
    | (go_at_call 101; refine Calls.mono (implKnown _ _) ?_; rintro e w2 ⟨rfl, rfl⟩)
    | (go_at_call 62; refine Calls.mono (stand_one _ _ _ ns _ _ _ _ _ ?_ N.out hl) ?_; (simp); rintro e w2 ⟨rfl, hb2⟩; (
  have T := hide (T.out.stays hb2); have N := hide (N.out.stays hb2);
  have c0 := Lib.cell_of_heap T.out.b0 0; have c1 := Lib.cell_of_heap T.out.b0 1; have c2 := Lib.cell_of_heap T.out.b0 2;
  have t0 := Lib.cell_of_heap T.out.b1 0; have t1 := Lib.cell_of_heap T.out.b1 1; have t2 := Lib.cell_of_heap T.out.b1 2; have t3 := Lib.cell_of_heap T.out.b1 3;
  simp at c0 c1 c2 t0 t1 t2 t3;
  clear hb2))))
  go_ret
  exact ⟨rfl, T.out.bel⟩
set_option maxRecDepth 100000 in
set_option maxHeartbeats 4000000 in
theorem right_set (nv mv pv : Value) (ns : List Nd) (w : World) (hN : NdsAt w nv ns) (hl : ns.length ≤ 1048576) (nm : ByteArray) (hs1 : nm.size ≤ 1048576) (a : Int) :
    Calls Tryz.prog 83 #[.agg #[nv, mv, pv], .iface 148 (.agg #[.string nm, .int .i64 a])] w fun e w' => e = .returned (.bool (nameB nm && standQ ns 1 a)) ∧ Below w.heap.size w w' := by
  have y0 := fun w => off_numNode 148 (.agg #[.string nm, .int .i64 a]) w (by decide)
  have y1 := fun w => off_varNode 148 (.agg #[.string nm, .int .i64 a]) w (by decide)
  have y2 := fun w => off_calcNode 148 (.agg #[.string nm, .int .i64 a]) w (by decide)
  have y3 := fun w => off_notNode 148 (.agg #[.string nm, .int .i64 a]) w (by decide)
  have y4 := fun w => off_negNode 148 (.agg #[.string nm, .int .i64 a]) w (by decide)
  have y5 := fun w => on_setNode (.agg #[.string nm, .int .i64 a]) w
  have T := hide (TB.start w nv mv pv #[.string nm, .int .i64 a] 148)
  have N := hide (hN.stays T.out.bel)
  clear hN
  cases h : (nameB nm) with
  | false =>
    rw [Bool.false_and]
    go_enter Tryz.func83, Tryz.ntmps83
    (go_wp2_with (first
    | (go_at_call 60; refine Calls.mono (implNameOk_any _ _ ?_) ?_; (first | exact hs1 | exact hs2 | exact hs3); rintro e w2 ⟨rfl, hb2⟩; (
  have T := hide (T.out.stays hb2); have N := hide (N.out.stays hb2);
  have c0 := Lib.cell_of_heap T.out.b0 0; have c1 := Lib.cell_of_heap T.out.b0 1; have c2 := Lib.cell_of_heap T.out.b0 2;
  have t0 := Lib.cell_of_heap T.out.b1 0; have t1 := Lib.cell_of_heap T.out.b1 1; have t2 := Lib.cell_of_heap T.out.b1 2; have t3 := Lib.cell_of_heap T.out.b1 3;
  simp at c0 c1 c2 t0 t1 t2 t3;
  clear hb2))
    | (go_at_call 100; refine Calls.mono (implValOk _ _) ?_; rintro e w2 ⟨rfl, rfl⟩)
    | (go_at_call 101; refine Calls.mono (implKnown _ _) ?_; rintro e w2 ⟨rfl, rfl⟩)
    | (go_at_call 62; refine Calls.mono (stand_one _ _ _ ns _ _ _ _ _ ?_ N.out hl) ?_; (simp); rintro e w2 ⟨rfl, hb2⟩; (
  have T := hide (T.out.stays hb2); have N := hide (N.out.stays hb2);
  have c0 := Lib.cell_of_heap T.out.b0 0; have c1 := Lib.cell_of_heap T.out.b0 1; have c2 := Lib.cell_of_heap T.out.b0 2;
  have t0 := Lib.cell_of_heap T.out.b1 0; have t1 := Lib.cell_of_heap T.out.b1 1; have t2 := Lib.cell_of_heap T.out.b1 2; have t3 := Lib.cell_of_heap T.out.b1 3;
  simp at c0 c1 c2 t0 t1 t2 t3;
  clear hb2))))
    go_ret
    exact ⟨rfl, T.out.bel⟩
  | true =>
    rw [Bool.true_and]
    go_enter Tryz.func83, Tryz.ntmps83
    (go_wp2_with (first
    | (go_at_call 60; refine Calls.mono (implNameOk_any _ _ ?_) ?_; (first | exact hs1 | exact hs2 | exact hs3); rintro e w2 ⟨rfl, hb2⟩; (
  have T := hide (T.out.stays hb2); have N := hide (N.out.stays hb2);
  have c0 := Lib.cell_of_heap T.out.b0 0; have c1 := Lib.cell_of_heap T.out.b0 1; have c2 := Lib.cell_of_heap T.out.b0 2;
  have t0 := Lib.cell_of_heap T.out.b1 0; have t1 := Lib.cell_of_heap T.out.b1 1; have t2 := Lib.cell_of_heap T.out.b1 2; have t3 := Lib.cell_of_heap T.out.b1 3;
  simp at c0 c1 c2 t0 t1 t2 t3;
  clear hb2))
    | (go_at_call 100; refine Calls.mono (implValOk _ _) ?_; rintro e w2 ⟨rfl, rfl⟩)
    | (go_at_call 101; refine Calls.mono (implKnown _ _) ?_; rintro e w2 ⟨rfl, rfl⟩)
    | (go_at_call 62; refine Calls.mono (stand_one _ _ _ ns _ _ _ _ _ ?_ N.out hl) ?_; (simp); rintro e w2 ⟨rfl, hb2⟩; (
  have T := hide (T.out.stays hb2); have N := hide (N.out.stays hb2);
  have c0 := Lib.cell_of_heap T.out.b0 0; have c1 := Lib.cell_of_heap T.out.b0 1; have c2 := Lib.cell_of_heap T.out.b0 2;
  have t0 := Lib.cell_of_heap T.out.b1 0; have t1 := Lib.cell_of_heap T.out.b1 1; have t2 := Lib.cell_of_heap T.out.b1 2; have t3 := Lib.cell_of_heap T.out.b1 3;
  simp at c0 c1 c2 t0 t1 t2 t3;
  clear hb2))))
    go_ret
    exact ⟨rfl, T.out.bel⟩
set_option maxRecDepth 100000 in
set_option maxHeartbeats 4000000 in
theorem right_while (nv mv pv : Value) (ns : List Nd) (w : World) (hN : NdsAt w nv ns) (hl : ns.length ≤ 1048576) (a b : Int) :
    Calls Tryz.prog 83 #[.agg #[nv, mv, pv], .iface 152 (.agg #[.int .i64 a, .int .i64 b])] w fun e w' => e = .returned (.bool (standQ ns 1 a && standQ ns 3 b)) ∧ Below w.heap.size w w' := by
  have y0 := fun w => off_numNode 152 (.agg #[.int .i64 a, .int .i64 b]) w (by decide)
  have y1 := fun w => off_varNode 152 (.agg #[.int .i64 a, .int .i64 b]) w (by decide)
  have y2 := fun w => off_calcNode 152 (.agg #[.int .i64 a, .int .i64 b]) w (by decide)
  have y3 := fun w => off_notNode 152 (.agg #[.int .i64 a, .int .i64 b]) w (by decide)
  have y4 := fun w => off_negNode 152 (.agg #[.int .i64 a, .int .i64 b]) w (by decide)
  have y5 := fun w => off_setNode 152 (.agg #[.int .i64 a, .int .i64 b]) w (by decide)
  have y6 := fun w => off_ifNode 152 (.agg #[.int .i64 a, .int .i64 b]) w (by decide)
  have y7 := fun w => on_whileNode (.agg #[.int .i64 a, .int .i64 b]) w
  have T := hide (TB.start w nv mv pv #[.int .i64 a, .int .i64 b] 152)
  have N := hide (hN.stays T.out.bel)
  clear hN
  cases h : (standQ ns 1 a) with
  | false =>
    rw [Bool.false_and]
    go_enter Tryz.func83, Tryz.ntmps83
    (go_wp2_with (first
    | (go_at_call 60; refine Calls.mono (implNameOk_any _ _ ?_) ?_; (first | exact hs1 | exact hs2 | exact hs3); rintro e w2 ⟨rfl, hb2⟩; (
  have T := hide (T.out.stays hb2); have N := hide (N.out.stays hb2);
  have c0 := Lib.cell_of_heap T.out.b0 0; have c1 := Lib.cell_of_heap T.out.b0 1; have c2 := Lib.cell_of_heap T.out.b0 2;
  have t0 := Lib.cell_of_heap T.out.b1 0; have t1 := Lib.cell_of_heap T.out.b1 1; have t2 := Lib.cell_of_heap T.out.b1 2; have t3 := Lib.cell_of_heap T.out.b1 3;
  simp at c0 c1 c2 t0 t1 t2 t3;
  clear hb2))
    | (go_at_call 100; refine Calls.mono (implValOk _ _) ?_; rintro e w2 ⟨rfl, rfl⟩)
    | (go_at_call 101; refine Calls.mono (implKnown _ _) ?_; rintro e w2 ⟨rfl, rfl⟩)
    | (go_at_call 62; refine Calls.mono (stand_one _ _ _ ns _ _ _ _ _ ?_ N.out hl) ?_; (simp); rintro e w2 ⟨rfl, hb2⟩; (
  have T := hide (T.out.stays hb2); have N := hide (N.out.stays hb2);
  have c0 := Lib.cell_of_heap T.out.b0 0; have c1 := Lib.cell_of_heap T.out.b0 1; have c2 := Lib.cell_of_heap T.out.b0 2;
  have t0 := Lib.cell_of_heap T.out.b1 0; have t1 := Lib.cell_of_heap T.out.b1 1; have t2 := Lib.cell_of_heap T.out.b1 2; have t3 := Lib.cell_of_heap T.out.b1 3;
  simp at c0 c1 c2 t0 t1 t2 t3;
  clear hb2))))
    go_ret
    exact ⟨rfl, T.out.bel⟩
  | true =>
    rw [Bool.true_and]
    go_enter Tryz.func83, Tryz.ntmps83
    (go_wp2_with (first
    | (go_at_call 60; refine Calls.mono (implNameOk_any _ _ ?_) ?_; (first | exact hs1 | exact hs2 | exact hs3); rintro e w2 ⟨rfl, hb2⟩; (
  have T := hide (T.out.stays hb2); have N := hide (N.out.stays hb2);
  have c0 := Lib.cell_of_heap T.out.b0 0; have c1 := Lib.cell_of_heap T.out.b0 1; have c2 := Lib.cell_of_heap T.out.b0 2;
  have t0 := Lib.cell_of_heap T.out.b1 0; have t1 := Lib.cell_of_heap T.out.b1 1; have t2 := Lib.cell_of_heap T.out.b1 2; have t3 := Lib.cell_of_heap T.out.b1 3;
  simp at c0 c1 c2 t0 t1 t2 t3;
  clear hb2))
    | (go_at_call 100; refine Calls.mono (implValOk _ _) ?_; rintro e w2 ⟨rfl, rfl⟩)
    | (go_at_call 101; refine Calls.mono (implKnown _ _) ?_; rintro e w2 ⟨rfl, rfl⟩)
    | (go_at_call 62; refine Calls.mono (stand_one _ _ _ ns _ _ _ _ _ ?_ N.out hl) ?_; (simp); rintro e w2 ⟨rfl, hb2⟩; (
  have T := hide (T.out.stays hb2); have N := hide (N.out.stays hb2);
  have c0 := Lib.cell_of_heap T.out.b0 0; have c1 := Lib.cell_of_heap T.out.b0 1; have c2 := Lib.cell_of_heap T.out.b0 2;
  have t0 := Lib.cell_of_heap T.out.b1 0; have t1 := Lib.cell_of_heap T.out.b1 1; have t2 := Lib.cell_of_heap T.out.b1 2; have t3 := Lib.cell_of_heap T.out.b1 3;
  simp at c0 c1 c2 t0 t1 t2 t3;
  clear hb2))))
    go_ret
    exact ⟨rfl, T.out.bel⟩
set_option maxRecDepth 100000 in
set_option maxHeartbeats 4000000 in
theorem right_if (nv mv pv : Value) (ns : List Nd) (w : World) (hN : NdsAt w nv ns) (hl : ns.length ≤ 1048576) (a b c : Int) :
    Calls Tryz.prog 83 #[.agg #[nv, mv, pv], .iface 150 (.agg #[.int .i64 a, .int .i64 b, .int .i64 c])] w fun e w' => e = .returned (.bool (standQ ns 1 a && standQ ns 3 b && (decide (c = -1) || standQ ns 3 c))) ∧ Below w.heap.size w w' := by
  have y0 := fun w => off_numNode 150 (.agg #[.int .i64 a, .int .i64 b, .int .i64 c]) w (by decide)
  have y1 := fun w => off_varNode 150 (.agg #[.int .i64 a, .int .i64 b, .int .i64 c]) w (by decide)
  have y2 := fun w => off_calcNode 150 (.agg #[.int .i64 a, .int .i64 b, .int .i64 c]) w (by decide)
  have y3 := fun w => off_notNode 150 (.agg #[.int .i64 a, .int .i64 b, .int .i64 c]) w (by decide)
  have y4 := fun w => off_negNode 150 (.agg #[.int .i64 a, .int .i64 b, .int .i64 c]) w (by decide)
  have y5 := fun w => off_setNode 150 (.agg #[.int .i64 a, .int .i64 b, .int .i64 c]) w (by decide)
  have y6 := fun w => on_ifNode (.agg #[.int .i64 a, .int .i64 b, .int .i64 c]) w
  have T := hide (TB.start w nv mv pv #[.int .i64 a, .int .i64 b, .int .i64 c] 150)
  have N := hide (hN.stays T.out.bel)
  clear hN
  obtain ⟨s, es⟩ : ∃ s, (standQ ns 1 a && standQ ns 3 b && (decide (c = -1) || standQ ns 3 c)) = s := ⟨_, rfl⟩
  rw [es]
  cases h1 : standQ ns 1 a with
  | false =>
    have e : s = false := by rw [← es, h1]; rfl
    subst e
    clear es
    go_enter Tryz.func83, Tryz.ntmps83
    (go_wp2_with (first
    | (go_at_call 60; refine Calls.mono (implNameOk_any _ _ ?_) ?_; (first | exact hs1 | exact hs2 | exact hs3); rintro e w2 ⟨rfl, hb2⟩; (
  have T := hide (T.out.stays hb2); have N := hide (N.out.stays hb2);
  have c0 := Lib.cell_of_heap T.out.b0 0; have c1 := Lib.cell_of_heap T.out.b0 1; have c2 := Lib.cell_of_heap T.out.b0 2;
  have t0 := Lib.cell_of_heap T.out.b1 0; have t1 := Lib.cell_of_heap T.out.b1 1; have t2 := Lib.cell_of_heap T.out.b1 2; have t3 := Lib.cell_of_heap T.out.b1 3;
  simp at c0 c1 c2 t0 t1 t2 t3;
  clear hb2))
    | (go_at_call 100; refine Calls.mono (implValOk _ _) ?_; rintro e w2 ⟨rfl, rfl⟩)
    | (go_at_call 101; refine Calls.mono (implKnown _ _) ?_; rintro e w2 ⟨rfl, rfl⟩)
    | (go_at_call 62; refine Calls.mono (stand_one _ _ _ ns _ _ _ _ _ ?_ N.out hl) ?_; (simp); rintro e w2 ⟨rfl, hb2⟩; (
  have T := hide (T.out.stays hb2); have N := hide (N.out.stays hb2);
  have c0 := Lib.cell_of_heap T.out.b0 0; have c1 := Lib.cell_of_heap T.out.b0 1; have c2 := Lib.cell_of_heap T.out.b0 2;
  have t0 := Lib.cell_of_heap T.out.b1 0; have t1 := Lib.cell_of_heap T.out.b1 1; have t2 := Lib.cell_of_heap T.out.b1 2; have t3 := Lib.cell_of_heap T.out.b1 3;
  simp at c0 c1 c2 t0 t1 t2 t3;
  clear hb2))))
    go_ret
    exact ⟨rfl, T.out.bel⟩
  | true =>
    cases h2 : standQ ns 3 b with
    | false =>
      have e : s = false := by rw [← es, h1, h2]; rfl
      subst e
      clear es
      go_enter Tryz.func83, Tryz.ntmps83
      (go_wp2_with (first
    | (go_at_call 60; refine Calls.mono (implNameOk_any _ _ ?_) ?_; (first | exact hs1 | exact hs2 | exact hs3); rintro e w2 ⟨rfl, hb2⟩; (
  have T := hide (T.out.stays hb2); have N := hide (N.out.stays hb2);
  have c0 := Lib.cell_of_heap T.out.b0 0; have c1 := Lib.cell_of_heap T.out.b0 1; have c2 := Lib.cell_of_heap T.out.b0 2;
  have t0 := Lib.cell_of_heap T.out.b1 0; have t1 := Lib.cell_of_heap T.out.b1 1; have t2 := Lib.cell_of_heap T.out.b1 2; have t3 := Lib.cell_of_heap T.out.b1 3;
  simp at c0 c1 c2 t0 t1 t2 t3;
  clear hb2))
    | (go_at_call 100; refine Calls.mono (implValOk _ _) ?_; rintro e w2 ⟨rfl, rfl⟩)
    | (go_at_call 101; refine Calls.mono (implKnown _ _) ?_; rintro e w2 ⟨rfl, rfl⟩)
    | (go_at_call 62; refine Calls.mono (stand_one _ _ _ ns _ _ _ _ _ ?_ N.out hl) ?_; (simp); rintro e w2 ⟨rfl, hb2⟩; (
  have T := hide (T.out.stays hb2); have N := hide (N.out.stays hb2);
  have c0 := Lib.cell_of_heap T.out.b0 0; have c1 := Lib.cell_of_heap T.out.b0 1; have c2 := Lib.cell_of_heap T.out.b0 2;
  have t0 := Lib.cell_of_heap T.out.b1 0; have t1 := Lib.cell_of_heap T.out.b1 1; have t2 := Lib.cell_of_heap T.out.b1 2; have t3 := Lib.cell_of_heap T.out.b1 3;
  simp at c0 c1 c2 t0 t1 t2 t3;
  clear hb2))))
      go_ret
      exact ⟨rfl, T.out.bel⟩
    | true =>
      by_cases h3 : c = -1
      · have e : s = true := by rw [← es, h1, h2, h3]; rfl
        subst e
        subst h3
        clear es
        go_enter Tryz.func83, Tryz.ntmps83
        (go_wp2_with (first
    | (go_at_call 60; refine Calls.mono (implNameOk_any _ _ ?_) ?_; (first | exact hs1 | exact hs2 | exact hs3); rintro e w2 ⟨rfl, hb2⟩; (
  have T := hide (T.out.stays hb2); have N := hide (N.out.stays hb2);
  have c0 := Lib.cell_of_heap T.out.b0 0; have c1 := Lib.cell_of_heap T.out.b0 1; have c2 := Lib.cell_of_heap T.out.b0 2;
  have t0 := Lib.cell_of_heap T.out.b1 0; have t1 := Lib.cell_of_heap T.out.b1 1; have t2 := Lib.cell_of_heap T.out.b1 2; have t3 := Lib.cell_of_heap T.out.b1 3;
  simp at c0 c1 c2 t0 t1 t2 t3;
  clear hb2))
    | (go_at_call 100; refine Calls.mono (implValOk _ _) ?_; rintro e w2 ⟨rfl, rfl⟩)
    | (go_at_call 101; refine Calls.mono (implKnown _ _) ?_; rintro e w2 ⟨rfl, rfl⟩)
    | (go_at_call 62; refine Calls.mono (stand_one _ _ _ ns _ _ _ _ _ ?_ N.out hl) ?_; (simp); rintro e w2 ⟨rfl, hb2⟩; (
  have T := hide (T.out.stays hb2); have N := hide (N.out.stays hb2);
  have c0 := Lib.cell_of_heap T.out.b0 0; have c1 := Lib.cell_of_heap T.out.b0 1; have c2 := Lib.cell_of_heap T.out.b0 2;
  have t0 := Lib.cell_of_heap T.out.b1 0; have t1 := Lib.cell_of_heap T.out.b1 1; have t2 := Lib.cell_of_heap T.out.b1 2; have t3 := Lib.cell_of_heap T.out.b1 3;
  simp at c0 c1 c2 t0 t1 t2 t3;
  clear hb2))))
        go_ret
        exact ⟨rfl, T.out.bel⟩
      · have e : s = standQ ns 3 c := by rw [← es, h1, h2]; simp [h3]
        subst e
        clear es
        go_enter Tryz.func83, Tryz.ntmps83
        (go_wp2_with (first
    | (go_at_call 60; refine Calls.mono (implNameOk_any _ _ ?_) ?_; (first | exact hs1 | exact hs2 | exact hs3); rintro e w2 ⟨rfl, hb2⟩; (
  have T := hide (T.out.stays hb2); have N := hide (N.out.stays hb2);
  have c0 := Lib.cell_of_heap T.out.b0 0; have c1 := Lib.cell_of_heap T.out.b0 1; have c2 := Lib.cell_of_heap T.out.b0 2;
  have t0 := Lib.cell_of_heap T.out.b1 0; have t1 := Lib.cell_of_heap T.out.b1 1; have t2 := Lib.cell_of_heap T.out.b1 2; have t3 := Lib.cell_of_heap T.out.b1 3;
  simp at c0 c1 c2 t0 t1 t2 t3;
  clear hb2))
    | (go_at_call 100; refine Calls.mono (implValOk _ _) ?_; rintro e w2 ⟨rfl, rfl⟩)
    | (go_at_call 101; refine Calls.mono (implKnown _ _) ?_; rintro e w2 ⟨rfl, rfl⟩)
    | (go_at_call 62; refine Calls.mono (stand_one _ _ _ ns _ _ _ _ _ ?_ N.out hl) ?_; (simp); rintro e w2 ⟨rfl, hb2⟩; (
  have T := hide (T.out.stays hb2); have N := hide (N.out.stays hb2);
  have c0 := Lib.cell_of_heap T.out.b0 0; have c1 := Lib.cell_of_heap T.out.b0 1; have c2 := Lib.cell_of_heap T.out.b0 2;
  have t0 := Lib.cell_of_heap T.out.b1 0; have t1 := Lib.cell_of_heap T.out.b1 1; have t2 := Lib.cell_of_heap T.out.b1 2; have t3 := Lib.cell_of_heap T.out.b1 3;
  simp at c0 c1 c2 t0 t1 t2 t3;
  clear hb2))))
        go_ret
        exact ⟨by show Ending.returned (Value.bool (c == -1 || standQ ns 3 c)) = _; simp [h3], T.out.bel⟩
set_option maxRecDepth 100000 in
set_option maxHeartbeats 4000000 in
theorem right_call (nv mv pv : Value) (ns : List Nd) (w : World) (hN : NdsAt w nv ns) (hl : ns.length ≤ 1048576) (nm mo it : ByteArray) (hs1 : nm.size ≤ 1048576) (hs2 : mo.size ≤ 1048576) (hs3 : it.size ≤ 1048576) (a : Int) :
    Calls Tryz.prog 83 #[.agg #[nv, mv, pv], .iface 154 (.agg #[.string nm, .string mo, .string it, .int .i64 a])] w fun e w' => e = .returned (.bool (nameB nm && nameB mo && (it.toList.isEmpty || nameB it) && standQ ns 1 a)) ∧ Below w.heap.size w w' := by
  have y0 := fun w => off_numNode 154 (.agg #[.string nm, .string mo, .string it, .int .i64 a]) w (by decide)
  have y1 := fun w => off_varNode 154 (.agg #[.string nm, .string mo, .string it, .int .i64 a]) w (by decide)
  have y2 := fun w => off_calcNode 154 (.agg #[.string nm, .string mo, .string it, .int .i64 a]) w (by decide)
  have y3 := fun w => off_notNode 154 (.agg #[.string nm, .string mo, .string it, .int .i64 a]) w (by decide)
  have y4 := fun w => off_negNode 154 (.agg #[.string nm, .string mo, .string it, .int .i64 a]) w (by decide)
  have y5 := fun w => off_setNode 154 (.agg #[.string nm, .string mo, .string it, .int .i64 a]) w (by decide)
  have y6 := fun w => off_ifNode 154 (.agg #[.string nm, .string mo, .string it, .int .i64 a]) w (by decide)
  have y7 := fun w => off_whileNode 154 (.agg #[.string nm, .string mo, .string it, .int .i64 a]) w (by decide)
  have y8 := fun w => on_callNode (.agg #[.string nm, .string mo, .string it, .int .i64 a]) w
  have T := hide (TB.start w nv mv pv #[.string nm, .string mo, .string it, .int .i64 a] 154)
  have N := hide (hN.stays T.out.bel)
  clear hN
  obtain ⟨s, es⟩ : ∃ s, (nameB nm && nameB mo && (it.toList.isEmpty || nameB it) && standQ ns 1 a) = s := ⟨_, rfl⟩
  rw [es]
  cases h1 : nameB nm with
  | false =>
    have e : s = false := by rw [← es, h1]; rfl
    subst e
    clear es
    go_enter Tryz.func83, Tryz.ntmps83
    (go_wp2_with (first
    | (go_at_call 60; refine Calls.mono (implNameOk_any _ _ ?_) ?_; (first | exact hs1 | exact hs2 | exact hs3); rintro e w2 ⟨rfl, hb2⟩; (
  have T := hide (T.out.stays hb2); have N := hide (N.out.stays hb2);
  have c0 := Lib.cell_of_heap T.out.b0 0; have c1 := Lib.cell_of_heap T.out.b0 1; have c2 := Lib.cell_of_heap T.out.b0 2;
  have t0 := Lib.cell_of_heap T.out.b1 0; have t1 := Lib.cell_of_heap T.out.b1 1; have t2 := Lib.cell_of_heap T.out.b1 2; have t3 := Lib.cell_of_heap T.out.b1 3;
  simp at c0 c1 c2 t0 t1 t2 t3;
  clear hb2))
    | (go_at_call 100; refine Calls.mono (implValOk _ _) ?_; rintro e w2 ⟨rfl, rfl⟩)
    | (go_at_call 101; refine Calls.mono (implKnown _ _) ?_; rintro e w2 ⟨rfl, rfl⟩)
    | (go_at_call 62; refine Calls.mono (stand_one _ _ _ ns _ _ _ _ _ ?_ N.out hl) ?_; (simp); rintro e w2 ⟨rfl, hb2⟩; (
  have T := hide (T.out.stays hb2); have N := hide (N.out.stays hb2);
  have c0 := Lib.cell_of_heap T.out.b0 0; have c1 := Lib.cell_of_heap T.out.b0 1; have c2 := Lib.cell_of_heap T.out.b0 2;
  have t0 := Lib.cell_of_heap T.out.b1 0; have t1 := Lib.cell_of_heap T.out.b1 1; have t2 := Lib.cell_of_heap T.out.b1 2; have t3 := Lib.cell_of_heap T.out.b1 3;
  simp at c0 c1 c2 t0 t1 t2 t3;
  clear hb2))))
    go_ret
    exact ⟨rfl, T.out.bel⟩
  | true =>
    cases h2 : nameB mo with
    | false =>
      have e : s = false := by rw [← es, h1, h2]; rfl
      subst e
      clear es
      go_enter Tryz.func83, Tryz.ntmps83
      (go_wp2_with (first
    | (go_at_call 60; refine Calls.mono (implNameOk_any _ _ ?_) ?_; (first | exact hs1 | exact hs2 | exact hs3); rintro e w2 ⟨rfl, hb2⟩; (
  have T := hide (T.out.stays hb2); have N := hide (N.out.stays hb2);
  have c0 := Lib.cell_of_heap T.out.b0 0; have c1 := Lib.cell_of_heap T.out.b0 1; have c2 := Lib.cell_of_heap T.out.b0 2;
  have t0 := Lib.cell_of_heap T.out.b1 0; have t1 := Lib.cell_of_heap T.out.b1 1; have t2 := Lib.cell_of_heap T.out.b1 2; have t3 := Lib.cell_of_heap T.out.b1 3;
  simp at c0 c1 c2 t0 t1 t2 t3;
  clear hb2))
    | (go_at_call 100; refine Calls.mono (implValOk _ _) ?_; rintro e w2 ⟨rfl, rfl⟩)
    | (go_at_call 101; refine Calls.mono (implKnown _ _) ?_; rintro e w2 ⟨rfl, rfl⟩)
    | (go_at_call 62; refine Calls.mono (stand_one _ _ _ ns _ _ _ _ _ ?_ N.out hl) ?_; (simp); rintro e w2 ⟨rfl, hb2⟩; (
  have T := hide (T.out.stays hb2); have N := hide (N.out.stays hb2);
  have c0 := Lib.cell_of_heap T.out.b0 0; have c1 := Lib.cell_of_heap T.out.b0 1; have c2 := Lib.cell_of_heap T.out.b0 2;
  have t0 := Lib.cell_of_heap T.out.b1 0; have t1 := Lib.cell_of_heap T.out.b1 1; have t2 := Lib.cell_of_heap T.out.b1 2; have t3 := Lib.cell_of_heap T.out.b1 3;
  simp at c0 c1 c2 t0 t1 t2 t3;
  clear hb2))))
      go_ret
      exact ⟨rfl, T.out.bel⟩
    | true =>
      cases h3 : it.toList.isEmpty with
      | true =>
        have e : s = standQ ns 1 a := by rw [← es, h1, h2, h3]; rfl
        subst e
        clear es
        go_enter Tryz.func83, Tryz.ntmps83
        (go_wp2_with (first
    | (go_at_call 60; refine Calls.mono (implNameOk_any _ _ ?_) ?_; (first | exact hs1 | exact hs2 | exact hs3); rintro e w2 ⟨rfl, hb2⟩; (
  have T := hide (T.out.stays hb2); have N := hide (N.out.stays hb2);
  have c0 := Lib.cell_of_heap T.out.b0 0; have c1 := Lib.cell_of_heap T.out.b0 1; have c2 := Lib.cell_of_heap T.out.b0 2;
  have t0 := Lib.cell_of_heap T.out.b1 0; have t1 := Lib.cell_of_heap T.out.b1 1; have t2 := Lib.cell_of_heap T.out.b1 2; have t3 := Lib.cell_of_heap T.out.b1 3;
  simp at c0 c1 c2 t0 t1 t2 t3;
  clear hb2))
    | (go_at_call 100; refine Calls.mono (implValOk _ _) ?_; rintro e w2 ⟨rfl, rfl⟩)
    | (go_at_call 101; refine Calls.mono (implKnown _ _) ?_; rintro e w2 ⟨rfl, rfl⟩)
    | (go_at_call 62; refine Calls.mono (stand_one _ _ _ ns _ _ _ _ _ ?_ N.out hl) ?_; (simp); rintro e w2 ⟨rfl, hb2⟩; (
  have T := hide (T.out.stays hb2); have N := hide (N.out.stays hb2);
  have c0 := Lib.cell_of_heap T.out.b0 0; have c1 := Lib.cell_of_heap T.out.b0 1; have c2 := Lib.cell_of_heap T.out.b0 2;
  have t0 := Lib.cell_of_heap T.out.b1 0; have t1 := Lib.cell_of_heap T.out.b1 1; have t2 := Lib.cell_of_heap T.out.b1 2; have t3 := Lib.cell_of_heap T.out.b1 3;
  simp at c0 c1 c2 t0 t1 t2 t3;
  clear hb2))))
        go_ret
        exact ⟨rfl, T.out.bel⟩
      | false =>
        cases h4 : nameB it with
        | false =>
          have e : s = false := by rw [← es, h1, h2, h3, h4]; rfl
          subst e
          clear es
          go_enter Tryz.func83, Tryz.ntmps83
          (go_wp2_with (first
    | (go_at_call 60; refine Calls.mono (implNameOk_any _ _ ?_) ?_; (first | exact hs1 | exact hs2 | exact hs3); rintro e w2 ⟨rfl, hb2⟩; (
  have T := hide (T.out.stays hb2); have N := hide (N.out.stays hb2);
  have c0 := Lib.cell_of_heap T.out.b0 0; have c1 := Lib.cell_of_heap T.out.b0 1; have c2 := Lib.cell_of_heap T.out.b0 2;
  have t0 := Lib.cell_of_heap T.out.b1 0; have t1 := Lib.cell_of_heap T.out.b1 1; have t2 := Lib.cell_of_heap T.out.b1 2; have t3 := Lib.cell_of_heap T.out.b1 3;
  simp at c0 c1 c2 t0 t1 t2 t3;
  clear hb2))
    | (go_at_call 100; refine Calls.mono (implValOk _ _) ?_; rintro e w2 ⟨rfl, rfl⟩)
    | (go_at_call 101; refine Calls.mono (implKnown _ _) ?_; rintro e w2 ⟨rfl, rfl⟩)
    | (go_at_call 62; refine Calls.mono (stand_one _ _ _ ns _ _ _ _ _ ?_ N.out hl) ?_; (simp); rintro e w2 ⟨rfl, hb2⟩; (
  have T := hide (T.out.stays hb2); have N := hide (N.out.stays hb2);
  have c0 := Lib.cell_of_heap T.out.b0 0; have c1 := Lib.cell_of_heap T.out.b0 1; have c2 := Lib.cell_of_heap T.out.b0 2;
  have t0 := Lib.cell_of_heap T.out.b1 0; have t1 := Lib.cell_of_heap T.out.b1 1; have t2 := Lib.cell_of_heap T.out.b1 2; have t3 := Lib.cell_of_heap T.out.b1 3;
  simp at c0 c1 c2 t0 t1 t2 t3;
  clear hb2))))
          go_ret
          exact ⟨rfl, T.out.bel⟩
        | true =>
          have e : s = standQ ns 1 a := by rw [← es, h1, h2, h3, h4]; rfl
          subst e
          clear es
          go_enter Tryz.func83, Tryz.ntmps83
          (go_wp2_with (first
    | (go_at_call 60; refine Calls.mono (implNameOk_any _ _ ?_) ?_; (first | exact hs1 | exact hs2 | exact hs3); rintro e w2 ⟨rfl, hb2⟩; (
  have T := hide (T.out.stays hb2); have N := hide (N.out.stays hb2);
  have c0 := Lib.cell_of_heap T.out.b0 0; have c1 := Lib.cell_of_heap T.out.b0 1; have c2 := Lib.cell_of_heap T.out.b0 2;
  have t0 := Lib.cell_of_heap T.out.b1 0; have t1 := Lib.cell_of_heap T.out.b1 1; have t2 := Lib.cell_of_heap T.out.b1 2; have t3 := Lib.cell_of_heap T.out.b1 3;
  simp at c0 c1 c2 t0 t1 t2 t3;
  clear hb2))
    | (go_at_call 100; refine Calls.mono (implValOk _ _) ?_; rintro e w2 ⟨rfl, rfl⟩)
    | (go_at_call 101; refine Calls.mono (implKnown _ _) ?_; rintro e w2 ⟨rfl, rfl⟩)
    | (go_at_call 62; refine Calls.mono (stand_one _ _ _ ns _ _ _ _ _ ?_ N.out hl) ?_; (simp); rintro e w2 ⟨rfl, hb2⟩; (
  have T := hide (T.out.stays hb2); have N := hide (N.out.stays hb2);
  have c0 := Lib.cell_of_heap T.out.b0 0; have c1 := Lib.cell_of_heap T.out.b0 1; have c2 := Lib.cell_of_heap T.out.b0 2;
  have t0 := Lib.cell_of_heap T.out.b1 0; have t1 := Lib.cell_of_heap T.out.b1 1; have t2 := Lib.cell_of_heap T.out.b1 2; have t3 := Lib.cell_of_heap T.out.b1 3;
  simp at c0 c1 c2 t0 t1 t2 t3;
  clear hb2))))
          go_ret
          exact ⟨rfl, T.out.bel⟩
set_option maxRecDepth 100000 in
set_option maxHeartbeats 4000000 in
theorem right_skip (nv mv pv : Value) (w : World) :
    Calls Tryz.prog 83 #[.agg #[nv, mv, pv], .iface 161 (.agg #[])] w fun e w' => e = .returned (.bool true) ∧ Below w.heap.size w w' := by
  have y0 := fun w => off_numNode 161 (.agg #[]) w (by decide)
  have y1 := fun w => off_varNode 161 (.agg #[]) w (by decide)
  have y2 := fun w => off_calcNode 161 (.agg #[]) w (by decide)
  have y3 := fun w => off_notNode 161 (.agg #[]) w (by decide)
  have y4 := fun w => off_negNode 161 (.agg #[]) w (by decide)
  have y5 := fun w => off_setNode 161 (.agg #[]) w (by decide)
  have y6 := fun w => off_ifNode 161 (.agg #[]) w (by decide)
  have y7 := fun w => off_whileNode 161 (.agg #[]) w (by decide)
  have y8 := fun w => off_callNode 161 (.agg #[]) w (by decide)
  have y9 := fun w => off_printNode 161 (.agg #[]) w (by decide)
  have y10 := fun w => off_readNode 161 (.agg #[]) w (by decide)
  have y11 := fun w => off_delayNode 161 (.agg #[]) w (by decide)
  have y12 := fun w => off_contNode 161 (.agg #[]) w (by decide)
  have y14 := fun w => off_blockNode 161 (.agg #[]) w (by decide)
  go_enter Tryz.func83, Tryz.ntmps83
  go_wp2
  go_ret
  exact ⟨rfl, (Below.refl _ _).alloc (Nat.le_refl _) _⟩
set_option maxRecDepth 100000 in
set_option maxHeartbeats 4000000 in
theorem right_block (nv mv pv : Value) (ns : List Nd) (w : World) (hN : NdsAt w nv ns) (hl : ns.length ≤ 1048576) (ao : Option Addr) (c : Nat) (ks : List Int) (hK : IntsAt w (.slice ao ks.length c) ks) (hkl : ks.length ≤ 1048576) :
    Calls Tryz.prog 83 #[.agg #[nv, mv, pv], .iface 130 (.agg #[.slice ao ks.length c])] w fun e w' => e = .returned (.bool (decide (0 < ks.length) && ks.all (standQ ns 2))) ∧ Below w.heap.size w w' := by
  have y0 := fun w => off_numNode 130 (.agg #[.slice ao ks.length c]) w (by decide)
  have y1 := fun w => off_varNode 130 (.agg #[.slice ao ks.length c]) w (by decide)
  have y2 := fun w => off_calcNode 130 (.agg #[.slice ao ks.length c]) w (by decide)
  have y3 := fun w => off_notNode 130 (.agg #[.slice ao ks.length c]) w (by decide)
  have y4 := fun w => off_negNode 130 (.agg #[.slice ao ks.length c]) w (by decide)
  have y5 := fun w => off_setNode 130 (.agg #[.slice ao ks.length c]) w (by decide)
  have y6 := fun w => off_ifNode 130 (.agg #[.slice ao ks.length c]) w (by decide)
  have y7 := fun w => off_whileNode 130 (.agg #[.slice ao ks.length c]) w (by decide)
  have y8 := fun w => off_callNode 130 (.agg #[.slice ao ks.length c]) w (by decide)
  have y9 := fun w => off_printNode 130 (.agg #[.slice ao ks.length c]) w (by decide)
  have y10 := fun w => off_readNode 130 (.agg #[.slice ao ks.length c]) w (by decide)
  have y11 := fun w => off_delayNode 130 (.agg #[.slice ao ks.length c]) w (by decide)
  have y12 := fun w => off_contNode 130 (.agg #[.slice ao ks.length c]) w (by decide)
  have y14 := fun w => on_blockNode (.agg #[.slice ao ks.length c]) w
  have T := hide (TB.start w nv mv pv #[.slice ao ks.length c] 130)
  have N := hide (hN.stays T.out.bel)
  clear hN
  have K := hide (hK.stays T.out.bel)
  have CS := fun w h1 h2 => hide (stand_any nv mv pv (.slice ao ks.length c) ns 2 ks w h1 h2 hl hkl)
  obtain ⟨n, en⟩ : ∃ n, ks.length = n := ⟨_, rfl⟩
  simp only [en] at *
  clear hK
  by_cases h0 : 0 < n
  · have h0' : (0 : Int) < (n : Int) := by omega
    have e : (decide (0 < n) && ks.all (standQ ns 2)) = ks.all (standQ ns 2) := by simp [h0]
    rw [e]
    obtain ⟨q, eq⟩ : ∃ q, ks.all (standQ ns 2) = q := ⟨_, rfl⟩
    simp only [eq] at CS ⊢
    clear e eq
    go_enter Tryz.func83, Tryz.ntmps83
    go_wp2_with (go_at_call 62; refine (unhide (CS _ N.out K.out)).mono ?_; rintro e w2 ⟨rfl, hb2⟩; have T := hide (T.out.stays hb2); clear hb2)
    go_ret
    exact ⟨rfl, T.out.bel⟩
  · have h0' : ¬ (0 : Int) < (n : Int) := by omega
    have e : (decide (0 < n) && ks.all (standQ ns 2)) = false := by simp [h0]
    rw [e]
    go_enter Tryz.func83, Tryz.ntmps83
    (go_wp2_with (first
    | (go_at_call 60; refine Calls.mono (implNameOk_any _ _ ?_) ?_; (first | exact hs1 | exact hs2 | exact hs3); rintro e w2 ⟨rfl, hb2⟩; (
  have T := hide (T.out.stays hb2); have N := hide (N.out.stays hb2);
  have c0 := Lib.cell_of_heap T.out.b0 0; have c1 := Lib.cell_of_heap T.out.b0 1; have c2 := Lib.cell_of_heap T.out.b0 2;
  have t0 := Lib.cell_of_heap T.out.b1 0; have t1 := Lib.cell_of_heap T.out.b1 1; have t2 := Lib.cell_of_heap T.out.b1 2; have t3 := Lib.cell_of_heap T.out.b1 3;
  simp at c0 c1 c2 t0 t1 t2 t3;
  clear hb2))
    | (go_at_call 100; refine Calls.mono (implValOk _ _) ?_; rintro e w2 ⟨rfl, rfl⟩)
    | (go_at_call 101; refine Calls.mono (implKnown _ _) ?_; rintro e w2 ⟨rfl, rfl⟩)
    | (go_at_call 62; refine Calls.mono (stand_one _ _ _ ns _ _ _ _ _ ?_ N.out hl) ?_; (simp); rintro e w2 ⟨rfl, hb2⟩; (
  have T := hide (T.out.stays hb2); have N := hide (N.out.stays hb2);
  have c0 := Lib.cell_of_heap T.out.b0 0; have c1 := Lib.cell_of_heap T.out.b0 1; have c2 := Lib.cell_of_heap T.out.b0 2;
  have t0 := Lib.cell_of_heap T.out.b1 0; have t1 := Lib.cell_of_heap T.out.b1 1; have t2 := Lib.cell_of_heap T.out.b1 2; have t3 := Lib.cell_of_heap T.out.b1 3;
  simp at c0 c1 c2 t0 t1 t2 t3;
  clear hb2))))
    go_ret
    exact ⟨rfl, T.out.bel⟩
end Go.Proofs.YtdfahpachbhglaaGreatDoor
