/-
  Showing, by the program: statements.
-/
import Derived.Test.YtdfahpachbhglaaGreatDoorShwV
import Derived.Test.YtdfahpachbhglaaGreatDoorShwF
namespace Go.Proofs.YtdfahpachbhglaaGreatDoor
open Go.RowKit

set_option maxRecDepth 100000 in
set_option maxHeartbeats 2000000 in
theorem shStmt_fail {W0 : World} {g : Nat} {nv mv pv : Value} (k : Int) (s l : List ByteArray) (t : ByteArray) (w : World) (h : ShP W0 g nv mv pv l w) (h1 : ShI W0.heap.size g nv mv pv (Lib.strCells t) true w) (h2 : t.size ≤ 1500) (h3 : 1500 < (foldJ l).size) :
    Calls Tryz.prog 89 #[.pointer (some ⟨g, 0, none⟩), .int .i64 k] w (ShQ W0 g nv mv pv (l ++ s) w) := by
  have HF := hide (h.more s h1 h2 h3 (Below.refl _ w))
  have CA := hide (shAt_off k w h1)
  obtain ⟨_, _, _, _, c6, f6⟩ := h1.cells
  have y0 := fun w => nil_setNode w
  have y1 := fun w => nil_ifNode w
  have y2 := fun w => nil_whileNode w
  have y3 := fun w => nil_callNode w
  have y4 := fun w => nil_printNode w
  have y5 := fun w => nil_readNode w
  have y6 := fun w => nil_delayNode w
  have y7 := fun w => nil_contNode w
  have y8 := fun w => nil_skipNode w
  clear h h1 h2 h3
  go_enter Tryz.func89, Tryz.ntmps89
  go_wp2_with fail
  refine (unhide CA).mono ?_
  rintro e w1 ⟨rfl, rfl⟩
  go_wp2
  go_end0
  exact HF.out

set_option maxRecDepth 100000 in
set_option maxHeartbeats 2000000 in
theorem shStmt_set {W0 : World} {g : Nat} {nv mv pv : Value} (m : Nat) (nm : ByteArray) (s : List ByteArray) (hn : nm.size ≤ 8) (CV : ShF W0 g nv mv pv 104 (m : Int) s) (k : Nat) (l : List ByteArray) (w : World) (h : ShP W0 g nv mv pv l w)
    (CA : Hid (Calls Tryz.prog 88 #[.pointer (some ⟨g, 0, none⟩), .int .i64 (k : Int)] w fun e w' => e = .returned (.iface 148 (.agg #[.string nm, .int .i64 (m : Int)])) ∧ Below w.heap.size w w')) :
    Calls Tryz.prog 89 #[.pointer (some ⟨g, 0, none⟩), .int .i64 (k : Int)] w (ShQ W0 g nv mv pv (l ++ (nm :: ⟨#[58, 61]⟩ :: s)) w) := by
  have yy := fun w => on_setNode (.agg #[.string nm, .int .i64 (m : Int)]) w
  have H := hide h
  clear h
  go_enter Tryz.func89, Tryz.ntmps89
  go_wp2_with fail
  refine (unhide CA).mono ?_
  rintro e w1 ⟨rfl, hb1⟩
  have hb2 : Below w.heap.size w (w1.alloc (.cells #[.string nm, .int .i64 (m : Int)] 148)) := hb1.alloc hb1.size _
  have S0 := hide (H.out.stays hb2)
  have K0 : Hid (ShK W0.heap.size g w (w1.alloc (.cells #[.string nm, .int .i64 (m : Int)] 148))) := ShK.of hb2 H.out.bel.size
  have X0 := hide (Box.made w1 #[.string nm, .int .i64 (m : Int)] 148)
  clear hb1 hb2 CA
  have p0 := Lib.cell_of_heap X0.out 0
  have p1 := Lib.cell_of_heap X0.out 1
  simp at p0 p1
  go_wp2_with fail
  refine Calls.mono (shP2 _ ?_ S0.out ?_) ?_
  · simp
  · (
  intro y hy;
  simp only [List.mem_cons, List.not_mem_nil, or_false] at hy;
  rcases hy with rfl | rfl | rfl | rfl | rfl <;> first | assumption | omega | decide)
  rintro e z1 ⟨rfl, hs, hk⟩
  have S1 := hide hs
  have K1 := hide (K0.out.trans hk)
  have X1 := hide (X0.out.sh S0.out.st hk (by decide) (by decide))
  clear hs hk S0 K0 X0 p0 p1
  have p0 := Lib.cell_of_heap X1.out 0
  have p1 := Lib.cell_of_heap X1.out 1
  simp at p0 p1
  go_wp2_with fail
  refine (CV _ _ S1.out).mono ?_
  rintro e z2 ⟨rfl, hs, hk⟩
  have S2 := hide hs
  have K2 := hide (K1.out.trans hk)
  have X2 := hide (X1.out.sh S1.out.st hk (by decide) (by decide))
  clear hs hk S1 K1 X1 p0 p1
  have p0 := Lib.cell_of_heap X2.out 0
  have p1 := Lib.cell_of_heap X2.out 1
  simp at p0 p1
  go_wp2
  go_end0
  refine ⟨rfl, ?_, K2.out⟩
  have hs := S2.out
  (try simp only [List.append_assoc, List.cons_append, List.nil_append] at hs ⊢)
  exact hs
set_option maxRecDepth 100000 in
set_option maxHeartbeats 2000000 in
theorem shStmt_while {W0 : World} {g : Nat} {nv mv pv : Value} (m n : Nat) (s s2 : List ByteArray) (CV : ShF W0 g nv mv pv 104 (m : Int) s) (CB : ShF W0 g nv mv pv 64 (n : Int) s2) (k : Nat) (l : List ByteArray) (w : World) (h : ShP W0 g nv mv pv l w)
    (CA : Hid (Calls Tryz.prog 88 #[.pointer (some ⟨g, 0, none⟩), .int .i64 (k : Int)] w fun e w' => e = .returned (.iface 152 (.agg #[.int .i64 (m : Int), .int .i64 (n : Int)])) ∧ Below w.heap.size w w')) :
    Calls Tryz.prog 89 #[.pointer (some ⟨g, 0, none⟩), .int .i64 (k : Int)] w (ShQ W0 g nv mv pv (l ++ (⟨#[119, 104, 105, 108, 101]⟩ :: (s ++ ⟨#[100, 111]⟩ :: s2))) w) := by
  have y0 := fun w => off_setNode 152 (.agg #[.int .i64 (m : Int), .int .i64 (n : Int)]) w (by decide)
  have y1 := fun w => off_ifNode 152 (.agg #[.int .i64 (m : Int), .int .i64 (n : Int)]) w (by decide)
  have yy := fun w => on_whileNode (.agg #[.int .i64 (m : Int), .int .i64 (n : Int)]) w
  have H := hide h
  clear h
  go_enter Tryz.func89, Tryz.ntmps89
  go_wp2_with fail
  refine (unhide CA).mono ?_
  rintro e w1 ⟨rfl, hb1⟩
  have hb2 : Below w.heap.size w (w1.alloc (.cells #[.int .i64 (m : Int), .int .i64 (n : Int)] 152)) := hb1.alloc hb1.size _
  have S0 := hide (H.out.stays hb2)
  have K0 : Hid (ShK W0.heap.size g w (w1.alloc (.cells #[.int .i64 (m : Int), .int .i64 (n : Int)] 152))) := ShK.of hb2 H.out.bel.size
  have X0 := hide (Box.made w1 #[.int .i64 (m : Int), .int .i64 (n : Int)] 152)
  clear hb1 hb2 CA
  have p0 := Lib.cell_of_heap X0.out 0
  have p1 := Lib.cell_of_heap X0.out 1
  simp at p0 p1
  go_wp2_with fail
  refine Calls.mono (shP1 _ ?_ S0.out ?_) ?_
  · simp
  · (
  intro y hy;
  simp only [List.mem_cons, List.not_mem_nil, or_false] at hy;
  rcases hy with rfl | rfl | rfl | rfl | rfl <;> first | assumption | omega | decide)
  rintro e z1 ⟨rfl, hs, hk⟩
  have S1 := hide hs
  have K1 := hide (K0.out.trans hk)
  have X1 := hide (X0.out.sh S0.out.st hk (by decide) (by decide))
  clear hs hk S0 K0 X0 p0 p1
  have p0 := Lib.cell_of_heap X1.out 0
  have p1 := Lib.cell_of_heap X1.out 1
  simp at p0 p1
  go_wp2_with fail
  refine (CV _ _ S1.out).mono ?_
  rintro e z2 ⟨rfl, hs, hk⟩
  have S2 := hide hs
  have K2 := hide (K1.out.trans hk)
  have X2 := hide (X1.out.sh S1.out.st hk (by decide) (by decide))
  clear hs hk S1 K1 X1 p0 p1
  have p0 := Lib.cell_of_heap X2.out 0
  have p1 := Lib.cell_of_heap X2.out 1
  simp at p0 p1
  go_wp2_with fail
  refine Calls.mono (shP1 _ ?_ S2.out ?_) ?_
  · simp
  · (
  intro y hy;
  simp only [List.mem_cons, List.not_mem_nil, or_false] at hy;
  rcases hy with rfl | rfl | rfl | rfl | rfl <;> first | assumption | omega | decide)
  rintro e z3 ⟨rfl, hs, hk⟩
  have S3 := hide hs
  have K3 := hide (K2.out.trans hk)
  have X3 := hide (X2.out.sh S2.out.st hk (by decide) (by decide))
  clear hs hk S2 K2 X2 p0 p1
  have p0 := Lib.cell_of_heap X3.out 0
  have p1 := Lib.cell_of_heap X3.out 1
  simp at p0 p1
  go_wp2_with fail
  refine (CB _ _ S3.out).mono ?_
  rintro e z4 ⟨rfl, hs, hk⟩
  have S4 := hide hs
  have K4 := hide (K3.out.trans hk)
  have X4 := hide (X3.out.sh S3.out.st hk (by decide) (by decide))
  clear hs hk S3 K3 X3 p0 p1
  have p0 := Lib.cell_of_heap X4.out 0
  have p1 := Lib.cell_of_heap X4.out 1
  simp at p0 p1
  go_wp2
  go_end0
  refine ⟨rfl, ?_, K4.out⟩
  have hs := S4.out
  (try simp only [List.append_assoc, List.cons_append, List.nil_append] at hs ⊢)
  exact hs
set_option maxRecDepth 100000 in
set_option maxHeartbeats 2000000 in
theorem shStmt_print {W0 : World} {g : Nat} {nv mv pv : Value} (m : Nat) (s : List ByteArray) (CV : ShF W0 g nv mv pv 104 (m : Int) s) (k : Nat) (l : List ByteArray) (w : World) (h : ShP W0 g nv mv pv l w)
    (CA : Hid (Calls Tryz.prog 88 #[.pointer (some ⟨g, 0, none⟩), .int .i64 (k : Int)] w fun e w' => e = .returned (.iface 156 (.agg #[.int .i64 (m : Int)])) ∧ Below w.heap.size w w')) :
    Calls Tryz.prog 89 #[.pointer (some ⟨g, 0, none⟩), .int .i64 (k : Int)] w (ShQ W0 g nv mv pv (l ++ (⟨#[112, 114, 105, 110, 116]⟩ :: s)) w) := by
  have y0 := fun w => off_setNode 156 (.agg #[.int .i64 (m : Int)]) w (by decide)
  have y1 := fun w => off_ifNode 156 (.agg #[.int .i64 (m : Int)]) w (by decide)
  have y2 := fun w => off_whileNode 156 (.agg #[.int .i64 (m : Int)]) w (by decide)
  have y3 := fun w => off_callNode 156 (.agg #[.int .i64 (m : Int)]) w (by decide)
  have yy := fun w => on_printNode (.agg #[.int .i64 (m : Int)]) w
  have H := hide h
  clear h
  go_enter Tryz.func89, Tryz.ntmps89
  go_wp2_with fail
  refine (unhide CA).mono ?_
  rintro e w1 ⟨rfl, hb1⟩
  have hb2 : Below w.heap.size w (w1.alloc (.cells #[.int .i64 (m : Int)] 156)) := hb1.alloc hb1.size _
  have S0 := hide (H.out.stays hb2)
  have K0 : Hid (ShK W0.heap.size g w (w1.alloc (.cells #[.int .i64 (m : Int)] 156))) := ShK.of hb2 H.out.bel.size
  have X0 := hide (Box.made w1 #[.int .i64 (m : Int)] 156)
  clear hb1 hb2 CA
  have p0 := Lib.cell_of_heap X0.out 0
  simp at p0
  go_wp2_with fail
  refine Calls.mono (shP1 _ ?_ S0.out ?_) ?_
  · simp
  · (
  intro y hy;
  simp only [List.mem_cons, List.not_mem_nil, or_false] at hy;
  rcases hy with rfl | rfl | rfl | rfl | rfl <;> first | assumption | omega | decide)
  rintro e z1 ⟨rfl, hs, hk⟩
  have S1 := hide hs
  have K1 := hide (K0.out.trans hk)
  have X1 := hide (X0.out.sh S0.out.st hk (by decide) (by decide))
  clear hs hk S0 K0 X0 p0
  have p0 := Lib.cell_of_heap X1.out 0
  simp at p0
  go_wp2_with fail
  refine (CV _ _ S1.out).mono ?_
  rintro e z2 ⟨rfl, hs, hk⟩
  have S2 := hide hs
  have K2 := hide (K1.out.trans hk)
  have X2 := hide (X1.out.sh S1.out.st hk (by decide) (by decide))
  clear hs hk S1 K1 X1 p0
  have p0 := Lib.cell_of_heap X2.out 0
  simp at p0
  go_wp2
  go_end0
  refine ⟨rfl, ?_, K2.out⟩
  have hs := S2.out
  (try simp only [List.append_assoc, List.cons_append, List.nil_append] at hs ⊢)
  exact hs
set_option maxRecDepth 100000 in
set_option maxHeartbeats 2000000 in
theorem shStmt_read {W0 : World} {g : Nat} {nv mv pv : Value} (nm : ByteArray) (hn : nm.size ≤ 8) (k : Nat) (l : List ByteArray) (w : World) (h : ShP W0 g nv mv pv l w)
    (CA : Hid (Calls Tryz.prog 88 #[.pointer (some ⟨g, 0, none⟩), .int .i64 (k : Int)] w fun e w' => e = .returned (.iface 157 (.agg #[.string nm])) ∧ Below w.heap.size w w')) :
    Calls Tryz.prog 89 #[.pointer (some ⟨g, 0, none⟩), .int .i64 (k : Int)] w (ShQ W0 g nv mv pv (l ++ [⟨#[114, 101, 97, 100]⟩, nm]) w) := by
  have y0 := fun w => off_setNode 157 (.agg #[.string nm]) w (by decide)
  have y1 := fun w => off_ifNode 157 (.agg #[.string nm]) w (by decide)
  have y2 := fun w => off_whileNode 157 (.agg #[.string nm]) w (by decide)
  have y3 := fun w => off_callNode 157 (.agg #[.string nm]) w (by decide)
  have y4 := fun w => off_printNode 157 (.agg #[.string nm]) w (by decide)
  have yy := fun w => on_readNode (.agg #[.string nm]) w
  have H := hide h
  clear h
  go_enter Tryz.func89, Tryz.ntmps89
  go_wp2_with fail
  refine (unhide CA).mono ?_
  rintro e w1 ⟨rfl, hb1⟩
  have hb2 : Below w.heap.size w (w1.alloc (.cells #[.string nm] 157)) := hb1.alloc hb1.size _
  have S0 := hide (H.out.stays hb2)
  have K0 : Hid (ShK W0.heap.size g w (w1.alloc (.cells #[.string nm] 157))) := ShK.of hb2 H.out.bel.size
  have X0 := hide (Box.made w1 #[.string nm] 157)
  clear hb1 hb2 CA
  have p0 := Lib.cell_of_heap X0.out 0
  simp at p0
  go_wp2_with fail
  refine Calls.mono (shP2 _ ?_ S0.out ?_) ?_
  · simp
  · (
  intro y hy;
  simp only [List.mem_cons, List.not_mem_nil, or_false] at hy;
  rcases hy with rfl | rfl | rfl | rfl | rfl <;> first | assumption | omega | decide)
  rintro e z1 ⟨rfl, hs, hk⟩
  have S1 := hide hs
  have K1 := hide (K0.out.trans hk)
  have X1 := hide (X0.out.sh S0.out.st hk (by decide) (by decide))
  clear hs hk S0 K0 X0 p0
  have p0 := Lib.cell_of_heap X1.out 0
  simp at p0
  go_wp2
  go_end0
  refine ⟨rfl, ?_, K1.out⟩
  have hs := S1.out
  (try simp only [List.append_assoc, List.cons_append, List.nil_append] at hs ⊢)
  exact hs
set_option maxRecDepth 100000 in
set_option maxHeartbeats 2000000 in
theorem shStmt_delay {W0 : World} {g : Nat} {nv mv pv : Value} (nm : ByteArray) (hn : nm.size ≤ 8) (k : Nat) (l : List ByteArray) (w : World) (h : ShP W0 g nv mv pv l w)
    (CA : Hid (Calls Tryz.prog 88 #[.pointer (some ⟨g, 0, none⟩), .int .i64 (k : Int)] w fun e w' => e = .returned (.iface 158 (.agg #[.string nm])) ∧ Below w.heap.size w w')) :
    Calls Tryz.prog 89 #[.pointer (some ⟨g, 0, none⟩), .int .i64 (k : Int)] w (ShQ W0 g nv mv pv (l ++ [⟨#[100, 101, 108, 97, 121]⟩, nm]) w) := by
  have y0 := fun w => off_setNode 158 (.agg #[.string nm]) w (by decide)
  have y1 := fun w => off_ifNode 158 (.agg #[.string nm]) w (by decide)
  have y2 := fun w => off_whileNode 158 (.agg #[.string nm]) w (by decide)
  have y3 := fun w => off_callNode 158 (.agg #[.string nm]) w (by decide)
  have y4 := fun w => off_printNode 158 (.agg #[.string nm]) w (by decide)
  have y5 := fun w => off_readNode 158 (.agg #[.string nm]) w (by decide)
  have yy := fun w => on_delayNode (.agg #[.string nm]) w
  have H := hide h
  clear h
  go_enter Tryz.func89, Tryz.ntmps89
  go_wp2_with fail
  refine (unhide CA).mono ?_
  rintro e w1 ⟨rfl, hb1⟩
  have hb2 : Below w.heap.size w (w1.alloc (.cells #[.string nm] 158)) := hb1.alloc hb1.size _
  have S0 := hide (H.out.stays hb2)
  have K0 : Hid (ShK W0.heap.size g w (w1.alloc (.cells #[.string nm] 158))) := ShK.of hb2 H.out.bel.size
  have X0 := hide (Box.made w1 #[.string nm] 158)
  clear hb1 hb2 CA
  have p0 := Lib.cell_of_heap X0.out 0
  simp at p0
  go_wp2_with fail
  refine Calls.mono (shP2 _ ?_ S0.out ?_) ?_
  · simp
  · (
  intro y hy;
  simp only [List.mem_cons, List.not_mem_nil, or_false] at hy;
  rcases hy with rfl | rfl | rfl | rfl | rfl <;> first | assumption | omega | decide)
  rintro e z1 ⟨rfl, hs, hk⟩
  have S1 := hide hs
  have K1 := hide (K0.out.trans hk)
  have X1 := hide (X0.out.sh S0.out.st hk (by decide) (by decide))
  clear hs hk S0 K0 X0 p0
  have p0 := Lib.cell_of_heap X1.out 0
  simp at p0
  go_wp2
  go_end0
  refine ⟨rfl, ?_, K1.out⟩
  have hs := S1.out
  (try simp only [List.append_assoc, List.cons_append, List.nil_append] at hs ⊢)
  exact hs
set_option maxRecDepth 100000 in
set_option maxHeartbeats 2000000 in
theorem shStmt_cont {W0 : World} {g : Nat} {nv mv pv : Value} (nm : ByteArray) (hn : nm.size ≤ 8) (k : Nat) (l : List ByteArray) (w : World) (h : ShP W0 g nv mv pv l w)
    (CA : Hid (Calls Tryz.prog 88 #[.pointer (some ⟨g, 0, none⟩), .int .i64 (k : Int)] w fun e w' => e = .returned (.iface 159 (.agg #[.string nm])) ∧ Below w.heap.size w w')) :
    Calls Tryz.prog 89 #[.pointer (some ⟨g, 0, none⟩), .int .i64 (k : Int)] w (ShQ W0 g nv mv pv (l ++ [⟨#[99, 111, 110, 116, 105, 110, 117, 101]⟩, nm]) w) := by
  have y0 := fun w => off_setNode 159 (.agg #[.string nm]) w (by decide)
  have y1 := fun w => off_ifNode 159 (.agg #[.string nm]) w (by decide)
  have y2 := fun w => off_whileNode 159 (.agg #[.string nm]) w (by decide)
  have y3 := fun w => off_callNode 159 (.agg #[.string nm]) w (by decide)
  have y4 := fun w => off_printNode 159 (.agg #[.string nm]) w (by decide)
  have y5 := fun w => off_readNode 159 (.agg #[.string nm]) w (by decide)
  have y6 := fun w => off_delayNode 159 (.agg #[.string nm]) w (by decide)
  have yy := fun w => on_contNode (.agg #[.string nm]) w
  have H := hide h
  clear h
  go_enter Tryz.func89, Tryz.ntmps89
  go_wp2_with fail
  refine (unhide CA).mono ?_
  rintro e w1 ⟨rfl, hb1⟩
  have hb2 : Below w.heap.size w (w1.alloc (.cells #[.string nm] 159)) := hb1.alloc hb1.size _
  have S0 := hide (H.out.stays hb2)
  have K0 : Hid (ShK W0.heap.size g w (w1.alloc (.cells #[.string nm] 159))) := ShK.of hb2 H.out.bel.size
  have X0 := hide (Box.made w1 #[.string nm] 159)
  clear hb1 hb2 CA
  have p0 := Lib.cell_of_heap X0.out 0
  simp at p0
  go_wp2_with fail
  refine Calls.mono (shP2 _ ?_ S0.out ?_) ?_
  · simp
  · (
  intro y hy;
  simp only [List.mem_cons, List.not_mem_nil, or_false] at hy;
  rcases hy with rfl | rfl | rfl | rfl | rfl <;> first | assumption | omega | decide)
  rintro e z1 ⟨rfl, hs, hk⟩
  have S1 := hide hs
  have K1 := hide (K0.out.trans hk)
  have X1 := hide (X0.out.sh S0.out.st hk (by decide) (by decide))
  clear hs hk S0 K0 X0 p0
  have p0 := Lib.cell_of_heap X1.out 0
  simp at p0
  go_wp2
  go_end0
  refine ⟨rfl, ?_, K1.out⟩
  have hs := S1.out
  (try simp only [List.append_assoc, List.cons_append, List.nil_append] at hs ⊢)
  exact hs
set_option maxRecDepth 100000 in
set_option maxHeartbeats 2000000 in
theorem shStmt_skip {W0 : World} {g : Nat} {nv mv pv : Value}  (k : Nat) (l : List ByteArray) (w : World) (h : ShP W0 g nv mv pv l w)
    (CA : Hid (Calls Tryz.prog 88 #[.pointer (some ⟨g, 0, none⟩), .int .i64 (k : Int)] w fun e w' => e = .returned (.iface 161 (.agg #[])) ∧ Below w.heap.size w w')) :
    Calls Tryz.prog 89 #[.pointer (some ⟨g, 0, none⟩), .int .i64 (k : Int)] w (ShQ W0 g nv mv pv (l ++ [⟨#[115, 107, 105, 112]⟩]) w) := by
  have y0 := fun w => off_setNode 161 (.agg #[]) w (by decide)
  have y1 := fun w => off_ifNode 161 (.agg #[]) w (by decide)
  have y2 := fun w => off_whileNode 161 (.agg #[]) w (by decide)
  have y3 := fun w => off_callNode 161 (.agg #[]) w (by decide)
  have y4 := fun w => off_printNode 161 (.agg #[]) w (by decide)
  have y5 := fun w => off_readNode 161 (.agg #[]) w (by decide)
  have y6 := fun w => off_delayNode 161 (.agg #[]) w (by decide)
  have y7 := fun w => off_contNode 161 (.agg #[]) w (by decide)
  have yy := fun w => on_skipNode (.agg #[]) w
  have H := hide h
  clear h
  go_enter Tryz.func89, Tryz.ntmps89
  go_wp2_with fail
  refine (unhide CA).mono ?_
  rintro e w1 ⟨rfl, hb1⟩
  have hb2 : Below w.heap.size w (w1.alloc (.cells #[] 161)) := hb1.alloc hb1.size _
  have S0 := hide (H.out.stays hb2)
  have K0 : Hid (ShK W0.heap.size g w (w1.alloc (.cells #[] 161))) := ShK.of hb2 H.out.bel.size
  have X0 := hide (Box.made w1 #[] 161)
  clear hb1 hb2 CA
  go_wp2_with fail
  refine Calls.mono (shP1 _ ?_ S0.out ?_) ?_
  · simp
  · (
  intro y hy;
  simp only [List.mem_cons, List.not_mem_nil, or_false] at hy;
  rcases hy with rfl | rfl | rfl | rfl | rfl <;> first | assumption | omega | decide)
  rintro e z1 ⟨rfl, hs, hk⟩
  have S1 := hide hs
  have K1 := hide (K0.out.trans hk)
  clear hs hk S0 K0
  go_wp2
  go_end0
  refine ⟨rfl, ?_, K1.out⟩
  have hs := S1.out
  (try simp only [List.append_assoc, List.cons_append, List.nil_append] at hs ⊢)
  exact hs
set_option maxRecDepth 100000 in
set_option maxHeartbeats 2000000 in
theorem shChoice2 {W0 : World} {g : Nat} {nv mv pv : Value} (m n : Nat) (s s2 : List ByteArray) (CV : ShF W0 g nv mv pv 104 (m : Int) s) (CB : ShF W0 g nv mv pv 64 (n : Int) s2) (l : List ByteArray) (w : World) (h : ShP W0 g nv mv pv l w) :
    Calls Tryz.prog 105 #[.pointer (some ⟨g, 0, none⟩), .agg #[.int .i64 (m : Int), .int .i64 (n : Int), .int .i64 (-1)]] w (ShQ W0 g nv mv pv (l ++ (⟨#[105, 102]⟩ :: (s ++ ⟨#[116, 104, 101, 110]⟩ :: s2))) w) := by
  have hb2 : Below w.heap.size w (w.alloc (.cells #[.int .i64 (m : Int), .int .i64 (n : Int), .int .i64 (-1)] 150)) := (Below.refl _ _).alloc (Nat.le_refl _) _
  have S0 := hide (h.stays hb2)
  have K0 : Hid (ShK W0.heap.size g w (w.alloc (.cells #[.int .i64 (m : Int), .int .i64 (n : Int), .int .i64 (-1)] 150))) := ShK.of hb2 h.bel.size
  have X0 := hide (Box.made w #[.int .i64 (m : Int), .int .i64 (n : Int), .int .i64 (-1)] 150)
  clear hb2 h
  go_enter Tryz.func105, Tryz.ntmps105
  have p0 := Lib.cell_of_heap X0.out 0
  have p1 := Lib.cell_of_heap X0.out 1
  have p2 := Lib.cell_of_heap X0.out 2
  simp at p0 p1 p2
  go_wp2_with fail
  refine Calls.mono (shP1 _ ?_ S0.out ?_) ?_
  · simp
  · (
  intro y hy;
  simp only [List.mem_cons, List.not_mem_nil, or_false] at hy;
  rcases hy with rfl | rfl | rfl | rfl | rfl <;> first | assumption | omega | decide)
  rintro e z1 ⟨rfl, hs, hk⟩
  have S1 := hide hs
  have K1 := hide (K0.out.trans hk)
  have X1 := hide (X0.out.sh S0.out.st hk (by decide) (by decide))
  clear hs hk S0 K0 X0 p0 p1 p2
  have p0 := Lib.cell_of_heap X1.out 0
  have p1 := Lib.cell_of_heap X1.out 1
  have p2 := Lib.cell_of_heap X1.out 2
  simp at p0 p1 p2
  go_wp2_with fail
  refine (CV _ _ S1.out).mono ?_
  rintro e z2 ⟨rfl, hs, hk⟩
  have S2 := hide hs
  have K2 := hide (K1.out.trans hk)
  have X2 := hide (X1.out.sh S1.out.st hk (by decide) (by decide))
  clear hs hk S1 K1 X1 p0 p1 p2
  have p0 := Lib.cell_of_heap X2.out 0
  have p1 := Lib.cell_of_heap X2.out 1
  have p2 := Lib.cell_of_heap X2.out 2
  simp at p0 p1 p2
  go_wp2_with fail
  refine Calls.mono (shP1 _ ?_ S2.out ?_) ?_
  · simp
  · (
  intro y hy;
  simp only [List.mem_cons, List.not_mem_nil, or_false] at hy;
  rcases hy with rfl | rfl | rfl | rfl | rfl <;> first | assumption | omega | decide)
  rintro e z3 ⟨rfl, hs, hk⟩
  have S3 := hide hs
  have K3 := hide (K2.out.trans hk)
  have X3 := hide (X2.out.sh S2.out.st hk (by decide) (by decide))
  clear hs hk S2 K2 X2 p0 p1 p2
  have p0 := Lib.cell_of_heap X3.out 0
  have p1 := Lib.cell_of_heap X3.out 1
  have p2 := Lib.cell_of_heap X3.out 2
  simp at p0 p1 p2
  go_wp2_with fail
  refine (CB _ _ S3.out).mono ?_
  rintro e z4 ⟨rfl, hs, hk⟩
  have S4 := hide hs
  have K4 := hide (K3.out.trans hk)
  have X4 := hide (X3.out.sh S3.out.st hk (by decide) (by decide))
  clear hs hk S3 K3 X3 p0 p1 p2
  have p0 := Lib.cell_of_heap X4.out 0
  have p1 := Lib.cell_of_heap X4.out 1
  have p2 := Lib.cell_of_heap X4.out 2
  simp at p0 p1 p2
  go_wp2
  go_end0
  refine ⟨rfl, ?_, K4.out⟩
  have hs := S4.out
  (try simp only [List.append_assoc, List.cons_append, List.nil_append] at hs ⊢)
  exact hs
set_option maxRecDepth 100000 in
set_option maxHeartbeats 2000000 in
theorem shChoice3 {W0 : World} {g : Nat} {nv mv pv : Value} (m n q : Nat) (s s2 s3 : List ByteArray) (CV : ShF W0 g nv mv pv 104 (m : Int) s) (CB : ShF W0 g nv mv pv 64 (n : Int) s2) (CQ : ShF W0 g nv mv pv 64 (q : Int) s3) (l : List ByteArray) (w : World) (h : ShP W0 g nv mv pv l w) :
    Calls Tryz.prog 105 #[.pointer (some ⟨g, 0, none⟩), .agg #[.int .i64 (m : Int), .int .i64 (n : Int), .int .i64 (q : Int)]] w (ShQ W0 g nv mv pv (l ++ (⟨#[105, 102]⟩ :: (s ++ ⟨#[116, 104, 101, 110]⟩ :: (s2 ++ ⟨#[101, 108, 115, 101]⟩ :: s3)))) w) := by
  have hb2 : Below w.heap.size w (w.alloc (.cells #[.int .i64 (m : Int), .int .i64 (n : Int), .int .i64 (q : Int)] 150)) := (Below.refl _ _).alloc (Nat.le_refl _) _
  have S0 := hide (h.stays hb2)
  have K0 : Hid (ShK W0.heap.size g w (w.alloc (.cells #[.int .i64 (m : Int), .int .i64 (n : Int), .int .i64 (q : Int)] 150))) := ShK.of hb2 h.bel.size
  have X0 := hide (Box.made w #[.int .i64 (m : Int), .int .i64 (n : Int), .int .i64 (q : Int)] 150)
  have hq : ¬ (q : Int) = -1 := by omega
  clear hb2 h
  go_enter Tryz.func105, Tryz.ntmps105
  have p0 := Lib.cell_of_heap X0.out 0
  have p1 := Lib.cell_of_heap X0.out 1
  have p2 := Lib.cell_of_heap X0.out 2
  simp at p0 p1 p2
  go_wp2_with fail
  refine Calls.mono (shP1 _ ?_ S0.out ?_) ?_
  · simp
  · (
  intro y hy;
  simp only [List.mem_cons, List.not_mem_nil, or_false] at hy;
  rcases hy with rfl | rfl | rfl | rfl | rfl <;> first | assumption | omega | decide)
  rintro e z1 ⟨rfl, hs, hk⟩
  have S1 := hide hs
  have K1 := hide (K0.out.trans hk)
  have X1 := hide (X0.out.sh S0.out.st hk (by decide) (by decide))
  clear hs hk S0 K0 X0 p0 p1 p2
  have p0 := Lib.cell_of_heap X1.out 0
  have p1 := Lib.cell_of_heap X1.out 1
  have p2 := Lib.cell_of_heap X1.out 2
  simp at p0 p1 p2
  go_wp2_with fail
  refine (CV _ _ S1.out).mono ?_
  rintro e z2 ⟨rfl, hs, hk⟩
  have S2 := hide hs
  have K2 := hide (K1.out.trans hk)
  have X2 := hide (X1.out.sh S1.out.st hk (by decide) (by decide))
  clear hs hk S1 K1 X1 p0 p1 p2
  have p0 := Lib.cell_of_heap X2.out 0
  have p1 := Lib.cell_of_heap X2.out 1
  have p2 := Lib.cell_of_heap X2.out 2
  simp at p0 p1 p2
  go_wp2_with fail
  refine Calls.mono (shP1 _ ?_ S2.out ?_) ?_
  · simp
  · (
  intro y hy;
  simp only [List.mem_cons, List.not_mem_nil, or_false] at hy;
  rcases hy with rfl | rfl | rfl | rfl | rfl <;> first | assumption | omega | decide)
  rintro e z3 ⟨rfl, hs, hk⟩
  have S3 := hide hs
  have K3 := hide (K2.out.trans hk)
  have X3 := hide (X2.out.sh S2.out.st hk (by decide) (by decide))
  clear hs hk S2 K2 X2 p0 p1 p2
  have p0 := Lib.cell_of_heap X3.out 0
  have p1 := Lib.cell_of_heap X3.out 1
  have p2 := Lib.cell_of_heap X3.out 2
  simp at p0 p1 p2
  go_wp2_with fail
  refine (CB _ _ S3.out).mono ?_
  rintro e z4 ⟨rfl, hs, hk⟩
  have S4 := hide hs
  have K4 := hide (K3.out.trans hk)
  have X4 := hide (X3.out.sh S3.out.st hk (by decide) (by decide))
  clear hs hk S3 K3 X3 p0 p1 p2
  have p0 := Lib.cell_of_heap X4.out 0
  have p1 := Lib.cell_of_heap X4.out 1
  have p2 := Lib.cell_of_heap X4.out 2
  simp at p0 p1 p2
  go_wp2_with fail
  refine Calls.mono (shP1 _ ?_ S4.out ?_) ?_
  · simp
  · (
  intro y hy;
  simp only [List.mem_cons, List.not_mem_nil, or_false] at hy;
  rcases hy with rfl | rfl | rfl | rfl | rfl <;> first | assumption | omega | decide)
  rintro e z5 ⟨rfl, hs, hk⟩
  have S5 := hide hs
  have K5 := hide (K4.out.trans hk)
  have X5 := hide (X4.out.sh S4.out.st hk (by decide) (by decide))
  clear hs hk S4 K4 X4 p0 p1 p2
  have p0 := Lib.cell_of_heap X5.out 0
  have p1 := Lib.cell_of_heap X5.out 1
  have p2 := Lib.cell_of_heap X5.out 2
  simp at p0 p1 p2
  go_wp2_with fail
  refine (CQ _ _ S5.out).mono ?_
  rintro e z6 ⟨rfl, hs, hk⟩
  have S6 := hide hs
  have K6 := hide (K5.out.trans hk)
  have X6 := hide (X5.out.sh S5.out.st hk (by decide) (by decide))
  clear hs hk S5 K5 X5 p0 p1 p2
  have p0 := Lib.cell_of_heap X6.out 0
  have p1 := Lib.cell_of_heap X6.out 1
  have p2 := Lib.cell_of_heap X6.out 2
  simp at p0 p1 p2
  go_wp2
  go_end0
  refine ⟨rfl, ?_, K6.out⟩
  have hs := S6.out
  (try simp only [List.append_assoc, List.cons_append, List.nil_append] at hs ⊢)
  exact hs
set_option maxRecDepth 100000 in
set_option maxHeartbeats 2000000 in
theorem shCall1 {W0 : World} {g : Nat} {nv mv pv : Value} (m : Nat) (nm mo it : ByteArray) (s : List ByteArray) (h1 : nm.size ≤ 8) (h2 : mo.size ≤ 8) (_h3 : it.size ≤ 8) (CV : ShF W0 g nv mv pv 104 (m : Int) s) (he : it.toList.isEmpty = true) (l : List ByteArray) (w : World) (h : ShP W0 g nv mv pv l w) :
    Calls Tryz.prog 106 #[.pointer (some ⟨g, 0, none⟩), .agg #[.string nm, .string mo, .string it, .int .i64 (m : Int)]] w (ShQ W0 g nv mv pv (l ++ (⟨#[99, 97, 108, 108]⟩ :: nm :: ⟨#[46]⟩ :: mo :: ⟨#[40]⟩ :: (s ++ [⟨#[41]⟩]))) w) := by
  have hb2 : Below w.heap.size w (w.alloc (.cells #[.string nm, .string mo, .string it, .int .i64 (m : Int)] 154)) := (Below.refl _ _).alloc (Nat.le_refl _) _
  have S0 := hide (h.stays hb2)
  have K0 : Hid (ShK W0.heap.size g w (w.alloc (.cells #[.string nm, .string mo, .string it, .int .i64 (m : Int)] 154))) := ShK.of hb2 h.bel.size
  have X0 := hide (Box.made w #[.string nm, .string mo, .string it, .int .i64 (m : Int)] 154)
  clear hb2 h
  go_enter Tryz.func106, Tryz.ntmps106
  have p0 := Lib.cell_of_heap X0.out 0
  have p1 := Lib.cell_of_heap X0.out 1
  have p2 := Lib.cell_of_heap X0.out 2
  have p3 := Lib.cell_of_heap X0.out 3
  simp at p0 p1 p2 p3
  go_wp2_with fail
  refine Calls.mono (shP5 _ ?_ S0.out ?_) ?_
  · simp
  · (
  intro y hy;
  simp only [List.mem_cons, List.not_mem_nil, or_false] at hy;
  rcases hy with rfl | rfl | rfl | rfl | rfl <;> first | assumption | omega | decide)
  rintro e z1 ⟨rfl, hs, hk⟩
  have S1 := hide hs
  have K1 := hide (K0.out.trans hk)
  have X1 := hide (X0.out.sh S0.out.st hk (by decide) (by decide))
  clear hs hk S0 K0 X0 p0 p1 p2 p3
  have p0 := Lib.cell_of_heap X1.out 0
  have p1 := Lib.cell_of_heap X1.out 1
  have p2 := Lib.cell_of_heap X1.out 2
  have p3 := Lib.cell_of_heap X1.out 3
  simp at p0 p1 p2 p3
  go_wp2_with fail
  refine (CV _ _ S1.out).mono ?_
  rintro e z2 ⟨rfl, hs, hk⟩
  have S2 := hide hs
  have K2 := hide (K1.out.trans hk)
  have X2 := hide (X1.out.sh S1.out.st hk (by decide) (by decide))
  clear hs hk S1 K1 X1 p0 p1 p2 p3
  have p0 := Lib.cell_of_heap X2.out 0
  have p1 := Lib.cell_of_heap X2.out 1
  have p2 := Lib.cell_of_heap X2.out 2
  have p3 := Lib.cell_of_heap X2.out 3
  simp at p0 p1 p2 p3
  go_wp2_with fail
  refine Calls.mono (shP1 _ ?_ S2.out ?_) ?_
  · simp
  · (
  intro y hy;
  simp only [List.mem_cons, List.not_mem_nil, or_false] at hy;
  rcases hy with rfl | rfl | rfl | rfl | rfl <;> first | assumption | omega | decide)
  rintro e z3 ⟨rfl, hs, hk⟩
  have S3 := hide hs
  have K3 := hide (K2.out.trans hk)
  have X3 := hide (X2.out.sh S2.out.st hk (by decide) (by decide))
  clear hs hk S2 K2 X2 p0 p1 p2 p3
  have p0 := Lib.cell_of_heap X3.out 0
  have p1 := Lib.cell_of_heap X3.out 1
  have p2 := Lib.cell_of_heap X3.out 2
  have p3 := Lib.cell_of_heap X3.out 3
  simp at p0 p1 p2 p3
  go_wp2
  go_end0
  refine ⟨rfl, ?_, K3.out⟩
  have hs := S3.out
  (try simp only [List.append_assoc, List.cons_append, List.nil_append] at hs ⊢)
  exact hs
set_option maxRecDepth 100000 in
set_option maxHeartbeats 2000000 in
theorem shCall2 {W0 : World} {g : Nat} {nv mv pv : Value} (m : Nat) (nm mo it : ByteArray) (s : List ByteArray) (h1 : nm.size ≤ 8) (h2 : mo.size ≤ 8) (h3 : it.size ≤ 8) (CV : ShF W0 g nv mv pv 104 (m : Int) s) (he : it.toList.isEmpty = false) (l : List ByteArray) (w : World) (h : ShP W0 g nv mv pv l w) :
    Calls Tryz.prog 106 #[.pointer (some ⟨g, 0, none⟩), .agg #[.string nm, .string mo, .string it, .int .i64 (m : Int)]] w (ShQ W0 g nv mv pv (l ++ (⟨#[99, 97, 108, 108]⟩ :: nm :: ⟨#[46]⟩ :: mo :: ⟨#[40]⟩ :: (s ++ [⟨#[41]⟩, ⟨#[116, 111]⟩, it]))) w) := by
  have hb2 : Below w.heap.size w (w.alloc (.cells #[.string nm, .string mo, .string it, .int .i64 (m : Int)] 154)) := (Below.refl _ _).alloc (Nat.le_refl _) _
  have S0 := hide (h.stays hb2)
  have K0 : Hid (ShK W0.heap.size g w (w.alloc (.cells #[.string nm, .string mo, .string it, .int .i64 (m : Int)] 154))) := ShK.of hb2 h.bel.size
  have X0 := hide (Box.made w #[.string nm, .string mo, .string it, .int .i64 (m : Int)] 154)
  clear hb2 h
  go_enter Tryz.func106, Tryz.ntmps106
  have p0 := Lib.cell_of_heap X0.out 0
  have p1 := Lib.cell_of_heap X0.out 1
  have p2 := Lib.cell_of_heap X0.out 2
  have p3 := Lib.cell_of_heap X0.out 3
  simp at p0 p1 p2 p3
  go_wp2_with fail
  refine Calls.mono (shP5 _ ?_ S0.out ?_) ?_
  · simp
  · (
  intro y hy;
  simp only [List.mem_cons, List.not_mem_nil, or_false] at hy;
  rcases hy with rfl | rfl | rfl | rfl | rfl <;> first | assumption | omega | decide)
  rintro e z1 ⟨rfl, hs, hk⟩
  have S1 := hide hs
  have K1 := hide (K0.out.trans hk)
  have X1 := hide (X0.out.sh S0.out.st hk (by decide) (by decide))
  clear hs hk S0 K0 X0 p0 p1 p2 p3
  have p0 := Lib.cell_of_heap X1.out 0
  have p1 := Lib.cell_of_heap X1.out 1
  have p2 := Lib.cell_of_heap X1.out 2
  have p3 := Lib.cell_of_heap X1.out 3
  simp at p0 p1 p2 p3
  go_wp2_with fail
  refine (CV _ _ S1.out).mono ?_
  rintro e z2 ⟨rfl, hs, hk⟩
  have S2 := hide hs
  have K2 := hide (K1.out.trans hk)
  have X2 := hide (X1.out.sh S1.out.st hk (by decide) (by decide))
  clear hs hk S1 K1 X1 p0 p1 p2 p3
  have p0 := Lib.cell_of_heap X2.out 0
  have p1 := Lib.cell_of_heap X2.out 1
  have p2 := Lib.cell_of_heap X2.out 2
  have p3 := Lib.cell_of_heap X2.out 3
  simp at p0 p1 p2 p3
  go_wp2_with fail
  refine Calls.mono (shP1 _ ?_ S2.out ?_) ?_
  · simp
  · (
  intro y hy;
  simp only [List.mem_cons, List.not_mem_nil, or_false] at hy;
  rcases hy with rfl | rfl | rfl | rfl | rfl <;> first | assumption | omega | decide)
  rintro e z3 ⟨rfl, hs, hk⟩
  have S3 := hide hs
  have K3 := hide (K2.out.trans hk)
  have X3 := hide (X2.out.sh S2.out.st hk (by decide) (by decide))
  clear hs hk S2 K2 X2 p0 p1 p2 p3
  have p0 := Lib.cell_of_heap X3.out 0
  have p1 := Lib.cell_of_heap X3.out 1
  have p2 := Lib.cell_of_heap X3.out 2
  have p3 := Lib.cell_of_heap X3.out 3
  simp at p0 p1 p2 p3
  go_wp2_with fail
  refine Calls.mono (shP2 _ ?_ S3.out ?_) ?_
  · simp
  · (
  intro y hy;
  simp only [List.mem_cons, List.not_mem_nil, or_false] at hy;
  rcases hy with rfl | rfl | rfl | rfl | rfl <;> first | assumption | omega | decide)
  rintro e z4 ⟨rfl, hs, hk⟩
  have S4 := hide hs
  have K4 := hide (K3.out.trans hk)
  have X4 := hide (X3.out.sh S3.out.st hk (by decide) (by decide))
  clear hs hk S3 K3 X3 p0 p1 p2 p3
  have p0 := Lib.cell_of_heap X4.out 0
  have p1 := Lib.cell_of_heap X4.out 1
  have p2 := Lib.cell_of_heap X4.out 2
  have p3 := Lib.cell_of_heap X4.out 3
  simp at p0 p1 p2 p3
  go_wp2
  go_end0
  refine ⟨rfl, ?_, K4.out⟩
  have hs := S4.out
  (try simp only [List.append_assoc, List.cons_append, List.nil_append] at hs ⊢)
  exact hs
set_option maxRecDepth 100000 in
set_option maxHeartbeats 2000000 in
theorem shStmt_if2 {W0 : World} {g : Nat} {nv mv pv : Value} (m n : Nat) (s s2 : List ByteArray) (CV : ShF W0 g nv mv pv 104 (m : Int) s) (CB : ShF W0 g nv mv pv 64 (n : Int) s2) (k : Nat) (l : List ByteArray) (w : World) (h : ShP W0 g nv mv pv l w)
    (CA : Hid (Calls Tryz.prog 88 #[.pointer (some ⟨g, 0, none⟩), .int .i64 (k : Int)] w fun e w' => e = .returned (.iface 150 (.agg #[.int .i64 (m : Int), .int .i64 (n : Int), .int .i64 (-1)])) ∧ Below w.heap.size w w')) :
    Calls Tryz.prog 89 #[.pointer (some ⟨g, 0, none⟩), .int .i64 (k : Int)] w (ShQ W0 g nv mv pv (l ++ (⟨#[105, 102]⟩ :: (s ++ ⟨#[116, 104, 101, 110]⟩ :: s2))) w) := by
  have y0 := fun w => off_setNode 150 (.agg #[.int .i64 (m : Int), .int .i64 (n : Int), .int .i64 (-1)]) w (by decide)
  have yy := fun w => on_ifNode (.agg #[.int .i64 (m : Int), .int .i64 (n : Int), .int .i64 (-1)]) w
  have CC := fun l w h => shChoice2 m n s s2 CV CB l w h
  clear CV CB
  have H := hide h
  clear h
  go_enter Tryz.func89, Tryz.ntmps89
  go_wp2_with fail
  refine (unhide CA).mono ?_
  rintro e w1 ⟨rfl, hb1⟩
  have hb2 : Below w.heap.size w (w1.alloc (.cells #[.int .i64 (m : Int), .int .i64 (n : Int), .int .i64 (-1)] 150)) := hb1.alloc hb1.size _
  have S0 := hide (H.out.stays hb2)
  have K0 : Hid (ShK W0.heap.size g w (w1.alloc (.cells #[.int .i64 (m : Int), .int .i64 (n : Int), .int .i64 (-1)] 150))) := ShK.of hb2 H.out.bel.size
  have X0 := hide (Box.made w1 #[.int .i64 (m : Int), .int .i64 (n : Int), .int .i64 (-1)] 150)
  clear hb1 hb2 CA
  have p0 := Lib.cell_of_heap X0.out 0
  have p1 := Lib.cell_of_heap X0.out 1
  have p2 := Lib.cell_of_heap X0.out 2
  simp at p0 p1 p2
  go_wp2_with fail
  refine (CC _ _ S0.out).mono ?_
  rintro e z1 ⟨rfl, hs, hk⟩
  have S1 := hide hs
  have K1 := hide (K0.out.trans hk)
  have X1 := hide (X0.out.sh S0.out.st hk (by decide) (by decide))
  clear hs hk S0 K0 X0 p0 p1 p2
  have p0 := Lib.cell_of_heap X1.out 0
  have p1 := Lib.cell_of_heap X1.out 1
  have p2 := Lib.cell_of_heap X1.out 2
  simp at p0 p1 p2
  go_wp2
  go_end0
  refine ⟨rfl, ?_, K1.out⟩
  have hs := S1.out
  (try simp only [List.append_assoc, List.cons_append, List.nil_append] at hs ⊢)
  exact hs
set_option maxRecDepth 100000 in
set_option maxHeartbeats 2000000 in
theorem shStmt_if3 {W0 : World} {g : Nat} {nv mv pv : Value} (m n q : Nat) (s s2 s3 : List ByteArray) (CV : ShF W0 g nv mv pv 104 (m : Int) s) (CB : ShF W0 g nv mv pv 64 (n : Int) s2) (CQ : ShF W0 g nv mv pv 64 (q : Int) s3) (k : Nat) (l : List ByteArray) (w : World) (h : ShP W0 g nv mv pv l w)
    (CA : Hid (Calls Tryz.prog 88 #[.pointer (some ⟨g, 0, none⟩), .int .i64 (k : Int)] w fun e w' => e = .returned (.iface 150 (.agg #[.int .i64 (m : Int), .int .i64 (n : Int), .int .i64 (q : Int)])) ∧ Below w.heap.size w w')) :
    Calls Tryz.prog 89 #[.pointer (some ⟨g, 0, none⟩), .int .i64 (k : Int)] w (ShQ W0 g nv mv pv (l ++ (⟨#[105, 102]⟩ :: (s ++ ⟨#[116, 104, 101, 110]⟩ :: (s2 ++ ⟨#[101, 108, 115, 101]⟩ :: s3)))) w) := by
  have y0 := fun w => off_setNode 150 (.agg #[.int .i64 (m : Int), .int .i64 (n : Int), .int .i64 (q : Int)]) w (by decide)
  have yy := fun w => on_ifNode (.agg #[.int .i64 (m : Int), .int .i64 (n : Int), .int .i64 (q : Int)]) w
  have CC := fun l w h => shChoice3 m n q s s2 s3 CV CB CQ l w h
  clear CV CB CQ
  have H := hide h
  clear h
  go_enter Tryz.func89, Tryz.ntmps89
  go_wp2_with fail
  refine (unhide CA).mono ?_
  rintro e w1 ⟨rfl, hb1⟩
  have hb2 : Below w.heap.size w (w1.alloc (.cells #[.int .i64 (m : Int), .int .i64 (n : Int), .int .i64 (q : Int)] 150)) := hb1.alloc hb1.size _
  have S0 := hide (H.out.stays hb2)
  have K0 : Hid (ShK W0.heap.size g w (w1.alloc (.cells #[.int .i64 (m : Int), .int .i64 (n : Int), .int .i64 (q : Int)] 150))) := ShK.of hb2 H.out.bel.size
  have X0 := hide (Box.made w1 #[.int .i64 (m : Int), .int .i64 (n : Int), .int .i64 (q : Int)] 150)
  clear hb1 hb2 CA
  have p0 := Lib.cell_of_heap X0.out 0
  have p1 := Lib.cell_of_heap X0.out 1
  have p2 := Lib.cell_of_heap X0.out 2
  simp at p0 p1 p2
  go_wp2_with fail
  refine (CC _ _ S0.out).mono ?_
  rintro e z1 ⟨rfl, hs, hk⟩
  have S1 := hide hs
  have K1 := hide (K0.out.trans hk)
  have X1 := hide (X0.out.sh S0.out.st hk (by decide) (by decide))
  clear hs hk S0 K0 X0 p0 p1 p2
  have p0 := Lib.cell_of_heap X1.out 0
  have p1 := Lib.cell_of_heap X1.out 1
  have p2 := Lib.cell_of_heap X1.out 2
  simp at p0 p1 p2
  go_wp2
  go_end0
  refine ⟨rfl, ?_, K1.out⟩
  have hs := S1.out
  (try simp only [List.append_assoc, List.cons_append, List.nil_append] at hs ⊢)
  exact hs
set_option maxRecDepth 100000 in
set_option maxHeartbeats 2000000 in
theorem shStmt_call1 {W0 : World} {g : Nat} {nv mv pv : Value} (m : Nat) (nm mo it : ByteArray) (s : List ByteArray) (h1 : nm.size ≤ 8) (h2 : mo.size ≤ 8) (h3 : it.size ≤ 8) (CV : ShF W0 g nv mv pv 104 (m : Int) s) (he : it.toList.isEmpty = true) (k : Nat) (l : List ByteArray) (w : World) (h : ShP W0 g nv mv pv l w)
    (CA : Hid (Calls Tryz.prog 88 #[.pointer (some ⟨g, 0, none⟩), .int .i64 (k : Int)] w fun e w' => e = .returned (.iface 154 (.agg #[.string nm, .string mo, .string it, .int .i64 (m : Int)])) ∧ Below w.heap.size w w')) :
    Calls Tryz.prog 89 #[.pointer (some ⟨g, 0, none⟩), .int .i64 (k : Int)] w (ShQ W0 g nv mv pv (l ++ (⟨#[99, 97, 108, 108]⟩ :: nm :: ⟨#[46]⟩ :: mo :: ⟨#[40]⟩ :: (s ++ [⟨#[41]⟩]))) w) := by
  have y0 := fun w => off_setNode 154 (.agg #[.string nm, .string mo, .string it, .int .i64 (m : Int)]) w (by decide)
  have y1 := fun w => off_ifNode 154 (.agg #[.string nm, .string mo, .string it, .int .i64 (m : Int)]) w (by decide)
  have y2 := fun w => off_whileNode 154 (.agg #[.string nm, .string mo, .string it, .int .i64 (m : Int)]) w (by decide)
  have yy := fun w => on_callNode (.agg #[.string nm, .string mo, .string it, .int .i64 (m : Int)]) w
  have CC := fun l w h => shCall1 m nm mo it s h1 h2 h3 CV he l w h
  clear CV he h1 h2 h3
  have H := hide h
  clear h
  go_enter Tryz.func89, Tryz.ntmps89
  go_wp2_with fail
  refine (unhide CA).mono ?_
  rintro e w1 ⟨rfl, hb1⟩
  have hb2 : Below w.heap.size w (w1.alloc (.cells #[.string nm, .string mo, .string it, .int .i64 (m : Int)] 154)) := hb1.alloc hb1.size _
  have S0 := hide (H.out.stays hb2)
  have K0 : Hid (ShK W0.heap.size g w (w1.alloc (.cells #[.string nm, .string mo, .string it, .int .i64 (m : Int)] 154))) := ShK.of hb2 H.out.bel.size
  have X0 := hide (Box.made w1 #[.string nm, .string mo, .string it, .int .i64 (m : Int)] 154)
  clear hb1 hb2 CA
  have p0 := Lib.cell_of_heap X0.out 0
  have p1 := Lib.cell_of_heap X0.out 1
  have p2 := Lib.cell_of_heap X0.out 2
  have p3 := Lib.cell_of_heap X0.out 3
  simp at p0 p1 p2 p3
  go_wp2_with fail
  refine (CC _ _ S0.out).mono ?_
  rintro e z1 ⟨rfl, hs, hk⟩
  have S1 := hide hs
  have K1 := hide (K0.out.trans hk)
  have X1 := hide (X0.out.sh S0.out.st hk (by decide) (by decide))
  clear hs hk S0 K0 X0 p0 p1 p2 p3
  have p0 := Lib.cell_of_heap X1.out 0
  have p1 := Lib.cell_of_heap X1.out 1
  have p2 := Lib.cell_of_heap X1.out 2
  have p3 := Lib.cell_of_heap X1.out 3
  simp at p0 p1 p2 p3
  go_wp2
  go_end0
  refine ⟨rfl, ?_, K1.out⟩
  have hs := S1.out
  (try simp only [List.append_assoc, List.cons_append, List.nil_append] at hs ⊢)
  exact hs
set_option maxRecDepth 100000 in
set_option maxHeartbeats 2000000 in
theorem shStmt_call2 {W0 : World} {g : Nat} {nv mv pv : Value} (m : Nat) (nm mo it : ByteArray) (s : List ByteArray) (h1 : nm.size ≤ 8) (h2 : mo.size ≤ 8) (h3 : it.size ≤ 8) (CV : ShF W0 g nv mv pv 104 (m : Int) s) (he : it.toList.isEmpty = false) (k : Nat) (l : List ByteArray) (w : World) (h : ShP W0 g nv mv pv l w)
    (CA : Hid (Calls Tryz.prog 88 #[.pointer (some ⟨g, 0, none⟩), .int .i64 (k : Int)] w fun e w' => e = .returned (.iface 154 (.agg #[.string nm, .string mo, .string it, .int .i64 (m : Int)])) ∧ Below w.heap.size w w')) :
    Calls Tryz.prog 89 #[.pointer (some ⟨g, 0, none⟩), .int .i64 (k : Int)] w (ShQ W0 g nv mv pv (l ++ (⟨#[99, 97, 108, 108]⟩ :: nm :: ⟨#[46]⟩ :: mo :: ⟨#[40]⟩ :: (s ++ [⟨#[41]⟩, ⟨#[116, 111]⟩, it]))) w) := by
  have y0 := fun w => off_setNode 154 (.agg #[.string nm, .string mo, .string it, .int .i64 (m : Int)]) w (by decide)
  have y1 := fun w => off_ifNode 154 (.agg #[.string nm, .string mo, .string it, .int .i64 (m : Int)]) w (by decide)
  have y2 := fun w => off_whileNode 154 (.agg #[.string nm, .string mo, .string it, .int .i64 (m : Int)]) w (by decide)
  have yy := fun w => on_callNode (.agg #[.string nm, .string mo, .string it, .int .i64 (m : Int)]) w
  have CC := fun l w h => shCall2 m nm mo it s h1 h2 h3 CV he l w h
  clear CV he h1 h2 h3
  have H := hide h
  clear h
  go_enter Tryz.func89, Tryz.ntmps89
  go_wp2_with fail
  refine (unhide CA).mono ?_
  rintro e w1 ⟨rfl, hb1⟩
  have hb2 : Below w.heap.size w (w1.alloc (.cells #[.string nm, .string mo, .string it, .int .i64 (m : Int)] 154)) := hb1.alloc hb1.size _
  have S0 := hide (H.out.stays hb2)
  have K0 : Hid (ShK W0.heap.size g w (w1.alloc (.cells #[.string nm, .string mo, .string it, .int .i64 (m : Int)] 154))) := ShK.of hb2 H.out.bel.size
  have X0 := hide (Box.made w1 #[.string nm, .string mo, .string it, .int .i64 (m : Int)] 154)
  clear hb1 hb2 CA
  have p0 := Lib.cell_of_heap X0.out 0
  have p1 := Lib.cell_of_heap X0.out 1
  have p2 := Lib.cell_of_heap X0.out 2
  have p3 := Lib.cell_of_heap X0.out 3
  simp at p0 p1 p2 p3
  go_wp2_with fail
  refine (CC _ _ S0.out).mono ?_
  rintro e z1 ⟨rfl, hs, hk⟩
  have S1 := hide hs
  have K1 := hide (K0.out.trans hk)
  have X1 := hide (X0.out.sh S0.out.st hk (by decide) (by decide))
  clear hs hk S0 K0 X0 p0 p1 p2 p3
  have p0 := Lib.cell_of_heap X1.out 0
  have p1 := Lib.cell_of_heap X1.out 1
  have p2 := Lib.cell_of_heap X1.out 2
  have p3 := Lib.cell_of_heap X1.out 3
  simp at p0 p1 p2 p3
  go_wp2
  go_end0
  refine ⟨rfl, ?_, K1.out⟩
  have hs := S1.out
  (try simp only [List.append_assoc, List.cons_append, List.nil_append] at hs ⊢)
  exact hs
theorem shStmt_step {W0 : World} {g : Nat} {nv mv pv : Value} {ns : List Nd} {dp : Nat → Nat} (hR : RightT ns dp) (E : ShE W0 nv mv pv ns) (d k : Nat) (hk : KidS ns dp (d + 1) k) (ih : ∀ n, KidB ns dp d n → ShF W0 g nv mv pv 64 (n : Int) (shS ns d n)) : ShF W0 g nv mv pv 89 (k : Int) (shS ns (d + 1) k) := fun l w h => by
    rcases h.two with ⟨t, h1, h2, h3⟩ | ⟨t, h1, h2⟩
    · exact shStmt_fail (k : Int) _ l t w h h1 h2 h3
    · obtain ⟨kv, _, hat⟩ := E.at hk.lt
      have CA := hat _ g _ w h1 h.bel
      obtain ⟨x, ex⟩ : ∃ x, ns.getD k default = x := ⟨_, rfl⟩
      have hv := hk.kind
      rw [ex] at CA hv
      have V := fun m hm => shValue_any (g := g) hR E d m hm
      rcases nf_stmt hR hk.lt hk.deep ex hv with ⟨m, e, hn, ek, hm, hs⟩ | ⟨m, n, e, ek, hm, hn, hs⟩ | ⟨m, n, q, e, ek, hm, hn, hq, hs⟩ | ⟨m, n, e, ek, hm, hn, hs⟩ | ⟨m, e, n1, n2, n3, ek, hm, hs⟩ | ⟨m, e, ek, hm, hs⟩ | ⟨e, hn, hs⟩ | ⟨e, hn, hs⟩ | ⟨e, hn, hs⟩ | ⟨e, hs⟩
      · rw [hs]
        rw [show tx ":=" = (⟨#[58, 61]⟩ : ByteArray) by decide +kernel]
        rw [e, ek] at CA
        exact shStmt_set m x.name _ hn (V m hm) k l w h CA
      · rw [hs]
        rw [show tx "if" = (⟨#[105, 102]⟩ : ByteArray) by decide +kernel]
        rw [show tx "then" = (⟨#[116, 104, 101, 110]⟩ : ByteArray) by decide +kernel]
        rw [e, ek] at CA
        exact shStmt_if2 m n _ _ (V m hm) (ih n hn) k l w h CA
      · rw [hs]
        rw [show tx "if" = (⟨#[105, 102]⟩ : ByteArray) by decide +kernel]
        rw [show tx "then" = (⟨#[116, 104, 101, 110]⟩ : ByteArray) by decide +kernel]
        rw [show tx "else" = (⟨#[101, 108, 115, 101]⟩ : ByteArray) by decide +kernel]
        rw [e, ek] at CA
        exact shStmt_if3 m n q _ _ _ (V m hm) (ih n hn) (ih q hq) k l w h CA
      · rw [hs]
        rw [show tx "while" = (⟨#[119, 104, 105, 108, 101]⟩ : ByteArray) by decide +kernel]
        rw [show tx "do" = (⟨#[100, 111]⟩ : ByteArray) by decide +kernel]
        rw [e, ek] at CA
        exact shStmt_while m n _ _ (V m hm) (ih n hn) k l w h CA
      · rw [hs]
        rw [show tx "call" = (⟨#[99, 97, 108, 108]⟩ : ByteArray) by decide +kernel]
        rw [show tx "." = (⟨#[46]⟩ : ByteArray) by decide +kernel]
        rw [show tx "(" = (⟨#[40]⟩ : ByteArray) by decide +kernel]
        rw [show tx ")" = (⟨#[41]⟩ : ByteArray) by decide +kernel]
        rw [show tx "to" = (⟨#[116, 111]⟩ : ByteArray) by decide +kernel]
        rw [e, ek] at CA
        cases he : x.into.toList.isEmpty with
        | true => exact shStmt_call1 m x.name x.more x.into _ n1 n2 n3 (V m hm) he k l w h CA
        | false => exact shStmt_call2 m x.name x.more x.into _ n1 n2 n3 (V m hm) he k l w h CA
      · rw [hs]
        rw [show tx "print" = (⟨#[112, 114, 105, 110, 116]⟩ : ByteArray) by decide +kernel]
        rw [e, ek] at CA
        exact shStmt_print m _ (V m hm) k l w h CA
      · rw [hs]
        rw [show tx "read" = (⟨#[114, 101, 97, 100]⟩ : ByteArray) by decide +kernel]
        rw [e] at CA
        exact shStmt_read x.name hn k l w h CA
      · rw [hs]
        rw [show tx "delay" = (⟨#[100, 101, 108, 97, 121]⟩ : ByteArray) by decide +kernel]
        rw [e] at CA
        exact shStmt_delay x.name hn k l w h CA
      · rw [hs]
        rw [show tx "continue" = (⟨#[99, 111, 110, 116, 105, 110, 117, 101]⟩ : ByteArray) by decide +kernel]
        rw [e] at CA
        exact shStmt_cont x.name hn k l w h CA
      · rw [hs]
        rw [show tx "skip" = (⟨#[115, 107, 105, 112]⟩ : ByteArray) by decide +kernel]
        rw [e] at CA
        exact shStmt_skip k l w h CA
end Go.Proofs.YtdfahpachbhglaaGreatDoor
