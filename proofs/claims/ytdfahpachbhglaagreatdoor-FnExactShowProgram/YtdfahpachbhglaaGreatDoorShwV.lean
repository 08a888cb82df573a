/-
  Showing, by the program: a node at a place; values.
-/
import Derived.Test.YtdfahpachbhglaaGreatDoorMatP
import Derived.Test.YtdfahpachbhglaaGreatDoorImpA
import Derived.Test.YtdfahpachbhglaaGreatDoorImpF
import Derived.Test.YtdfahpachbhglaaGreatDoorNameW
import Derived.Handy
namespace Go.Proofs.YtdfahpachbhglaaGreatDoor
open Go.RowKit

set_option maxHeartbeats 1000000 in
theorem shAt_off {B g : Nat} {nv mv pv : Value} {bs : List Value} (k : Int) (w : World) (h : ShI B g nv mv pv bs true w) :
    Calls Tryz.prog 88 #[.pointer (some ⟨g, 0, none⟩), .int .i64 k] w fun e w' => e = .returned .nilIface ∧ w' = w := by
  obtain ⟨_, _, _, _, c6, _⟩ := h.cells
  clear h
  go_enter Tryz.func88, Tryz.ntmps88
  go_wp2
  go_ret
  exact ⟨rfl, rfl⟩
set_option maxHeartbeats 1000000 in
theorem shAt_on {B g : Nat} {mv pv : Value} {bs : List Value} {ns : List Nd} (x : Nd) (k : Nat) (kv : Value) (p : Addr) (a : Addr) (c : Nat) (w : World) (h : ShI B g (.slice (some a) ns.length c) mv pv bs false w) (hmv : SlV mv) (hpv : SlV pv) (hk : k < ns.length) (hN : NdsAt w (.slice (some a) ns.length c) ns)
    (hp : a.add (k * 6) = p) (hx : NdCell w p x kv) :
    Calls Tryz.prog 88 #[.pointer (some ⟨g, 0, none⟩), .int .i64 (k : Int)] w fun e w' => e = .returned (typedV x.kind x.num x.name x.more x.into kv x.kids) ∧ Below w.heap.size w w' := by
  obtain ⟨c0, c1, c2, _, c6, _⟩ := h.cells
  have CT := hide (typedAt_on (mv := mv) (pv := pv) x k kv p a c w hk hN hp hx)
  obtain ⟨mo, mn, mc, rfl⟩ := hmv
  obtain ⟨po, pn, pc, rfl⟩ := hpv
  clear h hN hx
  go_enter Tryz.func88, Tryz.ntmps88
  go_wp2_with fail
  refine (unhide CT).mono ?_
  rintro e w3 ⟨rfl, hb3⟩
  have HB3 := hide hb3
  clear hb3
  go_wp2
  go_ret
  exact ⟨rfl, HB3.out⟩
theorem op_size : ∀ (k : Nat) (t : ByteArray), opTx[k]? = some t → t.size ≤ 8
  | 0, _, h => by cases h; decide +kernel
  | 1, _, h => by cases h; decide +kernel
  | 2, _, h => by cases h; decide +kernel
  | 3, _, h => by cases h; decide +kernel
  | 4, _, h => by cases h; decide +kernel
  | 5, _, h => by cases h; decide +kernel
  | 6, _, h => by cases h; decide +kernel
  | 7, _, h => by cases h; decide +kernel
  | 8, _, h => by cases h; decide +kernel
  | 9, _, h => by cases h; decide +kernel
  | k + 10, _, h => by cases h
/-- The value: what is known where a node is looked at. -/
theorem ShE.at {W0 : World} {nv mv pv : Value} {ns : List Nd} (h : ShE W0 nv mv pv ns) {k : Nat} (hk : k < ns.length) : ∃ kv, IntsAt W0 kv (ns.getD k default).kids ∧ ∀ (B g : Nat) (bs : List Value) (w : World), ShI B g nv mv pv bs false w → Below W0.heap.size W0 w →
    Calls Tryz.prog 88 #[.pointer (some ⟨g, 0, none⟩), .int .i64 (k : Int)] w fun e w' => e = .returned (typedV (ns.getD k default).kind (ns.getD k default).num (ns.getD k default).name (ns.getD k default).more (ns.getD k default).into kv (ns.getD k default).kids) ∧ Below w.heap.size w w' := by
  obtain ⟨a, c, p, kv, rfl, hp, hpb, hx⟩ := h.nds.node k hk
  rw [getD_at hk]
  refine ⟨kv, hx.kids, fun B g bs w hs hb => ?_⟩
  exact shAt_on ns[k] k kv p a c w hs h.smv h.spv hk (h.nds.stays hb) hp (hx.stays hb hpb)
theorem ShE.table {W0 : World} {nv mv pv : Value} {ns : List Nd} (h : ShE W0 nv mv pv ns) {w : World} (hb : Below W0.heap.size W0 w) : Lib.TabIs Tryz.prog w "internal/strconv.uint64pow10" .u64 Lib.pow10Tab := var?_below hb gPow h.tbl h.tab
theorem getD_kid {ks : List Int} {i : Nat} {y : Int} (h : ks[i]? = some y) : ks[i]?.getD (-1) = y := by rw [h]; rfl
set_option maxRecDepth 100000 in
set_option maxHeartbeats 2000000 in
theorem shValue_fail {W0 : World} {g : Nat} {nv mv pv : Value} (k : Int) (s l : List ByteArray) (t : ByteArray) (w : World) (h : ShP W0 g nv mv pv l w) (h1 : ShI W0.heap.size g nv mv pv (Lib.strCells t) true w) (h2 : t.size ≤ 1500) (h3 : 1500 < (foldJ l).size) :
    Calls Tryz.prog 104 #[.pointer (some ⟨g, 0, none⟩), .int .i64 k] w (ShQ W0 g nv mv pv (l ++ s) w) := by
  have HF := hide (h.more s h1 h2 h3 (Below.refl _ w))
  have CA := hide (shAt_off k w h1)
  obtain ⟨_, _, _, _, c6, f6⟩ := h1.cells
  have y0 := fun w => nil_numNode w
  have y1 := fun w => nil_varNode w
  have y2 := fun w => nil_calcNode w
  have y3 := fun w => nil_notNode w
  have y4 := fun w => nil_negNode w
  clear h h1 h2 h3
  go_enter Tryz.func104, Tryz.ntmps104
  go_wp2_with fail
  refine (unhide CA).mono ?_
  rintro e w1 ⟨rfl, rfl⟩
  go_wp2
  go_end0
  exact HF.out

set_option maxRecDepth 100000 in
set_option maxHeartbeats 2000000 in
theorem shValue_num {W0 : World} {g : Nat} {nv mv pv : Value} {ns : List Nd} (num : Int) (E : Hid (ShE W0 nv mv pv ns)) (h0 : 0 ≤ num) (h1 : num ≤ 1000000) (k : Nat) (l : List ByteArray) (w : World) (h : ShP W0 g nv mv pv l w)
    (CA : Hid (Calls Tryz.prog 88 #[.pointer (some ⟨g, 0, none⟩), .int .i64 (k : Int)] w fun e w' => e = .returned (.iface 138 (.agg #[.int .i64 num])) ∧ Below w.heap.size w w')) :
    Calls Tryz.prog 104 #[.pointer (some ⟨g, 0, none⟩), .int .i64 (k : Int)] w (ShQ W0 g nv mv pv (l ++ [strOfNums (decI num)]) w) := by
  have yy := fun w => on_numNode (.agg #[.int .i64 num]) w
  have CD := fun W ht => hide (implDecimal_any num W (by omega) (by omega) ht)
  have hd : (strOfNums (decI num)).size ≤ 1048576 := Nat.le_trans (dec_size h0 h1) (by decide)
  obtain ⟨s, es⟩ : ∃ s, s = strOfNums (decI num) := ⟨_, rfl⟩
  rw [← es] at CD hd ⊢
  clear es
  have H := hide h
  clear h
  go_enter Tryz.func104, Tryz.ntmps104
  go_wp2_with fail
  refine (unhide CA).mono ?_
  rintro e w1 ⟨rfl, hb1⟩
  have hb2 : Below w.heap.size w (w1.alloc (.cells #[.int .i64 num] 138)) := hb1.alloc hb1.size _
  have S0 := hide (H.out.stays hb2)
  have K0 : Hid (ShK W0.heap.size g w (w1.alloc (.cells #[.int .i64 num] 138))) := ShK.of hb2 H.out.bel.size
  have X0 := hide (Box.made w1 #[.int .i64 num] 138)
  clear hb1 hb2 CA
  have p0 := Lib.cell_of_heap X0.out 0
  simp at p0
  go_wp2_with fail
  refine (unhide (CD _ (E.out.table S0.out.bel))).mono ?_
  rintro e z0 ⟨rfl, hb3⟩
  have S1 := hide (S0.out.stays hb3)
  have K1 := hide (K0.out.trans (ShK.of (g := g) hb3 S0.out.bel.size))
  clear hb3 S0 K0 X0 p0
  go_wp2_with fail
  refine Calls.mono (shP1 _ ?_ S1.out ?_) ?_
  · simp
  · (
  intro y hy;
  simp only [List.mem_cons, List.not_mem_nil, or_false] at hy;
  rcases hy with rfl | rfl | rfl | rfl | rfl <;> first | assumption | omega | decide)
  rintro e z2 ⟨rfl, hs, hk⟩
  have S2 := hide hs
  have K2 := hide (K1.out.trans hk)
  clear hs hk S1 K1
  go_wp2
  go_end0
  refine ⟨rfl, ?_, K2.out⟩
  have hs := S2.out
  (try simp only [List.append_assoc, List.cons_append, List.nil_append] at hs ⊢)
  exact hs
set_option maxRecDepth 100000 in
set_option maxHeartbeats 2000000 in
theorem shValue_var {W0 : World} {g : Nat} {nv mv pv : Value} (nm : ByteArray) (hn : nm.size ≤ 8) (k : Nat) (l : List ByteArray) (w : World) (h : ShP W0 g nv mv pv l w)
    (CA : Hid (Calls Tryz.prog 88 #[.pointer (some ⟨g, 0, none⟩), .int .i64 (k : Int)] w fun e w' => e = .returned (.iface 140 (.agg #[.string nm])) ∧ Below w.heap.size w w')) :
    Calls Tryz.prog 104 #[.pointer (some ⟨g, 0, none⟩), .int .i64 (k : Int)] w (ShQ W0 g nv mv pv (l ++ [nm]) w) := by
  have y0 := fun w => off_numNode 140 (.agg #[.string nm]) w (by decide)
  have yy := fun w => on_varNode (.agg #[.string nm]) w
  have H := hide h
  clear h
  go_enter Tryz.func104, Tryz.ntmps104
  go_wp2_with fail
  refine (unhide CA).mono ?_
  rintro e w1 ⟨rfl, hb1⟩
  have hb2 : Below w.heap.size w (w1.alloc (.cells #[.string nm] 140)) := hb1.alloc hb1.size _
  have S0 := hide (H.out.stays hb2)
  have K0 : Hid (ShK W0.heap.size g w (w1.alloc (.cells #[.string nm] 140))) := ShK.of hb2 H.out.bel.size
  have X0 := hide (Box.made w1 #[.string nm] 140)
  clear hb1 hb2 CA
  have p0 := Lib.cell_of_heap X0.out 0
  simp at p0
  go_wp2_with fail
  refine Calls.mono (shP1 _ ?_ S0.out ?_) ?_
  · simp
  · (
  intro y hy;
  simp only [List.mem_cons, List.not_mem_nil, or_false] at hy;
  rcases hy with rfl | rfl | rfl | rfl | rfl <;> first | assumption | omega | decide)
  rintro e z1 ⟨rfl, hs, hk⟩
  have S1 := hide hs
  have K1 := hide (K0.out.trans hk)
  have X1 := hide (X0.out.sh S0.out.st hk (by decide) (by decide))
  clear hs hk S0 K0 X0 p0
  have p0 := Lib.cell_of_heap X1.out 0
  simp at p0
  go_wp2
  go_end0
  refine ⟨rfl, ?_, K1.out⟩
  have hs := S1.out
  (try simp only [List.append_assoc, List.cons_append, List.nil_append] at hs ⊢)
  exact hs
set_option maxRecDepth 100000 in
set_option maxHeartbeats 2000000 in
theorem shValue_not {W0 : World} {g : Nat} {nv mv pv : Value} (m : Nat) (s : List ByteArray) (CV : ShF W0 g nv mv pv 104 (m : Int) s) (k : Nat) (l : List ByteArray) (w : World) (h : ShP W0 g nv mv pv l w)
    (CA : Hid (Calls Tryz.prog 88 #[.pointer (some ⟨g, 0, none⟩), .int .i64 (k : Int)] w fun e w' => e = .returned (.iface 145 (.agg #[.int .i64 (m : Int)])) ∧ Below w.heap.size w w')) :
    Calls Tryz.prog 104 #[.pointer (some ⟨g, 0, none⟩), .int .i64 (k : Int)] w (ShQ W0 g nv mv pv (l ++ (⟨#[110, 111, 116]⟩ :: s)) w) := by
  have y0 := fun w => off_numNode 145 (.agg #[.int .i64 (m : Int)]) w (by decide)
  have y1 := fun w => off_varNode 145 (.agg #[.int .i64 (m : Int)]) w (by decide)
  have y2 := fun w => off_calcNode 145 (.agg #[.int .i64 (m : Int)]) w (by decide)
  have yy := fun w => on_notNode (.agg #[.int .i64 (m : Int)]) w
  have H := hide h
  clear h
  go_enter Tryz.func104, Tryz.ntmps104
  go_wp2_with fail
  refine (unhide CA).mono ?_
  rintro e w1 ⟨rfl, hb1⟩
  have hb2 : Below w.heap.size w (w1.alloc (.cells #[.int .i64 (m : Int)] 145)) := hb1.alloc hb1.size _
  have S0 := hide (H.out.stays hb2)
  have K0 : Hid (ShK W0.heap.size g w (w1.alloc (.cells #[.int .i64 (m : Int)] 145))) := ShK.of hb2 H.out.bel.size
  have X0 := hide (Box.made w1 #[.int .i64 (m : Int)] 145)
  clear hb1 hb2 CA
  have p0 := Lib.cell_of_heap X0.out 0
  simp at p0
  go_wp2_with fail
  refine Calls.mono (shP1 _ ?_ S0.out ?_) ?_
  · simp
  · (
  intro y hy;
  simp only [List.mem_cons, List.not_mem_nil, or_false] at hy;
  rcases hy with rfl | rfl | rfl | rfl | rfl <;> first | assumption | omega | decide)
  rintro e z1 ⟨rfl, hs, hk⟩
  have S1 := hide hs
  have K1 := hide (K0.out.trans hk)
  have X1 := hide (X0.out.sh S0.out.st hk (by decide) (by decide))
  clear hs hk S0 K0 X0 p0
  have p0 := Lib.cell_of_heap X1.out 0
  simp at p0
  go_wp2_with fail
  refine (CV _ _ S1.out).mono ?_
  rintro e z2 ⟨rfl, hs, hk⟩
  have S2 := hide hs
  have K2 := hide (K1.out.trans hk)
  have X2 := hide (X1.out.sh S1.out.st hk (by decide) (by decide))
  clear hs hk S1 K1 X1 p0
  have p0 := Lib.cell_of_heap X2.out 0
  simp at p0
  go_wp2
  go_end0
  refine ⟨rfl, ?_, K2.out⟩
  have hs := S2.out
  (try simp only [List.append_assoc, List.cons_append, List.nil_append] at hs ⊢)
  exact hs
set_option maxRecDepth 100000 in
set_option maxHeartbeats 2000000 in
theorem shValue_neg {W0 : World} {g : Nat} {nv mv pv : Value} (m : Nat) (s : List ByteArray) (CV : ShF W0 g nv mv pv 104 (m : Int) s) (k : Nat) (l : List ByteArray) (w : World) (h : ShP W0 g nv mv pv l w)
    (CA : Hid (Calls Tryz.prog 88 #[.pointer (some ⟨g, 0, none⟩), .int .i64 (k : Int)] w fun e w' => e = .returned (.iface 146 (.agg #[.int .i64 (m : Int)])) ∧ Below w.heap.size w w')) :
    Calls Tryz.prog 104 #[.pointer (some ⟨g, 0, none⟩), .int .i64 (k : Int)] w (ShQ W0 g nv mv pv (l ++ (⟨#[45]⟩ :: s)) w) := by
  have y0 := fun w => off_numNode 146 (.agg #[.int .i64 (m : Int)]) w (by decide)
  have y1 := fun w => off_varNode 146 (.agg #[.int .i64 (m : Int)]) w (by decide)
  have y2 := fun w => off_calcNode 146 (.agg #[.int .i64 (m : Int)]) w (by decide)
  have y3 := fun w => off_notNode 146 (.agg #[.int .i64 (m : Int)]) w (by decide)
  have yy := fun w => on_negNode (.agg #[.int .i64 (m : Int)]) w
  have H := hide h
  clear h
  go_enter Tryz.func104, Tryz.ntmps104
  go_wp2_with fail
  refine (unhide CA).mono ?_
  rintro e w1 ⟨rfl, hb1⟩
  have hb2 : Below w.heap.size w (w1.alloc (.cells #[.int .i64 (m : Int)] 146)) := hb1.alloc hb1.size _
  have S0 := hide (H.out.stays hb2)
  have K0 : Hid (ShK W0.heap.size g w (w1.alloc (.cells #[.int .i64 (m : Int)] 146))) := ShK.of hb2 H.out.bel.size
  have X0 := hide (Box.made w1 #[.int .i64 (m : Int)] 146)
  clear hb1 hb2 CA
  have p0 := Lib.cell_of_heap X0.out 0
  simp at p0
  go_wp2_with fail
  refine Calls.mono (shP1 _ ?_ S0.out ?_) ?_
  · simp
  · (
  intro y hy;
  simp only [List.mem_cons, List.not_mem_nil, or_false] at hy;
  rcases hy with rfl | rfl | rfl | rfl | rfl <;> first | assumption | omega | decide)
  rintro e z1 ⟨rfl, hs, hk⟩
  have S1 := hide hs
  have K1 := hide (K0.out.trans hk)
  have X1 := hide (X0.out.sh S0.out.st hk (by decide) (by decide))
  clear hs hk S0 K0 X0 p0
  have p0 := Lib.cell_of_heap X1.out 0
  simp at p0
  go_wp2_with fail
  refine (CV _ _ S1.out).mono ?_
  rintro e z2 ⟨rfl, hs, hk⟩
  have S2 := hide hs
  have K2 := hide (K1.out.trans hk)
  have X2 := hide (X1.out.sh S1.out.st hk (by decide) (by decide))
  clear hs hk S1 K1 X1 p0
  have p0 := Lib.cell_of_heap X2.out 0
  simp at p0
  go_wp2
  go_end0
  refine ⟨rfl, ?_, K2.out⟩
  have hs := S2.out
  (try simp only [List.append_assoc, List.cons_append, List.nil_append] at hs ⊢)
  exact hs
set_option maxRecDepth 100000 in
set_option maxHeartbeats 2000000 in
theorem shCalc_any {W0 : World} {g : Nat} {nv mv pv : Value} {ns : List Nd} (m n o : Nat) (s1 s2 : List ByteArray) (E : Hid (ShE W0 nv mv pv ns)) (h1 : 1 ≤ o) (h9 : o ≤ 9) (CV : ShF W0 g nv mv pv 104 (m : Int) s1) (CW : ShF W0 g nv mv pv 104 (n : Int) s2) (l : List ByteArray) (w : World) (h : ShP W0 g nv mv pv l w) :
    Calls Tryz.prog 110 #[.pointer (some ⟨g, 0, none⟩), .agg #[.int .i64 (o : Int), .int .i64 (m : Int), .int .i64 (n : Int)]] w (ShQ W0 g nv mv pv (l ++ ⟨#[40]⟩ :: (s1 ++ opSign (o : Int) :: (s2 ++ [⟨#[41]⟩]))) w) := by
  have hb2 : Below w.heap.size w (w.alloc (.cells #[.int .i64 (o : Int), .int .i64 (m : Int), .int .i64 (n : Int)] 143)) := (Below.refl _ _).alloc (Nat.le_refl _) _
  have S0 := hide (h.stays hb2)
  have K0 : Hid (ShK W0.heap.size g w (w.alloc (.cells #[.int .i64 (o : Int), .int .i64 (m : Int), .int .i64 (n : Int)] 143))) := ShK.of hb2 h.bel.size
  have X0 := hide (Box.made w #[.int .i64 (o : Int), .int .i64 (m : Int), .int .i64 (n : Int)] 143)
  have CK := fun w => hide (implKnown (o : Int) w)
  have ek : (decide (1 ≤ (o : Int)) && decide ((o : Int) ≤ 9)) = true := by simp; omega
  rw [ek] at CK
  obtain ⟨ot, hot⟩ : ∃ ot, opTx[o]? = some ot := ⟨opTx[o]'(by show o < 10; omega), List.getElem?_eq_getElem _⟩
  have EO : Hid (opSign (o : Int) = ot) := by
    show _ = _
    unfold opSign
    rw [Int.toNat_natCast, List.getD_eq_getElem?_getD]
    have e : opTx = [tx "", tx "+", tx "-", tx "*", tx "/", tx "%", tx "<", tx "=", tx "and", tx "or"] := rfl
    rw [← e, hot]
    rfl
  have hos : ot.size ≤ 8 := op_size o ot hot
  have OC : Hid (∀ z, Below W0.heap.size W0 z → z.cell? ⟨0, o, none⟩ = some (.string ot)) := fun z hz => (E.out.ops.stays hz E.out.opl) o ot hot
  have ho0 : (0 : Int) ≤ (o : Int) := by omega
  have ho1 : (o : Int) < 10 := by omega
  rw [EO.out]
  clear hb2 h hot EO ek
  go_enter Tryz.func110, Tryz.ntmps110
  have p0 := Lib.cell_of_heap X0.out 0
  have p1 := Lib.cell_of_heap X0.out 1
  have p2 := Lib.cell_of_heap X0.out 2
  simp at p0 p1 p2
  go_wp2_with (go_at_call 101; refine (unhide (CK _)).mono ?_; rintro e w3 ⟨rfl, rfl⟩)
  refine Calls.mono (shP1 _ ?_ S0.out ?_) ?_
  · simp
  · (
  intro y hy;
  simp only [List.mem_cons, List.not_mem_nil, or_false] at hy;
  rcases hy with rfl | rfl | rfl | rfl | rfl <;> first | assumption | omega | decide)
  rintro e z1 ⟨rfl, hs, hk⟩
  have S1 := hide hs
  have K1 := hide (K0.out.trans hk)
  have X1 := hide (X0.out.sh S0.out.st hk (by decide) (by decide))
  clear hs hk S0 K0 X0 p0 p1 p2
  have p0 := Lib.cell_of_heap X1.out 0
  have p1 := Lib.cell_of_heap X1.out 1
  have p2 := Lib.cell_of_heap X1.out 2
  simp at p0 p1 p2
  go_wp2_with fail
  refine (CV _ _ S1.out).mono ?_
  rintro e z2 ⟨rfl, hs, hk⟩
  have S2 := hide hs
  have K2 := hide (K1.out.trans hk)
  have X2 := hide (X1.out.sh S1.out.st hk (by decide) (by decide))
  clear hs hk S1 K1 X1 p0 p1 p2
  have p0 := Lib.cell_of_heap X2.out 0
  have p1 := Lib.cell_of_heap X2.out 1
  have p2 := Lib.cell_of_heap X2.out 2
  simp at p0 p1 p2
  have oc := OC.out _ S2.out.bel
  go_wp2_with fail
  refine Calls.mono (shP1 _ ?_ S2.out ?_) ?_
  · simp
  · (
  intro y hy;
  simp only [List.mem_cons, List.not_mem_nil, or_false] at hy;
  rcases hy with rfl | rfl | rfl | rfl | rfl <;> first | assumption | omega | decide)
  rintro e z3 ⟨rfl, hs, hk⟩
  have S3 := hide hs
  have K3 := hide (K2.out.trans hk)
  have X3 := hide (X2.out.sh S2.out.st hk (by decide) (by decide))
  clear hs hk S2 K2 X2 p0 p1 p2
  have p0 := Lib.cell_of_heap X3.out 0
  have p1 := Lib.cell_of_heap X3.out 1
  have p2 := Lib.cell_of_heap X3.out 2
  simp at p0 p1 p2
  clear oc
  go_wp2_with fail
  refine (CW _ _ S3.out).mono ?_
  rintro e z4 ⟨rfl, hs, hk⟩
  have S4 := hide hs
  have K4 := hide (K3.out.trans hk)
  have X4 := hide (X3.out.sh S3.out.st hk (by decide) (by decide))
  clear hs hk S3 K3 X3 p0 p1 p2
  have p0 := Lib.cell_of_heap X4.out 0
  have p1 := Lib.cell_of_heap X4.out 1
  have p2 := Lib.cell_of_heap X4.out 2
  simp at p0 p1 p2
  go_wp2_with fail
  refine Calls.mono (shP1 _ ?_ S4.out ?_) ?_
  · simp
  · (
  intro y hy;
  simp only [List.mem_cons, List.not_mem_nil, or_false] at hy;
  rcases hy with rfl | rfl | rfl | rfl | rfl <;> first | assumption | omega | decide)
  rintro e z5 ⟨rfl, hs, hk⟩
  have S5 := hide hs
  have K5 := hide (K4.out.trans hk)
  have X5 := hide (X4.out.sh S4.out.st hk (by decide) (by decide))
  clear hs hk S4 K4 X4 p0 p1 p2
  have p0 := Lib.cell_of_heap X5.out 0
  have p1 := Lib.cell_of_heap X5.out 1
  have p2 := Lib.cell_of_heap X5.out 2
  simp at p0 p1 p2
  go_wp2
  go_end0
  have hs := S5.out
  simp only [List.append_assoc, List.cons_append, List.nil_append] at hs ⊢
  exact ⟨rfl, hs, K5.out⟩

set_option maxRecDepth 100000 in
set_option maxHeartbeats 2000000 in
theorem shValue_calc {W0 : World} {g : Nat} {nv mv pv : Value} {ns : List Nd} (m n o : Nat) (s1 s2 : List ByteArray) (E : Hid (ShE W0 nv mv pv ns)) (h1 : 1 ≤ o) (h9 : o ≤ 9) (CV : ShF W0 g nv mv pv 104 (m : Int) s1) (CW : ShF W0 g nv mv pv 104 (n : Int) s2) (k : Nat) (l : List ByteArray) (w : World) (h : ShP W0 g nv mv pv l w)
    (CA : Hid (Calls Tryz.prog 88 #[.pointer (some ⟨g, 0, none⟩), .int .i64 (k : Int)] w fun e w' => e = .returned (.iface 143 (.agg #[.int .i64 (o : Int), .int .i64 (m : Int), .int .i64 (n : Int)])) ∧ Below w.heap.size w w')) :
    Calls Tryz.prog 104 #[.pointer (some ⟨g, 0, none⟩), .int .i64 (k : Int)] w (ShQ W0 g nv mv pv (l ++ (⟨#[40]⟩ :: (s1 ++ opSign (o : Int) :: (s2 ++ [⟨#[41]⟩])))) w) := by
  have y0 := fun w => off_numNode 143 (.agg #[.int .i64 (o : Int), .int .i64 (m : Int), .int .i64 (n : Int)]) w (by decide)
  have y1 := fun w => off_varNode 143 (.agg #[.int .i64 (o : Int), .int .i64 (m : Int), .int .i64 (n : Int)]) w (by decide)
  have yy := fun w => on_calcNode (.agg #[.int .i64 (o : Int), .int .i64 (m : Int), .int .i64 (n : Int)]) w
  have CC := fun l w h => shCalc_any m n o s1 s2 E h1 h9 CV CW l w h
  clear h1 h9 E CV CW
  have H := hide h
  clear h
  go_enter Tryz.func104, Tryz.ntmps104
  go_wp2_with fail
  refine (unhide CA).mono ?_
  rintro e w1 ⟨rfl, hb1⟩
  have hb2 : Below w.heap.size w (w1.alloc (.cells #[.int .i64 (o : Int), .int .i64 (m : Int), .int .i64 (n : Int)] 143)) := hb1.alloc hb1.size _
  have S0 := hide (H.out.stays hb2)
  have K0 : Hid (ShK W0.heap.size g w (w1.alloc (.cells #[.int .i64 (o : Int), .int .i64 (m : Int), .int .i64 (n : Int)] 143))) := ShK.of hb2 H.out.bel.size
  have X0 := hide (Box.made w1 #[.int .i64 (o : Int), .int .i64 (m : Int), .int .i64 (n : Int)] 143)
  clear hb1 hb2 CA
  have p0 := Lib.cell_of_heap X0.out 0
  have p1 := Lib.cell_of_heap X0.out 1
  have p2 := Lib.cell_of_heap X0.out 2
  simp at p0 p1 p2
  go_wp2_with fail
  refine (CC _ _ S0.out).mono ?_
  rintro e z1 ⟨rfl, hs, hk⟩
  have S1 := hide hs
  have K1 := hide (K0.out.trans hk)
  have X1 := hide (X0.out.sh S0.out.st hk (by decide) (by decide))
  clear hs hk S0 K0 X0 p0 p1 p2
  have p0 := Lib.cell_of_heap X1.out 0
  have p1 := Lib.cell_of_heap X1.out 1
  have p2 := Lib.cell_of_heap X1.out 2
  simp at p0 p1 p2
  go_wp2
  go_end0
  refine ⟨rfl, ?_, K1.out⟩
  have hs := S1.out
  (try simp only [List.append_assoc, List.cons_append, List.nil_append] at hs ⊢)
  exact hs
/-- A value of any depth. -/
theorem shValue_any {W0 : World} {g : Nat} {nv mv pv : Value} {ns : List Nd} {dp : Nat → Nat} (hR : RightT ns dp) (E : ShE W0 nv mv pv ns) : ∀ (d k : Nat), KidV ns dp d k → ShF W0 g nv mv pv 104 (k : Int) (shS ns d k)
  | 0, k, hk => by have := (hR.deep k hk.lt).1; have := hk.deep; omega
  | d + 1, k, hk => fun l w h => by
    rcases h.two with ⟨t, h1, h2, h3⟩ | ⟨t, h1, h2⟩
    · exact shValue_fail (k : Int) _ l t w h h1 h2 h3
    · obtain ⟨kv, _, hat⟩ := E.at hk.lt
      have CA := hat _ g _ w h1 h.bel
      obtain ⟨x, ex⟩ : ∃ x, ns.getD k default = x := ⟨_, rfl⟩
      have hv := hk.kind
      rw [ex] at CA hv
      rcases nf_value hR hk.lt hk.deep ex hv with ⟨e, n0, n1, hs⟩ | ⟨e, n0, hs⟩ | ⟨e, m, n, o, eks, hm, hn, eo, o1, o9, hs⟩ | ⟨e, m, eks, hm, hs⟩ | ⟨e, m, eks, hm, hs⟩
      · rw [hs]
        rw [e] at CA
        exact shValue_num x.num (hide E) n0 n1 k l w h CA
      · rw [hs]
        rw [e] at CA
        exact shValue_var x.name n0 k l w h CA
      · rw [hs]
        rw [e, eks, eo] at CA
        have w1 : tx "(" = ⟨#[40]⟩ := by decide +kernel
        have w2 : tx ")" = ⟨#[41]⟩ := by decide +kernel
        rw [w1, w2]
        exact shValue_calc m n o _ _ (hide E) o1 o9 (shValue_any hR E d m hm) (shValue_any hR E d n hn) k l w h CA
      · rw [hs]
        rw [e, eks] at CA
        have w1 : tx "not" = ⟨#[110, 111, 116]⟩ := by decide +kernel
        rw [w1]
        exact shValue_not m _ (shValue_any hR E d m hm) k l w h CA
      · rw [hs]
        rw [e, eks] at CA
        have w1 : tx "-" = ⟨#[45]⟩ := by decide +kernel
        rw [w1]
        exact shValue_neg m _ (shValue_any hR E d m hm) k l w h CA
end Go.Proofs.YtdfahpachbhglaaGreatDoor
