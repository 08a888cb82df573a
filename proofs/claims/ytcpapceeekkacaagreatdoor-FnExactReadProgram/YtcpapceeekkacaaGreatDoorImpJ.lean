import Derived.Test.YtcpapceeekkacaaGreatDoorValI
import Derived.Test.YtcpapceeekkacaaGreatDoorNameW
set_option maxRecDepth 100000
set_option maxHeartbeats 8000000
namespace Go.Proofs.YtcpapceeekkacaaGreatDoor
open Go.RowKit
theorem aa6.one {w:World}{g:Nat}(hg:g=w.heap.size) (a:Int) (t:TypeId) (c:Nat):aa6 (w.alloc (.cells #[.int .i64 a] t)) (.slice (some ⟨g,0,none⟩) 1 c) [a]:=aa6.made hg [a] t 1 c rfl
theorem aa6.two {w:World}{g:Nat}(hg:g=w.heap.size) (a b:Int) (t:TypeId) (c:Nat):aa6 (w.alloc (.cells #[.int .i64 a,.int .i64 b] t)) (.slice (some ⟨g,0,none⟩) 2 c) [a,b]:=aa6.made hg [a,b] t 2 c rfl
theorem af6 (nv mv pv:Value) (ns:List Nd) (r a:Int) (g c:Nat) (w:World) (hg:g=w.heap.size) (hN:af7 w nv ns) (hl:ns.length≤1048576) :
  Calls Tryz.prog 83 #[.agg #[nv,mv,pv],.int .i64 r,.slice (some ⟨g,0,none⟩) 1 c] (w.alloc (.cells #[.int .i64 a] 3)) fun e w'=>e=.returned (.bool (aa1 ns r a))∧Below w.heap.size w w':=by
 have hb:Below w.heap.size w (w.alloc (.cells #[.int .i64 a] 3)):=bal _ _
 refine(az2 nv mv pv _ ns r [a] _ (hN.stays hb) (aa6.one hg a 3 c) hl (by simp)).mono ?_
 rintro e w' ⟨rfl,h⟩
 exact⟨by simp,hb.trans (h.mono hb.size)⟩
theorem aS5 (nv mv pv:Value) (ns:List Nd) (r a b:Int) (g c:Nat) (w:World) (hg:g=w.heap.size) (hN:af7 w nv ns) (hl:ns.length≤1048576) :
  Calls Tryz.prog 83 #[.agg #[nv,mv,pv],.int .i64 r,.slice (some ⟨g,0,none⟩) 2 c] (w.alloc (.cells #[.int .i64 a,.int .i64 b] 3)) fun e w'=>e=.returned (.bool (aa1 ns r a && aa1 ns r b))∧Below w.heap.size w w':=by
 have hb:Below w.heap.size w (w.alloc (.cells #[.int .i64 a,.int .i64 b] 3)):=bal _ _
 refine(az2 nv mv pv _ ns r [a,b] _ (hN.stays hb) (aa6.two hg a b 3 c) hl (by simp)).mono ?_
 rintro e w' ⟨rfl,h⟩
 exact⟨by simp,hb.trans (h.mono hb.size)⟩
structure TB (w:World) (nv mv pv:Value) (cs:Array Value) (t:TypeId) (z:World):Prop where
 b0:Box z w.heap.size #[nv,mv,pv] 26
 b1:Box z (w.heap.size+1) cs t
 bel:Below w.heap.size w z
theorem TB.start (w:World) (nv mv pv:Value) (cs:Array Value) (t:TypeId):TB w nv mv pv cs t ((w.alloc (.cells #[nv,mv,pv] 26)).alloc (.cells cs t)) :=
 ⟨(Box.made w _ _).stays (bal _ _),Box.madeAt (by simp) _ _,by go_grown⟩
theorem TB.stays {w:World}{nv mv pv:Value}{cs:Array Value}{t:TypeId}{z z':World}(h:TB w nv mv pv cs t z) (hb:Below z.heap.size z z'):TB w nv mv pv cs t z' :=
 ⟨h.b0.stays hb,h.b1.stays hb,h.bel.trans (hb.mono h.bel.size)⟩
theorem bl6 (nv mv pv:Value) (ns:List Nd) (w:World) (_hN:af7 w nv ns) (nu:Int) :
  Calls Tryz.prog 106 #[.agg #[nv,mv,pv],.iface 134 (.agg #[.int .i64 nu])] w fun e w'=>e=.returned (.bool (inZ 0 1000000 nu))∧Below w.heap.size w w':=by
 have y0:=fun w=>aI9 (.agg #[.int .i64 nu]) w
 have T:=qb (TB.start w nv mv pv #[.int .i64 nu] 134)
 clear _hN
 by_cases h0:0≤nu
 ·have e:inZ 0 1000000 nu=vok nu:=by
   rw[Bool.eq_iff_iff,ad5,vok_iff]
   omega
  rw[e]
  clear e
  go_enter Tryz.func106,Tryz.ntmps106
  (go_wp2_with (first
  | (go_at_call 81;refine Calls.mono (aa9 _ _ ?_) ?_;(first|exact hs1|exact hs2|exact hs3);rintro e w2⟨rfl,hb2⟩;(
 have T:=qb (T.out.stays hb2);have N:=qb (N.out.stays hb2);
 have c0:=chp T.out.b0 0;have c1:=chp T.out.b0 1;have c2:=chp T.out.b0 2;
 have t0:=chp T.out.b1 0;have t1:=chp T.out.b1 1;have t2:=chp T.out.b1 2;have t3:=chp T.out.b1 3;
 simp at c0 c1 c2 t0 t1 t2 t3;
 clear hb2))
  | (go_at_call 126;refine Calls.mono (af5 _ _) ?_;rintro e w2⟨rfl,rfl⟩)
  | (go_at_call 127;refine Calls.mono (af0 _ _) ?_;rintro e w2⟨rfl,rfl⟩)
  | (go_at_call 83;refine Calls.mono (af6 _ _ _ ns _ _ _ _ _ ?_ N.out hl) ?_;(simp);rintro e w2⟨rfl,hb2⟩;(
 have T:=qb (T.out.stays hb2);have N:=qb (N.out.stays hb2);
 have c0:=chp T.out.b0 0;have c1:=chp T.out.b0 1;have c2:=chp T.out.b0 2;
 have t0:=chp T.out.b1 0;have t1:=chp T.out.b1 1;have t2:=chp T.out.b1 2;have t3:=chp T.out.b1 3;
 simp at c0 c1 c2 t0 t1 t2 t3;
 clear hb2))))
  go_ret
  exact⟨rfl,T.out.bel⟩
 ·have e:inZ 0 1000000 nu=false:=at4.2 (by omega)
  rw[e]
  clear e
  go_enter Tryz.func106,Tryz.ntmps106
  (go_wp2_with (first
  | (go_at_call 81;refine Calls.mono (aa9 _ _ ?_) ?_;(first|exact hs1|exact hs2|exact hs3);rintro e w2⟨rfl,hb2⟩;(
 have T:=qb (T.out.stays hb2);have N:=qb (N.out.stays hb2);
 have c0:=chp T.out.b0 0;have c1:=chp T.out.b0 1;have c2:=chp T.out.b0 2;
 have t0:=chp T.out.b1 0;have t1:=chp T.out.b1 1;have t2:=chp T.out.b1 2;have t3:=chp T.out.b1 3;
 simp at c0 c1 c2 t0 t1 t2 t3;
 clear hb2))
  | (go_at_call 126;refine Calls.mono (af5 _ _) ?_;rintro e w2⟨rfl,rfl⟩)
  | (go_at_call 127;refine Calls.mono (af0 _ _) ?_;rintro e w2⟨rfl,rfl⟩)
  | (go_at_call 83;refine Calls.mono (af6 _ _ _ ns _ _ _ _ _ ?_ N.out hl) ?_;(simp);rintro e w2⟨rfl,hb2⟩;(
 have T:=qb (T.out.stays hb2);have N:=qb (N.out.stays hb2);
 have c0:=chp T.out.b0 0;have c1:=chp T.out.b0 1;have c2:=chp T.out.b0 2;
 have t0:=chp T.out.b1 0;have t1:=chp T.out.b1 1;have t2:=chp T.out.b1 2;have t3:=chp T.out.b1 3;
 simp at c0 c1 c2 t0 t1 t2 t3;
 clear hb2))))
  go_ret
  exact⟨rfl,T.out.bel⟩
theorem bl8 (nv mv pv:Value) (ns:List Nd) (w:World) (hN:af7 w nv ns) (_hl:ns.length≤1048576) (nm:ByteArray) (hs1:nm.size≤1048576) :
  Calls Tryz.prog 106 #[.agg #[nv,mv,pv],.iface 136 (.agg #[.string nm])] w fun e w'=>e=.returned (.bool (aa7 nm))∧Below w.heap.size w w':=by
 have y0:=fun w=>ab4 136 (.agg #[.string nm]) w (by decide)
 have y1:=fun w=>aJ0 (.agg #[.string nm]) w
 have T:=qb (TB.start w nv mv pv #[.string nm] 136)
 have N:=qb (hN.stays T.out.bel)
 clear hN
 go_enter Tryz.func106,Tryz.ntmps106
 (go_wp2_with (first
  | (go_at_call 81;refine Calls.mono (aa9 _ _ ?_) ?_;(first|exact hs1|exact hs2|exact hs3);rintro e w2⟨rfl,hb2⟩;(
 have T:=qb (T.out.stays hb2);have N:=qb (N.out.stays hb2);
 have c0:=chp T.out.b0 0;have c1:=chp T.out.b0 1;have c2:=chp T.out.b0 2;
 have t0:=chp T.out.b1 0;have t1:=chp T.out.b1 1;have t2:=chp T.out.b1 2;have t3:=chp T.out.b1 3;
 simp at c0 c1 c2 t0 t1 t2 t3;
 clear hb2))
  | (go_at_call 126;refine Calls.mono (af5 _ _) ?_;rintro e w2⟨rfl,rfl⟩)
  | (go_at_call 127;refine Calls.mono (af0 _ _) ?_;rintro e w2⟨rfl,rfl⟩)
  | (go_at_call 83;refine Calls.mono (af6 _ _ _ ns _ _ _ _ _ ?_ N.out hl) ?_;(simp);rintro e w2⟨rfl,hb2⟩;(
 have T:=qb (T.out.stays hb2);have N:=qb (N.out.stays hb2);
 have c0:=chp T.out.b0 0;have c1:=chp T.out.b0 1;have c2:=chp T.out.b0 2;
 have t0:=chp T.out.b1 0;have t1:=chp T.out.b1 1;have t2:=chp T.out.b1 2;have t3:=chp T.out.b1 3;
 simp at c0 c1 c2 t0 t1 t2 t3;
 clear hb2))))
 go_ret
 exact⟨rfl,T.out.bel⟩
theorem bf5 (nv mv pv:Value) (ns:List Nd) (w:World) (hN:af7 w nv ns) (_hl:ns.length≤1048576) (nm:ByteArray) (hs1:nm.size≤1048576) :
  Calls Tryz.prog 106 #[.agg #[nv,mv,pv],.iface 152 (.agg #[.string nm])] w fun e w'=>e=.returned (.bool (aa7 nm))∧Below w.heap.size w w':=by
 have y0:=fun w=>ab4 152 (.agg #[.string nm]) w (by decide)
 have y1:=fun w=>ab6 152 (.agg #[.string nm]) w (by decide)
 have y2:=fun w=>ab2 152 (.agg #[.string nm]) w (by decide)
 have y3:=fun w=>ac_ 152 (.agg #[.string nm]) w (by decide)
 have y4:=fun w=>ac4 152 (.agg #[.string nm]) w (by decide)
 have y5:=fun w=>ac9 152 (.agg #[.string nm]) w (by decide)
 have y6:=fun w=>ae4 152 (.agg #[.string nm]) w (by decide)
 have y7:=fun w=>ab8 152 (.agg #[.string nm]) w (by decide)
 have y8:=fun w=>ad_ 152 (.agg #[.string nm]) w (by decide)
 have y9:=fun w=>ac6 152 (.agg #[.string nm]) w (by decide)
 have y10:=fun w=>aF_ (.agg #[.string nm]) w
 have T:=qb (TB.start w nv mv pv #[.string nm] 152)
 have N:=qb (hN.stays T.out.bel)
 clear hN
 go_enter Tryz.func106,Tryz.ntmps106
 (go_wp2_with (first
  | (go_at_call 81;refine Calls.mono (aa9 _ _ ?_) ?_;(first|exact hs1|exact hs2|exact hs3);rintro e w2⟨rfl,hb2⟩;(
 have T:=qb (T.out.stays hb2);have N:=qb (N.out.stays hb2);
 have c0:=chp T.out.b0 0;have c1:=chp T.out.b0 1;have c2:=chp T.out.b0 2;
 have t0:=chp T.out.b1 0;have t1:=chp T.out.b1 1;have t2:=chp T.out.b1 2;have t3:=chp T.out.b1 3;
 simp at c0 c1 c2 t0 t1 t2 t3;
 clear hb2))
  | (go_at_call 126;refine Calls.mono (af5 _ _) ?_;rintro e w2⟨rfl,rfl⟩)
  | (go_at_call 127;refine Calls.mono (af0 _ _) ?_;rintro e w2⟨rfl,rfl⟩)
  | (go_at_call 83;refine Calls.mono (af6 _ _ _ ns _ _ _ _ _ ?_ N.out hl) ?_;(simp);rintro e w2⟨rfl,hb2⟩;(
 have T:=qb (T.out.stays hb2);have N:=qb (N.out.stays hb2);
 have c0:=chp T.out.b0 0;have c1:=chp T.out.b0 1;have c2:=chp T.out.b0 2;
 have t0:=chp T.out.b1 0;have t1:=chp T.out.b1 1;have t2:=chp T.out.b1 2;have t3:=chp T.out.b1 3;
 simp at c0 c1 c2 t0 t1 t2 t3;
 clear hb2))))
 go_ret
 exact⟨rfl,T.out.bel⟩
theorem aX4 (nv mv pv:Value) (ns:List Nd) (w:World) (hN:af7 w nv ns) (_hl:ns.length≤1048576) (nm:ByteArray) (hs1:nm.size≤1048576) :
  Calls Tryz.prog 106 #[.agg #[nv,mv,pv],.iface 153 (.agg #[.string nm])] w fun e w'=>e=.returned (.bool (aa7 nm))∧Below w.heap.size w w':=by
 have y0:=fun w=>ab4 153 (.agg #[.string nm]) w (by decide)
 have y1:=fun w=>ab6 153 (.agg #[.string nm]) w (by decide)
 have y2:=fun w=>ab2 153 (.agg #[.string nm]) w (by decide)
 have y3:=fun w=>ac_ 153 (.agg #[.string nm]) w (by decide)
 have y4:=fun w=>ac4 153 (.agg #[.string nm]) w (by decide)
 have y5:=fun w=>ac9 153 (.agg #[.string nm]) w (by decide)
 have y6:=fun w=>ae4 153 (.agg #[.string nm]) w (by decide)
 have y7:=fun w=>ab8 153 (.agg #[.string nm]) w (by decide)
 have y8:=fun w=>ad_ 153 (.agg #[.string nm]) w (by decide)
 have y9:=fun w=>ac6 153 (.agg #[.string nm]) w (by decide)
 have y10:=fun w=>ae_ 153 (.agg #[.string nm]) w (by decide)
 have y11:=fun w=>aB2 (.agg #[.string nm]) w
 have T:=qb (TB.start w nv mv pv #[.string nm] 153)
 have N:=qb (hN.stays T.out.bel)
 clear hN
 go_enter Tryz.func106,Tryz.ntmps106
 (go_wp2_with (first
  | (go_at_call 81;refine Calls.mono (aa9 _ _ ?_) ?_;(first|exact hs1|exact hs2|exact hs3);rintro e w2⟨rfl,hb2⟩;(
 have T:=qb (T.out.stays hb2);have N:=qb (N.out.stays hb2);
 have c0:=chp T.out.b0 0;have c1:=chp T.out.b0 1;have c2:=chp T.out.b0 2;
 have t0:=chp T.out.b1 0;have t1:=chp T.out.b1 1;have t2:=chp T.out.b1 2;have t3:=chp T.out.b1 3;
 simp at c0 c1 c2 t0 t1 t2 t3;
 clear hb2))
  | (go_at_call 126;refine Calls.mono (af5 _ _) ?_;rintro e w2⟨rfl,rfl⟩)
  | (go_at_call 127;refine Calls.mono (af0 _ _) ?_;rintro e w2⟨rfl,rfl⟩)
  | (go_at_call 83;refine Calls.mono (af6 _ _ _ ns _ _ _ _ _ ?_ N.out hl) ?_;(simp);rintro e w2⟨rfl,hb2⟩;(
 have T:=qb (T.out.stays hb2);have N:=qb (N.out.stays hb2);
 have c0:=chp T.out.b0 0;have c1:=chp T.out.b0 1;have c2:=chp T.out.b0 2;
 have t0:=chp T.out.b1 0;have t1:=chp T.out.b1 1;have t2:=chp T.out.b1 2;have t3:=chp T.out.b1 3;
 simp at c0 c1 c2 t0 t1 t2 t3;
 clear hb2))))
 go_ret
 exact⟨rfl,T.out.bel⟩
theorem bf4 (nv mv pv:Value) (ns:List Nd) (w:World) (hN:af7 w nv ns) (_hl:ns.length≤1048576) (nm:ByteArray) (hs1:nm.size≤1048576) :
  Calls Tryz.prog 106 #[.agg #[nv,mv,pv],.iface 154 (.agg #[.string nm])] w fun e w'=>e=.returned (.bool (aa7 nm))∧Below w.heap.size w w':=by
 have y0:=fun w=>ab4 154 (.agg #[.string nm]) w (by decide)
 have y1:=fun w=>ab6 154 (.agg #[.string nm]) w (by decide)
 have y2:=fun w=>ab2 154 (.agg #[.string nm]) w (by decide)
 have y3:=fun w=>ac_ 154 (.agg #[.string nm]) w (by decide)
 have y4:=fun w=>ac4 154 (.agg #[.string nm]) w (by decide)
 have y5:=fun w=>ac9 154 (.agg #[.string nm]) w (by decide)
 have y6:=fun w=>ae4 154 (.agg #[.string nm]) w (by decide)
 have y7:=fun w=>ab8 154 (.agg #[.string nm]) w (by decide)
 have y8:=fun w=>ad_ 154 (.agg #[.string nm]) w (by decide)
 have y9:=fun w=>ac6 154 (.agg #[.string nm]) w (by decide)
 have y10:=fun w=>ae_ 154 (.agg #[.string nm]) w (by decide)
 have y11:=fun w=>ad6 154 (.agg #[.string nm]) w (by decide)
 have y12:=fun w=>aE9 (.agg #[.string nm]) w
 have T:=qb (TB.start w nv mv pv #[.string nm] 154)
 have N:=qb (hN.stays T.out.bel)
 clear hN
 go_enter Tryz.func106,Tryz.ntmps106
 (go_wp2_with (first
  | (go_at_call 81;refine Calls.mono (aa9 _ _ ?_) ?_;(first|exact hs1|exact hs2|exact hs3);rintro e w2⟨rfl,hb2⟩;(
 have T:=qb (T.out.stays hb2);have N:=qb (N.out.stays hb2);
 have c0:=chp T.out.b0 0;have c1:=chp T.out.b0 1;have c2:=chp T.out.b0 2;
 have t0:=chp T.out.b1 0;have t1:=chp T.out.b1 1;have t2:=chp T.out.b1 2;have t3:=chp T.out.b1 3;
 simp at c0 c1 c2 t0 t1 t2 t3;
 clear hb2))
  | (go_at_call 126;refine Calls.mono (af5 _ _) ?_;rintro e w2⟨rfl,rfl⟩)
  | (go_at_call 127;refine Calls.mono (af0 _ _) ?_;rintro e w2⟨rfl,rfl⟩)
  | (go_at_call 83;refine Calls.mono (af6 _ _ _ ns _ _ _ _ _ ?_ N.out hl) ?_;(simp);rintro e w2⟨rfl,hb2⟩;(
 have T:=qb (T.out.stays hb2);have N:=qb (N.out.stays hb2);
 have c0:=chp T.out.b0 0;have c1:=chp T.out.b0 1;have c2:=chp T.out.b0 2;
 have t0:=chp T.out.b1 0;have t1:=chp T.out.b1 1;have t2:=chp T.out.b1 2;have t3:=chp T.out.b1 3;
 simp at c0 c1 c2 t0 t1 t2 t3;
 clear hb2))))
 go_ret
 exact⟨rfl,T.out.bel⟩
theorem bf2 (nv mv pv:Value) (ns:List Nd) (w:World) (hN:af7 w nv ns) (hl:ns.length≤1048576) (nu a b:Int) :
  Calls Tryz.prog 106 #[.agg #[nv,mv,pv],.iface 138 (.agg #[.int .i64 nu,.int .i64 a,.int .i64 b])] w fun e w'=>e=.returned (.bool ((decide (1≤nu) && decide (nu≤9)) && (aa1 ns 1 a && aa1 ns 1 b)))∧Below w.heap.size w w':=by
 have y0:=fun w=>ab4 138 (.agg #[.int .i64 nu,.int .i64 a,.int .i64 b]) w (by decide)
 have y1:=fun w=>ab6 138 (.agg #[.int .i64 nu,.int .i64 a,.int .i64 b]) w (by decide)
 have y2:=fun w=>aE7 (.agg #[.int .i64 nu,.int .i64 a,.int .i64 b]) w
 have T:=qb (TB.start w nv mv pv #[.int .i64 nu,.int .i64 a,.int .i64 b] 138)
 have N:=qb (hN.stays T.out.bel)
 clear hN
 cases h:(decide (1≤nu) && decide (nu≤9)) with
 | false =>
  rw[Bool.false_and]
  go_enter Tryz.func106,Tryz.ntmps106
  (go_wp2_with (first
  | (go_at_call 127;refine Calls.mono (af0 _ _) ?_;rintro e w2⟨rfl,rfl⟩)
  | (go_at_call 83;refine Calls.mono (aS5 _ _ _ ns _ _ _ _ _ _ ?_ N.out hl) ?_;(simp);rintro e w2⟨rfl,hb2⟩;(
 have T:=qb (T.out.stays hb2);have N:=qb (N.out.stays hb2);
 have c0:=chp T.out.b0 0;have c1:=chp T.out.b0 1;have c2:=chp T.out.b0 2;
 have t0:=chp T.out.b1 0;have t1:=chp T.out.b1 1;have t2:=chp T.out.b1 2;have t3:=chp T.out.b1 3;
 simp at c0 c1 c2 t0 t1 t2 t3;
 clear hb2))))
  go_ret
  exact⟨rfl,T.out.bel⟩
 | true =>
  rw[Bool.true_and]
  go_enter Tryz.func106,Tryz.ntmps106
  (go_wp2_with (first
  | (go_at_call 127;refine Calls.mono (af0 _ _) ?_;rintro e w2⟨rfl,rfl⟩)
  | (go_at_call 83;refine Calls.mono (aS5 _ _ _ ns _ _ _ _ _ _ ?_ N.out hl) ?_;(simp);rintro e w2⟨rfl,hb2⟩;(
 have T:=qb (T.out.stays hb2);have N:=qb (N.out.stays hb2);
 have c0:=chp T.out.b0 0;have c1:=chp T.out.b0 1;have c2:=chp T.out.b0 2;
 have t0:=chp T.out.b1 0;have t1:=chp T.out.b1 1;have t2:=chp T.out.b1 2;have t3:=chp T.out.b1 3;
 simp at c0 c1 c2 t0 t1 t2 t3;
 clear hb2))))
  go_ret
  exact⟨rfl,T.out.bel⟩
theorem bl5 (nv mv pv:Value) (ns:List Nd) (w:World) (hN:af7 w nv ns) (hl:ns.length≤1048576) (a:Int) :
  Calls Tryz.prog 106 #[.agg #[nv,mv,pv],.iface 140 (.agg #[.int .i64 a])] w fun e w'=>e=.returned (.bool (aa1 ns 1 a))∧Below w.heap.size w w':=by
 have y0:=fun w=>ab4 140 (.agg #[.int .i64 a]) w (by decide)
 have y1:=fun w=>ab6 140 (.agg #[.int .i64 a]) w (by decide)
 have y2:=fun w=>ab2 140 (.agg #[.int .i64 a]) w (by decide)
 have y3:=fun w=>aI8 (.agg #[.int .i64 a]) w
 have T:=qb (TB.start w nv mv pv #[.int .i64 a] 140)
 have N:=qb (hN.stays T.out.bel)
 clear hN
 go_enter Tryz.func106,Tryz.ntmps106
 (go_wp2_with (first
  | (go_at_call 81;refine Calls.mono (aa9 _ _ ?_) ?_;(first|exact hs1|exact hs2|exact hs3);rintro e w2⟨rfl,hb2⟩;(
 have T:=qb (T.out.stays hb2);have N:=qb (N.out.stays hb2);
 have c0:=chp T.out.b0 0;have c1:=chp T.out.b0 1;have c2:=chp T.out.b0 2;
 have t0:=chp T.out.b1 0;have t1:=chp T.out.b1 1;have t2:=chp T.out.b1 2;have t3:=chp T.out.b1 3;
 simp at c0 c1 c2 t0 t1 t2 t3;
 clear hb2))
  | (go_at_call 126;refine Calls.mono (af5 _ _) ?_;rintro e w2⟨rfl,rfl⟩)
  | (go_at_call 127;refine Calls.mono (af0 _ _) ?_;rintro e w2⟨rfl,rfl⟩)
  | (go_at_call 83;refine Calls.mono (af6 _ _ _ ns _ _ _ _ _ ?_ N.out hl) ?_;(simp);rintro e w2⟨rfl,hb2⟩;(
 have T:=qb (T.out.stays hb2);have N:=qb (N.out.stays hb2);
 have c0:=chp T.out.b0 0;have c1:=chp T.out.b0 1;have c2:=chp T.out.b0 2;
 have t0:=chp T.out.b1 0;have t1:=chp T.out.b1 1;have t2:=chp T.out.b1 2;have t3:=chp T.out.b1 3;
 simp at c0 c1 c2 t0 t1 t2 t3;
 clear hb2))))
 go_ret
 exact⟨rfl,T.out.bel⟩
theorem bl4 (nv mv pv:Value) (ns:List Nd) (w:World) (hN:af7 w nv ns) (hl:ns.length≤1048576) (a:Int) :
  Calls Tryz.prog 106 #[.agg #[nv,mv,pv],.iface 141 (.agg #[.int .i64 a])] w fun e w'=>e=.returned (.bool (aa1 ns 1 a))∧Below w.heap.size w w':=by
 have y0:=fun w=>ab4 141 (.agg #[.int .i64 a]) w (by decide)
 have y1:=fun w=>ab6 141 (.agg #[.int .i64 a]) w (by decide)
 have y2:=fun w=>ab2 141 (.agg #[.int .i64 a]) w (by decide)
 have y3:=fun w=>ac_ 141 (.agg #[.int .i64 a]) w (by decide)
 have y4:=fun w=>aI7 (.agg #[.int .i64 a]) w
 have T:=qb (TB.start w nv mv pv #[.int .i64 a] 141)
 have N:=qb (hN.stays T.out.bel)
 clear hN
 go_enter Tryz.func106,Tryz.ntmps106
 (go_wp2_with (first
  | (go_at_call 81;refine Calls.mono (aa9 _ _ ?_) ?_;(first|exact hs1|exact hs2|exact hs3);rintro e w2⟨rfl,hb2⟩;(
 have T:=qb (T.out.stays hb2);have N:=qb (N.out.stays hb2);
 have c0:=chp T.out.b0 0;have c1:=chp T.out.b0 1;have c2:=chp T.out.b0 2;
 have t0:=chp T.out.b1 0;have t1:=chp T.out.b1 1;have t2:=chp T.out.b1 2;have t3:=chp T.out.b1 3;
 simp at c0 c1 c2 t0 t1 t2 t3;
 clear hb2))
  | (go_at_call 126;refine Calls.mono (af5 _ _) ?_;rintro e w2⟨rfl,rfl⟩)
  | (go_at_call 127;refine Calls.mono (af0 _ _) ?_;rintro e w2⟨rfl,rfl⟩)
  | (go_at_call 83;refine Calls.mono (af6 _ _ _ ns _ _ _ _ _ ?_ N.out hl) ?_;(simp);rintro e w2⟨rfl,hb2⟩;(
 have T:=qb (T.out.stays hb2);have N:=qb (N.out.stays hb2);
 have c0:=chp T.out.b0 0;have c1:=chp T.out.b0 1;have c2:=chp T.out.b0 2;
 have t0:=chp T.out.b1 0;have t1:=chp T.out.b1 1;have t2:=chp T.out.b1 2;have t3:=chp T.out.b1 3;
 simp at c0 c1 c2 t0 t1 t2 t3;
 clear hb2))))
 go_ret
 exact⟨rfl,T.out.bel⟩
theorem aX5 (nv mv pv:Value) (ns:List Nd) (w:World) (hN:af7 w nv ns) (hl:ns.length≤1048576) (a:Int) :
  Calls Tryz.prog 106 #[.agg #[nv,mv,pv],.iface 151 (.agg #[.int .i64 a])] w fun e w'=>e=.returned (.bool (aa1 ns 1 a))∧Below w.heap.size w w':=by
 have y0:=fun w=>ab4 151 (.agg #[.int .i64 a]) w (by decide)
 have y1:=fun w=>ab6 151 (.agg #[.int .i64 a]) w (by decide)
 have y2:=fun w=>ab2 151 (.agg #[.int .i64 a]) w (by decide)
 have y3:=fun w=>ac_ 151 (.agg #[.int .i64 a]) w (by decide)
 have y4:=fun w=>ac4 151 (.agg #[.int .i64 a]) w (by decide)
 have y5:=fun w=>ac9 151 (.agg #[.int .i64 a]) w (by decide)
 have y6:=fun w=>ae4 151 (.agg #[.int .i64 a]) w (by decide)
 have y7:=fun w=>ab8 151 (.agg #[.int .i64 a]) w (by decide)
 have y8:=fun w=>ad_ 151 (.agg #[.int .i64 a]) w (by decide)
 have y9:=fun w=>aB3 (.agg #[.int .i64 a]) w
 have T:=qb (TB.start w nv mv pv #[.int .i64 a] 151)
 have N:=qb (hN.stays T.out.bel)
 clear hN
 go_enter Tryz.func106,Tryz.ntmps106
 (go_wp2_with (first
  | (go_at_call 81;refine Calls.mono (aa9 _ _ ?_) ?_;(first|exact hs1|exact hs2|exact hs3);rintro e w2⟨rfl,hb2⟩;(
 have T:=qb (T.out.stays hb2);have N:=qb (N.out.stays hb2);
 have c0:=chp T.out.b0 0;have c1:=chp T.out.b0 1;have c2:=chp T.out.b0 2;
 have t0:=chp T.out.b1 0;have t1:=chp T.out.b1 1;have t2:=chp T.out.b1 2;have t3:=chp T.out.b1 3;
 simp at c0 c1 c2 t0 t1 t2 t3;
 clear hb2))
  | (go_at_call 126;refine Calls.mono (af5 _ _) ?_;rintro e w2⟨rfl,rfl⟩)
  | (go_at_call 127;refine Calls.mono (af0 _ _) ?_;rintro e w2⟨rfl,rfl⟩)
  | (go_at_call 83;refine Calls.mono (af6 _ _ _ ns _ _ _ _ _ ?_ N.out hl) ?_;(simp);rintro e w2⟨rfl,hb2⟩;(
 have T:=qb (T.out.stays hb2);have N:=qb (N.out.stays hb2);
 have c0:=chp T.out.b0 0;have c1:=chp T.out.b0 1;have c2:=chp T.out.b0 2;
 have t0:=chp T.out.b1 0;have t1:=chp T.out.b1 1;have t2:=chp T.out.b1 2;have t3:=chp T.out.b1 3;
 simp at c0 c1 c2 t0 t1 t2 t3;
 clear hb2))))
 go_ret
 exact⟨rfl,T.out.bel⟩
theorem bl7 (nv mv pv:Value) (ns:List Nd) (w:World) (hN:af7 w nv ns) (hl:ns.length≤1048576) (nm:ByteArray) (hs1:nm.size≤1048576) (a:Int) :
  Calls Tryz.prog 106 #[.agg #[nv,mv,pv],.iface 143 (.agg #[.string nm,.int .i64 a])] w fun e w'=>e=.returned (.bool (aa7 nm && aa1 ns 1 a))∧Below w.heap.size w w':=by
 have y0:=fun w=>ab4 143 (.agg #[.string nm,.int .i64 a]) w (by decide)
 have y1:=fun w=>ab6 143 (.agg #[.string nm,.int .i64 a]) w (by decide)
 have y2:=fun w=>ab2 143 (.agg #[.string nm,.int .i64 a]) w (by decide)
 have y3:=fun w=>ac_ 143 (.agg #[.string nm,.int .i64 a]) w (by decide)
 have y4:=fun w=>ac4 143 (.agg #[.string nm,.int .i64 a]) w (by decide)
 have y5:=fun w=>aJ_ (.agg #[.string nm,.int .i64 a]) w
 have T:=qb (TB.start w nv mv pv #[.string nm,.int .i64 a] 143)
 have N:=qb (hN.stays T.out.bel)
 clear hN
 cases h:(aa7 nm) with
 | false =>
  rw[Bool.false_and]
  go_enter Tryz.func106,Tryz.ntmps106
  (go_wp2_with (first
  | (go_at_call 81;refine Calls.mono (aa9 _ _ ?_) ?_;(first|exact hs1|exact hs2|exact hs3);rintro e w2⟨rfl,hb2⟩;(
 have T:=qb (T.out.stays hb2);have N:=qb (N.out.stays hb2);
 have c0:=chp T.out.b0 0;have c1:=chp T.out.b0 1;have c2:=chp T.out.b0 2;
 have t0:=chp T.out.b1 0;have t1:=chp T.out.b1 1;have t2:=chp T.out.b1 2;have t3:=chp T.out.b1 3;
 simp at c0 c1 c2 t0 t1 t2 t3;
 clear hb2))
  | (go_at_call 126;refine Calls.mono (af5 _ _) ?_;rintro e w2⟨rfl,rfl⟩)
  | (go_at_call 127;refine Calls.mono (af0 _ _) ?_;rintro e w2⟨rfl,rfl⟩)
  | (go_at_call 83;refine Calls.mono (af6 _ _ _ ns _ _ _ _ _ ?_ N.out hl) ?_;(simp);rintro e w2⟨rfl,hb2⟩;(
 have T:=qb (T.out.stays hb2);have N:=qb (N.out.stays hb2);
 have c0:=chp T.out.b0 0;have c1:=chp T.out.b0 1;have c2:=chp T.out.b0 2;
 have t0:=chp T.out.b1 0;have t1:=chp T.out.b1 1;have t2:=chp T.out.b1 2;have t3:=chp T.out.b1 3;
 simp at c0 c1 c2 t0 t1 t2 t3;
 clear hb2))))
  go_ret
  exact⟨rfl,T.out.bel⟩
 | true =>
  rw[Bool.true_and]
  go_enter Tryz.func106,Tryz.ntmps106
  (go_wp2_with (first
  | (go_at_call 81;refine Calls.mono (aa9 _ _ ?_) ?_;(first|exact hs1|exact hs2|exact hs3);rintro e w2⟨rfl,hb2⟩;(
 have T:=qb (T.out.stays hb2);have N:=qb (N.out.stays hb2);
 have c0:=chp T.out.b0 0;have c1:=chp T.out.b0 1;have c2:=chp T.out.b0 2;
 have t0:=chp T.out.b1 0;have t1:=chp T.out.b1 1;have t2:=chp T.out.b1 2;have t3:=chp T.out.b1 3;
 simp at c0 c1 c2 t0 t1 t2 t3;
 clear hb2))
  | (go_at_call 126;refine Calls.mono (af5 _ _) ?_;rintro e w2⟨rfl,rfl⟩)
  | (go_at_call 127;refine Calls.mono (af0 _ _) ?_;rintro e w2⟨rfl,rfl⟩)
  | (go_at_call 83;refine Calls.mono (af6 _ _ _ ns _ _ _ _ _ ?_ N.out hl) ?_;(simp);rintro e w2⟨rfl,hb2⟩;(
 have T:=qb (T.out.stays hb2);have N:=qb (N.out.stays hb2);
 have c0:=chp T.out.b0 0;have c1:=chp T.out.b0 1;have c2:=chp T.out.b0 2;
 have t0:=chp T.out.b1 0;have t1:=chp T.out.b1 1;have t2:=chp T.out.b1 2;have t3:=chp T.out.b1 3;
 simp at c0 c1 c2 t0 t1 t2 t3;
 clear hb2))))
  go_ret
  exact⟨rfl,T.out.bel⟩
theorem aX6 (nv mv pv:Value) (ns:List Nd) (w:World) (hN:af7 w nv ns) (hl:ns.length≤1048576) (a b:Int) :
  Calls Tryz.prog 106 #[.agg #[nv,mv,pv],.iface 147 (.agg #[.int .i64 a,.int .i64 b])] w fun e w'=>e=.returned (.bool (aa1 ns 1 a && aa1 ns 3 b))∧Below w.heap.size w w':=by
 have y0:=fun w=>ab4 147 (.agg #[.int .i64 a,.int .i64 b]) w (by decide)
 have y1:=fun w=>ab6 147 (.agg #[.int .i64 a,.int .i64 b]) w (by decide)
 have y2:=fun w=>ab2 147 (.agg #[.int .i64 a,.int .i64 b]) w (by decide)
 have y3:=fun w=>ac_ 147 (.agg #[.int .i64 a,.int .i64 b]) w (by decide)
 have y4:=fun w=>ac4 147 (.agg #[.int .i64 a,.int .i64 b]) w (by decide)
 have y5:=fun w=>ac9 147 (.agg #[.int .i64 a,.int .i64 b]) w (by decide)
 have y6:=fun w=>ae4 147 (.agg #[.int .i64 a,.int .i64 b]) w (by decide)
 have y7:=fun w=>aB4 (.agg #[.int .i64 a,.int .i64 b]) w
 have T:=qb (TB.start w nv mv pv #[.int .i64 a,.int .i64 b] 147)
 have N:=qb (hN.stays T.out.bel)
 clear hN
 cases h:(aa1 ns 1 a) with
 | false =>
  rw[Bool.false_and]
  go_enter Tryz.func106,Tryz.ntmps106
  (go_wp2_with (first
  | (go_at_call 81;refine Calls.mono (aa9 _ _ ?_) ?_;(first|exact hs1|exact hs2|exact hs3);rintro e w2⟨rfl,hb2⟩;(
 have T:=qb (T.out.stays hb2);have N:=qb (N.out.stays hb2);
 have c0:=chp T.out.b0 0;have c1:=chp T.out.b0 1;have c2:=chp T.out.b0 2;
 have t0:=chp T.out.b1 0;have t1:=chp T.out.b1 1;have t2:=chp T.out.b1 2;have t3:=chp T.out.b1 3;
 simp at c0 c1 c2 t0 t1 t2 t3;
 clear hb2))
  | (go_at_call 126;refine Calls.mono (af5 _ _) ?_;rintro e w2⟨rfl,rfl⟩)
  | (go_at_call 127;refine Calls.mono (af0 _ _) ?_;rintro e w2⟨rfl,rfl⟩)
  | (go_at_call 83;refine Calls.mono (af6 _ _ _ ns _ _ _ _ _ ?_ N.out hl) ?_;(simp);rintro e w2⟨rfl,hb2⟩;(
 have T:=qb (T.out.stays hb2);have N:=qb (N.out.stays hb2);
 have c0:=chp T.out.b0 0;have c1:=chp T.out.b0 1;have c2:=chp T.out.b0 2;
 have t0:=chp T.out.b1 0;have t1:=chp T.out.b1 1;have t2:=chp T.out.b1 2;have t3:=chp T.out.b1 3;
 simp at c0 c1 c2 t0 t1 t2 t3;
 clear hb2))))
  go_ret
  exact⟨rfl,T.out.bel⟩
 | true =>
  rw[Bool.true_and]
  go_enter Tryz.func106,Tryz.ntmps106
  (go_wp2_with (first
  | (go_at_call 81;refine Calls.mono (aa9 _ _ ?_) ?_;(first|exact hs1|exact hs2|exact hs3);rintro e w2⟨rfl,hb2⟩;(
 have T:=qb (T.out.stays hb2);have N:=qb (N.out.stays hb2);
 have c0:=chp T.out.b0 0;have c1:=chp T.out.b0 1;have c2:=chp T.out.b0 2;
 have t0:=chp T.out.b1 0;have t1:=chp T.out.b1 1;have t2:=chp T.out.b1 2;have t3:=chp T.out.b1 3;
 simp at c0 c1 c2 t0 t1 t2 t3;
 clear hb2))
  | (go_at_call 126;refine Calls.mono (af5 _ _) ?_;rintro e w2⟨rfl,rfl⟩)
  | (go_at_call 127;refine Calls.mono (af0 _ _) ?_;rintro e w2⟨rfl,rfl⟩)
  | (go_at_call 83;refine Calls.mono (af6 _ _ _ ns _ _ _ _ _ ?_ N.out hl) ?_;(simp);rintro e w2⟨rfl,hb2⟩;(
 have T:=qb (T.out.stays hb2);have N:=qb (N.out.stays hb2);
 have c0:=chp T.out.b0 0;have c1:=chp T.out.b0 1;have c2:=chp T.out.b0 2;
 have t0:=chp T.out.b1 0;have t1:=chp T.out.b1 1;have t2:=chp T.out.b1 2;have t3:=chp T.out.b1 3;
 simp at c0 c1 c2 t0 t1 t2 t3;
 clear hb2))))
  go_ret
  exact⟨rfl,T.out.bel⟩
theorem right_if (nv mv pv:Value) (ns:List Nd) (w:World) (hN:af7 w nv ns) (hl:ns.length≤1048576) (a b c:Int) :
  Calls Tryz.prog 106 #[.agg #[nv,mv,pv],.iface 145 (.agg #[.int .i64 a,.int .i64 b,.int .i64 c])] w fun e w'=>e=.returned (.bool (aa1 ns 1 a && aa1 ns 3 b && (decide (c = -1) || aa1 ns 3 c)))∧Below w.heap.size w w':=by
 have y0:=fun w=>ab4 145 (.agg #[.int .i64 a,.int .i64 b,.int .i64 c]) w (by decide)
 have y1:=fun w=>ab6 145 (.agg #[.int .i64 a,.int .i64 b,.int .i64 c]) w (by decide)
 have y2:=fun w=>ab2 145 (.agg #[.int .i64 a,.int .i64 b,.int .i64 c]) w (by decide)
 have y3:=fun w=>ac_ 145 (.agg #[.int .i64 a,.int .i64 b,.int .i64 c]) w (by decide)
 have y4:=fun w=>ac4 145 (.agg #[.int .i64 a,.int .i64 b,.int .i64 c]) w (by decide)
 have y5:=fun w=>ac9 145 (.agg #[.int .i64 a,.int .i64 b,.int .i64 c]) w (by decide)
 have y6:=fun w=>aR_ (.agg #[.int .i64 a,.int .i64 b,.int .i64 c]) w
 have T:=qb (TB.start w nv mv pv #[.int .i64 a,.int .i64 b,.int .i64 c] 145)
 have N:=qb (hN.stays T.out.bel)
 clear hN
 obtain⟨s,es⟩:∃ s,(aa1 ns 1 a && aa1 ns 3 b && (decide (c = -1) || aa1 ns 3 c))=s:=⟨_,rfl⟩
 rw[es]
 cases h1:aa1 ns 1 a with
 | false =>
  have e:s=false:=by rw[←es,h1];rfl
  subst e
  clear es
  go_enter Tryz.func106,Tryz.ntmps106
  (go_wp2_with (first
  | (go_at_call 81;refine Calls.mono (aa9 _ _ ?_) ?_;(first|exact hs1|exact hs2|exact hs3);rintro e w2⟨rfl,hb2⟩;(
 have T:=qb (T.out.stays hb2);have N:=qb (N.out.stays hb2);
 have c0:=chp T.out.b0 0;have c1:=chp T.out.b0 1;have c2:=chp T.out.b0 2;
 have t0:=chp T.out.b1 0;have t1:=chp T.out.b1 1;have t2:=chp T.out.b1 2;have t3:=chp T.out.b1 3;
 simp at c0 c1 c2 t0 t1 t2 t3;
 clear hb2))
  | (go_at_call 126;refine Calls.mono (af5 _ _) ?_;rintro e w2⟨rfl,rfl⟩)
  | (go_at_call 127;refine Calls.mono (af0 _ _) ?_;rintro e w2⟨rfl,rfl⟩)
  | (go_at_call 83;refine Calls.mono (af6 _ _ _ ns _ _ _ _ _ ?_ N.out hl) ?_;(simp);rintro e w2⟨rfl,hb2⟩;(
 have T:=qb (T.out.stays hb2);have N:=qb (N.out.stays hb2);
 have c0:=chp T.out.b0 0;have c1:=chp T.out.b0 1;have c2:=chp T.out.b0 2;
 have t0:=chp T.out.b1 0;have t1:=chp T.out.b1 1;have t2:=chp T.out.b1 2;have t3:=chp T.out.b1 3;
 simp at c0 c1 c2 t0 t1 t2 t3;
 clear hb2))))
  go_ret
  exact⟨rfl,T.out.bel⟩
 | true =>
  cases h2:aa1 ns 3 b with
  | false =>
   have e:s=false:=by rw[←es,h1,h2];rfl
   subst e
   clear es
   go_enter Tryz.func106,Tryz.ntmps106
   (go_wp2_with (first
  | (go_at_call 81;refine Calls.mono (aa9 _ _ ?_) ?_;(first|exact hs1|exact hs2|exact hs3);rintro e w2⟨rfl,hb2⟩;(
 have T:=qb (T.out.stays hb2);have N:=qb (N.out.stays hb2);
 have c0:=chp T.out.b0 0;have c1:=chp T.out.b0 1;have c2:=chp T.out.b0 2;
 have t0:=chp T.out.b1 0;have t1:=chp T.out.b1 1;have t2:=chp T.out.b1 2;have t3:=chp T.out.b1 3;
 simp at c0 c1 c2 t0 t1 t2 t3;
 clear hb2))
  | (go_at_call 126;refine Calls.mono (af5 _ _) ?_;rintro e w2⟨rfl,rfl⟩)
  | (go_at_call 127;refine Calls.mono (af0 _ _) ?_;rintro e w2⟨rfl,rfl⟩)
  | (go_at_call 83;refine Calls.mono (af6 _ _ _ ns _ _ _ _ _ ?_ N.out hl) ?_;(simp);rintro e w2⟨rfl,hb2⟩;(
 have T:=qb (T.out.stays hb2);have N:=qb (N.out.stays hb2);
 have c0:=chp T.out.b0 0;have c1:=chp T.out.b0 1;have c2:=chp T.out.b0 2;
 have t0:=chp T.out.b1 0;have t1:=chp T.out.b1 1;have t2:=chp T.out.b1 2;have t3:=chp T.out.b1 3;
 simp at c0 c1 c2 t0 t1 t2 t3;
 clear hb2))))
   go_ret
   exact⟨rfl,T.out.bel⟩
  | true =>
   by_cases h3:c = -1
   ·have e:s=true:=by rw[←es,h1,h2,h3];rfl
    subst e
    subst h3
    clear es
    go_enter Tryz.func106,Tryz.ntmps106
    (go_wp2_with (first
  | (go_at_call 81;refine Calls.mono (aa9 _ _ ?_) ?_;(first|exact hs1|exact hs2|exact hs3);rintro e w2⟨rfl,hb2⟩;(
 have T:=qb (T.out.stays hb2);have N:=qb (N.out.stays hb2);
 have c0:=chp T.out.b0 0;have c1:=chp T.out.b0 1;have c2:=chp T.out.b0 2;
 have t0:=chp T.out.b1 0;have t1:=chp T.out.b1 1;have t2:=chp T.out.b1 2;have t3:=chp T.out.b1 3;
 simp at c0 c1 c2 t0 t1 t2 t3;
 clear hb2))
  | (go_at_call 126;refine Calls.mono (af5 _ _) ?_;rintro e w2⟨rfl,rfl⟩)
  | (go_at_call 127;refine Calls.mono (af0 _ _) ?_;rintro e w2⟨rfl,rfl⟩)
  | (go_at_call 83;refine Calls.mono (af6 _ _ _ ns _ _ _ _ _ ?_ N.out hl) ?_;(simp);rintro e w2⟨rfl,hb2⟩;(
 have T:=qb (T.out.stays hb2);have N:=qb (N.out.stays hb2);
 have c0:=chp T.out.b0 0;have c1:=chp T.out.b0 1;have c2:=chp T.out.b0 2;
 have t0:=chp T.out.b1 0;have t1:=chp T.out.b1 1;have t2:=chp T.out.b1 2;have t3:=chp T.out.b1 3;
 simp at c0 c1 c2 t0 t1 t2 t3;
 clear hb2))))
    go_ret
    exact⟨rfl,T.out.bel⟩
   ·have e:s=aa1 ns 3 c:=by rw[←es,h1,h2];simp[h3]
    subst e
    clear es
    go_enter Tryz.func106,Tryz.ntmps106
    (go_wp2_with (first
  | (go_at_call 81;refine Calls.mono (aa9 _ _ ?_) ?_;(first|exact hs1|exact hs2|exact hs3);rintro e w2⟨rfl,hb2⟩;(
 have T:=qb (T.out.stays hb2);have N:=qb (N.out.stays hb2);
 have c0:=chp T.out.b0 0;have c1:=chp T.out.b0 1;have c2:=chp T.out.b0 2;
 have t0:=chp T.out.b1 0;have t1:=chp T.out.b1 1;have t2:=chp T.out.b1 2;have t3:=chp T.out.b1 3;
 simp at c0 c1 c2 t0 t1 t2 t3;
 clear hb2))
  | (go_at_call 126;refine Calls.mono (af5 _ _) ?_;rintro e w2⟨rfl,rfl⟩)
  | (go_at_call 127;refine Calls.mono (af0 _ _) ?_;rintro e w2⟨rfl,rfl⟩)
  | (go_at_call 83;refine Calls.mono (af6 _ _ _ ns _ _ _ _ _ ?_ N.out hl) ?_;(simp);rintro e w2⟨rfl,hb2⟩;(
 have T:=qb (T.out.stays hb2);have N:=qb (N.out.stays hb2);
 have c0:=chp T.out.b0 0;have c1:=chp T.out.b0 1;have c2:=chp T.out.b0 2;
 have t0:=chp T.out.b1 0;have t1:=chp T.out.b1 1;have t2:=chp T.out.b1 2;have t3:=chp T.out.b1 3;
 simp at c0 c1 c2 t0 t1 t2 t3;
 clear hb2))))
    go_ret
    exact⟨by show Ending.returned (Value.bool (c == -1 || aa1 ns 3 c))=_;simp[h3],T.out.bel⟩
theorem bf3 (nv mv pv:Value) (ns:List Nd) (w:World) (hN:af7 w nv ns) (hl:ns.length≤1048576) (nm mo it:ByteArray) (hs1:nm.size≤1048576) (hs2:mo.size≤1048576) (hs3:it.size≤1048576) (a:Int) :
  Calls Tryz.prog 106 #[.agg #[nv,mv,pv],.iface 149 (.agg #[.string nm,.string mo,.string it,.int .i64 a])] w fun e w'=>e=.returned (.bool (aa7 nm && aa7 mo && (it.toList.isEmpty || aa7 it) && aa1 ns 1 a))∧Below w.heap.size w w':=by
 have y0:=fun w=>ab4 149 (.agg #[.string nm,.string mo,.string it,.int .i64 a]) w (by decide)
 have y1:=fun w=>ab6 149 (.agg #[.string nm,.string mo,.string it,.int .i64 a]) w (by decide)
 have y2:=fun w=>ab2 149 (.agg #[.string nm,.string mo,.string it,.int .i64 a]) w (by decide)
 have y3:=fun w=>ac_ 149 (.agg #[.string nm,.string mo,.string it,.int .i64 a]) w (by decide)
 have y4:=fun w=>ac4 149 (.agg #[.string nm,.string mo,.string it,.int .i64 a]) w (by decide)
 have y5:=fun w=>ac9 149 (.agg #[.string nm,.string mo,.string it,.int .i64 a]) w (by decide)
 have y6:=fun w=>ae4 149 (.agg #[.string nm,.string mo,.string it,.int .i64 a]) w (by decide)
 have y7:=fun w=>ab8 149 (.agg #[.string nm,.string mo,.string it,.int .i64 a]) w (by decide)
 have y8:=fun w=>aE8 (.agg #[.string nm,.string mo,.string it,.int .i64 a]) w
 have T:=qb (TB.start w nv mv pv #[.string nm,.string mo,.string it,.int .i64 a] 149)
 have N:=qb (hN.stays T.out.bel)
 clear hN
 obtain⟨s,es⟩:∃ s,(aa7 nm && aa7 mo && (it.toList.isEmpty || aa7 it) && aa1 ns 1 a)=s:=⟨_,rfl⟩
 rw[es]
 cases h1:aa7 nm with
 | false =>
  have e:s=false:=by rw[←es,h1];rfl
  subst e
  clear es
  go_enter Tryz.func106,Tryz.ntmps106
  (go_wp2_with (first
  | (go_at_call 81;refine Calls.mono (aa9 _ _ ?_) ?_;(first|exact hs1|exact hs2|exact hs3);rintro e w2⟨rfl,hb2⟩;(
 have T:=qb (T.out.stays hb2);have N:=qb (N.out.stays hb2);
 have c0:=chp T.out.b0 0;have c1:=chp T.out.b0 1;have c2:=chp T.out.b0 2;
 have t0:=chp T.out.b1 0;have t1:=chp T.out.b1 1;have t2:=chp T.out.b1 2;have t3:=chp T.out.b1 3;
 simp at c0 c1 c2 t0 t1 t2 t3;
 clear hb2))
  | (go_at_call 126;refine Calls.mono (af5 _ _) ?_;rintro e w2⟨rfl,rfl⟩)
  | (go_at_call 127;refine Calls.mono (af0 _ _) ?_;rintro e w2⟨rfl,rfl⟩)
  | (go_at_call 83;refine Calls.mono (af6 _ _ _ ns _ _ _ _ _ ?_ N.out hl) ?_;(simp);rintro e w2⟨rfl,hb2⟩;(
 have T:=qb (T.out.stays hb2);have N:=qb (N.out.stays hb2);
 have c0:=chp T.out.b0 0;have c1:=chp T.out.b0 1;have c2:=chp T.out.b0 2;
 have t0:=chp T.out.b1 0;have t1:=chp T.out.b1 1;have t2:=chp T.out.b1 2;have t3:=chp T.out.b1 3;
 simp at c0 c1 c2 t0 t1 t2 t3;
 clear hb2))))
  go_ret
  exact⟨rfl,T.out.bel⟩
 | true =>
  cases h2:aa7 mo with
  | false =>
   have e:s=false:=by rw[←es,h1,h2];rfl
   subst e
   clear es
   go_enter Tryz.func106,Tryz.ntmps106
   (go_wp2_with (first
  | (go_at_call 81;refine Calls.mono (aa9 _ _ ?_) ?_;(first|exact hs1|exact hs2|exact hs3);rintro e w2⟨rfl,hb2⟩;(
 have T:=qb (T.out.stays hb2);have N:=qb (N.out.stays hb2);
 have c0:=chp T.out.b0 0;have c1:=chp T.out.b0 1;have c2:=chp T.out.b0 2;
 have t0:=chp T.out.b1 0;have t1:=chp T.out.b1 1;have t2:=chp T.out.b1 2;have t3:=chp T.out.b1 3;
 simp at c0 c1 c2 t0 t1 t2 t3;
 clear hb2))
  | (go_at_call 126;refine Calls.mono (af5 _ _) ?_;rintro e w2⟨rfl,rfl⟩)
  | (go_at_call 127;refine Calls.mono (af0 _ _) ?_;rintro e w2⟨rfl,rfl⟩)
  | (go_at_call 83;refine Calls.mono (af6 _ _ _ ns _ _ _ _ _ ?_ N.out hl) ?_;(simp);rintro e w2⟨rfl,hb2⟩;(
 have T:=qb (T.out.stays hb2);have N:=qb (N.out.stays hb2);
 have c0:=chp T.out.b0 0;have c1:=chp T.out.b0 1;have c2:=chp T.out.b0 2;
 have t0:=chp T.out.b1 0;have t1:=chp T.out.b1 1;have t2:=chp T.out.b1 2;have t3:=chp T.out.b1 3;
 simp at c0 c1 c2 t0 t1 t2 t3;
 clear hb2))))
   go_ret
   exact⟨rfl,T.out.bel⟩
  | true =>
   cases h3:it.toList.isEmpty with
   | true =>
    have e:s=aa1 ns 1 a:=by rw[←es,h1,h2,h3];rfl
    subst e
    clear es
    go_enter Tryz.func106,Tryz.ntmps106
    (go_wp2_with (first
  | (go_at_call 81;refine Calls.mono (aa9 _ _ ?_) ?_;(first|exact hs1|exact hs2|exact hs3);rintro e w2⟨rfl,hb2⟩;(
 have T:=qb (T.out.stays hb2);have N:=qb (N.out.stays hb2);
 have c0:=chp T.out.b0 0;have c1:=chp T.out.b0 1;have c2:=chp T.out.b0 2;
 have t0:=chp T.out.b1 0;have t1:=chp T.out.b1 1;have t2:=chp T.out.b1 2;have t3:=chp T.out.b1 3;
 simp at c0 c1 c2 t0 t1 t2 t3;
 clear hb2))
  | (go_at_call 126;refine Calls.mono (af5 _ _) ?_;rintro e w2⟨rfl,rfl⟩)
  | (go_at_call 127;refine Calls.mono (af0 _ _) ?_;rintro e w2⟨rfl,rfl⟩)
  | (go_at_call 83;refine Calls.mono (af6 _ _ _ ns _ _ _ _ _ ?_ N.out hl) ?_;(simp);rintro e w2⟨rfl,hb2⟩;(
 have T:=qb (T.out.stays hb2);have N:=qb (N.out.stays hb2);
 have c0:=chp T.out.b0 0;have c1:=chp T.out.b0 1;have c2:=chp T.out.b0 2;
 have t0:=chp T.out.b1 0;have t1:=chp T.out.b1 1;have t2:=chp T.out.b1 2;have t3:=chp T.out.b1 3;
 simp at c0 c1 c2 t0 t1 t2 t3;
 clear hb2))))
    go_ret
    exact⟨rfl,T.out.bel⟩
   | false =>
    cases h4:aa7 it with
    | false =>
     have e:s=false:=by rw[←es,h1,h2,h3,h4];rfl
     subst e
     clear es
     go_enter Tryz.func106,Tryz.ntmps106
     (go_wp2_with (first
  | (go_at_call 81;refine Calls.mono (aa9 _ _ ?_) ?_;(first|exact hs1|exact hs2|exact hs3);rintro e w2⟨rfl,hb2⟩;(
 have T:=qb (T.out.stays hb2);have N:=qb (N.out.stays hb2);
 have c0:=chp T.out.b0 0;have c1:=chp T.out.b0 1;have c2:=chp T.out.b0 2;
 have t0:=chp T.out.b1 0;have t1:=chp T.out.b1 1;have t2:=chp T.out.b1 2;have t3:=chp T.out.b1 3;
 simp at c0 c1 c2 t0 t1 t2 t3;
 clear hb2))
  | (go_at_call 126;refine Calls.mono (af5 _ _) ?_;rintro e w2⟨rfl,rfl⟩)
  | (go_at_call 127;refine Calls.mono (af0 _ _) ?_;rintro e w2⟨rfl,rfl⟩)
  | (go_at_call 83;refine Calls.mono (af6 _ _ _ ns _ _ _ _ _ ?_ N.out hl) ?_;(simp);rintro e w2⟨rfl,hb2⟩;(
 have T:=qb (T.out.stays hb2);have N:=qb (N.out.stays hb2);
 have c0:=chp T.out.b0 0;have c1:=chp T.out.b0 1;have c2:=chp T.out.b0 2;
 have t0:=chp T.out.b1 0;have t1:=chp T.out.b1 1;have t2:=chp T.out.b1 2;have t3:=chp T.out.b1 3;
 simp at c0 c1 c2 t0 t1 t2 t3;
 clear hb2))))
     go_ret
     exact⟨rfl,T.out.bel⟩
    | true =>
     have e:s=aa1 ns 1 a:=by rw[←es,h1,h2,h3,h4];rfl
     subst e
     clear es
     go_enter Tryz.func106,Tryz.ntmps106
     (go_wp2_with (first
  | (go_at_call 81;refine Calls.mono (aa9 _ _ ?_) ?_;(first|exact hs1|exact hs2|exact hs3);rintro e w2⟨rfl,hb2⟩;(
 have T:=qb (T.out.stays hb2);have N:=qb (N.out.stays hb2);
 have c0:=chp T.out.b0 0;have c1:=chp T.out.b0 1;have c2:=chp T.out.b0 2;
 have t0:=chp T.out.b1 0;have t1:=chp T.out.b1 1;have t2:=chp T.out.b1 2;have t3:=chp T.out.b1 3;
 simp at c0 c1 c2 t0 t1 t2 t3;
 clear hb2))
  | (go_at_call 126;refine Calls.mono (af5 _ _) ?_;rintro e w2⟨rfl,rfl⟩)
  | (go_at_call 127;refine Calls.mono (af0 _ _) ?_;rintro e w2⟨rfl,rfl⟩)
  | (go_at_call 83;refine Calls.mono (af6 _ _ _ ns _ _ _ _ _ ?_ N.out hl) ?_;(simp);rintro e w2⟨rfl,hb2⟩;(
 have T:=qb (T.out.stays hb2);have N:=qb (N.out.stays hb2);
 have c0:=chp T.out.b0 0;have c1:=chp T.out.b0 1;have c2:=chp T.out.b0 2;
 have t0:=chp T.out.b1 0;have t1:=chp T.out.b1 1;have t2:=chp T.out.b1 2;have t3:=chp T.out.b1 3;
 simp at c0 c1 c2 t0 t1 t2 t3;
 clear hb2))))
     go_ret
     exact⟨rfl,T.out.bel⟩
theorem bf6 (nv mv pv:Value) (w:World) :
  Calls Tryz.prog 106 #[.agg #[nv,mv,pv],.iface 156 (.agg #[])] w fun e w'=>e=.returned (.bool true)∧Below w.heap.size w w':=by
 have y0:=fun w=>ab4 156 (.agg #[]) w (by decide)
 have y1:=fun w=>ab6 156 (.agg #[]) w (by decide)
 have y2:=fun w=>ab2 156 (.agg #[]) w (by decide)
 have y3:=fun w=>ac_ 156 (.agg #[]) w (by decide)
 have y4:=fun w=>ac4 156 (.agg #[]) w (by decide)
 have y5:=fun w=>ac9 156 (.agg #[]) w (by decide)
 have y6:=fun w=>ae4 156 (.agg #[]) w (by decide)
 have y7:=fun w=>ab8 156 (.agg #[]) w (by decide)
 have y8:=fun w=>ad_ 156 (.agg #[]) w (by decide)
 have y9:=fun w=>ac6 156 (.agg #[]) w (by decide)
 have y10:=fun w=>ae_ 156 (.agg #[]) w (by decide)
 have y11:=fun w=>ad6 156 (.agg #[]) w (by decide)
 have y12:=fun w=>af2 156 (.agg #[]) w (by decide)
 have y14:=fun w=>ae6 156 (.agg #[]) w (by decide)
 go_enter Tryz.func106,Tryz.ntmps106
 go_wp2
 go_ret
 exact⟨rfl,bal _ _⟩
theorem aX3 (nv mv pv:Value) (ns:List Nd) (w:World) (hN:af7 w nv ns) (hl:ns.length≤1048576) (ao:Option Addr) (c:Nat) (ks:List Int) (hK:aa6 w (.slice ao ks.length c) ks) (hkl:ks.length≤1048576) :
  Calls Tryz.prog 106 #[.agg #[nv,mv,pv],.iface 132 (.agg #[.slice ao ks.length c])] w fun e w'=>e=.returned (.bool (decide (0<ks.length) && ks.all (aa1 ns 2)))∧Below w.heap.size w w':=by
 have y0:=fun w=>ab4 132 (.agg #[.slice ao ks.length c]) w (by decide)
 have y1:=fun w=>ab6 132 (.agg #[.slice ao ks.length c]) w (by decide)
 have y2:=fun w=>ab2 132 (.agg #[.slice ao ks.length c]) w (by decide)
 have y3:=fun w=>ac_ 132 (.agg #[.slice ao ks.length c]) w (by decide)
 have y4:=fun w=>ac4 132 (.agg #[.slice ao ks.length c]) w (by decide)
 have y5:=fun w=>ac9 132 (.agg #[.slice ao ks.length c]) w (by decide)
 have y6:=fun w=>ae4 132 (.agg #[.slice ao ks.length c]) w (by decide)
 have y7:=fun w=>ab8 132 (.agg #[.slice ao ks.length c]) w (by decide)
 have y8:=fun w=>ad_ 132 (.agg #[.slice ao ks.length c]) w (by decide)
 have y9:=fun w=>ac6 132 (.agg #[.slice ao ks.length c]) w (by decide)
 have y10:=fun w=>ae_ 132 (.agg #[.slice ao ks.length c]) w (by decide)
 have y11:=fun w=>ad6 132 (.agg #[.slice ao ks.length c]) w (by decide)
 have y12:=fun w=>af2 132 (.agg #[.slice ao ks.length c]) w (by decide)
 have y14:=fun w=>aB1 (.agg #[.slice ao ks.length c]) w
 have T:=qb (TB.start w nv mv pv #[.slice ao ks.length c] 132)
 have N:=qb (hN.stays T.out.bel)
 clear hN
 have K:=qb (hK.stays T.out.bel)
 have CS:=fun w h1 h2=>qb (az2 nv mv pv (.slice ao ks.length c) ns 2 ks w h1 h2 hl hkl)
 obtain⟨n,en⟩:∃ n,ks.length=n:=⟨_,rfl⟩
 simp only[en]at *
 clear hK
 by_cases h0:0<n
 ·have h0':(0:Int)<(n:Int):=by omega
  have e:(decide (0<n) && ks.all (aa1 ns 2))=ks.all (aa1 ns 2):=by simp[h0]
  rw[e]
  obtain⟨q,eq⟩:∃ q,ks.all (aa1 ns 2)=q:=⟨_,rfl⟩
  simp only[eq]at CS ⊢
  clear e eq
  go_enter Tryz.func106,Tryz.ntmps106
  go_wp2_with (go_at_call 83;refine(qa (CS _ N.out K.out)).mono ?_;rintro e w2⟨rfl,hb2⟩;have T:=qb (T.out.stays hb2);clear hb2)
  go_ret
  exact⟨rfl,T.out.bel⟩
 ·have h0':¬ (0:Int)<(n:Int):=by omega
  have e:(decide (0<n) && ks.all (aa1 ns 2))=false:=by simp[h0]
  rw[e]
  go_enter Tryz.func106,Tryz.ntmps106
  (go_wp2_with (first
  | (go_at_call 81;refine Calls.mono (aa9 _ _ ?_) ?_;(first|exact hs1|exact hs2|exact hs3);rintro e w2⟨rfl,hb2⟩;(
 have T:=qb (T.out.stays hb2);have N:=qb (N.out.stays hb2);
 have c0:=chp T.out.b0 0;have c1:=chp T.out.b0 1;have c2:=chp T.out.b0 2;
 have t0:=chp T.out.b1 0;have t1:=chp T.out.b1 1;have t2:=chp T.out.b1 2;have t3:=chp T.out.b1 3;
 simp at c0 c1 c2 t0 t1 t2 t3;
 clear hb2))
  | (go_at_call 126;refine Calls.mono (af5 _ _) ?_;rintro e w2⟨rfl,rfl⟩)
  | (go_at_call 127;refine Calls.mono (af0 _ _) ?_;rintro e w2⟨rfl,rfl⟩)
  | (go_at_call 83;refine Calls.mono (af6 _ _ _ ns _ _ _ _ _ ?_ N.out hl) ?_;(simp);rintro e w2⟨rfl,hb2⟩;(
 have T:=qb (T.out.stays hb2);have N:=qb (N.out.stays hb2);
 have c0:=chp T.out.b0 0;have c1:=chp T.out.b0 1;have c2:=chp T.out.b0 2;
 have t0:=chp T.out.b1 0;have t1:=chp T.out.b1 1;have t2:=chp T.out.b1 2;have t3:=chp T.out.b1 3;
 simp at c0 c1 c2 t0 t1 t2 t3;
 clear hb2))))
  go_ret
  exact⟨rfl,T.out.bel⟩
end Go.Proofs.YtcpapceeekkacaaGreatDoor
