import Derived.Test.YtcpapceeekkacaaGreatDoorTreeV
import Derived.Deep.RegionHeld3
import Derived.Test.YtcpapceeekkacaaGreatDoorMarkT
set_option maxRecDepth 100000
set_option maxHeartbeats 8000000
namespace Go.Proofs.YtcpapceeekkacaaGreatDoor
open Go.RowKit
def bb4 (w:World) (n:Nat) (iv:Value) (wr:World):Prop:=∃ i:Nat,i≤n∧iv=.int .i64 i∧Hid (Below w.heap.size w wr)
structure TwoB (w:World) (A B:Array Value) (t:TypeId) (z:World):Prop where
 bA:Box z w.heap.size A t
 bB:Box z (w.heap.size+1) B t
 bel:Below w.heap.size w z
theorem TwoB.start (w:World) (A B:Array Value) (t:TypeId):TwoB w A B t ((w.alloc (.cells A t)).alloc (.cells B t)) :=
 ⟨(Box.made w _ _).stays (bal _ _),Box.madeAt (by simp) _ _,by go_grown⟩
theorem TwoB.stays {w:World}{A B:Array Value}{t:TypeId}{z z':World}(h:TwoB w A B t z) (hb:Below z.heap.size z z'):TwoB w A B t z' :=
 ⟨h.bA.stays hb,h.bB.stays hb,h.bel.trans (hb.mono h.bel.size)⟩
theorem aT8 (v1 v2:Value) (xs:List Int) (w:World) (h1:aa6 w v1 xs) (h2:aa6 w v2 xs) (hl:xs.length≤1048576) :
  Calls Tryz.prog 84 #[v1,v2] w fun e w'=>e=.returned (.bool true)∧Below w.heap.size w w':=by
 have H1:=qb h1
 have H2:=qb h2
 obtain⟨ao,c,rfl,_⟩:=h1
 obtain⟨bo,d,rfl,_⟩:=h2
 obtain⟨n,en⟩:∃ n,xs.length=n:=⟨_,rfl⟩
 have EN:=qb en
 rw[en]at H1 H2 hl ⊢
 clear en
 go_enter Tryz.func84,Tryz.ntmps84
 go_wp2
 go_loopw [5] (bb4 w n) (fun iv _=>n-(intOf iv).toNat)
 case atStart=>exact⟨0,by omega,rfl,Below.refl _ _⟩
 case round =>
  obtain⟨i,hi,rfl,HB2⟩:=hrel
  by_cases hlt:i<n
  ·have hlt':(i:Int)<(n:Int):=by omega
   have hi0:(0:Int)≤(i:Int):=by omega
   have hix:i<xs.length:=by rw[EN.out];exact hlt
   obtain⟨ao',c',e1,hc1⟩:=H1.out.stays HB2.out
   injection e1 with e2 e3 e4
   subst e2
   obtain⟨bo',d',e1,hc2⟩:=H2.out.stays HB2.out
   injection e1 with e2 e5 e6
   subst e2
   obtain⟨a,rfl,_,hx⟩:=hc1 i hix
   obtain⟨b,rfl,_,hy⟩:=hc2 i hix
   obtain⟨x,ex⟩:∃ x,xs[i]=x:=⟨_,rfl⟩
   rw[ex]at hx hy
   clear ex hc1 hc2 e3 e4 e5 e6
   go_wp2
   go_region
   all_goals go_wp2
   go_roundw
   case rel=>exact⟨i+1,by omega,by go_num,HB2.out.drew⟩
   case measure=>simp[intOf];omega
  ·have hlt':¬ (i:Int)<(n:Int):=by omega
   go_wp2
   go_ret
   exact⟨rfl,HB2.out⟩
theorem ao7 (v1 v2:Value) (xs:List ByteArray) (w:World) (h1:ai8 w v1 xs) (h2:ai8 w v2 xs) (hl:xs.length≤1048576) :
  Calls Tryz.prog 85 #[v1,v2] w fun e w'=>e=.returned (.bool true)∧Below w.heap.size w w':=by
 have H1:=qb h1
 have H2:=qb h2
 obtain⟨ao,c,rfl,_⟩:=h1
 obtain⟨bo,d,rfl,_⟩:=h2
 obtain⟨n,en⟩:∃ n,xs.length=n:=⟨_,rfl⟩
 have EN:=qb en
 rw[en]at H1 H2 hl ⊢
 clear en
 go_enter Tryz.func85,Tryz.ntmps85
 go_wp2
 go_loopw [5] (bb4 w n) (fun iv _=>n-(intOf iv).toNat)
 case atStart=>exact⟨0,by omega,rfl,Below.refl _ _⟩
 case round =>
  obtain⟨i,hi,rfl,HB2⟩:=hrel
  by_cases hlt:i<n
  ·have hlt':(i:Int)<(n:Int):=by omega
   have hi0:(0:Int)≤(i:Int):=by omega
   have hix:i<xs.length:=by rw[EN.out];exact hlt
   obtain⟨ao',c',e1,hc1⟩:=H1.out.stays HB2.out
   injection e1 with e2 e3 e4
   subst e2
   obtain⟨bo',d',e1,hc2⟩:=H2.out.stays HB2.out
   injection e1 with e2 e5 e6
   subst e2
   obtain⟨a,rfl,_,hx⟩:=hc1 i hix
   obtain⟨b,rfl,_,hy⟩:=hc2 i hix
   obtain⟨x,ex⟩:∃ x,xs[i]=x:=⟨_,rfl⟩
   rw[ex]at hx hy
   clear ex hc1 hc2 e3 e4 e5 e6
   go_wp2
   go_region
   all_goals go_wp2
   go_roundw
   case rel=>exact⟨i+1,by omega,by go_num,HB2.out.drew⟩
   case measure=>simp[intOf];omega
  ·have hlt':¬ (i:Int)<(n:Int):=by omega
   go_wp2
   go_ret
   exact⟨rfl,HB2.out⟩
theorem aT9 (x:Nd) (p5 q5:Value) (w:World) (h5:aa6 w p5 x.kids) (k5:aa6 w q5 x.kids) (l5:x.kids.length≤1048576) :
  Calls Tryz.prog 48 #[.agg #[.int .i64 x.kind,.int .i64 x.num,.string x.name,.string x.more,.string x.into,p5],.agg #[.int .i64 x.kind,.int .i64 x.num,.string x.name,.string x.more,.string x.into,q5]] w fun e w'=>e=.returned (.bool true)∧Below w.heap.size w w':=by
 have C5:=fun w h k=>qb (aT8 p5 q5 x.kids w h k l5)
 have H5:=qb h5
 have K5:=qb k5
 have T:=qb (TwoB.start w #[.int .i64 x.kind,.int .i64 x.num,.string x.name,.string x.more,.string x.into,p5] #[.int .i64 x.kind,.int .i64 x.num,.string x.name,.string x.more,.string x.into,q5] 74)
 obtain⟨ao5,ac5,rfl,_⟩:=h5
 obtain⟨bo5,bc5,rfl,_⟩:=k5
 go_enter Tryz.func48,Tryz.ntmps48
 go_wp2_with fail
 refine(qa (C5 _ (H5.out.stays T.out.bel) (K5.out.stays T.out.bel))).mono ?_
 rintro e z5⟨rfl,hb5⟩
 have T5:=qb (T.out.stays hb5)
 have r0:=chp T5.out.bA 0
 have s0:=chp T5.out.bB 0
 have r1:=chp T5.out.bA 1
 have s1:=chp T5.out.bB 1
 have r2:=chp T5.out.bA 2
 have s2:=chp T5.out.bB 2
 have r3:=chp T5.out.bA 3
 have s3:=chp T5.out.bB 3
 have r4:=chp T5.out.bA 4
 have s4:=chp T5.out.bB 4
 have r5:=chp T5.out.bA 5
 have s5:=chp T5.out.bB 5
 simp at r0 s0 r1 s1 r2 s2 r3 s3 r4 s4 r5 s5
 clear hb5
 go_wp2
 go_ret
 exact⟨rfl,T5.out.bel⟩
theorem aO4 (v1 v2:Value) (xs:List Nd) (w:World) (h1:af7 w v1 xs) (h2:af7 w v2 xs) (hl:xs.length≤1048576) (hin:∀ x∈xs,x.kids.length≤1048576) :
  Calls Tryz.prog 18 #[v1,v2] w fun e w'=>e=.returned (.bool true)∧Below w.heap.size w w':=by
 have H1:=qb h1
 have H2:=qb h2
 obtain⟨ao,c,rfl,_⟩:=h1
 obtain⟨bo,d,rfl,_⟩:=h2
 obtain⟨n,en⟩:∃ n,xs.length=n:=⟨_,rfl⟩
 have EN:=qb en
 rw[en]at H1 H2 hl ⊢
 clear en
 go_enter Tryz.func18,Tryz.ntmps18
 go_wp2
 go_loopw [5] (bb4 w n) (fun iv _=>n-(intOf iv).toNat)
 case atStart=>exact⟨0,by omega,rfl,Below.refl _ _⟩
 case round =>
  obtain⟨i,hi,rfl,HB2⟩:=hrel
  by_cases hlt:i<n
  ·have hlt':(i:Int)<(n:Int):=by omega
   have hi0:(0:Int)≤(i:Int):=by omega
   have hix:i<xs.length:=by rw[EN.out];exact hlt
   obtain⟨ao',c',e1,hc1⟩:=H1.out.stays HB2.out
   injection e1 with e2 e3 e4
   subst e2
   obtain⟨bo',d',e1,hc2⟩:=H2.out.stays HB2.out
   injection e1 with e2 e5 e6
   subst e2
   obtain⟨a,p5,rfl,hpb,hx⟩:=hc1 i hix
   obtain⟨b,q5,rfl,hqb,hy⟩:=hc2 i hix
   obtain⟨p,hpa⟩:∃ p,a.add (i*6)=p:=⟨_,rfl⟩
   obtain⟨q,hqa⟩:∃ q,b.add (i*6)=q:=⟨_,rfl⟩
   rw[←af_ a (i*6),hpa]at hpb
   rw[←af_ b (i*6),hqa]at hqb
   rw[hpa]at hx
   rw[hqa]at hy
   obtain⟨c0,c1,c2,c3,c4,c5,g5⟩:=hx
   obtain⟨d0,d1,d2,d3,d4,d5,k5⟩:=hy
   have C:=qb (aT9 xs[i] p5 q5 wr.drew (g5.stays (Below.refl _ _).drew) (k5.stays (Below.refl _ _).drew) (hin _ (List.getElem_mem hix)))
   obtain⟨ro5,rc5,rfl,_⟩:=g5
   obtain⟨so5,sc5,rfl,_⟩:=k5
   obtain⟨x,ex⟩:∃ x,xs[i]=x:=⟨_,rfl⟩
   rw[ex]at C c0 d0 c1 d1 c2 d2 c3 d3 c4 d4 c5 d5
   clear ex hc1 hc2 e3 e4 e5 e6
   go_wp2
   go_region_held3 (fun w'=>w'.cell? p=some (.int .i64 x.kind)∧w'.cell? { block:=p.block,off:=p.off+1 }=some (.int .i64 x.num)∧w'.cell? { block:=p.block,off:=p.off+2 }=some (.string x.name)∧w'.cell? { block:=p.block,off:=p.off+3 }=some (.string x.more)∧w'.cell? { block:=p.block,off:=p.off+4 }=some (.string x.into)∧w'.cell? { block:=p.block,off:=p.off+5 }=some (.slice ro5 x.kids.length rc5)∧w'.cell? q=some (.int .i64 x.kind)∧w'.cell? { block:=q.block,off:=q.off+1 }=some (.int .i64 x.num)∧w'.cell? { block:=q.block,off:=q.off+2 }=some (.string x.name)∧w'.cell? { block:=q.block,off:=q.off+3 }=some (.string x.more)∧w'.cell? { block:=q.block,off:=q.off+4 }=some (.string x.into)∧w'.cell? { block:=q.block,off:=q.off+5 }=some (.slice so5 x.kids.length sc5)) (first|go_keep|exact⟨(hb1.cell (p:=p) hpb).trans c0,(hb1.cell (p:={ block:=p.block,off:=p.off+1 }) hpb).trans c1,(hb1.cell (p:={ block:=p.block,off:=p.off+2 }) hpb).trans c2,(hb1.cell (p:={ block:=p.block,off:=p.off+3 }) hpb).trans c3,(hb1.cell (p:={ block:=p.block,off:=p.off+4 }) hpb).trans c4,(hb1.cell (p:={ block:=p.block,off:=p.off+5 }) hpb).trans c5,(hb1.cell (p:=q) hqb).trans d0,(hb1.cell (p:={ block:=q.block,off:=q.off+1 }) hqb).trans d1,(hb1.cell (p:={ block:=q.block,off:=q.off+2 }) hqb).trans d2,(hb1.cell (p:={ block:=q.block,off:=q.off+3 }) hqb).trans d3,(hb1.cell (p:={ block:=q.block,off:=q.off+4 }) hqb).trans d4,(hb1.cell (p:={ block:=q.block,off:=q.off+5 }) hqb).trans d5⟩) ((go_at_call 48;refine(qa C).mono ?_;rintro e w1⟨rfl,hb1⟩))
   all_goals go_wp2
   go_roundw
   case rel=>exact⟨i+1,by omega,by go_num,HB2.out.drew.trans (hb1.mono HB2.out.drew.size)⟩
   case measure=>simp[intOf];omega
  ·have hlt':¬ (i:Int)<(n:Int):=by omega
   go_wp2
   go_ret
   exact⟨rfl,HB2.out⟩
theorem aO3 (x:En) (w:World) :
  Calls Tryz.prog 109 #[.agg #[.string x.name,.string x.param,.int .i64 x.body],.agg #[.string x.name,.string x.param,.int .i64 x.body]] w fun e w'=>e=.returned (.bool true)∧Below w.heap.size w w':=by
 go_enter Tryz.func109,Tryz.ntmps109
 go_wp2
 go_ret
 exact⟨rfl,by go_grown⟩
theorem aK4 (v1 v2:Value) (xs:List En) (w:World) (h1:aC8 w v1 xs) (h2:aC8 w v2 xs) (hl:xs.length≤1048576) :
  Calls Tryz.prog 86 #[v1,v2] w fun e w'=>e=.returned (.bool true)∧Below w.heap.size w w':=by
 have H1:=qb h1
 have H2:=qb h2
 obtain⟨ao,c,rfl,_⟩:=h1
 obtain⟨bo,d,rfl,_⟩:=h2
 obtain⟨n,en⟩:∃ n,xs.length=n:=⟨_,rfl⟩
 have EN:=qb en
 rw[en]at H1 H2 hl ⊢
 clear en
 go_enter Tryz.func86,Tryz.ntmps86
 go_wp2
 go_loopw [5] (bb4 w n) (fun iv _=>n-(intOf iv).toNat)
 case atStart=>exact⟨0,by omega,rfl,Below.refl _ _⟩
 case round =>
  obtain⟨i,hi,rfl,HB2⟩:=hrel
  by_cases hlt:i<n
  ·have hlt':(i:Int)<(n:Int):=by omega
   have hi0:(0:Int)≤(i:Int):=by omega
   have hix:i<xs.length:=by rw[EN.out];exact hlt
   obtain⟨ao',c',e1,hc1⟩:=H1.out.stays HB2.out
   injection e1 with e2 e3 e4
   subst e2
   obtain⟨bo',d',e1,hc2⟩:=H2.out.stays HB2.out
   injection e1 with e2 e5 e6
   subst e2
   obtain⟨a,rfl,hpb,hx⟩:=hc1 i hix
   obtain⟨b,rfl,hqb,hy⟩:=hc2 i hix
   obtain⟨p,hpa⟩:∃ p,a.add (i*3)=p:=⟨_,rfl⟩
   obtain⟨q,hqa⟩:∃ q,b.add (i*3)=q:=⟨_,rfl⟩
   rw[←af_ a (i*3),hpa]at hpb
   rw[←af_ b (i*3),hqa]at hqb
   rw[hpa]at hx
   rw[hqa]at hy
   obtain⟨c0,c1,c2⟩:=hx
   obtain⟨d0,d1,d2⟩:=hy
   have C:=qb (aO3 xs[i] wr.drew)
   obtain⟨x,ex⟩:∃ x,xs[i]=x:=⟨_,rfl⟩
   rw[ex]at C c0 d0 c1 d1 c2 d2
   clear ex hc1 hc2 e3 e4 e5 e6
   go_wp2
   go_region_held3 (fun w'=>w'.cell? p=some (.string x.name)∧w'.cell? { block:=p.block,off:=p.off+1 }=some (.string x.param)∧w'.cell? { block:=p.block,off:=p.off+2 }=some (.int .i64 x.body)∧w'.cell? q=some (.string x.name)∧w'.cell? { block:=q.block,off:=q.off+1 }=some (.string x.param)∧w'.cell? { block:=q.block,off:=q.off+2 }=some (.int .i64 x.body)) (first|go_keep|exact⟨(hb1.cell (p:=p) hpb).trans c0,(hb1.cell (p:={ block:=p.block,off:=p.off+1 }) hpb).trans c1,(hb1.cell (p:={ block:=p.block,off:=p.off+2 }) hpb).trans c2,(hb1.cell (p:=q) hqb).trans d0,(hb1.cell (p:={ block:=q.block,off:=q.off+1 }) hqb).trans d1,(hb1.cell (p:={ block:=q.block,off:=q.off+2 }) hqb).trans d2⟩) ((go_at_call 109;refine(qa C).mono ?_;rintro e w1⟨rfl,hb1⟩))
   all_goals go_wp2
   go_roundw
   case rel=>exact⟨i+1,by omega,by go_num,HB2.out.drew.trans (hb1.mono HB2.out.drew.size)⟩
   case measure=>simp[intOf];omega
  ·have hlt':¬ (i:Int)<(n:Int):=by omega
   go_wp2
   go_ret
   exact⟨rfl,HB2.out⟩
theorem aH0 (x:Mo) (p1 q1 p2 q2 p3 q3:Value) (w:World) (h1:ai8 w p1 x.vars) (k1:ai8 w q1 x.vars) (h2:ai8 w p2 x.queues) (k2:ai8 w q2 x.queues) (h3:aC8 w p3 x.ents) (k3:aC8 w q3 x.ents) (l1:x.vars.length≤1048576) (l2:x.queues.length≤1048576) (l3:x.ents.length≤1048576) :
  Calls Tryz.prog 49 #[.agg #[.string x.name,p1,p2,p3],.agg #[.string x.name,q1,q2,q3]] w fun e w'=>e=.returned (.bool true)∧Below w.heap.size w w':=by
 have C1:=fun w h k=>qb (ao7 p1 q1 x.vars w h k l1)
 have H1:=qb h1
 have K1:=qb k1
 have C2:=fun w h k=>qb (ao7 p2 q2 x.queues w h k l2)
 have H2:=qb h2
 have K2:=qb k2
 have C3:=fun w h k=>qb (aK4 p3 q3 x.ents w h k l3)
 have H3:=qb h3
 have K3:=qb k3
 have T:=qb (TwoB.start w #[.string x.name,p1,p2,p3] #[.string x.name,q1,q2,q3] 41)
 obtain⟨ao1,ac1,rfl,_⟩:=h1
 obtain⟨bo1,bc1,rfl,_⟩:=k1
 obtain⟨ao2,ac2,rfl,_⟩:=h2
 obtain⟨bo2,bc2,rfl,_⟩:=k2
 obtain⟨ao3,ac3,rfl,_⟩:=h3
 obtain⟨bo3,bc3,rfl,_⟩:=k3
 go_enter Tryz.func49,Tryz.ntmps49
 go_wp2_with fail
 refine(qa (C1 _ (H1.out.stays T.out.bel) (K1.out.stays T.out.bel))).mono ?_
 rintro e z1⟨rfl,hb1⟩
 have T1:=qb (T.out.stays hb1)
 have r0:=chp T1.out.bA 0
 have s0:=chp T1.out.bB 0
 have r1:=chp T1.out.bA 1
 have s1:=chp T1.out.bB 1
 have r2:=chp T1.out.bA 2
 have s2:=chp T1.out.bB 2
 have r3:=chp T1.out.bA 3
 have s3:=chp T1.out.bB 3
 simp at r0 s0 r1 s1 r2 s2 r3 s3
 clear hb1
 go_wp2_with fail
 clear r0 s0 r1 s1 r2 s2 r3 s3
 refine(qa (C2 _ (H2.out.stays T1.out.bel) (K2.out.stays T1.out.bel))).mono ?_
 rintro e z2⟨rfl,hb2⟩
 have T2:=qb (T1.out.stays hb2)
 have r0:=chp T2.out.bA 0
 have s0:=chp T2.out.bB 0
 have r1:=chp T2.out.bA 1
 have s1:=chp T2.out.bB 1
 have r2:=chp T2.out.bA 2
 have s2:=chp T2.out.bB 2
 have r3:=chp T2.out.bA 3
 have s3:=chp T2.out.bB 3
 simp at r0 s0 r1 s1 r2 s2 r3 s3
 clear hb2
 go_wp2_with fail
 clear r0 s0 r1 s1 r2 s2 r3 s3
 refine(qa (C3 _ (H3.out.stays T2.out.bel) (K3.out.stays T2.out.bel))).mono ?_
 rintro e z3⟨rfl,hb3⟩
 have T3:=qb (T2.out.stays hb3)
 have r0:=chp T3.out.bA 0
 have s0:=chp T3.out.bB 0
 have r1:=chp T3.out.bA 1
 have s1:=chp T3.out.bB 1
 have r2:=chp T3.out.bA 2
 have s2:=chp T3.out.bB 2
 have r3:=chp T3.out.bA 3
 have s3:=chp T3.out.bB 3
 simp at r0 s0 r1 s1 r2 s2 r3 s3
 clear hb3
 go_wp2
 go_ret
 exact⟨rfl,T3.out.bel⟩
theorem aD5 (v1 v2:Value) (xs:List Mo) (w:World) (h1:ar8 w v1 xs) (h2:ar8 w v2 xs) (hl:xs.length≤1048576) (hin:∀ x∈xs,x.vars.length≤1048576∧x.queues.length≤1048576∧x.ents.length≤1048576) :
  Calls Tryz.prog 19 #[v1,v2] w fun e w'=>e=.returned (.bool true)∧Below w.heap.size w w':=by
 have H1:=qb h1
 have H2:=qb h2
 obtain⟨ao,c,rfl,_⟩:=h1
 obtain⟨bo,d,rfl,_⟩:=h2
 obtain⟨n,en⟩:∃ n,xs.length=n:=⟨_,rfl⟩
 have EN:=qb en
 rw[en]at H1 H2 hl ⊢
 clear en
 go_enter Tryz.func19,Tryz.ntmps19
 go_wp2
 go_loopw [5] (bb4 w n) (fun iv _=>n-(intOf iv).toNat)
 case atStart=>exact⟨0,by omega,rfl,Below.refl _ _⟩
 case round =>
  obtain⟨i,hi,rfl,HB2⟩:=hrel
  by_cases hlt:i<n
  ·have hlt':(i:Int)<(n:Int):=by omega
   have hi0:(0:Int)≤(i:Int):=by omega
   have hix:i<xs.length:=by rw[EN.out];exact hlt
   obtain⟨ao',c',e1,hc1⟩:=H1.out.stays HB2.out
   injection e1 with e2 e3 e4
   subst e2
   obtain⟨bo',d',e1,hc2⟩:=H2.out.stays HB2.out
   injection e1 with e2 e5 e6
   subst e2
   obtain⟨a,p1,p2,p3,rfl,hpb,hx⟩:=hc1 i hix
   obtain⟨b,q1,q2,q3,rfl,hqb,hy⟩:=hc2 i hix
   obtain⟨p,hpa⟩:∃ p,a.add (i*4)=p:=⟨_,rfl⟩
   obtain⟨q,hqa⟩:∃ q,b.add (i*4)=q:=⟨_,rfl⟩
   rw[←af_ a (i*4),hpa]at hpb
   rw[←af_ b (i*4),hqa]at hqb
   rw[hpa]at hx
   rw[hqa]at hy
   obtain⟨c0,c1,c2,c3,g1,g2,g3⟩:=hx
   obtain⟨d0,d1,d2,d3,k1,k2,k3⟩:=hy
   have C:=qb (aH0 xs[i] p1 q1 p2 q2 p3 q3 wr.drew (g1.stays (Below.refl _ _).drew) (k1.stays (Below.refl _ _).drew) (g2.stays (Below.refl _ _).drew) (k2.stays (Below.refl _ _).drew) (g3.stays (Below.refl _ _).drew) (k3.stays (Below.refl _ _).drew) (hin _ (List.getElem_mem hix)).1 (hin _ (List.getElem_mem hix)).2.1 (hin _ (List.getElem_mem hix)).2.2)
   obtain⟨ro1,rc1,rfl,_⟩:=g1
   obtain⟨so1,sc1,rfl,_⟩:=k1
   obtain⟨ro2,rc2,rfl,_⟩:=g2
   obtain⟨so2,sc2,rfl,_⟩:=k2
   obtain⟨ro3,rc3,rfl,_⟩:=g3
   obtain⟨so3,sc3,rfl,_⟩:=k3
   obtain⟨x,ex⟩:∃ x,xs[i]=x:=⟨_,rfl⟩
   rw[ex]at C c0 d0 c1 d1 c2 d2 c3 d3
   clear ex hc1 hc2 e3 e4 e5 e6
   go_wp2
   go_region_held3 (fun w'=>w'.cell? p=some (.string x.name)∧w'.cell? { block:=p.block,off:=p.off+1 }=some (.slice ro1 x.vars.length rc1)∧w'.cell? { block:=p.block,off:=p.off+2 }=some (.slice ro2 x.queues.length rc2)∧w'.cell? { block:=p.block,off:=p.off+3 }=some (.slice ro3 x.ents.length rc3)∧w'.cell? q=some (.string x.name)∧w'.cell? { block:=q.block,off:=q.off+1 }=some (.slice so1 x.vars.length sc1)∧w'.cell? { block:=q.block,off:=q.off+2 }=some (.slice so2 x.queues.length sc2)∧w'.cell? { block:=q.block,off:=q.off+3 }=some (.slice so3 x.ents.length sc3)) (first|go_keep|exact⟨(hb1.cell (p:=p) hpb).trans c0,(hb1.cell (p:={ block:=p.block,off:=p.off+1 }) hpb).trans c1,(hb1.cell (p:={ block:=p.block,off:=p.off+2 }) hpb).trans c2,(hb1.cell (p:={ block:=p.block,off:=p.off+3 }) hpb).trans c3,(hb1.cell (p:=q) hqb).trans d0,(hb1.cell (p:={ block:=q.block,off:=q.off+1 }) hqb).trans d1,(hb1.cell (p:={ block:=q.block,off:=q.off+2 }) hqb).trans d2,(hb1.cell (p:={ block:=q.block,off:=q.off+3 }) hqb).trans d3⟩) ((go_at_call 49;refine(qa C).mono ?_;rintro e w1⟨rfl,hb1⟩))
   all_goals go_wp2
   go_roundw
   case rel=>exact⟨i+1,by omega,by go_num,HB2.out.drew.trans (hb1.mono HB2.out.drew.size)⟩
   case measure=>simp[intOf];omega
  ·have hlt':¬ (i:Int)<(n:Int):=by omega
   go_wp2
   go_ret
   exact⟨rfl,HB2.out⟩
theorem aH1 (x:Pr) (p1 q1 p2 q2:Value) (w:World) (h1:ai8 w p1 x.uses) (k1:ai8 w q1 x.uses) (h2:ai8 w p2 x.vars) (k2:ai8 w q2 x.vars) (l1:x.uses.length≤1048576) (l2:x.vars.length≤1048576) :
  Calls Tryz.prog 50 #[.agg #[.string x.name,p1,p2,.int .i64 x.body],.agg #[.string x.name,q1,q2,.int .i64 x.body]] w fun e w'=>e=.returned (.bool true)∧Below w.heap.size w w':=by
 have C1:=fun w h k=>qb (ao7 p1 q1 x.uses w h k l1)
 have H1:=qb h1
 have K1:=qb k1
 have C2:=fun w h k=>qb (ao7 p2 q2 x.vars w h k l2)
 have H2:=qb h2
 have K2:=qb k2
 have T:=qb (TwoB.start w #[.string x.name,p1,p2,.int .i64 x.body] #[.string x.name,q1,q2,.int .i64 x.body] 44)
 obtain⟨ao1,ac1,rfl,_⟩:=h1
 obtain⟨bo1,bc1,rfl,_⟩:=k1
 obtain⟨ao2,ac2,rfl,_⟩:=h2
 obtain⟨bo2,bc2,rfl,_⟩:=k2
 go_enter Tryz.func50,Tryz.ntmps50
 go_wp2_with fail
 refine(qa (C1 _ (H1.out.stays T.out.bel) (K1.out.stays T.out.bel))).mono ?_
 rintro e z1⟨rfl,hb1⟩
 have T1:=qb (T.out.stays hb1)
 have r0:=chp T1.out.bA 0
 have s0:=chp T1.out.bB 0
 have r1:=chp T1.out.bA 1
 have s1:=chp T1.out.bB 1
 have r2:=chp T1.out.bA 2
 have s2:=chp T1.out.bB 2
 have r3:=chp T1.out.bA 3
 have s3:=chp T1.out.bB 3
 simp at r0 s0 r1 s1 r2 s2 r3 s3
 clear hb1
 go_wp2_with fail
 clear r0 s0 r1 s1 r2 s2 r3 s3
 refine(qa (C2 _ (H2.out.stays T1.out.bel) (K2.out.stays T1.out.bel))).mono ?_
 rintro e z2⟨rfl,hb2⟩
 have T2:=qb (T1.out.stays hb2)
 have r0:=chp T2.out.bA 0
 have s0:=chp T2.out.bB 0
 have r1:=chp T2.out.bA 1
 have s1:=chp T2.out.bB 1
 have r2:=chp T2.out.bA 2
 have s2:=chp T2.out.bB 2
 have r3:=chp T2.out.bA 3
 have s3:=chp T2.out.bB 3
 simp at r0 s0 r1 s1 r2 s2 r3 s3
 clear hb2
 go_wp2
 go_ret
 exact⟨rfl,T2.out.bel⟩
theorem aD6 (v1 v2:Value) (xs:List Pr) (w:World) (h1:ar9 w v1 xs) (h2:ar9 w v2 xs) (hl:xs.length≤1048576) (hin:∀ x∈xs,x.uses.length≤1048576∧x.vars.length≤1048576) :
  Calls Tryz.prog 20 #[v1,v2] w fun e w'=>e=.returned (.bool true)∧Below w.heap.size w w':=by
 have H1:=qb h1
 have H2:=qb h2
 obtain⟨ao,c,rfl,_⟩:=h1
 obtain⟨bo,d,rfl,_⟩:=h2
 obtain⟨n,en⟩:∃ n,xs.length=n:=⟨_,rfl⟩
 have EN:=qb en
 rw[en]at H1 H2 hl ⊢
 clear en
 go_enter Tryz.func20,Tryz.ntmps20
 go_wp2
 go_loopw [5] (bb4 w n) (fun iv _=>n-(intOf iv).toNat)
 case atStart=>exact⟨0,by omega,rfl,Below.refl _ _⟩
 case round =>
  obtain⟨i,hi,rfl,HB2⟩:=hrel
  by_cases hlt:i<n
  ·have hlt':(i:Int)<(n:Int):=by omega
   have hi0:(0:Int)≤(i:Int):=by omega
   have hix:i<xs.length:=by rw[EN.out];exact hlt
   obtain⟨ao',c',e1,hc1⟩:=H1.out.stays HB2.out
   injection e1 with e2 e3 e4
   subst e2
   obtain⟨bo',d',e1,hc2⟩:=H2.out.stays HB2.out
   injection e1 with e2 e5 e6
   subst e2
   obtain⟨a,p1,p2,rfl,hpb,hx⟩:=hc1 i hix
   obtain⟨b,q1,q2,rfl,hqb,hy⟩:=hc2 i hix
   obtain⟨p,hpa⟩:∃ p,a.add (i*4)=p:=⟨_,rfl⟩
   obtain⟨q,hqa⟩:∃ q,b.add (i*4)=q:=⟨_,rfl⟩
   rw[←af_ a (i*4),hpa]at hpb
   rw[←af_ b (i*4),hqa]at hqb
   rw[hpa]at hx
   rw[hqa]at hy
   obtain⟨c0,c1,c2,c3,g1,g2⟩:=hx
   obtain⟨d0,d1,d2,d3,k1,k2⟩:=hy
   have C:=qb (aH1 xs[i] p1 q1 p2 q2 wr.drew (g1.stays (Below.refl _ _).drew) (k1.stays (Below.refl _ _).drew) (g2.stays (Below.refl _ _).drew) (k2.stays (Below.refl _ _).drew) (hin _ (List.getElem_mem hix)).1 (hin _ (List.getElem_mem hix)).2)
   obtain⟨ro1,rc1,rfl,_⟩:=g1
   obtain⟨so1,sc1,rfl,_⟩:=k1
   obtain⟨ro2,rc2,rfl,_⟩:=g2
   obtain⟨so2,sc2,rfl,_⟩:=k2
   obtain⟨x,ex⟩:∃ x,xs[i]=x:=⟨_,rfl⟩
   rw[ex]at C c0 d0 c1 d1 c2 d2 c3 d3
   clear ex hc1 hc2 e3 e4 e5 e6
   go_wp2
   go_region_held3 (fun w'=>w'.cell? p=some (.string x.name)∧w'.cell? { block:=p.block,off:=p.off+1 }=some (.slice ro1 x.uses.length rc1)∧w'.cell? { block:=p.block,off:=p.off+2 }=some (.slice ro2 x.vars.length rc2)∧w'.cell? { block:=p.block,off:=p.off+3 }=some (.int .i64 x.body)∧w'.cell? q=some (.string x.name)∧w'.cell? { block:=q.block,off:=q.off+1 }=some (.slice so1 x.uses.length sc1)∧w'.cell? { block:=q.block,off:=q.off+2 }=some (.slice so2 x.vars.length sc2)∧w'.cell? { block:=q.block,off:=q.off+3 }=some (.int .i64 x.body)) (first|go_keep|exact⟨(hb1.cell (p:=p) hpb).trans c0,(hb1.cell (p:={ block:=p.block,off:=p.off+1 }) hpb).trans c1,(hb1.cell (p:={ block:=p.block,off:=p.off+2 }) hpb).trans c2,(hb1.cell (p:={ block:=p.block,off:=p.off+3 }) hpb).trans c3,(hb1.cell (p:=q) hqb).trans d0,(hb1.cell (p:={ block:=q.block,off:=q.off+1 }) hqb).trans d1,(hb1.cell (p:={ block:=q.block,off:=q.off+2 }) hqb).trans d2,(hb1.cell (p:={ block:=q.block,off:=q.off+3 }) hqb).trans d3⟩) ((go_at_call 50;refine(qa C).mono ?_;rintro e w1⟨rfl,hb1⟩))
   all_goals go_wp2
   go_roundw
   case rel=>exact⟨i+1,by omega,by go_num,HB2.out.drew.trans (hb1.mono HB2.out.drew.size)⟩
   case measure=>simp[intOf];omega
  ·have hlt':¬ (i:Int)<(n:Int):=by omega
   go_wp2
   go_ret
   exact⟨rfl,HB2.out⟩
theorem aw2 (x:Pg) (p0 q0 p1 q1 p2 q2:Value) (w:World) (h0:af7 w p0 x.nodes) (k0:af7 w q0 x.nodes) (h1:ar8 w p1 x.mons) (k1:ar8 w q1 x.mons) (h2:ar9 w p2 x.pros) (k2:ar9 w q2 x.pros) (hL:aN1 x) :
  Calls Tryz.prog 6 #[.agg #[p0,p1,p2],.agg #[q0,q1,q2]] w fun e w'=>e=.returned (.bool true)∧Below w.heap.size w w':=by
 have C0:=fun w h k=>qb (aO4 p0 q0 x.nodes w h k hL.nl hL.kids)
 have H0:=qb h0
 have K0:=qb k0
 have C1:=fun w h k=>qb (aD5 p1 q1 x.mons w h k hL.ml hL.mon)
 have H1:=qb h1
 have K1:=qb k1
 have C2:=fun w h k=>qb (aD6 p2 q2 x.pros w h k hL.pl hL.pro)
 have H2:=qb h2
 have K2:=qb k2
 have T:=qb (TwoB.start w #[p0,p1,p2] #[q0,q1,q2] 26)
 obtain⟨ao0,ac0,rfl,_⟩:=h0
 obtain⟨bo0,bc0,rfl,_⟩:=k0
 obtain⟨ao1,ac1,rfl,_⟩:=h1
 obtain⟨bo1,bc1,rfl,_⟩:=k1
 obtain⟨ao2,ac2,rfl,_⟩:=h2
 obtain⟨bo2,bc2,rfl,_⟩:=k2
 go_enter Tryz.func6,Tryz.ntmps6
 go_wp2_with fail
 refine(qa (C0 _ (H0.out.stays T.out.bel) (K0.out.stays T.out.bel))).mono ?_
 rintro e z0⟨rfl,hb0⟩
 have T0:=qb (T.out.stays hb0)
 have r0:=chp T0.out.bA 0
 have s0:=chp T0.out.bB 0
 have r1:=chp T0.out.bA 1
 have s1:=chp T0.out.bB 1
 have r2:=chp T0.out.bA 2
 have s2:=chp T0.out.bB 2
 simp at r0 s0 r1 s1 r2 s2
 clear hb0
 go_wp2_with fail
 clear r0 s0 r1 s1 r2 s2
 refine(qa (C1 _ (H1.out.stays T0.out.bel) (K1.out.stays T0.out.bel))).mono ?_
 rintro e z1⟨rfl,hb1⟩
 have T1:=qb (T0.out.stays hb1)
 have r0:=chp T1.out.bA 0
 have s0:=chp T1.out.bB 0
 have r1:=chp T1.out.bA 1
 have s1:=chp T1.out.bB 1
 have r2:=chp T1.out.bA 2
 have s2:=chp T1.out.bB 2
 simp at r0 s0 r1 s1 r2 s2
 clear hb1
 go_wp2_with fail
 clear r0 s0 r1 s1 r2 s2
 refine(qa (C2 _ (H2.out.stays T1.out.bel) (K2.out.stays T1.out.bel))).mono ?_
 rintro e z2⟨rfl,hb2⟩
 have T2:=qb (T1.out.stays hb2)
 have r0:=chp T2.out.bA 0
 have s0:=chp T2.out.bB 0
 have r1:=chp T2.out.bA 1
 have s1:=chp T2.out.bB 1
 have r2:=chp T2.out.bA 2
 have s2:=chp T2.out.bB 2
 simp at r0 s0 r1 s1 r2 s2
 clear hb2
 go_wp2
 go_ret
 exact⟨rfl,T2.out.bel⟩
theorem bl3 (t:ByteArray) (ht:t.size≤1048576):aN1 (al4 t).1:=by
 have hn:aN1 al2:=⟨by simp[al2],by simp[al2],by simp[al2],fun y hy=>absurd hy (by simp[al2]),fun y hy=>absurd hy (by simp[al2]),fun y hy=>absurd hy (by simp[al2])⟩
 unfold al4
 split
 ·exact hn
 ·split
  ·exact hn
  ·split
   ·next h =>
    refine(aF3 (aA4 t) (ax2 t ht) ?_).1
    simp only[ag1,Bool.and_eq_true,decide_eq_true_eq]at h
    have:(aj_ (ad2 t).1).nodes.length≤160:=h.1.1
    exact nlt this (by omega)
   ·exact hn
theorem Free.stays {base:Nat}{w w':World}{P:List Pl}(h:Free base w P) (hb:Below w.heap.size w w'):Free base w' P :=
 ⟨fun b j t hm=>by have:=h.blk b j t hm;have:=hb.size;omega,fun b j t hm=>by
  obtain⟨y,hy⟩:=h.cell b j t hm
  exact⟨y,(hb.cell (p:=⟨b,j,none⟩) (h.blk b j t hm).2).trans hy⟩,fun b j t hm=>(hb.frozen (p:=⟨b,j,none⟩) (h.blk b j t hm).2).trans (h.froz b j t hm),h.nd⟩
structure Ans (B:Nat) (R:Pg) (z:World) (X:Plan) (nv mv pv:Value):Prop where
 nds:af7 z nv R.nodes
 mos:ar8 z mv R.mons
 prs:ar9 z pv R.pros
 rn:ah6 nv X.n X.gN
 rm:ah6 mv X.m X.gM
 rp:ah6 pv X.p X.gP
 le:X.n≤1048576∧X.m≤1048576∧X.p≤1048576
 rows:aq7 X z
 outs:Outs X
 free:Free B z X.all
 len:X.all.length≤100000000000000
theorem PgV.ans {B base:Nat}{R:Pg}{v:Value}{z:World}(h:PgV (fun _=>False) B base R.nodes R.mons R.pros v z) (hB:B≤base) (hL:aN1 R) :
  ∃ X no nc mo f po pf,v=.agg #[.slice no R.nodes.length nc,.slice mo R.mons.length f,.slice po R.pros.length pf]∧Ans B R z X (.slice no R.nodes.length nc) (.slice mo R.mons.length f) (.slice po R.pros.length pf):=by
 obtain⟨X,nv,mv,pv,e,h1,h2,h3,h4,h5,h6,h7,h8⟩:=h.plan hB hL
 obtain⟨no,nc,mo,f,po,pf,mid,top,e',hN,hM,hP⟩:=h
 rw[e']at e
 injection e with e
 simp only[Array.mk.injEq,List.cons.injEq,and_true]at e
 obtain⟨rfl,rfl,rfl⟩:=e
 exact⟨X,no,nc,mo,f,po,pf,e',hN.nodesT.nds,hM.row.mons.at,hP.row.pros.at,h1,h2,h3,h4,h5,h6,h7,h8⟩
theorem lawRead (t:ByteArray) (w:World) (ht:t.size≤1048576) (hT:Lib.Utf8Tabs 0 1 w) (hG:3<w.heap.size) (hO:ak5 w) :
  Calls Tryz.prog 3 #[.string t] w fun e w'=>e=.returned (.bool true)∧Below w.heap.size w w':=by
 have hL:=qb (bl3 t ht)
 have CS:=fun w=>qb (aS3 t w ht)
 have CI:=fun w h1 h2 h3=>qb (aO9 t w ht h1 h2 h3)
 have HT:=qb hT
 have HO:=qb hO
 have HG:=qb hG
 clear hT hO hG
 unfold ar4 at CS
 unfold ap4 at CI
 obtain⟨R,k,hr⟩:∃ R k,al4 t=(R,k):=⟨_,_,rfl⟩
 simp only[hr]at CS CI hL
 clear hr
 go_enter Tryz.func3,Tryz.ntmps3
 go_wp2_with fail
 refine(qa (CS _)).mono ?_
 rintro e w1⟨nv,mv,pv,rfl,hb1,hn1,hm1,hp1⟩
 have hs1:=hb1.size
 have HB1:=qb hb1
 obtain⟨na1,nc1,e1⟩:∃ a c,nv=.slice a R.nodes.length c:=by obtain⟨a,c,e,_⟩:=hn1;exact⟨a,c,e⟩
 obtain⟨ma1,mc1,e2⟩:∃ a c,mv=.slice a R.mons.length c:=by obtain⟨a,c,e,_⟩:=hm1;exact⟨a,c,e⟩
 obtain⟨pa1,pc1,e3⟩:∃ a c,pv=.slice a R.pros.length c:=by obtain⟨a,c,e,_⟩:=hp1;exact⟨a,c,e⟩
 subst e1 e2 e3
 have N1:=qb hn1
 have M1:=qb hm1
 have P1:=qb hp1
 clear hb1 hn1 hm1 hp1
 have BA:Hid (Below w1.heap.size w1 (w1.alloc (.cells #[.slice na1 R.nodes.length nc1,.slice ma1 R.mons.length mc1,.slice pa1 R.pros.length pc1] 26))):=bal _ _
 have XA:Hid (Box (w1.alloc (.cells #[.slice na1 R.nodes.length nc1,.slice ma1 R.mons.length mc1,.slice pa1 R.pros.length pc1] 26)) w1.heap.size #[.slice na1 R.nodes.length nc1,.slice ma1 R.mons.length mc1,.slice pa1 R.pros.length pc1] 26):=Box.made _ _ _
 go_wp2_with fail
 generalize w1.alloc (.cells #[.slice na1 R.nodes.length nc1,.slice ma1 R.mons.length mc1,.slice pa1 R.pros.length pc1] 26)=W1 at BA XA ⊢
 have BW1:Hid (Below w.heap.size w W1):=HB1.out.trans (BA.out.mono hs1)
 refine(qa (CI _ (av_ HT.out BW1.out (nlr _)) (nll HG.out BW1.out.size) (HO.out.stays BW1.out HG.out))).mono ?_
 rintro e w2⟨v,base,rfl,hb2,hbase,hV⟩
 obtain⟨X,no,nc,mo,f,po,pf,rfl,hA⟩:=hV.ans hbase hL.out
 have HA:=qb hA
 have HB2:=qb hb2
 have XA2:=qb (XA.out.stays hb2)
 have BX:Hid (Below w2.heap.size w2 (w2.alloc (.cells #[.slice no R.nodes.length nc,.slice mo R.mons.length f,.slice po R.pros.length pf] 26))):=bal _ _
 have XB:Hid (Box (w2.alloc (.cells #[.slice no R.nodes.length nc,.slice mo R.mons.length f,.slice po R.pros.length pf] 26)) w2.heap.size #[.slice no R.nodes.length nc,.slice mo R.mons.length f,.slice po R.pros.length pf] 26):=Box.made _ _ _
 have XA3:=qb (XA2.out.stays BX.out)
 have a0:=chp XA3.out 0
 have a1:=chp XA3.out 1
 have a2:=chp XA3.out 2
 simp at a0 a1 a2
 clear hb2 hbase hV hA
 go_wp2_with fail
 generalize w2.alloc (.cells #[.slice no R.nodes.length nc,.slice mo R.mons.length f,.slice po R.pros.length pf] 26)=W2 at BX XB XA3 a0 a1 a2 ⊢
 have BW2:Hid (Below w1.heap.size w1 W2):=(BA.out.trans (HB2.out.mono BA.out.size)).trans (BX.out.mono (nlt BA.out.size HB2.out.size))
 refine(aw2 R _ _ _ _ _ _ W2 (HA.out.nds.stays BX.out) (N1.out.stays BW2.out) (HA.out.mos.stays BX.out) (M1.out.stays BW2.out) (HA.out.prs.stays BX.out) (P1.out.stays BW2.out) hL.out).mono ?_
 rintro e w3⟨rfl,hb3⟩
 have HB3:=qb hb3
 have B23:Hid (Below w2.heap.size w2 w3):=BX.out.trans (hb3.mono BX.out.size)
 have BW3:Hid (Below w1.heap.size w1 w3):=BW2.out.trans (hb3.mono BW2.out.size)
 have XB3:=qb (XB.out.stays hb3)
 have XA4:=qb (XA3.out.stays hb3)
 have c0:=chp XB3.out 0
 have c1:=chp XB3.out 1
 have c2:=chp XB3.out 2
 simp at c0 c1 c2
 clear hb3 a0 a1 a2
 go_wp2_with fail
 refine(aE5 (base:=W1.heap.size) X _ _ _ w3 HA.out.rn HA.out.rm HA.out.rp HA.out.le (HA.out.rows.stays B23.out) HA.out.outs (HA.out.free.stays B23.out) HA.out.len (nlt HB2.out.size B23.out.size)).mono ?_
 rintro e w4⟨rfl,hm4⟩
 have HM4:=qb hm4
 have B4:Hid (Below W1.heap.size w3 w4):=hm4.bel
 have HP2:Hid (∀ j t,(w2.heap.size,j,t)∉X.all):=fun j t hm=>Nat.lt_irrefl _ (HA.out.free.blk _ j t hm).2
 have d0:=(hm4.other (b:=w2.heap.size) (j:=0) XB3.out.lt (HP2.out 0)).trans (chp XB3.out 0)
 have d1:=(hm4.other (b:=w2.heap.size) (j:=1) XB3.out.lt (HP2.out 1)).trans (chp XB3.out 1)
 have d2:=(hm4.other (b:=w2.heap.size) (j:=2) XB3.out.lt (HP2.out 2)).trans (chp XB3.out 2)
 simp at d0 d1 d2
 have D0:=qb d0
 have D1:=qb d1
 have D2:=qb d2
 have HX4:Hid (w2.heap.size<w4.heap.size):=nll XB3.out.lt hm4.bel.size
 obtain⟨ln,hln⟩:∃ ln,ln=X.all.length:=⟨_,rfl⟩
 have HLN:Hid (X.all.length=ln):=hln.symm
 have hle:ln≤100000000000000:=by rw[hln];exact HA.out.len
 rw[←hln]
 have R4:=qb ((HA.out.rows.stays B23.out).mks hm4 HA.out.outs)
 have G4:=qb hm4.marked
 clear hm4 hln c0 c1 c2
 have CH:=fun z h1 h2=>qb (aD9 X _ _ _ z HA.out.rn HA.out.rm HA.out.rp HA.out.le h1 h2 HA.out.len)
 rw[HLN.out]at CH
 have hd1:decide ((1:Int)+(ln:Int)<0)=false:=by simp;omega
 go_wp2_with fail
 refine(qa (CH w4 R4.out G4.out)).mono ?_
 rintro e w5⟨rfl,hb5⟩
 have HB5:=qb hb5
 have BW5:Hid (Below w1.heap.size w1 w5):=(BW3.out.trans (B4.out.mono BA.out.size)).trans (hb5.mono (nlt BW3.out.size B4.out.size))
 have BZ5:Hid (Below w.heap.size w w5):=HB1.out.trans (BW5.out.mono hs1)
 have R5:=qb (R4.out.stays hb5)
 have G5:=qb (G4.out.stays hb5)
 have XA5:Hid (Box w5 w1.heap.size #[.slice na1 R.nodes.length nc1,.slice ma1 R.mons.length mc1,.slice pa1 R.pros.length pc1] 26):=(hb5.block _ (nll XA4.out.lt B4.out.size)).trans ((B4.out.block _ XA.out.lt).trans XA4.out)
 clear hb5 d0 d1 d2
 go_wp2_with fail
 refine(qa (CI _ (av_ HT.out BZ5.out (nlr _)) (nll HG.out BZ5.out.size) (HO.out.stays BZ5.out HG.out))).mono ?_
 rintro e w6⟨v6,base6,rfl,hb6,hbase6,hV6⟩
 obtain⟨X6,no6,nc6,mo6,f6,po6,pf6,rfl,hA6⟩:=hV6.ans hbase6 hL.out
 have HA6:=qb hA6
 have HB6:=qb hb6
 have XA6:=qb (XA5.out.stays hb6)
 have BX6:Hid (Below w6.heap.size w6 (w6.alloc (.cells #[.slice no6 R.nodes.length nc6,.slice mo6 R.mons.length f6,.slice po6 R.pros.length pf6] 26))):=bal _ _
 have XA7:=qb (XA6.out.stays BX6.out)
 have a0:=chp XA7.out 0
 have a1:=chp XA7.out 1
 have a2:=chp XA7.out 2
 simp at a0 a1 a2
 have XB6:Hid (Box (w6.alloc (.cells #[.slice no6 R.nodes.length nc6,.slice mo6 R.mons.length f6,.slice po6 R.pros.length pf6] 26)) w6.heap.size #[.slice no6 R.nodes.length nc6,.slice mo6 R.mons.length f6,.slice po6 R.pros.length pf6] 26):=Box.made _ _ _
 clear hb6 hbase6 hV6 hA6
 go_wp2_with fail
 generalize w6.alloc (.cells #[.slice no6 R.nodes.length nc6,.slice mo6 R.mons.length f6,.slice po6 R.pros.length pf6] 26)=W6 at BX6 XA7 XB6 a0 a1 a2 ⊢
 have B56:Hid (Below w5.heap.size w5 W6):=HB6.out.trans (BX6.out.mono HB6.out.size)
 have BW6:Hid (Below w1.heap.size w1 W6):=BW5.out.trans (B56.out.mono BW5.out.size)
 refine(aw2 R _ _ _ _ _ _ W6 (HA6.out.nds.stays BX6.out) (N1.out.stays BW6.out) (HA6.out.mos.stays BX6.out) (M1.out.stays BW6.out) (HA6.out.prs.stays BX6.out) (P1.out.stays BW6.out) hL.out).mono ?_
 rintro e w7⟨rfl,hb7⟩
 have B57:Hid (Below w5.heap.size w5 w7):=B56.out.trans (hb7.mono B56.out.size)
 have B47:Hid (Below w4.heap.size w4 w7):=HB5.out.trans (B57.out.mono HB5.out.size)
 have c0:=(B47.out.cell (p:=⟨w2.heap.size,0,none⟩) HX4.out).trans D0.out
 have c1:=(B47.out.cell (p:=⟨w2.heap.size,1,none⟩) HX4.out).trans D1.out
 have c2:=(B47.out.cell (p:=⟨w2.heap.size,2,none⟩) HX4.out).trans D2.out
 clear hb7 a0 a1 a2
 go_wp2_with fail
 refine(qa (CH w7 (R4.out.stays B47.out) (G4.out.stays B47.out))).mono ?_
 rintro e w8⟨rfl,hb8⟩
 have BZ8:Hid (Below w.heap.size w w8):=(BZ5.out.trans (B57.out.mono BZ5.out.size)).trans (hb8.mono (nlt BZ5.out.size B57.out.size))
 clear hb8 c0 c1 c2
 go_wp2
 go_ret
 exact⟨rfl,BZ8.out⟩
theorem aP5 (t:ByteArray) (w:World) (hs:¬ t.size≤1048576) (_hm:t.size≤maxLen) :
  Calls Tryz.prog 3 #[.string t] w fun e w'=>e=.returned (.bool true)∧Below w.heap.size w w':=by
 go_enter Tryz.func3,Tryz.ntmps3
 go_wp2
 go_ret
 exact⟨rfl,Below.refl _ _⟩
end Go.Proofs.YtcpapceeekkacaaGreatDoor
