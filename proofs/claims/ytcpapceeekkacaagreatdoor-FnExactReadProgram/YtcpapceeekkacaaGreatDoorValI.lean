import Derived.Test.YtcpapceeekkacaaGreatDoorImpH
import Derived.Test.YtcpapceeekkacaaGreatDoorProg
import Derived.Test.YtcpapceeekkacaaGreatDoorMarkM
import Derived.WalkKit
import Derived.Deep.RegionHeld3
set_option maxRecDepth 100000
set_option maxHeartbeats 8000000
namespace Go.Proofs.YtcpapceeekkacaaGreatDoor
open Go.RowKit
def aa1 (ns:List Nd) (r:Int) (x:Int):Bool:=inZ 0 ((ns.length:Int)-1) x && decide (aj9 (ns.getD x.toNat default).kind=r)
def StandR (W:World) (xs:List Int) (q:Int→Bool) (iv:Value) (wr:World):Prop :=
 ∃ i:Nat,i≤xs.length∧iv=.int .i64 i∧Hid (Below W.heap.size W wr)∧Hid (∀ j x,j<i→xs[j]? = some x→q x=true)
theorem az2 (nv mv pv v:Value) (ns:List Nd) (r:Int) (xs:List Int) (w:World) (hN:af7 w nv ns) (hv:aa6 w v xs) (_hl:ns.length≤1048576) (hxl:xs.length≤1048576) :
  Calls Tryz.prog 83 #[.agg #[nv,mv,pv],.int .i64 r,v] w fun e w'=>e=.returned (.bool (xs.all (aa1 ns r)))∧Below w.heap.size w w':=by
 have hb1:Below w.heap.size w (w.alloc (.cells #[nv,mv,pv] 26)):=bal _ _
 have HN:=qb (hN.stays hb1)
 have HV:=qb (hv.stays hb1)
 have HX:=qb (ar3.made w nv mv pv 26)
 have HB:=qb hb1
 clear hb1
 obtain⟨ao,c,rfl,_⟩:=hN
 obtain⟨bo,d,rfl,_⟩:=hv
 obtain⟨m,em⟩:∃ m,xs.length=m:=⟨_,rfl⟩
 have EM:=qb em
 rw[em]at HV hxl ⊢
 go_enter Tryz.func83,Tryz.ntmps83
 go_wp2
 obtain⟨W1,hW⟩:∃ W1,w.alloc (.cells #[.slice ao ns.length c,mv,pv] 26)=W1:=⟨_,rfl⟩
 rw[hW]at HN HV HX HB ⊢
 clear hW em
 go_loopw [11] (StandR W1 xs (aa1 ns r)) (fun iv _=>m-(intOf iv).toNat)
 case atStart=>exact⟨0,by omega,rfl,Below.refl _ _,fun j x hj=>absurd hj (Nat.not_lt_zero j)⟩
 case round =>
  obtain⟨i,hi,rfl,HB2,HA⟩:=hrel
  rw[EM.out]at hi
  obtain⟨c0,c1,c2,_⟩:=HX.out.stays HB2.out
  have HN2:=qb (HN.out.stays HB2.out)
  by_cases hlt:i<m
  ·have hlt':(i:Int)<(m:Int):=by omega
   have hi0:(0:Int)≤(i:Int):=by omega
   have hix:i<xs.length:=by rw[EM.out];exact hlt
   obtain⟨bo',d',e1,hc1⟩:=HV.out.stays HB2.out
   injection e1 with e2 e3 e4
   subst e2
   obtain⟨b,rfl,_,hx⟩:=hc1 i hix
   have EX:Hid (xs[i]? = some xs[i]):=List.getElem?_eq_getElem hix
   obtain⟨x,ex⟩:∃ x,xs[i]=x:=⟨_,rfl⟩
   rw[ex]at hx EX
   clear ex hc1 e3 e4
   have CH:=fun w h=>qb (aj5 (.slice ao ns.length c) mv pv ns x w h)
   cases hin:inZ 0 ((ns.length:Int)-1) x with
   | false =>
    have HF:Hid (xs.all (aa1 ns r)=false):=ay_ EX.out (by simp[aa1,hin])
    rw[hin]at CH
    clear hin
    (go_wp2_with (go_at_call 102;refine(qa (CH _ HN2.out)).mono ?_;rintro e w2⟨rfl,hb2⟩;have HB3:=qb (HB2.out.trans (hb2.mono HB2.out.size));clear hb2))
    go_ret
    exact⟨by rw[HF.out];rfl,HB.out.trans (HB3.out.mono HB.out.size)⟩
   | true =>
    obtain⟨hx0,hx1⟩:=ad5.1 hin
    obtain⟨y,hy⟩:∃ y:Nat,x=(y:Int):=⟨x.toNat,by omega⟩
    subst hy
    have hyn:y<ns.length:=by omega
    have hy1:(y:Int)<(ns.length:Int):=by omega
    have ES:Hid (aa1 ns r (y:Int)=decide (aj9 ns[y].kind=r)):=by
     show _=_
     rw[aa1,hin,Int.toNat_natCast,ar5 hyn]
     rfl
    rw[hin]at CH
    clear hin
    by_cases hr:aj9 ns[y].kind=r
    ·have HT:Hid (aa1 ns r (y:Int)=true):=by show _=_;rw[ES.out];exact decide_eq_true hr
     (go_wp2_with (first
  | (go_at_call 102;refine(qa (CH _ HN2.out)).mono ?_;rintro e w2⟨rfl,hb2⟩;have HB3:=qb (HB2.out.trans (hb2.mono HB2.out.size));have HN3:=qb (HN2.out.stays hb2);obtain⟨f0,f1,f2,_⟩:=HX.out.stays HB3.out;obtain⟨a',c',p,kv,e5,hpa,hpb,hnode⟩:=HN3.out.node y hyn;injection e5 with e6 e7 e8;subst e6;have d0:=hnode.c0;have d1:=hnode.c1;have d2:=hnode.c2;have d3:=hnode.c3;have d4:=hnode.c4;have d5:=hnode.c5;have HKI:=qb hnode.kids;obtain⟨ko,kc,rfl,_⟩:=hnode.kids;clear e7 e8 hnode hb2)
  | (go_at_call 108;refine Calls.mono (aJ6 _ _ _ _ _ _ _ _ HKI.out) ?_;rintro e w4⟨rfl,hb4⟩;have HB3:=qb (HB3.out.trans (hb4.mono HB3.out.size));clear hb4)))
     go_roundw
     case rel=>exact⟨i+1,by rw[EM.out];omega,by go_num,HB3.out,fun j z hj hz=>by
      rcases Nat.lt_succ_iff_lt_or_eq.1 hj with h|h
      ·exact HA.out j z h hz
      ·subst h;rw[EX.out]at hz;cases hz;exact HT.out⟩
     case measure=>simp[intOf];omega
    ·have HF:Hid (xs.all (aa1 ns r)=false):=ay_ EX.out (by rw[ES.out];exact decide_eq_false hr)
     (go_wp2_with (first
  | (go_at_call 102;refine(qa (CH _ HN2.out)).mono ?_;rintro e w2⟨rfl,hb2⟩;have HB3:=qb (HB2.out.trans (hb2.mono HB2.out.size));have HN3:=qb (HN2.out.stays hb2);obtain⟨f0,f1,f2,_⟩:=HX.out.stays HB3.out;obtain⟨a',c',p,kv,e5,hpa,hpb,hnode⟩:=HN3.out.node y hyn;injection e5 with e6 e7 e8;subst e6;have d0:=hnode.c0;have d1:=hnode.c1;have d2:=hnode.c2;have d3:=hnode.c3;have d4:=hnode.c4;have d5:=hnode.c5;have HKI:=qb hnode.kids;obtain⟨ko,kc,rfl,_⟩:=hnode.kids;clear e7 e8 hnode hb2)
  | (go_at_call 108;refine Calls.mono (aJ6 _ _ _ _ _ _ _ _ HKI.out) ?_;rintro e w4⟨rfl,hb4⟩;have HB3:=qb (HB3.out.trans (hb4.mono HB3.out.size));clear hb4)))
     go_ret
     exact⟨by rw[HF.out];rfl,HB.out.trans (HB3.out.mono HB.out.size)⟩
  ·have hlt':¬ (i:Int)<(m:Int):=by omega
   have HF:Hid (xs.all (aa1 ns r)=true):=aJ7 (fun j x hx=>HA.out j x (by have:=(List.getElem?_eq_some_iff.1 hx).1;rw[EM.out]at this;omega) hx)
   go_wp2
   go_ret
   exact⟨by rw[HF.out];rfl,HB.out.trans (HB2.out.mono HB.out.size)⟩
def vok (n:Int):Bool:=decide (-1000000≤n) && decide (n≤1000000)
theorem vok_iff (n:Int):vok n=true↔-1000000≤n∧n≤1000000:=by simp[vok]
theorem af5 (n:Int) (w:World):Calls Tryz.prog 126 #[.int .i64 n] w fun e w'=>e=.returned (.bool (vok n))∧w=w':=by
 by_cases h1 : -1000000≤n
 ·have b1:decide (-1000000≤n)=true:=decide_eq_true h1
  have e:vok n=decide (n≤1000000):=by simp[vok,b1]
  rw[e]
  clear h1 e
  go_enter Tryz.func126,Tryz.ntmps126
  go_wp2
  go_ret
  exact⟨rfl,rfl⟩
 ·have b1:decide (-1000000≤n)=false:=decide_eq_false h1
  have e:vok n=false:=by simp[vok,b1]
  rw[e]
  clear h1 e
  go_enter Tryz.func126,Tryz.ntmps126
  go_wp2
  go_ret
  exact⟨rfl,rfl⟩
theorem af0 (op:Int) (w:World):Calls Tryz.prog 127 #[.int .i64 op] w fun e w'=>e=.returned (.bool (decide (1≤op) && decide (op≤9)))∧w=w':=by
 by_cases h1:1≤op
 ·go_enter Tryz.func127,Tryz.ntmps127
  go_wp2
  go_ret
  exact⟨by simp[h1],rfl⟩
 ·go_enter Tryz.func127,Tryz.ntmps127
  go_wp2
  go_ret
  exact⟨by simp;omega,rfl⟩
end Go.Proofs.YtcpapceeekkacaaGreatDoor
