import Derived.Test.YtcpapceeekkacaaGreatDoorTreeD
import Derived.Test.YtcpapceeekkacaaGreatDoorReadX
import Derived.Test.YtcpapceeekkacaaGreatDoorImpA
import Derived.Laws.OwnMore
import Derived.Handy
import Derived.Test.YtcpapceeekkacaaGreatDoorTreeL
import Derived.Test.YtcpapceeekkacaaGreatDoorTreeM
import Derived.Test.YtcpapceeekkacaaGreatDoorIrdO
set_option maxRecDepth 100000
set_option maxHeartbeats 8000000
namespace Go.Proofs.YtcpapceeekkacaaGreatDoor
open Go.RowKit
def NsIn (ns:List Nd):Prop:=∀ x∈ns,x.kids.length≤1048576∧x.name.size≤1048576∧x.more.size≤1048576∧x.into.size≤1048576
def aN_ (w W1:World) (ns:List Nd) (v iv:Value) (wr:World):Prop :=
 ∃ k:Nat,k≤ns.length∧iv=.int .i64 k∧Hid (wr.ownsRow (w.heap.size+1) 3 1 v k ((aa2 ns k).map I64))∧Hid (Below W1.heap.size W1 wr)
def DeepI (w2:World) (out ks:List Int) (dv iv:Value) (wr:World):Prop :=
 ∃ (j:Nat) (d:Int),j≤ks.length∧iv=.int .i64 j∧dv=.int .i64 d∧Hid (d=(ks.take j).foldl (al0 out) 1)∧1≤d∧d≤11∧wr=w2
theorem aZ9 {ns:List Nd}{k:Nat}{d:Int}(h:af9 ns (aa2 ns k) k=d):ak6 (aa2 ns k) k (af9 ns (aa2 ns k) k)=if 10<d∨(0<k∧(aa2 ns k).getD (k-1) 0=0) then 0 else d:=by
 rw[h,ak6]
theorem aP3 (nv mv pv:Value) (ns:List Nd) (w:World) (hN:af7 w nv ns) (hl:ns.length≤1048576) (hin:NsIn ns) :
  Calls Tryz.prog 34 #[.agg #[nv,mv,pv]] w fun e w'=>∃ v,e=.returned v∧w'.ownsRow (w.heap.size+1) 3 1 v ns.length ((aa2 ns ns.length).map I64)∧Below w.heap.size w w':=by
 have hb1:Below w.heap.size w (w.alloc (.cells #[nv,mv,pv] 26)):=bal _ _
 have HN:=qb (hN.stays hb1)
 have HX:=qb (ar3.made w nv mv pv 26)
 have HB:=qb hb1
 have HS:Hid ((w.alloc (.cells #[nv,mv,pv] 26)).heap.size=w.heap.size+1):=by show _=_;simp
 clear hb1
 have CN:=fun k hk w (h:af7 w nv ns)=>have:=hin _ (List.getElem_mem hk);qb (aM6 nv mv pv ns k w h hk hl this.1 this.2.1 this.2.2.1 this.2.2.2)
 have hin2:=qb hin
 clear hin
 obtain⟨ao,c,rfl,_⟩:=hN
 go_enter Tryz.func34,Tryz.ntmps34
 go_wp2
 obtain⟨W1,hW⟩:∃ W1,w.alloc (.cells #[.slice ao ns.length c,mv,pv] 26)=W1:=⟨_,rfl⟩
 rw[hW]at HN HX HB HS ⊢
 clear hW
 obtain⟨n,en⟩:∃ n,ns.length=n:=⟨_,rfl⟩
 have EN:=qb en
 rw[en]at HN HX hl ⊢
 clear en
 go_loopw [3,4] (aN_ w W1 ns) (fun _ iv _=>n-(intOf iv).toNat)
 case atStart=>exact⟨0,by omega,rfl,by
  have:=ak2 W1 (w.heap.size+1) 3 (by rw[HS.out];exact nlr _)
  rw[HS.out]at this
  exact this,bal _ _⟩
 case round =>
  obtain⟨k,hk,rfl,HO,HB2⟩:=hrel
  obtain⟨c0,c1,c2,_⟩:=HX.out.stays HB2.out
  rw[EN.out]at hk
  by_cases hlt:k<n
  ·have hlt':(k:Int)<(n:Int):=by omega
   have hk0:(0:Int)≤(k:Int):=by omega
   have hkx:k<ns.length:=by rw[EN.out];exact hlt
   have HN2:=qb (HN.out.stays HB2.out)
   have C:=CN k hkx
   have HKL:=qb (hin2.out _ (List.getElem_mem hkx)).1
   have HG:=qb (ar5 hkx)
   obtain⟨x,ex⟩:∃ x,ns[k]=x:=⟨_,rfl⟩
   have EX:=qb ex
   have HA:Hid (ae3 x (aj0 ns k)=true→∀ (i:Nat) (hi:i<x.kids.length),0≤x.kids[i]∧x.kids[i]<(k:Int)):=by
    show _→_
    rw[←ex];exact fun h=>as8 hkx h
   simp only[ex]at C HKL HG
   simp only[EN.out]at C
   obtain⟨out,eo⟩:∃ out,aa2 ns k=out:=⟨_,rfl⟩
   have EO:=qb eo
   have hD:Hid (aT0 out):=by rw[←eo];exact as1 ns k
   have HLO:Hid (out.length=k):=by rw[←eo];exact ag2 ns k
   rw[eo]at HO
   clear ex eo CN hin2
   cases hnb:ae3 x (aj0 ns k) with
   | false =>
    have HE0:Hid (af9 ns (aa2 ns k) k=0):=by show _=_;rw[af9,HG.out,hnb];rfl
    have HE1:=qb (aZ9 HE0.out)
    rw[hnb]at C
    clear hnb HA
    rcases k with _|k
    ·have HE:Hid (ak6 (aa2 ns 0) 0 (af9 ns (aa2 ns 0) 0)=0):=by show _=_;rw[HE1.out];rfl
     (go_wp2_with (first
  | (go_at_call 64;refine(qa (C _ HN2.out)).mono ?_;rintro e w2⟨rfl,hb2⟩;have HB3:=qb (HB2.out.trans (hb2.mono HB2.out.size));have HO:=qb (ac8 HO.out hb2);have hwz:w.heap.size+1≤w2.heap.size:=nlt (Nat.le_of_eq HS.out.symm) HB3.out.size;(try have hz:=(hb2.cell hg2).trans hz0);clear hb2)
  | (at_builtin;refine ai4 rfl (.tmp 71) (.tmp 73) 70 rfl (w.heap.size+1) 3 (.int .i64 0) 8 Tryz.underlying70 Tryz.infoInt rfl _ _ _ _ rfl HO.out rfl rfl (by unfold maxLen;omega) (by omega) hwz ?_)))
     (
 intro v' w4 hown4 hb4;
 have R:aN_ w W1 ns v' (.int .i64 (((0:Nat):Int)+1)) w4:=⟨0+1,(by rw[EN.out];omega),rfl,qb (by rw[aa2,HE.out,EO.out];simpa using hown4),HB3.out.trans (by rw[HS.out];exact hb4)⟩;
 clear hown4 hb4;
 go_wp2;
 go_roundw)
     case rel=>exact R
     case measure=>simp[intOf];omega
    ·have HE:Hid (ak6 (aa2 ns (k+1)) (k+1) (af9 ns (aa2 ns (k+1)) (k+1))=0):=by show _=_;rw[HE1.out];split <;> rfl
     obtain⟨g,cap,rfl,hg1,hg2,hcell⟩:=al5 HO.out (Nat.succ_pos k)
     have hz0:=hcell k (Nat.lt_succ_self k)
     obtain⟨z,ez⟩:∃ z,out.getD k 0=z:=⟨_,rfl⟩
     rw[ez]at hz0
     clear ez hcell
     by_cases hz1:z=0
     ·subst hz1
      (go_wp2_with (first
  | (go_at_call 64;refine(qa (C _ HN2.out)).mono ?_;rintro e w2⟨rfl,hb2⟩;have HB3:=qb (HB2.out.trans (hb2.mono HB2.out.size));have HO:=qb (ac8 HO.out hb2);have hwz:w.heap.size+1≤w2.heap.size:=nlt (Nat.le_of_eq HS.out.symm) HB3.out.size;(try have hz:=(hb2.cell hg2).trans hz0);clear hb2)
  | (at_builtin;refine ai4 rfl (.tmp 71) (.tmp 73) 70 rfl (w.heap.size+1) 3 (.int .i64 0) 8 Tryz.underlying70 Tryz.infoInt rfl _ _ _ _ rfl HO.out rfl rfl (by unfold maxLen;omega) (by omega) hwz ?_)))
      (
 intro v' w4 hown4 hb4;
 have R:aN_ w W1 ns v' (.int .i64 ((((k+1):Nat):Int)+1)) w4:=⟨(k+1)+1,(by rw[EN.out];omega),rfl,qb (by rw[aa2,HE.out,EO.out];simpa using hown4),HB3.out.trans (by rw[HS.out];exact hb4)⟩;
 clear hown4 hb4;
 go_wp2;
 go_roundw)
      case rel=>exact R
      case measure=>simp[intOf];omega
     ·(go_wp2_with (first
  | (go_at_call 64;refine(qa (C _ HN2.out)).mono ?_;rintro e w2⟨rfl,hb2⟩;have HB3:=qb (HB2.out.trans (hb2.mono HB2.out.size));have HO:=qb (ac8 HO.out hb2);have hwz:w.heap.size+1≤w2.heap.size:=nlt (Nat.le_of_eq HS.out.symm) HB3.out.size;(try have hz:=(hb2.cell hg2).trans hz0);clear hb2)
  | (at_builtin;refine ai4 rfl (.tmp 71) (.tmp 73) 70 rfl (w.heap.size+1) 3 (.int .i64 0) 8 Tryz.underlying70 Tryz.infoInt rfl _ _ _ _ rfl HO.out rfl rfl (by unfold maxLen;omega) (by omega) hwz ?_)))
      (
 intro v' w4 hown4 hb4;
 have R:aN_ w W1 ns v' (.int .i64 ((((k+1):Nat):Int)+1)) w4:=⟨(k+1)+1,(by rw[EN.out];omega),rfl,qb (by rw[aa2,HE.out,EO.out];simpa using hown4),HB3.out.trans (by rw[HS.out];exact hb4)⟩;
 clear hown4 hb4;
 go_wp2;
 go_roundw)
      case rel=>exact R
      case measure=>simp[intOf];omega
   | true =>
    have HA:=qb (HA.out hnb)
    have HK:Hid (af9 ns (aa2 ns k) k=x.kids.foldl (al0 out) 1):=by show _=_;rw[af9,HG.out,hnb,EO.out];rfl
    rw[hnb]at C
    clear hnb
    obtain⟨m,em⟩:∃ m,x.kids.length=m:=⟨_,rfl⟩
    have EM:=qb em
    rw[em]at HKL
    have hm:m≤1048576:=HKL.out
    clear em
    go_wp2_with (go_at_call 64;refine(qa (C _ HN2.out)).mono ?_;rintro e w2⟨rfl,hb2⟩;have HB3:=qb (HB2.out.trans (hb2.mono HB2.out.size));have HO:=qb (ac8 HO.out hb2);have hwz:w.heap.size+1≤w2.heap.size:=nlt (Nat.le_of_eq HS.out.symm) HB3.out.size;have HN3:=qb (HN2.out.stays hb2);obtain⟨f0,f1,f2,_⟩:=HX.out.stays HB3.out;clear hb2)
    clear c0 c1 c2
    go_loopw [5,6] (DeepI w2 out x.kids) (fun _ iv _=>m-(intOf iv).toNat)
    case atStart=>exact⟨0,1,by omega,rfl,rfl,rfl,by omega,by omega,rfl⟩
    case round =>
     obtain⟨j,d,hj,rfl,rfl,HD,hd1,hd2,rfl⟩:=hrel
     rw[EM.out]at hj
     obtain⟨a,cc,p,kv,e5,hpa,hpb,hnode⟩:=HN3.out.node k hkx
     injection e5 with e6 e7 e8
     subst e6
     have d5:=hnode.c5
     have hkr:=hnode.kids
     rw[EX.out]at hkr
     obtain⟨bo,cb,rfl,hkc⟩:=hkr
     rw[EM.out]at d5
     clear hnode e7 e8
     by_cases hlt2:j<m
     ·have hlt2':(j:Int)<(m:Int):=by omega
      have hj0:(0:Int)≤(j:Int):=by omega
      have hjx:j<x.kids.length:=by rw[EM.out];exact hlt2
      obtain⟨b,rfl,hbb,hy⟩:=hkc j hjx
      obtain⟨hy0,hy1⟩:=HA.out j hjx
      have EJ:Hid ((x.kids.take (j+1)).foldl (al0 out) 1=al0 out d x.kids[j]):=by
       show _=_
       rw[List.take_add_one,List.getElem?_eq_getElem hjx,List.foldl_append,HD.out]
       rfl
      obtain⟨y,ey⟩:∃ y,x.kids[j]=y:=⟨_,rfl⟩
      rw[ey]at hy hy0 hy1 EJ
      clear ey hkc
      obtain⟨t,et⟩:∃ t:Nat,y=(t:Int):=⟨y.toNat,by omega⟩
      subst et
      obtain⟨g,cap,rfl,hg1,hg2,hcell⟩:=al5 HO.out (by omega)
      have hz:=hcell t (by omega)
      have hzi:=hD.out t
      have EK:Hid (al0 out d (t:Int)=if d<out.getD t 0+1 then out.getD t 0+1 else d):=by show _=_;rw[al0];rfl
      obtain⟨z,ez⟩:∃ z,out.getD t 0=z:=⟨_,rfl⟩
      rw[ez]at hz hzi EK
      obtain⟨hz0,hz1⟩:=hzi
      clear ez hcell
      by_cases hq:d<z+1
      ·have EQ:Hid (z+1=(x.kids.take (j+1)).foldl (al0 out) 1):=by show _=_;rw[EJ.out,EK.out,if_pos hq]
       go_wp2
       go_roundw
       case rel=>exact⟨j+1,z+1,by rw[EM.out];omega,by go_num,by go_num,EQ.out,by omega,by omega,rfl⟩
       case measure=>simp[intOf];omega
      ·have EQ:Hid (d=(x.kids.take (j+1)).foldl (al0 out) 1):=by show _=_;rw[EJ.out,EK.out,if_neg hq]
       go_wp2
       go_roundw
       case rel=>exact⟨j+1,d,by rw[EM.out];omega,by go_num,rfl,EQ.out,by omega,by omega,rfl⟩
       case measure=>simp[intOf];omega
     ·have hlt2':¬ (j:Int)<(m:Int):=by omega
      have HE0:Hid (af9 ns (aa2 ns k) k=d):=by show _=_;rw[HK.out,HD.out,List.take_of_length_le (by rw[EM.out];omega)]
      have HE1:=qb (aZ9 HE0.out)
      clear hkc HA
      by_cases hq:10<d
      ·have HE:Hid (ak6 (aa2 ns k) k (af9 ns (aa2 ns k) k)=0):=by show _=_;rw[HE1.out,if_pos (.inl hq)]
       (go_wp2_with (first
  | (go_at_call 64;refine(qa (C _ HN2.out)).mono ?_;rintro e w2⟨rfl,hb2⟩;have HB3:=qb (HB2.out.trans (hb2.mono HB2.out.size));have HO:=qb (ac8 HO.out hb2);have hwz:w.heap.size+1≤w2.heap.size:=nlt (Nat.le_of_eq HS.out.symm) HB3.out.size;(try have hz:=(hb2.cell hg2).trans hz0);clear hb2)
  | (at_builtin;refine ai4 rfl (.tmp 71) (.tmp 73) 70 rfl (w.heap.size+1) 3 (.int .i64 0) 8 Tryz.underlying70 Tryz.infoInt rfl _ _ _ _ rfl HO.out rfl rfl (by unfold maxLen;omega) (by omega) hwz ?_)))
       (
 intro v' w4 hown4 hb4;
 have R:aN_ w W1 ns v' (.int .i64 (((k:Nat):Int)+1)) w4:=⟨k+1,(by rw[EN.out];omega),rfl,qb (by rw[aa2,HE.out,EO.out];simpa using hown4),HB3.out.trans (by rw[HS.out];exact hb4)⟩;
 clear hown4 hb4;
 go_wp2;
 go_roundw)
       case rel=>exact R
       case measure=>simp[intOf];omega
      ·rcases k with _|k
       ·have HE:Hid (ak6 (aa2 ns 0) 0 (af9 ns (aa2 ns 0) 0)=d):=by show _=_;rw[HE1.out,if_neg (by omega)]
        (go_wp2_with (first
  | (go_at_call 64;refine(qa (C _ HN2.out)).mono ?_;rintro e w2⟨rfl,hb2⟩;have HB3:=qb (HB2.out.trans (hb2.mono HB2.out.size));have HO:=qb (ac8 HO.out hb2);have hwz:w.heap.size+1≤w2.heap.size:=nlt (Nat.le_of_eq HS.out.symm) HB3.out.size;(try have hz:=(hb2.cell hg2).trans hz0);clear hb2)
  | (at_builtin;refine ai4 rfl (.tmp 71) (.tmp 73) 70 rfl (w.heap.size+1) 3 (.int .i64 0) 8 Tryz.underlying70 Tryz.infoInt rfl _ _ _ _ rfl HO.out rfl rfl (by unfold maxLen;omega) (by omega) hwz ?_)))
        (
 intro v' w4 hown4 hb4;
 have R:aN_ w W1 ns v' (.int .i64 (((0:Nat):Int)+1)) w4:=⟨0+1,(by rw[EN.out];omega),rfl,qb (by rw[aa2,HE.out,EO.out];simpa using hown4),HB3.out.trans (by rw[HS.out];exact hb4)⟩;
 clear hown4 hb4;
 go_wp2;
 go_roundw)
        case rel=>exact R
        case measure=>simp[intOf];omega
       ·obtain⟨g,cap,rfl,hg1,hg2,hcell⟩:=al5 HO.out (Nat.succ_pos k)
        have hz0:=hcell k (Nat.lt_succ_self k)
        rw[EO.out]at HE1
        have HE1:Hid (_=if 10<d∨(0<k+1∧out.getD k 0=0) then 0 else d):=HE1
        obtain⟨z,ez⟩:∃ z,out.getD k 0=z:=⟨_,rfl⟩
        rw[ez]at hz0 HE1
        clear ez hcell
        by_cases hz1:z=0
        ·have HE:Hid (ak6 (aa2 ns (k+1)) (k+1) (af9 ns (aa2 ns (k+1)) (k+1))=0):=by show _=_;rw[EO.out,HE1.out,if_pos (.inr ⟨by omega,hz1⟩)]
         subst hz1
         (go_wp2_with (first
  | (go_at_call 64;refine(qa (C _ HN2.out)).mono ?_;rintro e w2⟨rfl,hb2⟩;have HB3:=qb (HB2.out.trans (hb2.mono HB2.out.size));have HO:=qb (ac8 HO.out hb2);have hwz:w.heap.size+1≤w2.heap.size:=nlt (Nat.le_of_eq HS.out.symm) HB3.out.size;(try have hz:=(hb2.cell hg2).trans hz0);clear hb2)
  | (at_builtin;refine ai4 rfl (.tmp 71) (.tmp 73) 70 rfl (w.heap.size+1) 3 (.int .i64 0) 8 Tryz.underlying70 Tryz.infoInt rfl _ _ _ _ rfl HO.out rfl rfl (by unfold maxLen;omega) (by omega) hwz ?_)))
         (
 intro v' w4 hown4 hb4;
 have R:aN_ w W1 ns v' (.int .i64 ((((k+1):Nat):Int)+1)) w4:=⟨(k+1)+1,(by rw[EN.out];omega),rfl,qb (by rw[aa2,HE.out,EO.out];simpa using hown4),HB3.out.trans (by rw[HS.out];exact hb4)⟩;
 clear hown4 hb4;
 go_wp2;
 go_roundw)
         case rel=>exact R
         case measure=>simp[intOf];omega
        ·have HE:Hid (ak6 (aa2 ns (k+1)) (k+1) (af9 ns (aa2 ns (k+1)) (k+1))=d):=by show _=_;rw[EO.out,HE1.out,if_neg (by omega)]
         (go_wp2_with (first
  | (go_at_call 64;refine(qa (C _ HN2.out)).mono ?_;rintro e w2⟨rfl,hb2⟩;have HB3:=qb (HB2.out.trans (hb2.mono HB2.out.size));have HO:=qb (ac8 HO.out hb2);have hwz:w.heap.size+1≤w2.heap.size:=nlt (Nat.le_of_eq HS.out.symm) HB3.out.size;(try have hz:=(hb2.cell hg2).trans hz0);clear hb2)
  | (at_builtin;refine ai4 rfl (.tmp 71) (.tmp 73) 70 rfl (w.heap.size+1) 3 (.int .i64 0) 8 Tryz.underlying70 Tryz.infoInt rfl _ _ _ _ rfl HO.out rfl rfl (by unfold maxLen;omega) (by omega) hwz ?_)))
         (
 intro v' w4 hown4 hb4;
 have R:aN_ w W1 ns v' (.int .i64 ((((k+1):Nat):Int)+1)) w4:=⟨(k+1)+1,(by rw[EN.out];omega),rfl,qb (by rw[aa2,HE.out,EO.out];simpa using hown4),HB3.out.trans (by rw[HS.out];exact hb4)⟩;
 clear hown4 hb4;
 go_wp2;
 go_roundw)
         case rel=>exact R
         case measure=>simp[intOf];omega
  ·have hlt':¬ (k:Int)<(n:Int):=by omega
   have ei:k=n:=by omega
   subst ei
   go_wp2
   go_ret
   exact⟨_,rfl,by rw[EN.out];exact HO.out,HB.out.trans (HB2.out.mono HB.out.size)⟩
def au4 (ns:List Nd) (k:Int):Bool:=inZ 0 ((ns.length:Int)-1) k && ae3 (ns.getD k.toNat default) (aj0 ns k.toNat)
theorem Tryz.infoStr:(Tryz.prog.info? 9).map (fun i=>(i.zero,i.size,i.bytes))=some (some (.string ⟨#[]⟩),1,16):=by kernel_rfl
structure ThreeB (w:World) (A Z O:Array Value) (tA t:TypeId) (z:World):Prop where
 bA:Box z w.heap.size A tA
 bZ:Box z (w.heap.size+1) Z t
 bO:Box z (w.heap.size+1+1) O t
 bel:Below w.heap.size w z
 lt:w.heap.size+3≤z.heap.size
structure Pg where
 nodes:List Nd
 mons:List Mo
 pros:List Pr
structure aN1 (x:Pg):Prop where
 nl:x.nodes.length≤1048576
 ml:x.mons.length≤1048576
 pl:x.pros.length≤1048576
 kids:∀ y∈x.nodes,y.kids.length≤1048576
 mon:∀ y∈x.mons,y.vars.length≤1048576∧y.queues.length≤1048576∧y.ents.length≤1048576
 pro:∀ y∈x.pros,y.uses.length≤1048576∧y.vars.length≤1048576
def aD3 (d:Int):Bool:=inZ 1 10 d
def aB9 (ns:List Nd) (b:Int):Bool:=inZ 0 ((ns.length:Int)-1) b && decide ((ns.getD b.toNat default).kind=20)
def ag1 (x:Pg):Bool :=
 decide (x.nodes.length≤160) && aj3 x.mons x.pros && ((aa2 x.nodes x.nodes.length).all aD3 && ((ad4 x.mons x.pros).all (aB9 x.nodes) && aL7 x.nodes.length (ad4 x.mons x.pros++ab9 x.nodes)))
theorem aq0 (ns:List Nd) {k:Nat}:∀ n,k<n→(aa2 ns n).getD k 0=ak6 (aa2 ns k) k (af9 ns (aa2 ns k) k)
 | 0,h=>absurd h (Nat.not_lt_zero k)
 | n+1,h=>by
  rcases Nat.lt_succ_iff_lt_or_eq.1 h with h|h
  ·have e:(aa2 ns (n+1)).getD k 0=(aa2 ns n).getD k 0:=by
    simp[aa2,List.getD_eq_getElem?_getD,List.getElem?_append_left (show k<(aa2 ns n).length by rw[ag2];exact h)]
   rw[e,aq0 ns n h]
  ·subst h
   simp[aa2,List.getD_eq_getElem?_getD,ag2]
theorem aI4 {ns:List Nd}(h:(aa2 ns ns.length).all aD3=true) {k:Nat}(hk:k<ns.length):ae3 ns[k] (aj0 ns k)=true:=by
 have h1:(aa2 ns ns.length).getD k 0=(aa2 ns ns.length)[k]'(by rw[ag2];exact hk):=by
  simp[List.getD_eq_getElem?_getD,List.getElem?_eq_getElem (show k<(aa2 ns ns.length).length by rw[ag2];exact hk)]
 have h2:=List.all_eq_true.1 h _ (List.getElem_mem (show k<(aa2 ns ns.length).length by rw[ag2];exact hk))
 rw[←h1,aq0 ns ns.length hk]at h2
 have h3:=(ad5.1 h2).1
 cases hn:ae3 ns[k] (aj0 ns k) with
 | true=>rfl
 | false =>
  have e:af9 ns (aa2 ns k) k=0:=by
   rw[af9,ar5 hk,hn]
   rfl
  rw[e,ak6]at h3
  split at h3 <;> omega
theorem bh2 {ns:List Nd}(h:(aa2 ns ns.length).all aD3=true):∀ x∈ns,∀ y∈x.kids,0≤y∧y<(ns.length:Int):=by
 intro x hx y hy
 obtain⟨k,hk,rfl⟩:=List.getElem_of_mem hx
 obtain⟨i,hi,rfl⟩:=List.getElem_of_mem hy
 have:=as8 hk (aI4 h hk) i hi
 omega
theorem aA5 (nv mv pv:Value) (x:Pg) (w:World) (hN:af7 w nv x.nodes) (hM:ar8 w mv x.mons) (hP:ar9 w pv x.pros) (hL:aN1 x) (hin:NsIn x.nodes) (hmi:∀ m∈x.mons,MoIn m) (hpi:∀ p∈x.pros,PrIn p) (hkl:(ab9 x.nodes).length≤1048576) (hbl:(ad4 x.mons x.pros).length≤1048576) :
  Calls Tryz.prog 14 #[.agg #[nv,mv,pv]] w fun e w'=>e=.returned (.bool (ag1 x))∧Below w.heap.size w w':=by
 have hb1:Below w.heap.size w (w.alloc (.cells #[nv,mv,pv] 26)):=bal _ _
 have HN:=qb (hN.stays hb1)
 have HM:=qb (hM.stays hb1)
 have HP:=qb (hP.stays hb1)
 have HX:=qb (ar3.made w nv mv pv 26)
 have HB:=qb hb1
 have CL:=fun w h1 h2=>qb (aP4 nv mv pv x.mons x.pros w h1 h2 hL.ml hL.pl hmi hpi)
 have CD:=fun w h=>qb (aP3 nv mv pv x.nodes w h hL.nl hin)
 have CB:=fun w h1 h2=>qb (ay6 nv mv pv x.mons x.pros w h1 h2 hbl hL.ml hL.pl (fun m hm=>(hL.mon m hm).2.2))
 have CU:=fun w h0 h1 h2 hK=>qb (aV2 nv mv pv x.nodes x.mons x.pros w h0 h1 h2 hL.nl hbl hL.ml hL.pl (fun m hm=>(hL.mon m hm).2.2) hkl hL.kids hK)
 have hnl:=hL.nl
 clear hb1 hin hmi hpi hL hkl
 obtain⟨ao,c,rfl,_⟩:=hN
 obtain⟨mo,mc,rfl,_⟩:=hM
 obtain⟨po,pc,rfl,_⟩:=hP
 obtain⟨n,en⟩:∃ n,x.nodes.length=n:=⟨_,rfl⟩
 have EN:=qb en
 have HU:Hid (ag1 x=(decide (n≤160) && aj3 x.mons x.pros && ((aa2 x.nodes n).all aD3 && ((ad4 x.mons x.pros).all (aB9 x.nodes) && aL7 n (ad4 x.mons x.pros++ab9 x.nodes))))):=by show _=_;rw[ag1,en]
 have HKK:Hid ((aa2 x.nodes n).all aD3=true→∀ y∈x.nodes,∀ z∈y.kids,0≤z∧z<(n:Int)):=by rw[←en];exact bh2
 simp only[en]at HN HM HP HX HB CL CD CB CU hnl ⊢
 clear en
 by_cases h160:n≤160
 case neg =>
  have h160':(160:Int)<(n:Int):=by omega
  have HF:Hid (ag1 x=false):=by show _=_;rw[HU.out];simp[h160]
  go_enter Tryz.func14,Tryz.ntmps14
  go_wp2
  go_ret
  exact⟨by rw[HF.out];rfl,HB.out⟩
 have h160':¬ (160:Int)<(n:Int):=by omega
 cases hls:aj3 x.mons x.pros with
 | false =>
  have HF:Hid (ag1 x=false):=by show _=_;rw[HU.out,hls];simp
  rw[hls]at CL
  clear hls
  go_enter Tryz.func14,Tryz.ntmps14
  go_wp2_with (go_at_call 33;refine(qa (CL _ HM.out HP.out)).mono ?_;rintro e w2⟨rfl,hb2⟩;have HB2:=qb (HB.out.trans (hb2.mono HB.out.size));clear hb2)
  go_ret
  exact⟨by rw[HF.out];rfl,HB2.out⟩
 | true =>
  have HV:Hid (ag1 x=((aa2 x.nodes n).all aD3 && ((ad4 x.mons x.pros).all (aB9 x.nodes) && aL7 n (ad4 x.mons x.pros++ab9 x.nodes)))):=by show _=_;rw[HU.out,hls];simp[h160]
  rw[hls]at CL
  clear hls HU
  go_enter Tryz.func14,Tryz.ntmps14
  go_wp2_with fail
  obtain⟨W1,hW⟩:∃ W1,w.alloc (.cells #[.slice ao n c,.slice mo x.mons.length mc,.slice po x.pros.length pc] 26)=W1:=⟨_,rfl⟩
  rw[hW]at HN HM HP HX HB ⊢
  clear hW
  refine(qa (CL _ HM.out HP.out)).mono ?_
  rintro e w2⟨rfl,hb2⟩
  have B2:=qb hb2
  obtain⟨c0,c1,c2,_⟩:=HX.out.stays hb2
  clear hb2 CL
  go_wp2_with fail
  refine(qa (CD _ (HN.out.stays B2.out))).mono ?_
  rintro e w3⟨dv,rfl,hown3,hb3⟩
  have B3:=qb (B2.out.trans (hb3.mono B2.out.size))
  have DI:Hid (aa6 w3 dv (aa2 x.nodes n)):=ax6.at (ai5.own hown3)
  obtain⟨do_,dc,rfl,_⟩:=DI.out
  rw[ag2]at DI ⊢
  clear hown3 hb3 CD c0 c1 c2
  obtain⟨ds,eds⟩:∃ ds,aa2 x.nodes n=ds:=⟨_,rfl⟩
  have EDS:Hid (ds.length=n):=by show _=_;rw[←eds];exact ag2 _ _
  rw[eds]at DI HV HKK
  clear eds
  go_wp2
  go_loopw [4] (LstR w3 ds aD3) (fun iv _=>n-(intOf iv).toNat)
  case atStart=>exact⟨0,by omega,rfl,Below.refl _ _,fun j y hj=>absurd hj (Nat.not_lt_zero j)⟩
  case round =>
   obtain⟨i,hi,rfl,HB4,HA⟩:=hrel
   rw[EDS.out]at hi
   by_cases hlt:i<n
   ·have hlt':(i:Int)<(n:Int):=by omega
    have hi0:(0:Int)≤(i:Int):=by omega
    have hix:i<ds.length:=by rw[EDS.out];exact hlt
    obtain⟨do',dc',e5,hdc⟩:=DI.out.stays HB4.out
    injection e5 with e6 e7 e8
    subst e6
    obtain⟨b,rfl,_,hy⟩:=hdc i hix
    have EX:Hid (ds[i]? = some ds[i]):=List.getElem?_eq_getElem hix
    obtain⟨y,ey⟩:∃ y,ds[i]=y:=⟨_,rfl⟩
    rw[ey]at hy EX
    clear ey hdc e7 e8
    have CI:=fun w=>qb (ab7 y 1 10 w)
    have EQ:aD3 y=inZ 1 10 y:=rfl
    cases hq:inZ 1 10 y with
    | true =>
     rw[hq]at CI
     have HT:Hid (aD3 y=true):=EQ.trans hq
     clear hq EQ
     go_wp2_with (go_at_call 35;refine(qa (CI _)).mono ?_;rintro e w5⟨rfl,rfl⟩)
     go_roundw
     case rel=>exact⟨i+1,by rw[EDS.out];omega,by go_num,HB4.out,LstR.next HA.out EX.out HT.out⟩
     case measure=>simp[intOf];omega
    | false =>
     rw[hq]at CI
     have HF:Hid (ag1 x=false):=by show _=_;rw[HV.out,ay_ EX.out (EQ.trans hq)];rfl
     clear hq EQ
     go_wp2_with (go_at_call 35;refine(qa (CI _)).mono ?_;rintro e w5⟨rfl,rfl⟩)
     go_ret
     exact⟨by rw[HF.out];rfl,HB.out.trans ((B3.out.trans (HB4.out.mono B3.out.size)).mono HB.out.size)⟩
   ·have hlt':¬ (i:Int)<(n:Int):=by omega
    have hall:ds.all aD3=true:=LstR.all HA.out (by rw[EDS.out];omega)
    have HK:=qb (HKK.out hall)
    rw[hall,Bool.true_and]at HV
    clear hall HKK
    have B4:=qb (B3.out.trans (HB4.out.mono B3.out.size))
    obtain⟨c0,c1,c2,_⟩:=HX.out.stays B4.out
    go_wp2_with fail
    refine(qa (CB _ (HM.out.stays B4.out) (HP.out.stays B4.out))).mono ?_
    rintro e w6⟨bv,rfl,hown6,hb6⟩
    have B6:=qb (B4.out.trans (hb6.mono B4.out.size))
    have BI:Hid (aa6 w6 bv (ad4 x.mons x.pros)):=ax6.at (ai5.own hown6)
    obtain⟨bo,bc,rfl,_⟩:=BI.out
    clear hown6 hb6 CB c0 c1 c2
    obtain⟨bs,ebs⟩:∃ bs,ad4 x.mons x.pros=bs:=⟨_,rfl⟩
    simp only[ebs]at BI HV CU hbl ⊢
    clear ebs
    obtain⟨m,em⟩:∃ m,bs.length=m:=⟨_,rfl⟩
    have EM:=qb em
    rw[em]at BI hbl ⊢
    clear em
    go_wp2
    go_loopw [6] (LstR w6 bs (aB9 x.nodes)) (fun iv _=>m-(intOf iv).toNat)
    case atStart=>exact⟨0,by omega,rfl,Below.refl _ _,fun j y hj=>absurd hj (Nat.not_lt_zero j)⟩
    case round =>
     obtain⟨i,hi,rfl,HB7,HA7⟩:=hrel
     rw[EM.out]at hi
     have B7:=qb (B6.out.trans (HB7.out.mono B6.out.size))
     obtain⟨c0,c1,c2,_⟩:=HX.out.stays B7.out
     by_cases hlt:i<m
     ·have hlt':(i:Int)<(m:Int):=by omega
      have hi0:(0:Int)≤(i:Int):=by omega
      have hix:i<bs.length:=by rw[EM.out];exact hlt
      obtain⟨bo',bc',e5,hbc⟩:=BI.out.stays HB7.out
      injection e5 with e6 e7 e8
      subst e6
      obtain⟨b,rfl,_,hy⟩:=hbc i hix
      have EX:Hid (bs[i]? = some bs[i]):=List.getElem?_eq_getElem hix
      obtain⟨y,ey⟩:∃ y,bs[i]=y:=⟨_,rfl⟩
      rw[ey]at hy EX
      clear ey hbc e7 e8
      have CI:=fun w=>qb (ab7 y 0 ((n:Int)-1) w)
      have hwr:IntKind.i64.wrap ((n:Int)-1)=(n:Int)-1:=IntWalk.i64_in _ (by omega)
      cases hq:inZ 0 ((n:Int)-1) y with
      | false =>
       rw[hq]at CI
       have HF:Hid (ag1 x=false):=by show _=_;rw[HV.out,ay_ EX.out (by rw[aB9,EN.out,hq];rfl)];rfl
       clear hq
       go_wp2
       go_quiet ((go_at_call 35;exact Calls.quiet_of_same (qa (CI _))))
       all_goals go_wp2
       all_goals go_ret
       all_goals exact⟨by rw[HF.out];rfl,HB.out.trans ((below_drewN B7.out _).mono HB.out.size)⟩
      | true =>
       obtain⟨hy0,hy1⟩:=ad5.1 hq
       obtain⟨t,ht⟩:∃ t:Nat,y=(t:Int):=⟨y.toNat,by omega⟩
       subst ht
       have htn:t<x.nodes.length:=by rw[EN.out];omega
       have htn':(t:Int)<(n:Int):=by omega
       obtain⟨a',cc',p,kv,e5,hpa,hpb,hnode⟩:=(HN.out.stays B7.out).node t htn
       injection e5 with e6 e7 e8
       subst e6
       have d0:=hnode.c0
       have EQ:Hid (aB9 x.nodes (t:Int)=decide (x.nodes[t].kind=20)):=by show _=_;rw[aB9,EN.out,hq,Int.toNat_natCast,ar5 htn];rfl
       rw[hq]at CI
       obtain⟨kd,ekd⟩:∃ kd,x.nodes[t].kind=kd:=⟨_,rfl⟩
       rw[ekd]at d0 EQ
       clear hq hnode ekd e7 e8
       by_cases hkd:kd=20
       ·subst hkd
        have HT:Hid (aB9 x.nodes (t:Int)=true):=by show _=_;rw[EQ.out];rfl
        go_wp2
        go_region_held3 (fun z=>z.cell? (b.add i)=some (.int .i64 (t:Int))∧z.cell? ⟨w.heap.size,0,none⟩=some (.slice (some a') n c)∧z.cell? p=some (.int .i64 20)) (go_keep) ((go_at_call 35;refine(qa (CI _)).mono ?_;rintro e w8⟨rfl,rfl⟩))
        all_goals go_wp2
        all_goals go_roundw
        case rel=>exact⟨i+1,by rw[EM.out];omega,by go_num,HB7.out.drew,LstR.next HA7.out EX.out HT.out⟩
        case measure=>simp[intOf];omega
       ·have HF:Hid (ag1 x=false):=by show _=_;rw[HV.out,ay_ EX.out (by rw[EQ.out];simp[hkd])];rfl
        go_wp2
        go_region_held3 (fun z=>z.cell? (b.add i)=some (.int .i64 (t:Int))∧z.cell? ⟨w.heap.size,0,none⟩=some (.slice (some a') n c)∧z.cell? p=some (.int .i64 kd)) (go_keep) ((go_at_call 35;refine(qa (CI _)).mono ?_;rintro e w8⟨rfl,rfl⟩))
        all_goals go_wp2
        all_goals go_ret
        all_goals exact⟨by rw[HF.out];rfl,HB.out.trans (B7.out.drew.mono HB.out.size)⟩
     ·have hlt':¬ (i:Int)<(m:Int):=by omega
      have hall:bs.all (aB9 x.nodes)=true:=LstR.all HA7.out (by rw[EM.out];omega)
      rw[hall,Bool.true_and]at HV
      clear hall
      go_wp2_with fail
      refine(qa (CU _ (HN.out.stays B7.out) (HM.out.stays B7.out) (HP.out.stays B7.out) HK.out)).mono ?_
      rintro e w9⟨uv,rfl,hown9,hb9⟩
      have B9:=qb (B7.out.trans (hb9.mono B7.out.size))
      have UI:Hid (aa6 w9 uv (cnt n (bs++ab9 x.nodes))):=ax6.at (ai5.own hown9)
      obtain⟨uo,uc,rfl,_⟩:=UI.out
      rw[au_]at UI ⊢
      clear hown9 hb9 CU c0 c1 c2
      obtain⟨us,eus⟩:∃ us,cnt n (bs++ab9 x.nodes)=us:=⟨_,rfl⟩
      have EUS:Hid (us.length=n):=by show _=_;rw[←eus];exact au_ _ _
      have HV2:Hid (ag1 x=us.all (fun z=>decide (z=1))):=by show _=_;rw[HV.out,aL7,eus]
      rw[eus]at UI
      clear eus HV
      go_wp2
      go_loopw [8] (LstR w9 us (fun z=>decide (z=1))) (fun iv _=>n-(intOf iv).toNat)
      case atStart=>exact⟨0,by omega,rfl,Below.refl _ _,fun j y hj=>absurd hj (Nat.not_lt_zero j)⟩
      case round =>
       obtain⟨j,hj,rfl,HB10,HA10⟩:=hrel
       rw[EUS.out]at hj
       by_cases hltj:j<n
       ·have hltj':(j:Int)<(n:Int):=by omega
        have hj0:(0:Int)≤(j:Int):=by omega
        have hjx:j<us.length:=by rw[EUS.out];exact hltj
        obtain⟨uo',uc',e5,huc⟩:=UI.out.stays HB10.out
        injection e5 with e6 e7 e8
        subst e6
        obtain⟨b,rfl,_,hy⟩:=huc j hjx
        have EX:Hid (us[j]? = some us[j]):=List.getElem?_eq_getElem hjx
        obtain⟨y,ey⟩:∃ y,us[j]=y:=⟨_,rfl⟩
        rw[ey]at hy EX
        clear ey huc e7 e8
        by_cases hy1:y=1
        ·subst hy1
         go_wp2
         go_roundw
         case rel=>exact⟨j+1,by rw[EUS.out];omega,by go_num,HB10.out,LstR.next HA10.out EX.out rfl⟩
         case measure=>simp[intOf];omega
        ·have HF:Hid (ag1 x=false):=by show _=_;rw[HV2.out];exact ay_ EX.out (by simp[hy1])
         go_wp2
         go_ret
         exact⟨by rw[HF.out];rfl,HB.out.trans ((B9.out.trans (HB10.out.mono B9.out.size)).mono HB.out.size)⟩
       ·have hltj':¬ (j:Int)<(n:Int):=by omega
        have HF:Hid (ag1 x=true):=by show _=_;rw[HV2.out];exact LstR.all HA10.out (by rw[EUS.out];omega)
        go_wp2
        go_ret
        exact⟨by rw[HF.out];rfl,HB.out.trans ((B9.out.trans (HB10.out.mono B9.out.size)).mono HB.out.size)⟩
end Go.Proofs.YtcpapceeekkacaaGreatDoor
