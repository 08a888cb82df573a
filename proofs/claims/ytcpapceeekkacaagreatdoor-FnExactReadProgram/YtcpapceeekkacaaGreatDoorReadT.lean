import Derived.Test.YtcpapceeekkacaaGreatDoorIrdP
import Derived.Test.YtcpapceeekkacaaGreatDoorTreeB
import Derived.Test.YtcpapceeekkacaaGreatDoorTreeV
import Derived.Deep.RegionLaw
set_option maxRecDepth 100000
set_option maxHeartbeats 8000000
namespace Go.Proofs.YtcpapceeekkacaaGreatDoor
open Go.RowKit
def al2:Pg:=⟨[],[],[]⟩
def aj_ (l:List Sg):Pg:=⟨(ae7 l).1.nodes,(ae7 l).2.1,(ae7 l).2.2⟩
def al4 (t:ByteArray):Pg×Int :=
 if (ad2 t).2≠0 then (al2,((ad2 t).2:Int))
 else if (ae7 (ad2 t).1).1.bad=true∨(ae7 (ad2 t).1).1.pos<(ad2 t).1.length then (al2,if h:(ae7 (ad2 t).1).1.pos<(ad2 t).1.length then ((ad2 t).1[(ae7 (ad2 t).1).1.pos]).place+1 else (t.size:Int)+1)
 else if ag1 (aj_ (ad2 t).1)=true then (aj_ (ad2 t).1,0) else (al2,1)
def ar4 (t:ByteArray) (w:World) (e:Ending) (w':World):Prop :=
 ∃ nv mv pv,e=.returned (.tuple #[.agg #[nv,mv,pv],.int .i64 (al4 t).2])∧Below w.heap.size w w'∧af7 w' nv (al4 t).1.nodes∧ar8 w' mv (al4 t).1.mons∧ar9 w' pv (al4 t).1.pros
theorem ar4.nil {t:ByteArray}{w w':World}(h:(al4 t).1=al2) (hb:Below w.heap.size w w'):ar4 t w (.returned (.tuple #[.agg #[.slice none 0 0,.slice none 0 0,.slice none 0 0],.int .i64 (al4 t).2])) w':=by
 refine⟨_,_,_,rfl,hb,?_,?_,?_⟩
 ·rw[h];exact⟨none,0,rfl,fun j hj=>absurd hj (Nat.not_lt_zero j)⟩
 ·rw[h];exact⟨none,0,rfl,fun j hj=>absurd hj (Nat.not_lt_zero j)⟩
 ·rw[h];exact⟨none,0,rfl,fun j hj=>absurd hj (Nat.not_lt_zero j)⟩
theorem aU1 {α β:Type}(f:α→List β) (k:Nat):∀ (xs:List α),(∀ x∈xs,(f x).length≤k)→(xs.flatMap f).length≤xs.length*k
 | [],_=>by simp
 | x :: xs,h=>by
  have h1:=h x (by simp)
  have h2:=aU1 f k xs (fun y hy=>h y (by simp[hy]))
  rw[List.flatMap_cons,List.length_append,List.length_cons,Nat.add_mul]
  omega
theorem aF3 {l:List Sg}(hl:l.length≤500) (hx:∀ x∈l,x.text.size≤1048576) (hn:(ae7 l).1.nodes.length≤500):aN1 (aj_ l)∧NsIn (aj_ l).nodes∧(∀ m∈(aj_ l).mons,MoIn m)∧(∀ p∈(aj_ l).pros,PrIn p)∧(ab9 (aj_ l).nodes).length≤1048576∧(ad4 (aj_ l).mons (aj_ l).pros).length≤1048576:=by
 have h1:=Rd.monitors_fine hx (l.length+1) ⟨0,false,[]⟩ [] (fun x hx=>absurd hx (by simp)) (fun x hx=>absurd hx (by simp))
 have h2:=Rd.processes_fine hx (l.length+1) _ [] h1.1 (fun x hx=>absurd hx (by simp))
 have hF:Rd.Fine l (ae7 l).1:=h2.1.must l _
 have hM:(aj_ l).mons.length≤501:=by have:=h1.2.1;show (Rd.monitors l (l.length+1) ⟨0,false,[]⟩ []).2.length≤501;simp at this;omega
 have hP:(aj_ l).pros.length≤501:=by have:=h2.2.1;show (Rd.processes l (l.length+1) _ []).2.length≤501;simp at this;omega
 have hmf:∀ m∈(aj_ l).mons,MoF l m:=h1.2.2
 have hpf:∀ p∈(aj_ l).pros,PrF l p:=h2.2.2
 have hN:(aj_ l).nodes.length≤500:=hn
 have hNF:∀ x∈(aj_ l).nodes,NdF l x:=hF
 refine⟨⟨by omega,by omega,by omega,fun y hy=>by have:=(hNF y hy).1;omega,fun y hy=>?_,fun y hy=>?_⟩,fun y hy=>?_,fun y hy=>?_,fun y hy=>?_,?_,?_⟩
 ·obtain⟨_,a,b,c,_⟩:=hmf y hy
  exact⟨by have:=a.1;omega,by have:=b.1;omega,by omega⟩
 ·obtain⟨_,a,b⟩:=hpf y hy
  exact⟨by have:=a.1;omega,by have:=b.1;omega⟩
 ·obtain⟨a,b,c,d⟩:=hNF y hy
  exact⟨by omega,b,c,d⟩
 ·obtain⟨n,a,b,c,d⟩:=hmf y hy
  exact⟨n,⟨by have:=a.1;omega,a.2⟩,⟨by have:=b.1;omega,b.2⟩,by omega,d⟩
 ·obtain⟨n,a,b⟩:=hpf y hy
  exact⟨n,⟨by have:=a.1;omega,a.2⟩,⟨by have:=b.1;omega,b.2⟩⟩
 ·have:=aU1 Nd.kids 503 (aj_ l).nodes (fun x hx=>by have:=(hNF x hx).1;omega)
  unfold ab9
  have h3:(aj_ l).nodes.length*503≤500*503:=Nat.mul_le_mul_right _ hN
  omega
 ·have h4:=aU1 (fun m:Mo=>m.ents.map En.body) 501 (aj_ l).mons (fun x hx=>by have:=(hmf x hx).2.2.2.1;rw[List.length_map];omega)
  unfold ad4
  rw[List.length_append,List.length_map]
  have h3:(aj_ l).mons.length*501≤501*501:=Nat.mul_le_mul_right _ hM
  omega
def MonsRel (B g:Nat) (l:List Sg) (lv:Value) (R:Rd×List Mo) (w:World) (xb:Nat) (wr:World):Prop :=
 ∃ (s:Rd) (ms:List Mo) (m:Nat) (mo:Option Addr) (f:Nat),Hid (Rd.monitors l (m+1) s ms=R)∧Hid (l.length-s.pos<m+1∧ms.length≤s.pos)∧Hid (PgSt B g l lv w s xb #[.slice none 0 0,.slice mo ms.length f,.slice none 0 0] wr)∧Hid (an8 am3 41 w.heap.size wr (.slice mo ms.length f) ms)
def ProsRel (B g:Nat) (l:List Sg) (lv:Value) (R:Rd×List Pr) (w:World) (xb:Nat) (mv:Value) (ms:List Mo) (wr:World):Prop :=
 ∃ (s:Rd) (ps:List Pr) (m:Nat) (po:Option Addr) (f:Nat),Hid (Rd.processes l (m+1) s ps=R)∧Hid (l.length-s.pos<m+1∧ps.length≤s.pos)∧Hid (PgSt B g l lv w s xb #[.slice none 0 0,mv,.slice po ps.length f] wr)∧Hid (an8 am3 41 w.heap.size wr mv ms)∧Hid (an8 an_ 44 w.heap.size wr (.slice po ps.length f) ps)
theorem aY1 (t:ByteArray) (w:World) (ht:t.size≤1048576) (h0:(ad2 t).2=0):Calls Tryz.prog 4 #[.string t] w (ar4 t w):=by
 have CS:=fun w=>qb (au8 t w ht)
 have HT:=qb h0
 obtain⟨l,hl⟩:∃ l,l=(ad2 t).1:=⟨_,rfl⟩
 have HL:=qb hl
 have hlen:l.length≤500:=by rw[hl];exact aA4 t
 have hx:∀ x∈l,x.text.size≤1048576:=by rw[hl];exact ax2 t ht
 have hl2:l.length≤1048576:=by omega
 have HLN:=qb hlen
 have HX:=qb hx
 have HTT:=qb ht
 obtain⟨B,hB⟩:∃ B,B=w.heap.size:=⟨_,rfl⟩
 have HBW:=qb hB
 unfold ak8 at CS
 rw[h0,←hl]at CS
 clear h0 hlen hl hx hl2 hB ht
 go_enter Tryz.func4,Tryz.ntmps4
 go_wp2_with (go_at_call 9;refine(qa (CS _)).mono ?_;rintro e w1⟨lv,rfl,ho,hb⟩;have sh:=ab_ ho;obtain⟨lo,lc,e1⟩:=sh;subst e1;have O1:=qb (ad1 ho (Nat.zero_le _));have B1:Hid (Below B w w1):=((Below.refl B w).alloc (by rw[HBW.out];exact nlr _) (.cells #[.slice none 0 0,.slice none 0 0,.slice none 0 0] 26)).trans (hb.mono (by rw[HBW.out];simp));have X1:Hid (Box w1 B #[.slice none 0 0,.slice none 0 0,.slice none 0 0] 26):=by { rw[HBW.out];exact(Box.made w _ _).stays hb };clear ho hb CS)
 obtain⟨g,hg⟩:∃ g,g=w1.heap.size:=⟨_,rfl⟩
 have hBg:B≤w1.heap.size:=Nat.le_of_lt X1.out.lt
 have A2:Hid (RdAt (fun _=>False) B g l (.slice lo l.length lc) ⟨0,false,[]⟩ (w1.alloc (.cells #[.slice lo l.length lc,.int .i64 0,.bool false,.slice none 0 0] 37))):=by rw[hg];exact RdAt.begin O1.out hBg
 have B2:Hid (Below B w (w1.alloc (.cells #[.slice lo l.length lc,.int .i64 0,.bool false,.slice none 0 0] 37))):=B1.out.alloc hBg _
 have X2:Hid (Box (w1.alloc (.cells #[.slice lo l.length lc,.int .i64 0,.bool false,.slice none 0 0] 37)) B #[.slice none 0 0,.slice none 0 0,.slice none 0 0] 26):=X1.out.stays (bal _ _)
 have LV:Hid (World.ownsRow (w1.alloc (.cells #[.slice lo l.length lc,.int .i64 0,.bool false,.slice none 0 0] 37)) 0 48 4 (.slice lo l.length lc) l.length (ac7 l)):=O1.out.alloc _
 have hsz:(w1.alloc (.cells #[.slice lo l.length lc,.int .i64 0,.bool false,.slice none 0 0] 37)).heap.size=w1.heap.size+1:=by simp
 obtain⟨xb,hxb⟩:∃ xb,xb=w1.heap.size+1:=⟨_,rfl⟩
 rw[←hxb,←hg]
 have HXB:Hid (xb=(w1.alloc (.cells #[.slice lo l.length lc,.int .i64 0,.bool false,.slice none 0 0] 37)).heap.size):=by show _=_;rw[hsz,hxb]
 have HWB:Hid (B≤(w1.alloc (.cells #[.slice lo l.length lc,.int .i64 0,.bool false,.slice none 0 0] 37)).heap.size):=by show _≤_;rw[hsz];omega
 generalize w1.alloc (.cells #[.slice lo l.length lc,.int .i64 0,.bool false,.slice none 0 0] 37)=W at A2 B2 X2 LV HXB HWB ⊢
 have S3:Hid (PgSt B g l (.slice lo l.length lc) W ⟨0,false,[]⟩ xb #[.slice none 0 0,.slice none 0 0,.slice none 0 0] (W.alloc (.cells #[.slice none 0 0,.slice none 0 0,.slice none 0 0] 26))) :=
  ⟨(aa8.refl A2.out).new _,by rw[HXB.out];exact Box.made _ _ _,by rw[HXB.out];exact nlr _⟩
 clear hg hxb hsz hBg A2 O1 B1 X1
 generalize W.alloc (.cells #[.slice none 0 0,.slice none 0 0,.slice none 0 0] 26)=Z3 at S3 ⊢
 have CQ:=fun (s:Rd) t w h=>qb (ah0 (L:=fun _=>False) (B:=B) (g:=g) (l:=l) (lv:=.slice lo l.length lc) (s:=s) t w h (by have:=HLN.out;omega))
 have CD:=fun (s:Rd) w h=>qb (ag6 (L:=fun _=>False) (B:=B) (g:=g) (l:=l) (lv:=.slice lo l.length lc) (s:=s) (tx ".") w h (by have:=HLN.out;omega))
 have CM:=fun (s:Rd) w h=>qb (aM0 (L:=fun _=>False) (B:=B) (g:=g) (l:=l) (lv:=.slice lo l.length lc) s w h (by have:=HLN.out;omega) HX.out)
 have CP:=fun (s:Rd) w h=>qb (aM1 (L:=fun _=>False) (B:=B) (g:=g) (l:=l) (lv:=.slice lo l.length lc) s w h (by have:=HLN.out;omega) HX.out)
 obtain⟨R1,hR1⟩:∃ R,R=Rd.monitors l (l.length+1) ⟨0,false,[]⟩ []:=⟨_,rfl⟩
 have HR1:=qb hR1.symm
 clear hR1
 go_loopw [] (fun wr=>MonsRel B g l (.slice lo l.length lc) R1 W xb wr) (fun wr=>l.length-(intOf ((wr.cell? ⟨g,1,none⟩).getD undef)).toNat)
 case atStart=>exact⟨⟨0,false,[]⟩,[],l.length,none,0,HR1,⟨by show l.length-0<_;omega,Nat.zero_le _⟩,S3,an8.nil⟩
 case round =>
  obtain⟨s',ms,m',mo,f,HX1,HP,HS,HR⟩:=hrel
  have CQ1:=CQ s' (tx "monitor") _ HS.out.fin.at'
  cases hq:s'.isQ l (tx "monitor") with
  | true =>
   have hlt:=Rd.isQ_lt hq
   rw[hq,show s'.may l (tx "monitor")=s'.on from by simp[Rd.may,hq],tx6.2.2.2.2.1]at CQ1
   have hpo:s'.on.pos=s'.pos+1:=rfl
   have CM1:=CM s'.on
   have hpe:=Rd.monitor_pos l s'.on
   have HX2:Hid (Rd.monitors l m' (s'.on.monitor l).1 (ms++[(s'.on.monitor l).2])=R1):=by
    have:=HX1.out
    rw[Rd.monitors,hq,if_pos rfl]at this
    exact this
   obtain⟨y,hy⟩:∃ y,y=s'.on.monitor l:=⟨_,rfl⟩
   rw[←hy]at CM1 hpe HX2
   have HPO:=qb (show s'.pos+1≤y.1.pos by omega)
   have HKN:Hid (ms.length≤2000000):=by have:=HP.out;have:=HLN.out;show _≤_;omega
   obtain⟨css,hc1,hc2,hc3,hc4⟩:=HR.out
   have HC:Hid (css.length=ms.length∧(∀ c∈css,c.length=4)∧∀ (j:Nat) (cs:List Value) (x:Mo),css[j]? = some cs→ms[j]? = some x→am3 W.heap.size wr cs.toArray x):=⟨hc1,hc2,hc4⟩
   have HO:=qb hc3
   clear hy hpo hpe hq CQ CD CM CP hc1 hc2 hc3 hc4 S3
   go_wp2_with fail
   refine(qa CQ1).mono ?_
   rintro e w3⟨rfl,he⟩
   have K3:=qb (HS.out.call he).drew
   have O3:Hid (World.ownsRow w3.drew W.heap.size 41 4 (.slice mo ms.length f) ms.length css.flatten):=aa4 (z':=w3) HO.out he.keep aa3.m
   have E3:Hid (aa5 TySE wr w3.drew):=(aa5.keepT TySE.apart he.keep).trans (aa5.drew _)
   clear he CQ1
   go_wp2_with fail
   have y1:=chp K3.out.box 1
   simp at y1
   go_region_law (first
    | (refine ba8 23 41 4 88 (.agg #[.string ⟨#[]⟩,.slice none 0 0,.slice none 0 0,.slice none 0 0]) aa3.m Tryz.underlying23 Tryz.infoMo rfl (by decide) (by decide) rfl (.tmp 24) (.tmp 27) rfl (kb:=w5.heap.size) rfl K5.out.fin noL HWB.out O5.out rfl rfl HKN.out rfl (by simp[Value.oneCell']) ?_;intro v9 w9 hk9 ho9 hh9 hs9;have sh9:=ab_ ho9;obtain⟨eo9,f9,e9⟩:=sh9;subst e9;have B9:=qb (K5.out.change hk9 (hh9 _ K5.out.box.lt (al1 O5.out K5.out.box (by decide))));have E9:=qb (E5.out.trans (aa5.grow O5.out TySE.notM hh9));have M9:=qb (M5.out.of (aa5.grow O5.out TySE.notM hh9) (.inl rfl) (.inr rfl));have O9:=qb ho9;have u1:=chp B9.out.box 1;have uf:=fhp B9.out.box 1;simp at u1;clear hk9 ho9 hh9 hs9)
    | (go_simp;go_at_call 11;refine(qa (CM1 _ K3.out.fin.at')).mono ?_;rintro e w5⟨cs,rfl,he,hm⟩;have K5:=qb (K3.out.call he);have O5:=qb (aa4 O3.out he.keep aa3.m);have E5:=qb (E3.out.trans (aa5.keepT TySE.apart he.keep));have M5:=qb (am3.base hm K3.out.fin.keep.size);have z1:=chp K5.out.box 1;simp at z1;have hxl:=K5.out.box.lt;obtain⟨ao,c,bo,d,eo,f',e6,a1,a2,a3⟩:=hm;subst e6;clear he a1 a2 a3))
   all_goals
    have T9:=qb (B9.out.put HWB.out 1 (.slice eo9 (ms.length+1) f9))
    simp at T9
    have hpl:=T9.out.fin.at'.pos
    have h5:=HPO.out
    have h6:=HP.out
    have KE:=qb (E9.out.trans (aa5.poke B9.out.box TySE.notG 1 (.slice eo9 (ms.length+1) f9)))
    have R9:Hid (an8 am3 41 W.heap.size (w9.setCell ⟨xb,1,none⟩ (.slice eo9 (ms.length+1) f9)) (.slice eo9 (ms.length+1) f9) (ms++[y.2])) :=
     an8.app rfl (M9.out.of (aa5.poke B9.out.box TySE.notG 1 (.slice eo9 (ms.length+1) f9)) (.inl rfl) (.inr rfl)) css HC.out.1 HC.out.2.1 (fun j cs x hj hx=>(HC.out.2.2 j cs x hj hx).of KE.out (.inl rfl) (.inr rfl)) (aa_ O9.out B9.out.box (by decide) 1 (.slice eo9 (ms.length+1) f9))
    have FL:ms.length+1=(ms++[y.2]).length:=by simp
    have hm:∃ k,m'=k+1:=⟨m'-1,by omega⟩
    obtain⟨k,rfl⟩:=hm
    go_wp2
    go_roundw
    case rel =>
     rw[FL]at T9 R9
     rw[FL]
     exact⟨y.1,ms++[y.2],k,eo9,f9,HX2,⟨by omega,by simp;omega⟩,T9,R9⟩
    case measure =>
     rw[T9.out.fin.at'.posCell,HS.out.fin.at'.posCell]
     omega
  | false =>
   rw[hq,show s'.may l (tx "monitor")=s' from by simp[Rd.may,hq],tx6.2.2.2.2.1]at CQ1
   have HX2:Hid (R1=(s',ms)):=by
    have:=HX1.out
    rw[Rd.monitors,hq,if_neg (by simp)]at this
    exact this.symm
   obtain⟨R2,hR2⟩:∃ R,R=Rd.processes l (l.length+1) s' []:=⟨_,rfl⟩
   have HR2:=qb hR2.symm
   clear hR2 hq CM HX1 HP S3
   go_wp2_with fail
   refine(qa CQ1).mono ?_
   rintro e w3⟨rfl,he⟩
   have S4:=qb (HS.out.call he)
   have M4:=qb (HR.out.monOf (aa5.keepT TyM.apart he.keep))
   clear he CQ1 HS HR
   go_wp2_with fail
   go_loopw [] (fun wr=>ProsRel B g l (.slice lo l.length lc) R2 W xb (.slice mo ms.length f) ms wr) (fun wr=>l.length-(intOf ((wr.cell? ⟨g,1,none⟩).getD undef)).toNat)
   case atStart=>exact⟨s',[],l.length,none,0,HR2,⟨by omega,Nat.zero_le _⟩,S4,M4,an8.nil⟩
   case round =>
    obtain⟨s2,ps,m2,po,pf,HX1,HP,HS,HM,HR⟩:=hrel
    have CQ1:=CQ s2 (tx "process") _ HS.out.fin.at'
    cases hq:s2.isQ l (tx "process") with
    | true =>
     have hlt:=Rd.isQ_lt hq
     rw[hq,show s2.may l (tx "process")=s2.on from by simp[Rd.may,hq],tx6.2.2.2.2.2.1]at CQ1
     have hpo:s2.on.pos=s2.pos+1:=rfl
     have CM1:=CP s2.on
     have hpe:=Rd.process_pos l s2.on
     have HX3:Hid (Rd.processes l m2 (s2.on.process l).1 (ps++[(s2.on.process l).2])=R2):=by
      have:=HX1.out
      rw[Rd.processes,hq,if_pos rfl]at this
      exact this
     obtain⟨y,hy⟩:∃ y,y=s2.on.process l:=⟨_,rfl⟩
     rw[←hy]at CM1 hpe HX3
     have HPO:=qb (show s2.pos+1≤y.1.pos by omega)
     have HKN:Hid (ps.length≤2000000):=by have:=HP.out;have:=HLN.out;show _≤_;omega
     obtain⟨css,hc1,hc2,hc3,hc4⟩:=HR.out
     have HC:Hid (css.length=ps.length∧(∀ c∈css,c.length=4)∧∀ (j:Nat) (cs:List Value) (x:Pr),css[j]? = some cs→ps[j]? = some x→an_ W.heap.size wr cs.toArray x):=⟨hc1,hc2,hc4⟩
     have HO:=qb hc3
     clear hy hpo hpe hq CQ CD CP hc1 hc2 hc3 hc4 S4 M4
     go_wp2_with fail
     refine(qa CQ1).mono ?_
     rintro e w4⟨rfl,he⟩
     have K3:=qb (HS.out.call he).drew
     have O3:Hid (World.ownsRow w4.drew W.heap.size 44 4 (.slice po ps.length pf) ps.length css.flatten):=aa4 (z':=w4) HO.out he.keep aa3.p
     have E3:Hid (aa5 TyS9 wr w4.drew):=(aa5.keepT TyS9.apart he.keep).trans (aa5.drew _)
     have N3:Hid (aa5 TyM wr w4.drew):=(aa5.keepT TyM.apart he.keep).trans (aa5.drew _)
     clear he CQ1
     go_wp2_with fail
     have y1:=chp K3.out.box 2
     simp at y1
     go_region_law (first
      | (refine ba8 24 44 4 72 (.agg #[.string ⟨#[]⟩,.slice none 0 0,.slice none 0 0,.int .i64 0]) aa3.p Tryz.underlying24 Tryz.infoPr rfl (by decide) (by decide) rfl (.tmp 33) (.tmp 36) rfl (kb:=w5.heap.size) rfl K5.out.fin noL HWB.out O5.out rfl rfl HKN.out rfl (by simp[Value.oneCell']) ?_;intro v9 w9 hk9 ho9 hh9 hs9;have sh9:=ab_ ho9;obtain⟨eo9,f9,e9⟩:=sh9;subst e9;have B9:=qb (K5.out.change hk9 (hh9 _ K5.out.box.lt (al1 O5.out K5.out.box (by decide))));have E9:=qb (E5.out.trans (aa5.grow O5.out TyS9.notP hh9));have N9:=qb (N5.out.trans (aa5.grow O5.out TyM.notP hh9));have M9:=qb (M5.out.of (aa5.grow O5.out TyS9.notP hh9) rfl);have O9:=qb ho9;have u1:=chp B9.out.box 2;have uf:=fhp B9.out.box 2;simp at u1;clear hk9 ho9 hh9 hs9)
      | (go_simp;go_at_call 12;refine(qa (CM1 _ K3.out.fin.at')).mono ?_;rintro e w5⟨cs,rfl,he,hm⟩;have K5:=qb (K3.out.call he);have O5:=qb (aa4 O3.out he.keep aa3.p);have E5:=qb (E3.out.trans (aa5.keepT TyS9.apart he.keep));have N5:=qb (N3.out.trans (aa5.keepT TyM.apart he.keep));have M5:=qb (an_.base hm K3.out.fin.keep.size);have z1:=chp K5.out.box 2;simp at z1;have hxl:=K5.out.box.lt;obtain⟨ao,c,bo,d,e6,a1,a2⟩:=hm;subst e6;clear he a1 a2))
     all_goals
      have T9:=qb (B9.out.put HWB.out 2 (.slice eo9 (ps.length+1) f9))
      simp at T9
      have hpl:=T9.out.fin.at'.pos
      have h5:=HPO.out
      have h6:=HP.out
      have KE:=qb (E9.out.trans (aa5.poke B9.out.box TyS9.notG 2 (.slice eo9 (ps.length+1) f9)))
      have MM:=qb (HM.out.monOf (N9.out.trans (aa5.poke B9.out.box TyM.notG 2 (.slice eo9 (ps.length+1) f9))))
      have R9:Hid (an8 an_ 44 W.heap.size (w9.setCell ⟨xb,2,none⟩ (.slice eo9 (ps.length+1) f9)) (.slice eo9 (ps.length+1) f9) (ps++[y.2])) :=
       an8.app rfl (M9.out.of (aa5.poke B9.out.box TyS9.notG 2 (.slice eo9 (ps.length+1) f9)) rfl) css HC.out.1 HC.out.2.1 (fun j cs x hj hx=>(HC.out.2.2 j cs x hj hx).of KE.out rfl) (aa_ O9.out B9.out.box (by decide) 2 (.slice eo9 (ps.length+1) f9))
      have FL:ps.length+1=(ps++[y.2]).length:=by simp
      have hm:∃ k,m2=k+1:=⟨m2-1,by omega⟩
      obtain⟨k,rfl⟩:=hm
      go_wp2
      go_roundw
      case rel =>
       rw[FL]at T9 R9 MM
       rw[FL]
       exact⟨y.1,ps++[y.2],k,eo9,f9,HX3,⟨by omega,by simp;omega⟩,T9,MM,R9⟩
      case measure =>
       rw[T9.out.fin.at'.posCell,HS.out.fin.at'.posCell]
       omega
    | false =>
     rw[hq,show s2.may l (tx "process")=s2 from by simp[Rd.may,hq],tx6.2.2.2.2.2.1]at CQ1
     have HX3:Hid (R2=(s2,ps)):=by
      have:=HX1.out
      rw[Rd.processes,hq,if_neg (by simp)]at this
      exact this.symm
     have CD1:=CD s2
     have HRL:Hid (ae7 l=(s2.must l (tx "."),ms,ps)):=by
      show _=_
      unfold ae7
      rw[HR1.out,HX2.out]
      dsimp only
      rw[HR2.out,HX3.out]
     obtain⟨c,hc⟩:∃ c,c=s2.must l (tx "."):=⟨_,rfl⟩
     rw[←hc]at CD1 HRL
     rw[tx6.2.2.2.2.2.2]at CD1
     clear hc hq CQ CD CP HX1 HP HX2 HX3 HR1 HR2 S4 M4
     go_wp2_with fail
     refine(qa CQ1).mono ?_
     rintro e w4⟨rfl,he⟩
     have S5:=qb (HS.out.call he)
     have M5:=qb (HM.out.monOf (aa5.keepT TyM.apart he.keep))
     have P5:=qb (HR.out.proOf (aa5.keepT TyP.apart he.keep))
     clear he CQ1 HS HM HR
     go_wp2_with fail
     refine(qa (CD1 _ S5.out.fin.at')).mono ?_
     rintro e z⟨rfl,he⟩
     have S6:=qb (S5.out.call he)
     have M6:=qb (M5.out.monOf (aa5.keepT TyM.apart he.keep))
     have P6:=qb (P5.out.proOf (aa5.keepT TyP.apart he.keep))
     clear he CD1 S5 M5 P5
     have X6:=qb (X2.out.keep S6.out.fin.keep aa3.g)
     have B6:=qb (B2.out.trans S6.out.fin.bel)
     obtain⟨nv,hbx,hnt⟩:=S6.out.fin.at'.box
     have NT:=qb hnt
     obtain⟨no,nc,e⟩:=hnt.shape
     subst e
     have c1:=chp hbx 1
     have c2:=chp hbx 2
     have c3:=chp hbx 3
     have b0:=chp X6.out 0
     have b1:=chp X6.out 1
     have b2:=chp X6.out 2
     have q0:=fhp X6.out 0
     have q1:=fhp X6.out 1
     have q2:=fhp X6.out 2
     have x0:=chp S6.out.box 0
     have x1:=chp S6.out.box 1
     have x2:=chp S6.out.box 2
     have fx:=fhp S6.out.box 0
     simp at b0 b1 b2 c1 c2 c3 x0 x1 x2
     have hcp:=S6.out.fin.at'.pos
     have hcg:=S6.out.fin.at'.good
     rw[←HBW.out]
     have HL1:Hid ((ad2 t).1=l):=HL.out.symm
     have EC:Hid ((ae7 l).1=c):=by show _=_;rw[HRL.out]
     have HGB:Hid (g≠B):=aZ5 hbx X6.out (by decide)
     have HXX:Hid (xb≠B):=by
      have h1:=S6.out.xlo
      have h2:=X2.out.lt
      show ¬ _=_
      omega
     have HXG:Hid (xb≠g):=aZ5 S6.out.box hbx (by decide)
     clear hnt hbx
     by_cases hlt:c.pos<l.length
     ·have HRP:Hid (al4 t=(al2,(l[c.pos]).place+1)):=by
       show _=_
       unfold al4
       rw[HL1.out,EC.out,if_neg (by simp[HT.out]),if_pos (.inr hlt),dif_pos hlt]
      obtain⟨a,lc',p,e,ha,d0,d1,d2,d3⟩:=S6.out.fin.at'.sign hlt
      injection e with e1 e2 e3
      subst e1
      have hpl:0≤(l[c.pos]).place∧(l[c.pos]).place<1048576:=by
       have:=aS0 t (l[c.pos]) (by rw[HL1.out];exact List.getElem_mem hlt)
       have:=HTT.out
       omega
      obtain⟨pl,epl⟩:∃ pl,(l[c.pos]).place=pl:=⟨_,rfl⟩
      rw[epl]at d3 hpl HRP
      have hwr:wrap64 (pl+1)=pl+1:=IntWalk.wrap64_in _ (by omega)
      have hi0:(0:Int)≤(c.pos:Int):=by omega
      have hi1:(c.pos:Int)<(l.length:Int):=by omega
      have hpB:¬ p.block=B:=fun e=>by
       have h1:=al1 S6.out.fin.at'.sg X6.out (by decide)
       have h2:p.block=a.block:=by rw[←ha,af_]
       exact h1 (by show some a.block=some B;rw[←h2,e])
      have hBp:¬ B=p.block:=fun e=>hpB e.symm
      have hgB:¬ g=B:=HGB.out
      have hBg:¬ B=g:=fun e=>HGB.out e.symm
      clear e2 e3 epl hcg
      have XF:Hid (Box (((z.setCell ⟨B,0,none⟩ (.slice none 0 0)).setCell ⟨B,1,none⟩ (.slice none 0 0)).setCell ⟨B,2,none⟩ (.slice none 0 0)) B #[.slice none 0 0,.slice none 0 0,.slice none 0 0] 26):=by
       have:=((X6.out.set 0 (.slice none 0 0)).set 1 (.slice none 0 0)).set 2 (.slice none 0 0)
       simpa [Hid] using this
      cases hbd:c.bad
      all_goals
       rw[hbd]at c2
       go_wp2
       go_region
       all_goals go_wp2
       all_goals
        refine ap5 (g:=B) (t:=26) (cs:=#[.slice none 0 0,.slice none 0 0,.slice none 0 0]) rfl rfl XF.out _ Tryz.underlying26 rfl (by kernel_rfl) rfl ?_
        have E1:=ar4.nil (t:=t) (w:=w) (w':=((z.drew.setCell ⟨B,0,none⟩ (.slice none 0 0)).setCell ⟨B,1,none⟩ (.slice none 0 0)).setCell ⟨B,2,none⟩ (.slice none 0 0)) (by rw[HRP.out]) (by rw[←HBW.out];exact((B6.out.drew.setCell (p:=⟨B,0,none⟩) (nlr _) _).setCell (p:=⟨B,1,none⟩) (nlr _) _).setCell (p:=⟨B,2,none⟩) (nlr _) _)
        rw[HRP.out]at E1
        exact E1
     ·have hge:¬ (c.pos:Int)<(l.length:Int):=by omega
      have hgB:¬ g=B:=HGB.out
      have hBg:¬ B=g:=fun e=>HGB.out e.symm
      have hxB:¬ xb=B:=HXX.out
      have hBx:¬ B=xb:=fun e=>HXX.out e.symm
      have hxg:¬ xb=g:=HXG.out
      have hgx:¬ g=xb:=fun e=>HXG.out e.symm
      have XF:Hid (∀ y:World,Box y B #[.slice none 0 0,.slice none 0 0,.slice none 0 0] 26→Box (((y.setCell ⟨B,0,none⟩ (.slice none 0 0)).setCell ⟨B,1,none⟩ (.slice none 0 0)).setCell ⟨B,2,none⟩ (.slice none 0 0)) B #[.slice none 0 0,.slice none 0 0,.slice none 0 0] 26):=fun y hy=>by
       have:=((hy.set 0 (.slice none 0 0)).set 1 (.slice none 0 0)).set 2 (.slice none 0 0)
       simpa using this
      cases hbd:c.bad with
      | true =>
       have hts:0≤(t.size:Int)∧(t.size:Int)≤1048576:=by have:=HTT.out;omega
       have hwr:wrap64 ((t.size:Int)+1)=(t.size:Int)+1:=IntWalk.wrap64_in _ (by omega)
       have HRP:Hid (al4 t=(al2,(t.size:Int)+1)):=by
        show _=_
        unfold al4
        rw[HL1.out,EC.out,if_neg (by simp[HT.out]),if_pos (.inl hbd),dif_neg hlt]
       rw[hbd]at c2
       clear hcg
       go_wp2
       refine ap5 (g:=B) (t:=26) (cs:=#[.slice none 0 0,.slice none 0 0,.slice none 0 0]) rfl rfl (XF.out z X6.out) _ Tryz.underlying26 rfl (by kernel_rfl) rfl ?_
       have E1:=ar4.nil (t:=t) (w:=w) (w':=((z.setCell ⟨B,0,none⟩ (.slice none 0 0)).setCell ⟨B,1,none⟩ (.slice none 0 0)).setCell ⟨B,2,none⟩ (.slice none 0 0)) (by rw[HRP.out]) (by rw[←HBW.out];exact((B6.out.setCell (p:=⟨B,0,none⟩) (nlr _) _).setCell (p:=⟨B,1,none⟩) (nlr _) _).setCell (p:=⟨B,2,none⟩) (nlr _) _)
       rw[HRP.out]at E1
       exact E1
      | false =>
       rw[hbd]at c2
       obtain⟨hI1,hI2,hI3,hI4,hI5,hI6⟩:=aF3 HLN.out HX.out (by rw[EC.out];have:=HLN.out;unfold Rd.Good at hcg;omega)
       have EP:Hid (aj_ l=⟨c.nodes,ms,ps⟩):=by show _=_;unfold aj_;rw[HRL.out]
       rw[EP.out]at hI1 hI2 hI3 hI4 hI5 hI6
       have HB':Hid (al4 t=if ag1 ⟨c.nodes,ms,ps⟩=true then (⟨c.nodes,ms,ps⟩,0) else (al2,1)):=by
        show _=_
        unfold al4
        rw[HL1.out,EC.out,if_neg (by simp[HT.out]),if_neg (by rw[hbd];simp;omega),EP.out]
       have S7:=qb (S6.out.put HWB.out 0 (.slice no c.nodes.length nc))
       simp at S7
       have M7:=qb (M6.out.monOf (aa5.poke S6.out.box TyM.notG 0 (.slice no c.nodes.length nc)))
       have P7:=qb (P6.out.proOf (aa5.poke S6.out.box TyP.notG 0 (.slice no c.nodes.length nc)))
       have N7:=qb (NT.out.chg S6.out.box aa3.g 0 (.slice no c.nodes.length nc))
       have X7:Hid (Box (z.setCell ⟨xb,0,none⟩ (.slice no c.nodes.length nc)) B #[.slice none 0 0,.slice none 0 0,.slice none 0 0] 26):=X6.out.other _ _ hBx
       have B7:=qb (B6.out.setCell (p:=⟨xb,0,none⟩) (by have:=S6.out.xlo;have:=HWB.out;show B≤xb;omega) (.slice no c.nodes.length nc))
       have C7:=qb (aA5 (.slice no c.nodes.length nc) (.slice mo ms.length f) (.slice po ps.length pf) ⟨c.nodes,ms,ps⟩ (z.setCell ⟨xb,0,none⟩ (.slice no c.nodes.length nc)) N7.out.nds M7.out.mons.at P7.out.pros.at hI1 hI2 hI3 hI4 hI5 hI6)
       clear hI1 hI2 hI3 hI4 hI5 hI6 hcg
       go_wp2_with fail
       refine(qa C7).mono ?_
       rintro e y⟨rfl,hb⟩
       have S8:=qb (S7.out.box.stays hb)
       have M8:=qb (M7.out.monOf (aa5.below hb))
       have P8:=qb (P7.out.proOf (aa5.below hb))
       have N8:=qb (N7.out.keep (ak_.below hb) (fun _ ho=>ac8 ho hb))
       have X8:=qb (X7.out.stays hb)
       have B8:=qb (B7.out.trans (hb.mono B7.out.size |>.mono (by rw[HBW.out];exact nlr _)))
       clear hb C7 b0 b1 b2 q0 q1 q2 x0 x1 x2 fx c1 c2 c3
       have b0:=chp X8.out 0
       have b1:=chp X8.out 1
       have b2:=chp X8.out 2
       have q0:=fhp X8.out 0
       have q1:=fhp X8.out 1
       have q2:=fhp X8.out 2
       have x0:=chp S8.out 0
       have x1:=chp S8.out 1
       have x2:=chp S8.out 2
       simp at b0 b1 b2 x0 x1 x2
       cases hok:ag1 ⟨c.nodes,ms,ps⟩ with
       | false =>
        have HRP:Hid (al4 t=(al2,1)):=by show _=_;rw[HB'.out,hok];rfl
        go_wp2
        refine ap5 (g:=B) (t:=26) (cs:=#[.slice none 0 0,.slice none 0 0,.slice none 0 0]) rfl rfl (XF.out y X8.out) _ Tryz.underlying26 rfl (by kernel_rfl) rfl ?_
        have E1:=ar4.nil (t:=t) (w:=w) (w':=((y.setCell ⟨B,0,none⟩ (.slice none 0 0)).setCell ⟨B,1,none⟩ (.slice none 0 0)).setCell ⟨B,2,none⟩ (.slice none 0 0)) (by rw[HRP.out]) (by rw[←HBW.out];exact((B8.out.setCell (p:=⟨B,0,none⟩) (nlr _) _).setCell (p:=⟨B,1,none⟩) (nlr _) _).setCell (p:=⟨B,2,none⟩) (nlr _) _)
        rw[HRP.out]at E1
        exact E1
       | true =>
        have HRP:Hid (al4 t=(⟨c.nodes,ms,ps⟩,0)):=by show _=_;rw[HB'.out,hok];rfl
        have Y0:=qb (X8.out.set 0 (.slice no c.nodes.length nc))
        have Y1:=qb (Y0.out.set 1 (.slice mo ms.length f))
        have Y2:=qb (Y1.out.set 2 (.slice po ps.length pf))
        have N9:=qb (((N8.out.chg X8.out aa3.g 0 (.slice no c.nodes.length nc)).chg Y0.out aa3.g 1 (.slice mo ms.length f)).chg Y1.out aa3.g 2 (.slice po ps.length pf))
        have M9:=qb (((M8.out.monOf (aa5.poke X8.out TyM.notG 0 (.slice no c.nodes.length nc))).monOf (aa5.poke Y0.out TyM.notG 1 (.slice mo ms.length f))).monOf (aa5.poke Y1.out TyM.notG 2 (.slice po ps.length pf)))
        have P9:=qb (((P8.out.proOf (aa5.poke X8.out TyP.notG 0 (.slice no c.nodes.length nc))).proOf (aa5.poke Y0.out TyP.notG 1 (.slice mo ms.length f))).proOf (aa5.poke Y1.out TyP.notG 2 (.slice po ps.length pf)))
        have B9:=qb (((B8.out.setCell (p:=⟨B,0,none⟩) (nlr _) (.slice no c.nodes.length nc)).setCell (p:=⟨B,1,none⟩) (nlr _) (.slice mo ms.length f)).setCell (p:=⟨B,2,none⟩) (nlr _) (.slice po ps.length pf))
        simp at Y2
        go_wp2
        refine ap5 (g:=B) (t:=26) (cs:=#[.slice no c.nodes.length nc,.slice mo ms.length f,.slice po ps.length pf]) rfl rfl Y2.out _ Tryz.underlying26 rfl (by kernel_rfl) rfl ?_
        refine⟨_,_,_,by rw[HRP.out];rfl,by rw[←HBW.out];exact B9.out,?_,?_,?_⟩
        ·rw[HRP.out];exact N9.out.nds
        ·rw[HRP.out];exact M9.out.mons.at
        ·rw[HRP.out];exact P9.out.pros.at
theorem aS4 (t:ByteArray) (w:World) (ht:t.size≤1048576) (h0:(ad2 t).2≠0):Calls Tryz.prog 4 #[.string t] w (ar4 t w):=by
 have CS:=fun w=>qb (au8 t w ht)
 unfold ak8 at CS
 have HRP:Hid (al4 t=(al2,((ad2 t).2:Int))):=by show _=_;unfold al4;rw[if_pos h0]
 obtain⟨n,hn⟩:∃ n,(ad2 t).2=n:=⟨_,rfl⟩
 rw[hn]at CS HRP h0
 have hne:¬ (n:Int)=0:=by omega
 clear hn h0
 go_enter Tryz.func4,Tryz.ntmps4
 go_wp2_with (go_at_call 9;refine(qa (CS _)).mono ?_;rintro e w1⟨lv,rfl,ho,hb⟩;have sh:=ab_ ho;obtain⟨lo,lc,e1⟩:=sh;subst e1;have B1:Hid (Below w.heap.size w w1):=((Below.refl _ w).alloc (nlr _) (.cells #[.slice none 0 0,.slice none 0 0,.slice none 0 0] 26)).trans (hb.mono (by simp));have X1:Hid (Box w1 w.heap.size #[.slice none 0 0,.slice none 0 0,.slice none 0 0] 26):=(Box.made w _ _).stays hb;have b0:=chp X1.out 0;have b1:=chp X1.out 1;have b2:=chp X1.out 2;have q0:=fhp X1.out 0;have q1:=fhp X1.out 1;have q2:=fhp X1.out 2;simp at b0 b1 b2;clear ho hb CS)
 have XF:Hid (Box (((w1.setCell ⟨w.heap.size,0,none⟩ (.slice none 0 0)).setCell ⟨w.heap.size,1,none⟩ (.slice none 0 0)).setCell ⟨w.heap.size,2,none⟩ (.slice none 0 0)) w.heap.size #[.slice none 0 0,.slice none 0 0,.slice none 0 0] 26):=by
  have:=((X1.out.set 0 (.slice none 0 0)).set 1 (.slice none 0 0)).set 2 (.slice none 0 0)
  simpa [Hid] using this
 refine ap5 (g:=w.heap.size) (t:=26) (cs:=#[.slice none 0 0,.slice none 0 0,.slice none 0 0]) rfl rfl XF.out _ Tryz.underlying26 rfl (by kernel_rfl) rfl ?_
 have E1:=ar4.nil (t:=t) (w:=w) (w':=((w1.setCell ⟨w.heap.size,0,none⟩ (.slice none 0 0)).setCell ⟨w.heap.size,1,none⟩ (.slice none 0 0)).setCell ⟨w.heap.size,2,none⟩ (.slice none 0 0)) (by rw[HRP.out]) (((B1.out.setCell (p:=⟨w.heap.size,0,none⟩) (nlr _) _).setCell (p:=⟨w.heap.size,1,none⟩) (nlr _) _).setCell (p:=⟨w.heap.size,2,none⟩) (nlr _) _)
 rw[HRP.out]at E1
 exact E1
theorem aS3 (t:ByteArray) (w:World) (ht:t.size≤1048576):Calls Tryz.prog 4 #[.string t] w (ar4 t w):=by
 by_cases h:(ad2 t).2=0
 ·exact aY1 t w ht h
 ·exact aS4 t w ht h
end Go.Proofs.YtcpapceeekkacaaGreatDoor
