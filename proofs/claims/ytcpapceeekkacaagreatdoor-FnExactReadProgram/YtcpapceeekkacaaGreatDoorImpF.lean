import Derived.Test.YtcpapceeekkacaaGreatDoorScnW
import Derived.Test.YtcpapceeekkacaaGreatDoorReadT
import Derived.Test.YtcpapceeekkacaaGreatDoorTreeB
import Derived.Test.YtcpapceeekkacaaGreatDoorReadX
import Derived.Handy
import Derived.Test.YtcpapceeekkacaaGreatDoorTreeV
import Derived.Test.YtcpapceeekkacaaGreatDoorImpA
import Derived.Test.YtcpapceeekkacaaGreatDoorImpD
import Derived.Test.YtcpapceeekkacaaGreatDoorIrdO
set_option maxRecDepth 100000
set_option maxHeartbeats 8000000
namespace Go.Proofs.YtcpapceeekkacaaGreatDoor
open Go.RowKit
theorem aR7 {z:World}{base:Nat}{e:TypeId}{k n:Nat}{v:Value}{xs:List Value}(h:z.ownsRow base e k v n xs):∃ ao c,v=.slice ao n c∧n≤c:=by
 rcases h.2 with⟨rfl,h0⟩|⟨g,cap,cur,rfl,hb1,hg,hr,hm,hs,ht⟩
 ·exact⟨none,0,by rw[h0],by omega⟩
 ·exact⟨_,cap,rfl,by omega⟩
theorem bj4 {z:World}{base:Nat}{v:Value}{xs:List Int}(h:z.ownsRow base 3 1 v xs.length (xs.map I64)):ak7 (fun _=>False) z v xs:=by
 rcases h.2 with⟨rfl,h0⟩|⟨g,cap,cur,rfl,hb1,hg,hr,hm,hs,ht⟩
 ·exact⟨none,0,by rw[h0],.inl (List.eq_nil_of_length_eq_zero h0)⟩
 ·refine⟨_,cap,rfl,.inr ?_⟩
  refine⟨g,0,cur,_,rfl,fun h=>h,hg,fun j hj=>?_⟩
  have e:(List.take (xs.length*1) cur.toList)[j]? = (xs.map I64)[j]? := by rw[ht]
  rw[List.getElem?_take_of_lt (by omega)]at e
  simpa [I64,hj] using e
theorem ao8.nodesT {B:Nat}{z:World}{v:Value}{ns:List Nd}(h:ao8 (fun _=>False) B z v ns):at1 (fun _=>False) B z v ns:=by
 obtain⟨css,h1,h2,h3,h4,h5,_⟩:=h
 refine⟨css,h1,h2,h3,fun j cs x hj hx=>?_,h5⟩
 obtain⟨kv,e,a1,a2⟩:=h4 j cs x hj hx
 exact⟨kv,e,bj4 a1⟩
theorem ao8.room {B:Nat}{z:World}{v:Value}{ns:List Nd}(h:ao8 (fun _=>False) B z v ns):ai_ z v ns.length:=by
 obtain⟨css,h1,h2,h3,h4,_⟩:=h
 obtain⟨ao,c,rfl,hr0⟩:=aR7 h3
 refine⟨ao,c,rfl,hr0,fun j hj=>?_⟩
 obtain⟨cs,hcs⟩:∃ cs,css[j]? = some cs:=⟨css[j]'(by omega),List.getElem?_eq_getElem (by omega)⟩
 obtain⟨kv,e,hk,_⟩:=h4 j cs ns[j] hcs (List.getElem?_eq_getElem hj)
 obtain⟨ko,kc,rfl,hkc⟩:=aR7 hk
 rcases h3.2 with⟨e2,h0⟩|⟨g,cap,cur,e2,hb1,hg,hr,hm,hs,ht⟩
 ·omega
 ·injection e2 with e3 _ _
  subst e3
  have cell:∀ i u,i<6→cs[i]? = some u→z.cell? ⟨g,j*6+i,none⟩=some u:=fun i u hi hu=>by
   have e4:=chp hg (j*6+i)
   rw[e4]
   have e5:=az7 css j i cs h2 hcs hi
   rw[hu,←ht,List.getElem?_take_of_lt (by omega)]at e5
   simpa using e5
  have hadd:(⟨g,0,none⟩:Addr).add (j*6)=⟨g,j*6,none⟩:=by
   unfold Addr.add
   split
   ·next h0=>rw[h0]
   ·simp
  rw[e]at cell
  refine⟨⟨g,0,none⟩,.slice ko ns[j].kids.length kc,rfl,ag7 hg,?_,hkc⟩
  rw[hadd]
  exact cell 5 _ (by decide) rfl
def ap4 (t:ByteArray) (w:World) (e:Ending) (w':World):Prop :=
 ∃ v base,e=.returned (.tuple #[v,.int .i64 (al4 t).2])∧Below w.heap.size w w'∧w.heap.size≤base∧PgV (fun _=>False) w.heap.size base (al4 t).1.nodes (al4 t).1.mons (al4 t).1.pros v w'
theorem PgV.empty {B base:Nat}{z:World}:PgV (fun _=>False) B base [] [] [] (.agg #[.slice none 0 0,.slice none 0 0,.slice none 0 0]) z :=
 ⟨none,0,none,0,none,0,0,0,rfl,⟨[],rfl,(fun c hc=>absurd hc (by simp)),World.ownsRow_nil _ _ _ _,(fun j cs x h=>absurd h (by simp)),(fun b hb=>absurd hb (by simp[Value.ownBlock])),fun i j a b hij h=>absurd h (by simp)⟩,am6.nil,am6.nil⟩
theorem ap4.nil {t:ByteArray}{w w':World}(h:(al4 t).1=al2) (hb:Below w.heap.size w w'):ap4 t w (.returned (.tuple #[.agg #[.slice none 0 0,.slice none 0 0,.slice none 0 0],.int .i64 (al4 t).2])) w' :=
 ⟨_,w.heap.size,rfl,hb,nlr _,by rw[h];exact PgV.empty⟩
theorem PgV.chg {B base:Nat}{ns:List Nd}{ms:List Mo}{ps:List Pr}{v:Value}{z:World}{b:Nat}{cs:Array Value}(h:PgV (fun _=>False) B base ns ms ps v z) (hx:Box z b cs 26) (i:Nat) (u:Value):PgV (fun _=>False) B base ns ms ps v (z.setCell ⟨b,i,none⟩ u):=by
 obtain⟨no,nc,mo,f,po,pf,mid,top,e,hN,hM,hP⟩:=h
 exact⟨no,nc,mo,f,po,pf,mid,top,e,hN.chg hx aa0.g i u,hM.monOf (aa5.poke hx TyM.notG i u) (nlr _),hP.proOf (aa5.poke hx TyP.notG i u) (nlr _)⟩
theorem PgV.stays {B base:Nat}{ns:List Nd}{ms:List Mo}{ps:List Pr}{v:Value}{z z':World}(h:PgV (fun _=>False) B base ns ms ps v z) (hb:Below z.heap.size z z'):PgV (fun _=>False) B base ns ms ps v z':=by
 obtain⟨no,nc,mo,f,po,pf,mid,top,e,hN,hM,hP⟩:=h
 have k:∀ (S:Nat→Prop),aa5 S z z':=fun S b cs T fr _ e=>(hb.block b (ag7 e)).trans e
 refine⟨no,nc,mo,f,po,pf,mid,top,e,?_,hM.monOf (k _) (nlr _),hP.proOf (k _) (nlr _)⟩
 obtain⟨css,n1,n2,n3,n4,n5,n6⟩:=hN
 refine⟨css,n1,n2,aj7 n3 (fun c cs fr hv e=>hb.block c (ag7 e)),fun j cs x hj hx2=>?_,n5,n6⟩
 obtain⟨kv,e,a1,a2⟩:=n4 j cs x hj hx2
 exact⟨kv,e,aj7 a1 (fun c cs fr hv e=>hb.block c (ag7 e)),a2⟩
theorem ba3 (l:List Sg) (c:Rd):(c.last l).bad=true↔c.bad=true∨c.pos<l.length:=by
 unfold Rd.last
 split
 ·next h=>exact⟨fun _=>.inr h,fun _=>rfl⟩
 ·next h=>exact⟨.inl,fun h2=>h2.resolve_right h⟩
theorem last_pos (l:List Sg) (c:Rd):(c.last l).pos=c.pos:=by
 unfold Rd.last
 split <;> rfl
theorem bd4 (sz:Int) (l:List Sg) (c:Rd):(sgAt sz l (c.last l)).place=if h:c.pos<l.length then (l[c.pos]).place else sz:=by
 unfold sgAt
 rw[last_pos]
 split
 ·next x hx =>
  obtain⟨h,e⟩:=List.getElem?_eq_some_iff.1 hx
  rw[dif_pos h,e]
 ·next hx=>rw[dif_neg (by simpa using hx)]
theorem bl2 {t:ByteArray}(h0:(ad2 t).2=0) (hb:((ae7 (ad2 t).1).1.last (ad2 t).1).bad=true):al4 t=(al2,(sgAt t.size (ad2 t).1 ((ae7 (ad2 t).1).1.last (ad2 t).1)).place+1):=by
 unfold al4
 rw[if_neg (by simp[h0]),if_pos ((ba3 _ _).1 hb),bd4]
 split <;> rfl
theorem bf1 {t:ByteArray}(h0:(ad2 t).2=0) (hb:((ae7 (ad2 t).1).1.last (ad2 t).1).bad=false):al4 t=if ag1 (aj_ (ad2 t).1)=true then (aj_ (ad2 t).1,0) else (al2,1):=by
 unfold al4
 rw[if_neg (by simp[h0]),if_neg (fun h=>by rw[(ba3 _ _).2 h]at hb;cases hb)]
theorem place_in (t:ByteArray) (ht:t.size≤1048576) (s:Rd):0≤(sgAt t.size (ad2 t).1 s).place∧(sgAt t.size (ad2 t).1 s).place≤2000000000:=by
 unfold sgAt
 split
 ·next x hx =>
  obtain⟨pos,hp,_,_,e⟩:=au7 t x (List.mem_of_getElem? hx)
  subst e
  show (0:Int)≤(pos:Int)∧(pos:Int)≤2000000000
  omega
 ·show (0:Int)≤(t.size:Int)∧(t.size:Int)≤2000000000
  omega
theorem IAt.begin {B:Nat}{sz:Int}{l:List Sg}{lo:Option Addr}{lc:Nat}{w:World}(ho:w.ownsRow 0 48 4 (.slice lo l.length lc) l.length (ac7 l)) (hB:B≤w.heap.size) :
  IAt (fun _=>False) B w.heap.size sz l (.slice lo l.length lc) ⟨0,false,[]⟩ (w.alloc (.cells #[.slice lo l.length lc,.int .i64 0,.int .i64 sz,.slice none 0 0] 52)) :=
 ⟨⟨.slice none 0 0,Box.made w _ _,[],rfl,(fun c hc=>absurd hc (by simp)),World.ownsRow_nil _ _ _ _,(fun j cs x h=>absurd h (by simp)),(fun b hb=>absurd hb (by simp[Value.ownBlock])),fun i j a b hij h=>absurd h (by simp)⟩,ho.alloc _,hB,Nat.zero_le _,nlr _,(fun b hb=>hb.elim),(fun h=>h),rfl,fun _ _ h=>h⟩
theorem aB7 {P:Program}{w:World}{ops:Array Oper}{rest:List Oper}{o:Oper}{a:Act}{Q:Exit→Act→World→Prop}{g:Nat}(hg:g=w.heap.size) (hgd:o.guard=none) (s x:Operand) (t:TypeId)
  (ho:o.op=.call { callee:=.builtin .append,args:=#[s,x],argTypes:=#[t,t] })
  (base:Nat) (e:TypeId) (z:Value) (bytes:Nat) (ht:P.underlying t=some (.slice e)) (hi:(P.info? e).map (fun i=>(i.zero,i.size,i.bytes))=some (some z,1,bytes)) (hzs:z.cells.size=1)
  (v:Value) (n:Nat) (xs:List Value) (u:Value) (hs:a.eval s=v) (hown:w.ownsRow base e 1 v n xs)
  (hx:a.eval x=.slice (some ⟨g,0,none⟩) 1 1) (h1:u.oneCell'=true)
  (h63:n+1≤maxLen) (hbytes:(n+1)*bytes≤140737488355328) (hbase:base≤w.heap.size)
  (h:∀ v' w',w'.ownsRow base e 1 v' (n+1) (xs++[u])→Below base w w'→wpList P ops Q rest (a.put o.dst v') w'):wpList P ops Q (o :: rest) a (w.alloc (.cells #[u] e)):=by
 subst hg
 exact ai4 hgd s x t ho base e z bytes ht hi hzs v n xs u hs hown hx h1 h63 hbytes hbase h
theorem bb5 (nv mv pv:Value) (ms:List Mo) (ps:List Pr) (w:World) (hM:ar8 w mv ms) (hP:ar9 w pv ps) (hl:(ad4 ms ps).length≤1048576) (hml:ms.length≤1048576) (hpl:ps.length≤1048576) (hel:∀ m∈ms,m.ents.length≤1048576) :
  Calls Tryz.prog 82 #[.agg #[nv,mv,pv]] w fun e w'=>∃ v,e=.returned v∧w'.ownsRow (w.heap.size+1) 3 1 v (ad4 ms ps).length ((ad4 ms ps).map I64)∧Below w.heap.size w w':=by
 have hb1:Below w.heap.size w (w.alloc (.cells #[nv,mv,pv] 26)):=bal _ _
 have HM:=qb (hM.stays hb1)
 have HP:=qb (hP.stays hb1)
 have HX:=qb (ar3.made w nv mv pv 26)
 have HB:=qb hb1
 have HS:Hid ((w.alloc (.cells #[nv,mv,pv] 26)).heap.size=w.heap.size+1):=by show _=_;simp
 clear hb1
 obtain⟨ao,c,rfl,_⟩:=hM
 obtain⟨bo,d,rfl,_⟩:=hP
 go_enter Tryz.func82,Tryz.ntmps82
 go_wp2
 obtain⟨W1,hW⟩:∃ W1,w.alloc (.cells #[nv,.slice ao ms.length c,.slice bo ps.length d] 26)=W1:=⟨_,rfl⟩
 rw[hW]at HM HP HX HB HS ⊢
 clear hW
 obtain⟨n,en⟩:∃ n,ms.length=n:=⟨_,rfl⟩
 have EN:=qb en
 obtain⟨q,eq⟩:∃ q,ps.length=q:=⟨_,rfl⟩
 have EQ:=qb eq
 rw[en]at HM
 rw[eq]at HP
 rw[en,eq]at HX ⊢
 rw[en]at hml
 rw[eq]at hpl
 clear en eq
 go_loopw [3,14] (BodR w W1 ms) (fun _ iv _=>n-(intOf iv).toNat)
 case atStart=>exact⟨0,by omega,rfl,by
  have:=ak2 W1 (w.heap.size+1) 3 (by rw[HS.out];exact nlr _)
  rw[HS.out]at this
  exact this,bal _ _⟩
 case round =>
  obtain⟨i,hi,rfl,HO,HB2⟩:=hrel
  obtain⟨c0,c1,c2,_⟩:=HX.out.stays HB2.out
  rw[EN.out]at hi
  by_cases hlt:i<n
  ·have hlt':(i:Int)<(n:Int):=by omega
   have hi0:(0:Int)≤(i:Int):=by omega
   have hix:i<ms.length:=by rw[EN.out];exact hlt
   have HEL:=qb (hel _ (List.getElem_mem hix))
   have HNX:=qb (aN5 hix)
   obtain⟨ao',cc,e5,hc⟩:=HM.out
   injection e5 with e6 e7 e8
   subst e6
   obtain⟨a,vv,qv,ev,rfl,hab,hcell⟩:=hc i hix
   have HE:=qb hcell.ents
   have hcell2:=hcell.stays HB2.out (by rw[af_];exact hab)
   obtain⟨p,hpa⟩:∃ p,a.add (i*4)=p:=⟨_,rfl⟩
   rw[hpa]at hcell2
   obtain⟨x,ex⟩:∃ x,ms[i]=x:=⟨_,rfl⟩
   rw[ex]at HEL HNX hcell2 HE
   obtain⟨d0,d1,d2,d3,hv1,hv2,hv3⟩:=hcell2
   obtain⟨vo,vc,rfl,_⟩:=hv1
   obtain⟨qo,qc,rfl,_⟩:=hv2
   obtain⟨eo,ec,rfl,_⟩:=hv3
   clear hcell
   clear ex hc e7 e8
   obtain⟨m,em⟩:∃ m,x.ents.length=m:=⟨_,rfl⟩
   have EM:=qb em
   rw[em]at d3 HE
   have hm:m≤1048576:=by have:=HEL.out;omega
   have hb3:Below wr.heap.size wr (wr.alloc (.cells #[.string x.name,.slice vo x.vars.length vc,.slice qo x.queues.length qc,.slice eo m ec] 41)):=bal _ _
   have HO3:=qb (HO.out.alloc (.cells #[.string x.name,.slice vo x.vars.length vc,.slice qo x.queues.length qc,.slice eo m ec] 41))
   have HB3:=qb (HB2.out.trans (hb3.mono HB2.out.size))
   clear em hb3
   go_wp2
   obtain⟨W3,hW3⟩:∃ W3,wr.alloc (.cells #[.string x.name,.slice vo x.vars.length vc,.slice qo x.queues.length qc,.slice eo m ec] 41)=W3:=⟨_,rfl⟩
   rw[hW3]at HO3 HB3 ⊢
   have HZ3:Hid (W3.heap.size=wr.heap.size+1):=by show _=_;rw[←hW3];simp
   clear hW3
   go_loopw [3,21] (BodI w W1 (bodA ms i) x.ents) (fun _ iv _=>m-(intOf iv).toNat)
   case atStart=>exact⟨0,bodA ms i,by omega,rfl,by simp,HO3.out,HB3.out⟩
   case round =>
    obtain⟨j,l',hj,rfl,el,HO4,HB4⟩:=hrel
    rw[EM.out]at hj
    have EL:=qb el
    clear el
    by_cases hlt2:j<m
    ·have hlt2':(j:Int)<(m:Int):=by omega
     have hj0:(0:Int)≤(j:Int):=by omega
     have hjx:j<x.ents.length:=by rw[EM.out];exact hlt2
     obtain⟨eo',ec',e5,hec⟩:=HE.out.stays HB4.out
     injection e5 with e6 e7 e8
     subst e6
     obtain⟨b,rfl,hbb,hy⟩:=hec j hjx
     obtain⟨r,hra⟩:∃ r,b.add (j*3)=r:=⟨_,rfl⟩
     rw[hra]at hy
     have EY:Hid (l'++[x.ents[j].body]=bodA ms i++(x.ents.take (j+1)).map En.body):=by
      show _=_
      rw[EL.out,List.take_add_one,List.getElem?_eq_getElem hjx,List.map_append,←List.append_assoc]
      rfl
     obtain⟨y,ey⟩:∃ y,x.ents[j]=y:=⟨_,rfl⟩
     rw[ey]at hy EY
     have HLN:Hid (l'.length+1≤1048576):=by
      show _≤_
      have h1:(l'++[y.body]).length≤(bodA ms (i+1)).length:=by rw[EY.out,HNX.out];simp;omega
      have h2:=bg8 ms ps (i+1)
      simp at h1
      omega
     obtain⟨y0,y1,y2⟩:=hy
     clear hec ey e7 e8
     have HOA:=qb (HO4.out.alloc (.cells #[.string y.name,.string y.param,.int .i64 y.body] 67))
     have HBA:Hid (Below W1.heap.size W1 (wr.alloc (.cells #[.string y.name,.string y.param,.int .i64 y.body] 67))):=HB4.out.alloc HB4.out.size _
     have hwz:w.heap.size+1≤(wr.alloc (.cells #[.string y.name,.string y.param,.int .i64 y.body] 67)).heap.size:=by rw[←HS.out];exact HBA.out.size
     go_wp2_with (at_builtin;refine aB7 (g:=wr.heap.size+1) (by simp) rfl (.tmp 25) (.tmp 28) 70 rfl (w.heap.size+1) 3 (.int .i64 0) 8 Tryz.underlying70 Tryz.infoInt rfl _ l'.length _ _ rfl HOA.out rfl rfl (by have:=HLN.out;unfold maxLen;omega) (by have:=HLN.out;omega) hwz ?_)
     intro v' w4 hown4 hb4
     have R:BodI w W1 (bodA ms i) x.ents v' (.int .i64 ((j:Int)+1)) w4:=⟨j+1,l'++[y.body],by rw[EM.out];omega,rfl,EY.out,qb (by simpa using hown4),HBA.out.trans (by rw[HS.out];exact hb4)⟩
     clear hown4 hb4
     go_wp2
     go_roundw
     case rel=>exact R
     case measure=>simp[intOf];omega
    ·have hlt2':¬ (j:Int)<(m:Int):=by omega
     have EL2:Hid (l'=bodA ms (i+1)):=by
      show _=_
      rw[EL.out,HNX.out,List.take_of_length_le (by rw[EM.out];omega)]
     go_wp2
     go_roundw
     case rel=>exact⟨i+1,by rw[EN.out];omega,by go_num,by rw[←EL2.out];exact HO4.out,HB4.out⟩
     case measure=>simp[intOf];omega
  ·have hlt':¬ (i:Int)<(n:Int):=by omega
   have e0:bodA ms i=bodC ms ps 0:=by
    have:i=ms.length:=by rw[EN.out];omega
    rw[this,bodC];simp
   have HO1:=HO
   rw[e0]at HO1
   clear e0
   go_wp2
   go_loopw [3,35] (BodP w W1 ms ps) (fun _ iv _=>q-(intOf iv).toNat)
   case atStart=>exact⟨0,by omega,rfl,HO1.out,HB2.out⟩
   case round =>
    clear c0 c1 c2
    obtain⟨i,hi,rfl,HO3,HB3⟩:=hrel
    rw[EQ.out]at hi
    by_cases hlt:i<q
    ·have hlt':(i:Int)<(q:Int):=by omega
     have hi0:(0:Int)≤(i:Int):=by omega
     have hix:i<ps.length:=by rw[EQ.out];exact hlt
     have HNX:=qb (aN6 (ms:=ms) hix)
     obtain⟨bo',cc,e5,hc⟩:=HP.out.stays HB3.out
     injection e5 with e6 e7 e8
     subst e6
     obtain⟨a,uv,vv,rfl,hab,hcell⟩:=hc i hix
     obtain⟨p,hpa⟩:∃ p,a.add (i*4)=p:=⟨_,rfl⟩
     rw[hpa]at hcell
     obtain⟨y,ey⟩:∃ y,ps[i]=y:=⟨_,rfl⟩
     rw[ey]at hcell HNX
     obtain⟨d0,d1,d2,d3,hv1,hv2⟩:=hcell
     obtain⟨uo,uc,rfl,_⟩:=hv1
     obtain⟨vo,vc,rfl,_⟩:=hv2
     clear hc e7 e8 ey
     have HLN:Hid ((bodC ms ps i).length+1≤1048576):=by
      show _≤_
      have h2:(bodC ms ps (i+1)).length≤(ad4 ms ps).length:=by
       rw[←aC3];simp[bodC];omega
      rw[HNX.out]at h2
      simp at h2
      omega
     have HOA:=qb (HO3.out.alloc (.cells #[.string y.name,.slice uo y.uses.length uc,.slice vo y.vars.length vc,.int .i64 y.body] 44))
     have HBA:Hid (Below W1.heap.size W1 (wr.alloc (.cells #[.string y.name,.slice uo y.uses.length uc,.slice vo y.vars.length vc,.int .i64 y.body] 44))):=HB3.out.alloc HB3.out.size _
     have hwz:w.heap.size+1≤(wr.alloc (.cells #[.string y.name,.slice uo y.uses.length uc,.slice vo y.vars.length vc,.int .i64 y.body] 44)).heap.size:=by rw[←HS.out];exact HBA.out.size
     go_wp2_with (at_builtin;refine aB7 (g:=wr.heap.size+1) (by simp) rfl (.tmp 39) (.tmp 42) 70 rfl (w.heap.size+1) 3 (.int .i64 0) 8 Tryz.underlying70 Tryz.infoInt rfl _ (bodC ms ps i).length _ _ rfl HOA.out rfl rfl (by have:=HLN.out;unfold maxLen;omega) (by have:=HLN.out;omega) hwz ?_)
     intro v' w4 hown4 hb4
     have R:BodP w W1 ms ps v' (.int .i64 ((i:Int)+1)) w4:=⟨i+1,by rw[EQ.out];omega,rfl,qb (by rw[HNX.out];simpa using hown4),HBA.out.trans (by rw[HS.out];exact hb4)⟩
     clear hown4 hb4
     go_wp2
     go_roundw
     case rel=>exact R
     case measure=>simp[intOf];omega
    ·have hlt':¬ (i:Int)<(q:Int):=by omega
     have ei:i=ps.length:=by rw[EQ.out];omega
     have HF:Hid (bodC ms ps i=ad4 ms ps):=by show _=_;rw[ei,aC3]
     rw[HF.out]at HO3
     clear ei
     go_wp2
     go_ret
     exact⟨_,rfl,HO3.out,HB.out.trans (HB3.out.mono HB.out.size)⟩
theorem aD4 {ns:List Nd}{i:Nat}(h:(aa2 ns (i+1)).getD i 0=0):∀ m,i≤m→(aa2 ns (m+1)).getD m 0=0
 | 0,hm=>by
  have:i=0:=by omega
  subst this
  exact h
 | m+1,hm=>by
  rcases Nat.lt_or_ge m i with h1|h1
  ·have:i=m+1:=by omega
   subst this
   exact h
  ·have h2:=aD4 h m h1
   rw[aq0 ns (m+1+1) (Nat.lt_succ_self _),ak6,if_pos (.inr ⟨Nat.succ_pos _,by rw[Nat.add_sub_cancel];exact h2⟩)]
def an5 (out:List Int) (d x:Int):Int:=if d<out.getD x.toNat 0 then out.getD x.toNat 0 else d
theorem mx_kid (out:List Int):∀ (ks:List Int) (d:Int),ks.foldl (al0 out) (d+1)=ks.foldl (an5 out) d+1
 | [],_=>rfl
 | x :: ks,d=>by
  have e:al0 out (d+1) x=an5 out d x+1:=by
   unfold al0 an5
   split <;> split <;> omega
  rw[List.foldl_cons,List.foldl_cons,e,mx_kid out ks]
theorem mx_in {out:List Int}(h:aT0 out):∀ (ks:List Int) (d:Int),0≤d∧d≤10→0≤ks.foldl (an5 out) d∧ks.foldl (an5 out) d≤10
 | [],_,hd=>hd
 | x :: ks,d,hd=>by
  rw[List.foldl_cons]
  refine mx_in h ks _ ?_
  have:=h x.toNat
  unfold an5
  split <;> omega
theorem bh3 {ns:List Nd}{i:Nat}(hi:i<ns.length) (hn:ae3 ns[i] (aj0 ns i)=true) (hA:∀ j,j<i→1≤(aa2 ns i).getD j 0) :
  ak6 (aa2 ns i) i (af9 ns (aa2 ns i) i)=if ns[i].kids.foldl (an5 (aa2 ns i)) 0=10 then 0 else ns[i].kids.foldl (an5 (aa2 ns i)) 0+1:=by
 have h1:af9 ns (aa2 ns i) i=ns[i].kids.foldl (an5 (aa2 ns i)) 0+1:=by
  rw[af9,ar5 hi,hn,←mx_kid]
  rfl
 have h2:=mx_in (as1 ns i) ns[i].kids 0 (by omega)
 rw[h1,ak6]
 have h3:¬ (0<i∧(aa2 ns i).getD (i-1) 0=0):=fun h=>by
  have:=hA (i-1) (by omega)
  omega
 by_cases h4:ns[i].kids.foldl (an5 (aa2 ns i)) 0=10
 ·rw[if_pos h4,if_pos (.inl (by omega))]
 ·rw[if_neg h4,if_neg (by omega)]
def DpR (base:Nat) (W1:World) (ns:List Nd) (n:Nat) (v iv:Value) (wr:World):Prop :=
 ∃ i:Nat,i≤n∧iv=.int .i64 i∧Hid (wr.ownsRow base 3 1 v i ((aa2 ns i).map I64))∧Hid (Below W1.heap.size W1 wr)∧Hid (∀ j,j<i→1≤(aa2 ns i).getD j 0)
def DpI (w2:World) (out ks:List Int) (dv iv:Value) (wr:World):Prop :=
 ∃ (j:Nat) (d:Int),j≤ks.length∧iv=.int .i64 j∧dv=.int .i64 d∧Hid (d=(ks.take j).foldl (an5 out) 0)∧0≤d∧d≤10∧wr=w2
theorem bh1 (nv mv pv:Value) (ns:List Nd) (k:Nat) (w:World) (hN:af7 w nv ns) (hR:ai_ w nv ns.length) (hk:k<ns.length) (hl:ns.length≤1048576) (hkx:∀ x∈ns,x.kids.length≤1048576) (hall:∀ (j:Nat) (hj:j<ns.length),ae3 ns[j] (aj0 ns j)=true) :
  Calls Tryz.prog 80 #[.agg #[nv,mv,pv],.int .i64 (k:Int)] w fun e w'=>e=.returned (.int .i64 ((aa2 ns (k+1)).getD k 0))∧Below w.heap.size w w':=by
 have hb1:Below w.heap.size w (w.alloc (.cells #[nv,mv,pv] 26)):=bal _ _
 have CH:=fun w h=>qb (aj5 nv mv pv ns (k:Int) w h)
 have e1:inZ 0 ((ns.length:Int)-1) (k:Int)=true:=ad5.2 (by omega)
 rw[e1]at CH
 have HN:=qb (hN.stays hb1)
 have HX:=qb (ar3.made w nv mv pv 26)
 have HB:=qb hb1
 have HS:Hid ((w.alloc (.cells #[nv,mv,pv] 26)).heap.size=w.heap.size+1):=by show _=_;simp
 have HALL:=qb hall
 have HKX:=qb hkx
 clear hb1 e1 hall hkx
 obtain⟨ao,c,rfl,hro⟩:=hN
 have hcap:ns.length≤c:=by
  obtain⟨ao2,c2,e2,h2,_⟩:=hR
  injection e2 with _ _ e4
  omega
 clear hR
 obtain⟨a0,rfl⟩:∃ a0,ao=some a0:=by
  obtain⟨a,_,h,_⟩:=hro k hk
  exact⟨a,h⟩
 clear hro
 obtain⟨n,en⟩:∃ n,ns.length=n:=⟨_,rfl⟩
 have EN:=qb en
 simp only[en]at HN HX HB HS CH hl hcap hk ⊢
 clear en
 have hk0:(0:Int)≤(k:Int):=by omega
 have hk1:(k:Int)<(n:Int):=by omega
 have hkc:((k:Int)+1)≤(c:Int):=by omega
 have hkc0:(0:Int)≤(k:Int)+1:=by omega
 have htn:((k:Int)+1).toNat=k+1:=by omega
 go_enter Tryz.func80,Tryz.ntmps80
 go_wp2_with fail
 obtain⟨W1,hW⟩:∃ W1,w.alloc (.cells #[.slice (some a0) n c,mv,pv] 26)=W1:=⟨_,rfl⟩
 rw[hW]at HN HX HB HS ⊢
 clear hW
 refine(qa (CH _ HN.out)).mono ?_
 rintro e w1⟨rfl,hb2⟩
 have HB1:=qb hb2
 obtain⟨c0,c1,c2,_⟩:=HX.out.stays hb2
 clear hb2 CH
 go_wp2
 have hw1z:w.heap.size+1≤w1.heap.size:=by rw[←HS.out];exact HB1.out.size
 go_loopw [5,22] (DpR (w.heap.size+1) W1 ns (k+1)) (fun _ iv _=>k+1-(intOf iv).toNat)
 case atStart=>exact⟨0,by omega,rfl,ak2 w1 (w.heap.size+1) 3 hw1z,HB1.out.alloc HB1.out.size _,fun j hj=>absurd hj (Nat.not_lt_zero j)⟩
 case round =>
  clear c0 c1 c2
  obtain⟨i,hi,rfl,HO,HB2,HA⟩:=hrel
  by_cases hlt:i<k+1
  ·have hlt':(i:Int)<(k:Int)+1:=by omega
   have hi0:(0:Int)≤(i:Int):=by omega
   have hin:(i:Int)<(n:Int):=by omega
   have hix:i<ns.length:=by rw[EN.out];omega
   have HNX:=qb (bh3 hix (HALL.out i hix) HA.out)
   have HAH:=qb (as8 hix (HALL.out i hix))
   have HKL:=qb (HKX.out _ (List.getElem_mem hix))
   obtain⟨a',cc',p,kv,e5,hpa,hpb,hnode⟩:=HN.out.node i hix
   injection e5 with e6 e7 e8
   cases e6
   have HKI:=qb hnode.kids
   have hnode2:=hnode.stays HB2.out hpb
   obtain⟨x,ex⟩:∃ x,ns[i]=x:=⟨_,rfl⟩
   have HAX:Hid (∀ (t:Nat) (ht:t<x.kids.length),0≤x.kids[t]∧x.kids[t]<(i:Int)):=by rw[←ex];exact HAH.out
   rw[ex]at HNX HKL hnode2 HKI
   obtain⟨d0,d1,d2,d3,d4,d5,hkids⟩:=hnode2
   obtain⟨ko,kc,rfl,_⟩:=hkids
   obtain⟨kl,ekl⟩:∃ kl,x.kids.length=kl:=⟨_,rfl⟩
   have EKL:=qb ekl
   have hklb:kl≤1048576:=by rw[←ekl];exact HKL.out
   rw[ekl]at d5 HKI
   clear ex ekl e7 e8 hnode HAH
   obtain⟨out,eo⟩:∃ out,aa2 ns i=out:=⟨_,rfl⟩
   have EO:=qb eo
   have HDP:Hid (aT0 out):=by rw[←eo];exact as1 ns i
   have HLO:Hid (out.length=i):=by rw[←eo];exact ag2 ns i
   have HSC:Hid (aa2 ns (i+1)=out++[ak6 out i (af9 ns out i)]):=by show _=_;rw[aa2,eo]
   rw[eo]at HO HNX HA
   clear eo
   have HO4:=qb (HO.out.alloc (.cells #[.int .i64 x.kind,.int .i64 x.num,.string x.name,.string x.more,.string x.into,.slice ko kl kc] 74))
   have HB4:Hid (Below W1.heap.size W1 (wr.alloc (.cells #[.int .i64 x.kind,.int .i64 x.num,.string x.name,.string x.more,.string x.into,.slice ko kl kc] 74))):=HB2.out.alloc HB2.out.size _
   go_wp2
   obtain⟨W4,hW4⟩:∃ W4,wr.alloc (.cells #[.int .i64 x.kind,.int .i64 x.num,.string x.name,.string x.more,.string x.into,.slice ko kl kc] 74)=W4:=⟨_,rfl⟩
   rw[hW4]at HO4 HB4 ⊢
   clear hW4 d0 d1 d2 d3 d4 d5
   go_loopw [8,30] (DpI W4 out x.kids) (fun _ iv _=>kl-(intOf iv).toNat)
   case atStart=>exact⟨0,0,by omega,rfl,rfl,rfl,by omega,by omega,rfl⟩
   case round =>
    obtain⟨j,d,hj,rfl,rfl,HD,hd1,hd2,rfl⟩:=hrel
    rw[EKL.out]at hj
    by_cases hltj:j<kl
    ·have hltj':(j:Int)<(kl:Int):=by omega
     have hj0:(0:Int)≤(j:Int):=by omega
     have hjx:j<x.kids.length:=by rw[EKL.out];exact hltj
     obtain⟨ko',kc',e5,hkc⟩:=HKI.out.stays HB4.out
     injection e5 with e6 e7 e8
     subst e6
     obtain⟨b,rfl,_,hy⟩:=hkc j hjx
     obtain⟨hy0,hy1⟩:=HAX.out j hjx
     have EJ:Hid ((x.kids.take (j+1)).foldl (an5 out) 0=an5 out d x.kids[j]):=by
      show _=_
      rw[List.take_add_one,List.getElem?_eq_getElem hjx,List.foldl_append,HD.out]
      rfl
     obtain⟨y,ey⟩:∃ y,x.kids[j]=y:=⟨_,rfl⟩
     rw[ey]at hy hy0 hy1 EJ
     clear ey hkc e7 e8
     obtain⟨t,et⟩:∃ t:Nat,y=(t:Int):=⟨y.toNat,by omega⟩
     subst et
     obtain⟨g,cap,rfl,hg1,hg2,hcell⟩:=al5 HO4.out (by omega)
     have hz:=hcell t (by omega)
     have hzi:=HDP.out t
     have EK:Hid (an5 out d (t:Int)=if d<out.getD t 0 then out.getD t 0 else d):=by show _=_;rw[an5];rfl
     obtain⟨z,ez⟩:∃ z,out.getD t 0=z:=⟨_,rfl⟩
     rw[ez]at hz hzi EK
     clear ez hcell
     have hyl:¬ (t:Int)<0:=by omega
     have hyk:¬ (i:Int)≤(t:Int):=by omega
     have hti:(t:Int)<(i:Int):=by omega
     have ht0:(0:Int)≤(t:Int):=by omega
     by_cases hdz:d<z
     ·have hE:Hid (z=(x.kids.take (j+1)).foldl (an5 out) 0):=by show _=_;rw[EJ.out,EK.out,if_pos hdz]
      go_wp2
      go_roundw
      case rel=>exact⟨j+1,z,by rw[EKL.out];omega,by go_num,by first|rfl|(congr 1;omega),hE.out,by omega,by omega,rfl⟩
      case measure=>simp[intOf];omega
     ·have hE:Hid (d=(x.kids.take (j+1)).foldl (an5 out) 0):=by show _=_;rw[EJ.out,EK.out,if_neg hdz]
      go_wp2
      go_roundw
      case rel=>exact⟨j+1,d,by rw[EKL.out];omega,by go_num,by first|rfl|(congr 1;omega),hE.out,by omega,by omega,rfl⟩
      case measure=>simp[intOf];omega
    ·have hltj':¬ (j:Int)<(kl:Int):=by omega
     have HE:Hid (x.kids.foldl (an5 out) 0=d):=by
      have h:=HD.out
      rw[List.take_of_length_le (by rw[EKL.out];omega)]at h
      exact h.symm
     rw[HE.out]at HNX
     by_cases hd10:d=10
     ·subst hd10
      have HZ:Hid ((aa2 ns (k+1)).getD k 0=0):=by
       refine aD4 (i:=i) ?_ k (by omega)
       rw[aq0 ns (i+1) (Nat.lt_succ_self _),EO.out,HNX.out]
       rfl
      go_wp2
      go_ret
      exact⟨by rw[←List.getD_eq_getElem?_getD,HZ.out];rfl,HB.out.trans (HB4.out.mono HB.out.size)⟩
     ·have HC:Hid (ak6 out i (af9 ns out i)=d+1):=by show _=_;rw[HNX.out,if_neg hd10]
      rw[HC.out]at HSC
      have hwz:w.heap.size+1≤wr.heap.size:=by rw[←HS.out];exact HB4.out.size
      go_wp2_with (at_builtin;refine ai4 rfl (.tmp 50) (.tmp 53) 70 rfl (w.heap.size+1) 3 (.int .i64 0) 8 Tryz.underlying70 Tryz.infoInt rfl _ _ _ _ rfl HO4.out rfl rfl (by unfold maxLen;omega) (by omega) hwz ?_)
      intro v' w5 hown5 hb5
      have R:DpR (w.heap.size+1) W1 ns (k+1) v' (.int .i64 ((i:Int)+1)) w5:=⟨i+1,by omega,rfl,qb (by rw[HSC.out];simpa using hown5),HB4.out.trans (by rw[HS.out];exact hb5),fun t ht=>by
       rw[HSC.out]
       rcases Nat.lt_succ_iff_lt_or_eq.1 ht with h|h
       ·have e:(out++[d+1]).getD t 0=out.getD t 0:=by
         simp[List.getD_eq_getElem?_getD,List.getElem?_append_left (show t<out.length by rw[HLO.out];exact h)]
        rw[e]
        exact HA.out t h
       ·subst h
        have e:(out++[d+1]).getD t 0=d+1:=by
         simp[List.getD_eq_getElem?_getD,HLO.out]
        rw[e]
        omega⟩
      clear hown5 hb5
      go_wp2
      go_roundw
      case rel=>exact R
      case measure=>simp[intOf];omega
  ·have hlt':¬ (i:Int)<(k:Int)+1:=by omega
   have ei:i=k+1:=by omega
   subst ei
   obtain⟨g,cap,rfl,hg1,hg2,hcell⟩:=al5 HO.out (by omega)
   have hz:=hcell k (by omega)
   obtain⟨z,ez⟩:∃ z,(aa2 ns (k+1)).getD k 0=z:=⟨_,rfl⟩
   have EZ:=qb ez
   rw[ez]at hz
   clear ez hcell
   have hkk:(k:Int)<(k:Int)+1:=by omega
   go_wp2
   go_ret
   exact⟨by rw[←List.getD_eq_getElem?_getD,EZ.out];rfl,HB.out.trans (HB2.out.mono HB.out.size)⟩
def af3 (x y:Nd):Bool:=decide (x.kind=y.kind) && decide (x.num=y.num) && (x.name.toList == y.name.toList) && (x.more.toList == y.more.toList) && (x.into.toList == y.into.toList) && decide (x.kids=y.kids)
theorem ak3 (x y:Nd) (kv kv':Value) (w:World) (hk1:aa6 w kv x.kids) (hk2:aa6 w kv' y.kids) (hl1:x.kids.length≤1048576) (hl2:y.kids.length≤1048576) :
  Calls Tryz.prog 104 #[.agg #[.int .i64 x.kind,.int .i64 x.num,.string x.name,.string x.more,.string x.into,kv],.agg #[.int .i64 y.kind,.int .i64 y.num,.string y.name,.string y.more,.string y.into,kv']] w
   fun e w'=>e=.returned (.bool (af3 x y))∧Below w.heap.size w w':=by
 have C:=fun w h1 h2=>qb (bh4 kv kv' x.kids y.kids w h1 h2 hl1 hl2)
 have HB:Hid (Below w.heap.size w ((w.alloc (.cells #[.int .i64 x.kind,.int .i64 x.num,.string x.name,.string x.more,.string x.into,kv] 74)).alloc (.cells #[.int .i64 y.kind,.int .i64 y.num,.string y.name,.string y.more,.string y.into,kv'] 74))):=by
  show Below _ _ _;go_grown
 have HK1:Hid (aa6 ((w.alloc (.cells #[.int .i64 x.kind,.int .i64 x.num,.string x.name,.string x.more,.string x.into,kv] 74)).alloc (.cells #[.int .i64 y.kind,.int .i64 y.num,.string y.name,.string y.more,.string y.into,kv'] 74)) kv x.kids):=hk1.stays HB.out
 have HK2:Hid (aa6 ((w.alloc (.cells #[.int .i64 x.kind,.int .i64 x.num,.string x.name,.string x.more,.string x.into,kv] 74)).alloc (.cells #[.int .i64 y.kind,.int .i64 y.num,.string y.name,.string y.more,.string y.into,kv'] 74)) kv' y.kids):=hk2.stays HB.out
 obtain⟨ao,c,rfl,_⟩:=hk1
 obtain⟨bo,d,rfl,_⟩:=hk2
 obtain⟨n,en⟩:∃ n,x.kids.length=n:=⟨_,rfl⟩
 obtain⟨m,em⟩:∃ m,y.kids.length=m:=⟨_,rfl⟩
 obtain⟨q,eq⟩:∃ q,decide (x.kids=y.kids)=q:=⟨_,rfl⟩
 obtain⟨s,es⟩:∃ s,af3 x y=s:=⟨_,rfl⟩
 have HS:Hid (af3 x y=s):=es
 rw[es]
 rw[af3,eq]at es
 obtain⟨a0,a1,a2,a3,a4,a5⟩:=x
 obtain⟨b0,b1,b2,b3,b4,b5⟩:=y
 dsimp only at *
 rw[en,em]at C HB HK1 HK2 ⊢
 rw[eq]at C
 clear en em eq hl1 hl2 HS
 by_cases h0:a0=b0
 ·subst h0
  by_cases h1:a1=b1
  ·subst h1
   cases h2:(a2.toList == b2.toList) with
   | false =>
    have HF:Hid (s=false):=by rw[←es,h2];show _=_;simp
    clear es
    (
 go_enter Tryz.func104,Tryz.ntmps104;
 go_wp2_with (go_at_call 124;refine(qa (C _ HK1.out HK2.out)).mono ?_;rintro e w2⟨rfl,hb2⟩;have HB:=qb (HB.out.trans (hb2.mono HB.out.size));clear hb2);
 go_ret;
 exact⟨by rw[HF.out];rfl,HB.out⟩)
   | true =>
    cases h3:(a3.toList == b3.toList) with
    | false =>
     have HF:Hid (s=false):=by rw[←es,h3];show _=_;simp
     clear es
     (
 go_enter Tryz.func104,Tryz.ntmps104;
 go_wp2_with (go_at_call 124;refine(qa (C _ HK1.out HK2.out)).mono ?_;rintro e w2⟨rfl,hb2⟩;have HB:=qb (HB.out.trans (hb2.mono HB.out.size));clear hb2);
 go_ret;
 exact⟨by rw[HF.out];rfl,HB.out⟩)
    | true =>
     cases h4:(a4.toList == b4.toList) with
     | false =>
      have HF:Hid (s=false):=by rw[←es,h4];show _=_;simp
      clear es
      (
 go_enter Tryz.func104,Tryz.ntmps104;
 go_wp2_with (go_at_call 124;refine(qa (C _ HK1.out HK2.out)).mono ?_;rintro e w2⟨rfl,hb2⟩;have HB:=qb (HB.out.trans (hb2.mono HB.out.size));clear hb2);
 go_ret;
 exact⟨by rw[HF.out];rfl,HB.out⟩)
     | true =>
      have HF:Hid (s=q):=by rw[←es,h2,h3,h4];show _=_;simp
      clear es
      (
 go_enter Tryz.func104,Tryz.ntmps104;
 go_wp2_with (go_at_call 124;refine(qa (C _ HK1.out HK2.out)).mono ?_;rintro e w2⟨rfl,hb2⟩;have HB:=qb (HB.out.trans (hb2.mono HB.out.size));clear hb2);
 go_ret;
 exact⟨by rw[HF.out];rfl,HB.out⟩)
  ·have HF:Hid (s=false):=by rw[←es];show _=_;simp[h1]
   clear es
   (
 go_enter Tryz.func104,Tryz.ntmps104;
 go_wp2_with (go_at_call 124;refine(qa (C _ HK1.out HK2.out)).mono ?_;rintro e w2⟨rfl,hb2⟩;have HB:=qb (HB.out.trans (hb2.mono HB.out.size));clear hb2);
 go_ret;
 exact⟨by rw[HF.out];rfl,HB.out⟩)
 ·have HF:Hid (s=false):=by rw[←es];show _=_;simp[h0]
  clear es
  (
 go_enter Tryz.func104,Tryz.ntmps104;
 go_wp2_with (go_at_call 124;refine(qa (C _ HK1.out HK2.out)).mono ?_;rintro e w2⟨rfl,hb2⟩;have HB:=qb (HB.out.trans (hb2.mono HB.out.size));clear hb2);
 go_ret;
 exact⟨by rw[HF.out];rfl,HB.out⟩)
end Go.Proofs.YtcpapceeekkacaaGreatDoor
