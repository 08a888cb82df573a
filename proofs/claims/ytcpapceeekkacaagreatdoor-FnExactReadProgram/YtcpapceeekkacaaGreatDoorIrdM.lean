import Derived.Test.YtcpapceeekkacaaGreatDoorIrdH
import Derived.Deep.RegionLaw
set_option maxRecDepth 100000
set_option maxHeartbeats 8000000
namespace Go.Proofs.YtcpapceeekkacaaGreatDoor
open Go.RowKit
def MoV (base:Nat) (x:Mo) (v:Value) (z:World):Prop:=∃ cs,v=.agg cs∧am3 base z cs x∧Ap12 cs
theorem aG1 {w:World}{ops:Array Oper}{o:Oper}{a:Act}{K:Act→World→Prop}{Q:Exit→Act→World→Prop}{E:Prop}(st e:TypeId) (k bytes:Nat) (zero:Value) (he:aa0 e) (hu:Tryz.prog.underlying st=some (.slice e)) (hinf:(Tryz.prog.info? e).map (fun i=>(i.zero,i.size,i.bytes))=some (some zero,k,bytes)) (hzs:zero.cells.size=k) (hk0:0<k) (hby:bytes≤1000) (hgd:o.guard=none) (sl x:Operand)
  (ho:o.op=.call { callee:=.builtin .append,args:=#[sl,x],argTypes:=#[st,st] })
  {L:Nat→Prop}{B g:Nat}{sz:Int}{l:List Sg}{lv:Value}{w0:World}{s:Rd}{v:Value}{n:Nat}{xs:List Value}{cs:Array Value}{kb:Nat}(hkb:kb=w.heap.size) (h:IEnd L B g sz l lv s w0 w) (hL:∀ b,L b→b<w0.heap.size) (hB:B≤w0.heap.size) (hv:w.ownsRow w0.heap.size e k v n xs) (hs:a.eval sl=v) (hx:a.eval x=.slice (some ⟨kb,0,none⟩) 1 1) (hn:n≤2000000) (hcs:cs.size=k) (h1:∀ u∈cs.toList,u.oneCell'=true)
  (hK:∀ v' w',IEnd L B g sz l lv s w0 w'→w'.ownsRow w0.heap.size e k v' (n+1) (xs++cs.toList)→(∀ c,c<w.heap.size→v.ownBlock≠some c→w'.heap[c]? = w.heap[c]?)→w.heap.size≤w'.heap.size→K (a.put o.dst v') w'):if Region.wanted o (yielded ops a.tmps)=true then Oper.wp Tryz.prog o a (w.alloc (.cells cs e)) K Q else E:=by
 subst hkb
 obtain⟨i,hi,hz0,hz1,hz2⟩:=info_parts hinf
 have hs0:=h.keep.size
 have hw:Region.wanted o (yielded ops a.tmps)=true:=by simp[Region.wanted,hgd]
 rw[if_pos hw]
 have hb2:(n+1)*bytes≤140737488355328:=by
  have:(n+1)*bytes≤2000001*1000:=Nat.mul_le_mul (by omega) hby
  omega
 obtain⟨v',w',hr,hown,hgr,_,hob⟩:=run_append_own_at (P:=Tryz.prog) (w.alloc (.cells cs e)) w0.heap.size st o.type e i zero k bytes hu hi hz0 hz1 hz2 hzs hk0 v _ _ (hv.alloc _) ⟨w.heap.size,0,none⟩ 1 1 cs.toList (by simp[hcs]) (fun j u hj=>ag4 w cs e j u hj) h1 (by simp[maxLen];omega) hb2 (by simp;omega)
 unfold Oper.wp execOp
 simp only[ho,resolve,invoke,builtin,Sem.run_bind,Sem.run_pure,Result.andThen_ok,List.map_toArray,List.map_cons,List.map_nil,hs,hx,hr]
 have hsz:w.heap.size≤w'.heap.size:=by have:=hgr.size;simp at this;omega
 exact hK v' w' ((h.new _).grow hL hB he (hv.alloc _) hgr) hown (fun c hc hne=>(hgr.block c (by simp;omega) (fun e=>hne e.symm)).trans (Below.heap_alloc w _ c hc)) hsz
def IEntRel (L:Nat→Prop) (B g:Nat) (sz:Int) (l:List Sg) (lv:Value) (R:Rd×List En) (w:World) (rb xb:Nat) (nm:ByteArray) (vv qv:Value) (vs qs:List ByteArray) (wr:World):Prop :=
 ∃ (s:Rd) (es:List En) (m:Nat) (eo:Option Addr) (f:Nat),Hid (Rd.entries l (m+1) s es=R)∧Hid (l.length-s.pos<m+1∧es.length≤s.pos)∧Hid (BoxI L B g sz l lv w s rb xb 41 #[.string ⟨#[]⟩,.slice none 0 0,.slice none 0 0,.slice none 0 0] #[.string nm,vv,qv,.slice eo es.length f] wr)
  ∧ Hid (wr.ownsRow w.heap.size 9 1 vv vs.length (vs.map Value.string))∧Hid (wr.ownsRow w.heap.size 9 1 qv qs.length (qs.map Value.string))∧Hid (wr.ownsRow w.heap.size 67 3 (.slice eo es.length f) es.length (es.flatMap aq3))
theorem wm0:ae9 ⟨#[59]⟩=true∧tx ";" = ⟨#[59]⟩:=by decide +kernel
theorem wm1:ae9 ⟨#[118,97,114]⟩=true∧tx "var" = ⟨#[118,97,114]⟩:=by decide +kernel
theorem wm2:ae9 ⟨#[113,117,101,117,101]⟩=true∧tx "queue" = ⟨#[113,117,101,117,101]⟩:=by decide +kernel
theorem wm3:ae9 ⟨#[101,110,116,114,121]⟩=true∧tx "entry" = ⟨#[101,110,116,114,121]⟩:=by decide +kernel
theorem wm4:ae9 ⟨#[101,110,100]⟩=true∧tx "end" = ⟨#[101,110,100]⟩:=by decide +kernel
theorem aO5 {L:Nat→Prop}{B g:Nat}{sz:Int}{l:List Sg}{lv:Value}(hw:ag8 l) (h500:l.length≤500) (hx:∀ x∈l,x.text.size≤1048576) (hB:3<B) (s:Rd) (w:World) (h:IAt L B g sz l lv s w) (hO:ak5 w) :
  Calls Tryz.prog 75 #[.pointer (some ⟨g,0,none⟩)] w (ag0 L B g sz l lv (s.monitor l).1 (MoV w.heap.size (s.monitor l).2) w):=by
 have hl:l.length≤1048576:=by omega
 have HO:=qb hO
 have HB:=qb hB
 have LO:=qb h.loose
 have HBL:=qb h.heap
 have CQ:=fun (s:Rd) t (ht:ae9 t=true) w h=>qb (ah1 (L:=L) (B:=B) (g:=g) (sz:=sz) (l:=l) (lv:=lv) (s:=s) t w h hw hl ht)
 have CM:=fun (s:Rd) t (ht:ae9 t=true) w h=>qb (ag5 (L:=L) (B:=B) (g:=g) (sz:=sz) (l:=l) (lv:=lv) (s:=s) t w h hw hl ht)
 have CN:=fun (s:Rd) w h=>qb (ah7 (L:=L) (B:=B) (g:=g) (sz:=sz) (l:=l) (lv:=lv) (s:=s) w h hw hl hx)
 have CB:=fun (s:Rd) w h hO=>qb (aK8 (L:=L) (B:=B) (g:=g) (sz:=sz) (l:=l) (lv:=lv) s w h hO hw h500 hx hB)
 have CS:=fun (s:Rd) w h=>qb (av2 (L:=L) (B:=B) (g:=g) (sz:=sz) (l:=l) (lv:=lv) s w h hw h500 hx)
 have CD:=fun t (ht:ae9 t=true) (s:Rd) w h=>qb (as7 (L:=L) (B:=B) (g:=g) (sz:=sz) (l:=l) (lv:=lv) t ht s w h hw h500 hx)
 have E0:=qb ((IEnd.refl h).new (.cells #[.string ⟨#[]⟩,.slice none 0 0,.slice none 0 0,.slice none 0 0] 41))
 have X0:=qb (Box.made w #[.string ⟨#[]⟩,.slice none 0 0,.slice none 0 0,.slice none 0 0] 41)
 have CE:=fun (s:Rd) w h hO=>qb (bc8 (L:=L) (B:=B) (g:=g) (sz:=sz) (l:=l) (lv:=lv) hw h500 hx hB s w h hO)
 obtain⟨R,hR⟩:∃ R,R=s.monitor l:=⟨_,rfl⟩
 rw[←hR]
 unfold Rd.monitor at hR
 dsimp only at hR
 rw[wm0.2,wm1.2,wm2.2,wm4.2]at hR
 have C1:=CN s
 obtain⟨a,ha⟩:∃ a,a=s.name l:=⟨_,rfl⟩
 rw[←ha]at C1 hR
 have C2:=CM a.1 ⟨#[59]⟩ wm0.1
 have hm2:∀ p,a.1.At p→(a.1.must l ⟨#[59]⟩).At p:=fun p h=>Rd.At.must l h _
 obtain⟨m,hm⟩:∃ m,m=a.1.must l ⟨#[59]⟩:=⟨_,rfl⟩
 rw[←hm]at C2 hR hm2
 have C3:=CD ⟨#[118,97,114]⟩ wm1.1 m
 have hm3:∀ p,m.At p→(m.listed l ⟨#[118,97,114]⟩).1.At p:=fun p h=>Rd.At.listed h _
 obtain⟨b,hb⟩:∃ b,b=m.listed l ⟨#[118,97,114]⟩:=⟨_,rfl⟩
 rw[←hb]at C3 hR hm3
 have C4:=CD ⟨#[113,117,101,117,101]⟩ wm2.1 b.1
 have hm4:∀ p,b.1.At p→(b.1.listed l ⟨#[113,117,101,117,101]⟩).1.At p:=fun p h=>Rd.At.listed h _
 obtain⟨c,hc⟩:∃ c,c=b.1.listed l ⟨#[113,117,101,117,101]⟩:=⟨_,rfl⟩
 rw[←hc]at C4 hR hm4
 obtain⟨D,hD⟩:∃ D,D=Rd.entries l (l.length+1) c.1 []:=⟨_,rfl⟩
 have hm5:∀ p,c.1.At p→D.1.At p:=fun p h=>by rw[hD];exact Rd.At.entries h _ _
 rw[←hD]at hR
 have CQ1:=fun (s:Rd)=>CQ s ⟨#[101,110,116,114,121]⟩ wm3.1
 have CM8:=fun (s:Rd)=>CM s ⟨#[101,110,100]⟩ wm4.1
 have CM9:=fun (s:Rd)=>CM s ⟨#[59]⟩ wm0.1
 have hmE:∀ p (s:Rd),s.At p→((s.must l ⟨#[101,110,100]⟩).must l ⟨#[59]⟩).At p:=fun p s h=>Rd.At.must l (Rd.At.must l h _) _
 have HR:=qb hR
 have HD:=qb hD.symm
 clear CQ CM CN CB CS CD hR ha hm hb hc hD h hO
 go_enter Tryz.func75,Tryz.ntmps75
 go_wp2_with fail
 cases hb0:a.1.bad
 rotate_left
 ·have C1n:=fun w h=>qb (IOut.no hb0 (qa (C1 w h)))
  have HA:=qb (show R.1.At a.1.pos from by rw[HR.out];exact hmE _ _ (hm5 _ (hm4 _ (hm3 _ (hm2 _ ⟨hb0,rfl⟩)))))
  refine(qa (C1n _ E0.out.at')).mono ?_;rintro e w1⟨rfl,he⟩;have KL:=qb (E0.out.lost he);clear he C1n
  exact⟨rfl,ag0.lost KL.out HA.out⟩
 have C1y:=fun w h=>qb (IOut.yes hb0 (qa (C1 w h)))
 clear C1
 refine(qa (C1y _ E0.out.at')).mono ?_;rintro e w1⟨rfl,he⟩;have X1:=qb (X0.out.keepI he.keep aa0.m);have hs1:=(E0.out.then' he).keep.size;have hr1:=X1.out.lt;have S1:Hid (BoxI L B g sz l lv w a.1 w.heap.size w1.heap.size 41 #[.string ⟨#[]⟩,.slice none 0 0,.slice none 0 0,.slice none 0 0] #[.string a.2,.slice none 0 0,.slice none 0 0,.slice none 0 0] (w1.alloc (.cells #[.string a.2,.slice none 0 0,.slice none 0 0,.slice none 0 0] 41))):=⟨(E0.out.then' he).new _,X1.out.stays (bal _ _),Box.made _ _ _,nlr _,hs1,by omega⟩;clear he hs1 hr1 X1 C1y
 go_wp2_with fail
 cases hb1:m.bad
 rotate_left
 ·have C2n:=fun w h=>qb (IOut.no hb1 (qa (C2 w h)))
  have HA:=qb (show R.1.At m.pos from by rw[HR.out];exact hmE _ _ (hm5 _ (hm4 _ (hm3 _ ⟨hb1,rfl⟩))))
  refine(qa (C2n _ S1.out.fin.at')).mono ?_;rintro e w2⟨rfl,he⟩;have KL:=qb (S1.out.fin.lost he);clear he C2n
  exact⟨rfl,ag0.lost KL.out HA.out⟩
 have C2y:=fun w h=>qb (IOut.yes hb1 (qa (C2 w h)))
 clear C2
 refine(qa (C2y _ S1.out.fin.at')).mono ?_;rintro e w2⟨rfl,he⟩;have S2:=qb (S1.out.call aa0.m he);have y0:=chp S2.out.box 0;have f0:=fhp S2.out.box 0;have y1:=chp S2.out.box 1;have f1:=fhp S2.out.box 1;have y2:=chp S2.out.box 2;have f2:=fhp S2.out.box 2;have y3:=chp S2.out.box 3;have f3:=fhp S2.out.box 3;simp at y0 y1 y2 y3;clear he C2y
 go_wp2_with fail
 cases hb2:b.1.bad
 rotate_left
 ·have C3n:=fun w h=>qb (ag0.no hb2 (qa (C3 w h)))
  have HA:=qb (show R.1.At b.1.pos from by rw[HR.out];exact hmE _ _ (hm5 _ (hm4 _ ⟨hb2,rfl⟩)))
  refine(qa (C3n _ S2.out.fin.at')).mono ?_;rintro e w3⟨rfl,he⟩;have KL:=qb (S2.out.fin.lost he);clear he C3n
  exact⟨rfl,ag0.lost KL.out HA.out⟩
 have C3y:=fun w h=>qb (ag0.yes hb2 (qa (C3 w h)))
 clear C3
 refine(qa (C3y _ S2.out.fin.at')).mono ?_;rintro e w3⟨v,rfl,he,ao2,c2,e2,ho⟩;subst e2;have S3:=qb (S2.out.call aa0.m he);have N2:=qb (ad1 ho S2.out.fin.keep.size);clear ho;clear y0 f0 y1 f1 y2 f2 y3 f3;have y0:=chp S3.out.box 0;have f0:=fhp S3.out.box 0;have y1:=chp S3.out.box 1;have f1:=fhp S3.out.box 1;have y2:=chp S3.out.box 2;have f2:=fhp S3.out.box 2;have y3:=chp S3.out.box 3;have f3:=fhp S3.out.box 3;simp at y0 y1 y2 y3;have S3p:=qb (S3.out.put aa0.m LO.out HBL.out 1 (.slice ao2 b.2.length c2));simp at S3p;have V3p:=qb (aa_ N2.out S3.out.box (by decide) 1 (.slice ao2 b.2.length c2));clear he C3y
 go_wp2_with fail
 cases hb3:c.1.bad
 rotate_left
 ·have C4n:=fun w h=>qb (ag0.no hb3 (qa (C4 w h)))
  have HA:=qb (show R.1.At c.1.pos from by rw[HR.out];exact hmE _ _ (hm5 _ ⟨hb3,rfl⟩))
  refine(qa (C4n _ S3p.out.fin.at')).mono ?_;rintro e w4⟨rfl,he⟩;have KL:=qb (S3p.out.fin.lost he);clear he C4n
  exact⟨rfl,ag0.lost KL.out HA.out⟩
 have C4y:=fun w h=>qb (ag0.yes hb3 (qa (C4 w h)))
 clear C4
 refine(qa (C4y _ S3p.out.fin.at')).mono ?_;rintro e w4⟨v,rfl,he,ao3,c3,e2,ho⟩;subst e2;have S4:=qb (S3p.out.call aa0.m he);have N3:=qb (ad1 ho S3p.out.fin.keep.size);have RA:=qb (aN3 V3p.out ho);clear ho;have V4:=qb (ab5 V3p.out he.keep aa0.s);clear y0 f0 y1 f1 y2 f2 y3 f3;have y0:=chp S4.out.box 0;have f0:=fhp S4.out.box 0;have y1:=chp S4.out.box 1;have f1:=fhp S4.out.box 1;have y2:=chp S4.out.box 2;have f2:=fhp S4.out.box 2;have y3:=chp S4.out.box 3;have f3:=fhp S4.out.box 3;simp at y0 y1 y2 y3;have r0:=chp S4.out.res 0;have g0:=fhp S4.out.res 0;have r1:=chp S4.out.res 1;have g1:=fhp S4.out.res 1;have r2:=chp S4.out.res 2;have g2:=fhp S4.out.res 2;have r3:=chp S4.out.res 3;have g3:=fhp S4.out.res 3;simp at r0 r1 r2 r3;have S4p:=qb (S4.out.put aa0.m LO.out HBL.out 2 (.slice ao3 c.2.length c3));simp at S4p;have V4p:=qb (aa_ V4.out S4.out.box (by decide) 2 (.slice ao3 c.2.length c3));have Q4p:=qb (aa_ N3.out S4.out.box (by decide) 2 (.slice ao3 c.2.length c3));clear he C4y
 go_wp2_with fail
 obtain⟨rb,hrb⟩:∃ rb,rb=w.heap.size:=⟨_,rfl⟩
 obtain⟨xb,hxb⟩:∃ xb,xb=w1.heap.size:=⟨_,rfl⟩
 have SS:Hid (BoxI L B g sz l lv w c.1 rb xb 41 #[.string ⟨#[]⟩,.slice none 0 0,.slice none 0 0,.slice none 0 0] #[.string a.2,.slice ao2 b.2.length c2,.slice ao3 c.2.length c3,.slice none 0 0] (w4.setCell ⟨xb,2,none⟩ (.slice ao3 c.2.length c3))):=by rw[hrb,hxb];exact S4p.out
 have VV:Hid (World.ownsRow (w4.setCell ⟨xb,2,none⟩ (.slice ao3 c.2.length c3)) w.heap.size 9 1 (.slice ao2 b.2.length c2) b.2.length (b.2.map Value.string)):=by rw[hxb];exact V4p.out
 have QQ:Hid (World.ownsRow (w4.setCell ⟨xb,2,none⟩ (.slice ao3 c.2.length c3)) w.heap.size 9 1 (.slice ao3 c.2.length c3) c.2.length (c.2.map Value.string)):=by rw[hxb];exact Q4p.out
 rw[←hrb,←hxb]
 have HRB:=qb hrb
 clear hrb hxb S4p S4 y0 y1 y2 y3 f0 f1 f2 f3
 go_loopw [] (fun wr=>IEntRel L B g sz l lv D w rb xb a.2 (.slice ao2 b.2.length c2) (.slice ao3 c.2.length c3) b.2 c.2 wr) (fun wr=>l.length-(intOf ((wr.cell? ⟨g,1,none⟩).getD undef)).toNat)
 case atStart=>exact⟨c.1,[],l.length,none,0,HD,⟨by omega,Nat.zero_le _⟩,SS,VV,QQ,World.ownsRow_nil _ _ _ _⟩
 case round =>
  obtain⟨s',es,m',eo,f,HX,HP,HS,HV,HQ,HE⟩:=hrel
  have C6:=CQ1 s' _ HS.out.fin.at'
  cases hq:s'.isQ l ⟨#[101,110,116,114,121]⟩ with
  | true =>
   have hlt:=Rd.isQ_lt hq
   rw[hq,show s'.may l ⟨#[101,110,116,114,121]⟩=s'.on from by simp[Rd.may,hq]]at C6
   have hpo:s'.on.pos=s'.pos+1:=rfl
   have hpe:=Rd.entry_pos l s'.on
   have C7:=CE s'.on
   have HX2:Hid (Rd.entries l m' (s'.on.entry l).1 (es++[(s'.on.entry l).2])=D):=by
    have:=HX.out
    rw[Rd.entries,wm3.2,hq,if_pos rfl]at this
    exact this
   obtain⟨y,hy⟩:∃ y,y=s'.on.entry l:=⟨_,rfl⟩
   rw[←hy]at HX2 C7 hpe
   have HPO:=qb (show s'.pos+1≤y.1.pos by omega)
   have HKN:Hid (es.length≤2000000):=by have:=HP.out;show _≤_;omega
   clear hy hpo hpe hq CQ1 CM8 CM9 CE
   cases hby:y.1.bad with
   | true =>
    have C7n:=fun w h hO=>qb (ag0.no hby (qa (C7 w h hO)))
    have HA:=qb (show R.1.At y.1.pos from by rw[HR.out,←HX2.out];exact hmE _ _ (Rd.At.entries ⟨hby,rfl⟩ _ _))
    clear C7
    go_wp2_with fail
    refine(qa C6).mono ?_
    rintro e w5⟨rfl,he⟩
    have K3:=qb (HS.out.call aa0.m he)
    have K4:=qb (K3.out.fin.then' (IEnd.drewN K3.out.fin.at' 1))
    have z3:w5.drew.cell? ⟨xb,3,none⟩=some (.slice eo es.length f):=(chp K3.out.box 3).trans rfl
    have C8:=C7n w5.drew K4.out.at' (HO.out.stays K4.out.bel HB.out)
    clear he C6 C7n
    go_wp2_with fail
    refine wp_region_any (by kernel_rfl) ?_
    try (change wpAny _ _ _ _ _ _ _ (World.drew _))
    refine wpAny_take (i:=0) (v:=?_) rfl (by kernel_rfl) (by kernel_rfl) (by kernel_rfl) (fun _ _ _ h=>h) (Or.inl ⟨by rfl,?_⟩) ?_
    rotate_left
    ·intro w;go_simp;with_reducible rfl
    refine wpAny_take (i:=2) (v:=?_) rfl (by kernel_rfl) (by kernel_rfl) (by kernel_rfl) (fun _ _ _ h=>h) (Or.inl ⟨by rfl,?_⟩) ?_
    rotate_left
    ·intro w;go_simp;with_reducible rfl
    refine wpAny_ready (rs:=[1,3]) (by kernel_rfl) (by simp) ?_
    refine AllReady.cons rfl (fun K hK=>?_) (AllReady.cons rfl (fun K hK=>?_) AllReady.nil)
    ·go_simp
     refine hK _ _ ?_
     clear hK K
     refine wpAny_ready (rs:=[3]) (by kernel_rfl) (by simp) ?_
     refine AllReady.cons rfl (fun K hK=>?_) AllReady.nil
     go_simp
     refine(qa C8).mono ?_
     rintro e w6⟨rfl,he⟩
     exact⟨rfl,ag0.lost (K4.out.lost he) HA.out⟩
    ·go_simp
     refine(qa C8).mono ?_
     rintro e w6⟨rfl,he⟩
     exact⟨rfl,ag0.lost (K4.out.lost he) HA.out⟩
   | false =>
    have C7y:=fun w h hO=>qb (ag0.yes hby (qa (C7 w h hO)))
    clear C7
    go_wp2_with fail
    refine(qa C6).mono ?_
    rintro e w5⟨rfl,he⟩
    have S5:=qb (HS.out.call aa0.m he)
    have S6:Hid (BoxI L B g sz l lv w s'.on rb xb 41 #[.string ⟨#[]⟩,.slice none 0 0,.slice none 0 0,.slice none 0 0] #[.string a.2,.slice ao2 b.2.length c2,.slice ao3 c.2.length c3,.slice eo es.length f] w5.drew):=⟨S5.out.fin.then' (IEnd.drewN S5.out.fin.at' 1),S5.out.res,S5.out.box,S5.out.rlo,S5.out.xlo,S5.out.ne⟩
    have V6:Hid (World.ownsRow w5.drew w.heap.size 9 1 (.slice ao2 b.2.length c2) b.2.length (b.2.map Value.string)):=ab5 (z':=w5) HV.out he.keep aa0.s
    have Q6:Hid (World.ownsRow w5.drew w.heap.size 9 1 (.slice ao3 c.2.length c3) c.2.length (c.2.map Value.string)):=ab5 (z':=w5) HQ.out he.keep aa0.s
    have E6:Hid (World.ownsRow w5.drew w.heap.size 67 3 (.slice eo es.length f) es.length (es.flatMap aq3)):=ab5 (z':=w5) HE.out he.keep aa0.e
    have z3:w5.drew.cell? ⟨xb,3,none⟩=some (.slice eo es.length f):=(chp S5.out.box 3).trans rfl
    have C8:=C7y w5.drew S6.out.fin.at' (HO.out.stays S6.out.fin.bel HB.out)
    clear he C6 C7y S5
    go_wp2_with fail
    go_region_law (first
     | (refine aG1 39 67 3 40 (.agg #[.string ⟨#[]⟩,.string ⟨#[]⟩,.int .i64 0]) aa0.e Tryz.underlying39 Tryz.infoEnt rfl (by decide) (by decide) rfl (.tmp 18) (.tmp 21) rfl (kb:=w7.heap.size) rfl S7.out.fin LO.out HBL.out E7.out rfl rfl HKN.out rfl (by simp[Value.oneCell']) ?_;intro v9 w9 hk9 ho9 hh9 hs9;have sh9:=ab_ ho9;obtain⟨eo9,f9,e9⟩:=sh9;subst e9;have B9:=qb (S7.out.change hk9 (hh9 _ S7.out.res.lt (al1 E7.out S7.out.res (by decide))) (hh9 _ S7.out.box.lt (al1 E7.out S7.out.box (by decide))));have V9:=qb (at_ V7.out hh9 E7.out (by decide));have Q9:=qb (at_ Q7.out hh9 E7.out (by decide));have E9:=qb ho9;have u3:=chp B9.out.box 3;have uf:=fhp B9.out.box 3;simp at u3;clear hk9 ho9 hh9 hs9)
     | (go_simp;go_at_call 99;refine(qa C8).mono ?_;rintro e w7⟨v,rfl,he,e2⟩;unfold EntV at e2;subst e2;have S7:=qb (S6.out.call aa0.m he);have V7:=qb (ab5 V6.out he.keep aa0.s);have Q7:=qb (ab5 Q6.out he.keep aa0.s);have E7:=qb (ab5 E6.out he.keep aa0.e);have k3:=chp S7.out.box 3;simp at k3;have hxl:=S7.out.box.lt;clear he))
    all_goals
     have T9:=qb (B9.out.put aa0.m LO.out HBL.out 3 (.slice eo9 (es.length+1) f9))
     simp at T9
     have V9':=qb (aa_ V9.out B9.out.box (by decide) 3 (.slice eo9 (es.length+1) f9))
     have Q9':=qb (aa_ Q9.out B9.out.box (by decide) 3 (.slice eo9 (es.length+1) f9))
     have E9':=qb (aa_ E9.out B9.out.box (by decide) 3 (.slice eo9 (es.length+1) f9))
     have hpl:=T9.out.fin.at'.pos
     have h5:=HPO.out
     have h6:=HP.out
     have FL:es.length+1=(es++[y.2]).length:=by simp
     have FM:es.flatMap aq3++(#[Value.string y.2.name,Value.string y.2.param,Value.int .i64 y.2.body] : Array Value).toList=(es++[y.2]).flatMap aq3:=by simp[aq3]
     have hm:∃ k,m'=k+1:=⟨m'-1,by omega⟩
     obtain⟨k,rfl⟩:=hm
     go_wp2
     go_roundw
     case rel =>
      rw[FL]at T9 V9' Q9' E9'
      rw[FM]at E9'
      rw[FL]
      exact⟨y.1,es++[y.2],k,eo9,f9,HX2,⟨by omega,by simp;omega⟩,T9,V9',Q9',E9'⟩
     case measure =>
      rw[T9.out.fin.at'.posCell,HS.out.fin.at'.posCell]
      omega
  | false =>
   rw[hq,show s'.may l ⟨#[101,110,116,114,121]⟩=s' from by simp[Rd.may,hq]]at C6
   have HX2:Hid (D=(s',es)):=by
    have:=HX.out
    rw[Rd.entries,wm3.2,hq,if_neg (by simp)]at this
    exact this.symm
   have e1:D.1=s':=by rw[HX2.out]
   have e2:D.2=es:=by rw[HX2.out]
   rw[e1,e2]at HR
   have C7:=CM8 s'
   obtain⟨d,hd⟩:∃ d,d=s'.must l ⟨#[101,110,100]⟩:=⟨_,rfl⟩
   rw[←hd]at C7 HR
   have C8:=CM9 d
   have hm8:∀ p,d.At p→(d.must l ⟨#[59]⟩).At p:=fun p h=>Rd.At.must l h _
   obtain⟨d2,hd2⟩:∃ d2,d2=d.must l ⟨#[59]⟩:=⟨_,rfl⟩
   rw[←hd2]at C8 HR hm8
   clear CQ1 CM8 CM9 CE hq e1 e2 HX2 hd hd2
   cases hb7:d.bad with
   | true =>
    have C7n:=fun w h=>qb (IOut.no hb7 (qa (C7 w h)))
    have HA:=qb (show R.1.At d.pos from by rw[HR.out];exact hm8 _ ⟨hb7,rfl⟩)
    clear C7 C8
    go_wp2_with (first
     | (go_at_call 74;refine(qa C6).mono ?_;rintro e w5⟨rfl,he⟩;have K3:=qb (HS.out.fin.then' he);clear he C6)
     | (go_at_call 77;refine(qa (C7n _ K3.out.at')).mono ?_;rintro e w6⟨rfl,he⟩;have KL:=qb (K3.out.lost he);clear he C7n))
    exact⟨rfl,ag0.lost KL.out HA.out⟩
   | false =>
    have C7y:=fun w h=>qb (IOut.yes hb7 (qa (C7 w h)))
    clear C7
    cases hb8:d2.bad with
    | true =>
     have C8n:=fun w h=>qb (IOut.no hb8 (qa (C8 w h)))
     have HA:=qb (show R.1.At d2.pos from by rw[HR.out];exact⟨hb8,rfl⟩)
     clear C8
     go_wp2_with (first
      | (go_at_call 74;refine(qa C6).mono ?_;rintro e w5⟨rfl,he⟩;have K3:=qb (HS.out.fin.then' he);clear he C6)
      | (go_at_call 77;refine(qa (C7y _ K3.out.at')).mono ?_;rintro e w6⟨rfl,he⟩;have K4:=qb (K3.out.then' he);clear he C7y)
      | (go_at_call 77;refine(qa (C8n _ K4.out.at')).mono ?_;rintro e w7⟨rfl,he⟩;have KL:=qb (K4.out.lost he);clear he C8n))
     exact⟨rfl,ag0.lost KL.out HA.out⟩
    | false =>
     have C8y:=fun w h=>qb (IOut.yes hb8 (qa (C8 w h)))
     clear C8
     go_wp2_with (first
      | (go_at_call 74;refine(qa C6).mono ?_;rintro e w5⟨rfl,he⟩;have K3:=qb (HS.out.call aa0.m he);have V3:=qb (ab5 HV.out he.keep aa0.s);have Q3:=qb (ab5 HQ.out he.keep aa0.s);have E3:=qb (ab5 HE.out he.keep aa0.e);clear he C6)
      | (go_at_call 77;refine(qa (C7y _ K3.out.fin.at')).mono ?_;rintro e w6⟨rfl,he⟩;have K4:=qb (K3.out.call aa0.m he);have V4:=qb (ab5 V3.out he.keep aa0.s);have Q4:=qb (ab5 Q3.out he.keep aa0.s);have E4:=qb (ab5 E3.out he.keep aa0.e);clear he C7y)
      | (go_at_call 77;refine(qa (C8y _ K4.out.fin.at')).mono ?_;rintro e w7⟨rfl,he⟩;have K5:=qb (K4.out.call aa0.m he);have V5:=qb (ab5 V4.out he.keep aa0.s);have Q5:=qb (ab5 Q4.out he.keep aa0.s);have E5:=qb (ab5 E4.out he.keep aa0.e);have y0:=chp K5.out.box 0;have r0:=chp K5.out.res 0;have f0:=fhp K5.out.res 0;have y1:=chp K5.out.box 1;have r1:=chp K5.out.res 1;have f1:=fhp K5.out.res 1;have y2:=chp K5.out.box 2;have r2:=chp K5.out.res 2;have f2:=fhp K5.out.res 2;have y3:=chp K5.out.box 3;have r3:=chp K5.out.res 3;have f3:=fhp K5.out.res 3;simp at y0 y1 y2 y3 r0 r1 r2 r3;clear he C8y))
     have T4:=qb ((((K5.out.out aa0.m LO.out HBL.out 0 (.string a.2)).out aa0.m LO.out HBL.out 1 (.slice ao2 b.2.length c2)).out aa0.m LO.out HBL.out 2 (.slice ao3 c.2.length c3)).out aa0.m LO.out HBL.out 3 (.slice eo es.length f))
     simp at T4
     have V6:=qb (aa_ (aa_ (aa_ (aa_ V5.out K5.out.res (by decide) 0 (.string a.2)) (K5.out.out aa0.m LO.out HBL.out 0 (.string a.2)).res (by decide) 1 (.slice ao2 b.2.length c2)) ((K5.out.out aa0.m LO.out HBL.out 0 (.string a.2)).out aa0.m LO.out HBL.out 1 (.slice ao2 b.2.length c2)).res (by decide) 2 (.slice ao3 c.2.length c3)) (((K5.out.out aa0.m LO.out HBL.out 0 (.string a.2)).out aa0.m LO.out HBL.out 1 (.slice ao2 b.2.length c2)).out aa0.m LO.out HBL.out 2 (.slice ao3 c.2.length c3)).res (by decide) 3 (.slice eo es.length f))
     have Q6:=qb (aa_ (aa_ (aa_ (aa_ Q5.out K5.out.res (by decide) 0 (.string a.2)) (K5.out.out aa0.m LO.out HBL.out 0 (.string a.2)).res (by decide) 1 (.slice ao2 b.2.length c2)) ((K5.out.out aa0.m LO.out HBL.out 0 (.string a.2)).out aa0.m LO.out HBL.out 1 (.slice ao2 b.2.length c2)).res (by decide) 2 (.slice ao3 c.2.length c3)) (((K5.out.out aa0.m LO.out HBL.out 0 (.string a.2)).out aa0.m LO.out HBL.out 1 (.slice ao2 b.2.length c2)).out aa0.m LO.out HBL.out 2 (.slice ao3 c.2.length c3)).res (by decide) 3 (.slice eo es.length f))
     have E6:=qb (aa_ (aa_ (aa_ (aa_ E5.out K5.out.res (by decide) 0 (.string a.2)) (K5.out.out aa0.m LO.out HBL.out 0 (.string a.2)).res (by decide) 1 (.slice ao2 b.2.length c2)) ((K5.out.out aa0.m LO.out HBL.out 0 (.string a.2)).out aa0.m LO.out HBL.out 1 (.slice ao2 b.2.length c2)).res (by decide) 2 (.slice ao3 c.2.length c3)) (((K5.out.out aa0.m LO.out HBL.out 0 (.string a.2)).out aa0.m LO.out HBL.out 1 (.slice ao2 b.2.length c2)).out aa0.m LO.out HBL.out 2 (.slice ao3 c.2.length c3)).res (by decide) 3 (.slice eo es.length f))
     refine an9 (g:=rb) (t:=41) (cs:=#[.string a.2,.slice ao2 b.2.length c2,.slice ao3 c.2.length c3,.slice eo es.length f]) rfl rfl T4.out.res _ Tryz.underlying41 rfl (by kernel_rfl) rfl ?_
     rw[HR.out]
     exact .inl ⟨hb8,_,rfl,T4.out.fin,_,rfl,⟨ao2,c2,ao3,c3,eo,f,rfl,V6.out,Q6.out,E6.out⟩,RA.out⟩
end Go.Proofs.YtcpapceeekkacaaGreatDoor
