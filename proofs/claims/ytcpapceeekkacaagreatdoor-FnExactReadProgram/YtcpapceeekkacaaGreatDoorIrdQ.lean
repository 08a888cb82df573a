import Derived.Test.YtcpapceeekkacaaGreatDoorIrdM
set_option maxRecDepth 100000
set_option maxHeartbeats 8000000
namespace Go.Proofs.YtcpapceeekkacaaGreatDoor
open Go.RowKit
def Rd.last (l:List Sg) (c:Rd):Rd:=if c.pos<l.length then c.wrong else c
theorem Rd.At.last {l:List Sg}{p:Nat}{c:Rd}(h:c.At p):(c.last l).At p:=by
 unfold Rd.last
 split
 ·exact⟨rfl,h.2⟩
 ·exact h
def az4 (lo hi:Nat) (css:List (List Value)):Prop :=
 (∀ (i p:Nat) (c:List Value) (b:Nat),css[i]? = some c→(c.getD p undef).ownBlock=some b→lo≤b∧b<hi) ∧
 ∀ (i j p q:Nat) (c d:List Value),css[i]? = some c→css[j]? = some d→(i≠j∨p≠q)→at2 (c.getD p undef) (d.getD q undef)
def ApOne (lo hi:Nat) (c:List Value):Prop :=
 (∀ (p b:Nat),(c.getD p undef).ownBlock=some b→lo≤b∧b<hi)∧∀ p q:Nat,p≠q→at2 (c.getD p undef) (c.getD q undef)
theorem az4.nil (lo hi:Nat):az4 lo hi []:=⟨fun i p c b h=>absurd h (by simp),fun i j p q c d h=>absurd h (by simp)⟩
theorem az4.more {lo hi hi':Nat}{css:List (List Value)}(h:az4 lo hi css) (hh:hi≤hi'):az4 lo hi' css:=⟨fun i p c b h1 h2=>by have:=h.1 i p c b h1 h2;omega,h.2⟩
theorem aN4 {css:List (List Value)}{c d:List Value}{i:Nat}(h:(css++[c])[i]? = some d):css[i]? = some d∨(i=css.length∧d=c):=by
 by_cases hlt:i<css.length
 ·rw[List.getElem?_append_left hlt]at h
  exact .inl h
 ·have hlt2:=(List.getElem?_eq_some_iff.1 h).1
  have e:i=css.length:=by simp at hlt2;omega
  subst e
  rw[List.getElem?_append_right (nlr _)]at h
  simp at h
  exact .inr ⟨rfl,h.symm⟩
theorem az4.app {lo mid hi:Nat}{css:List (List Value)}{c:List Value}(h:az4 lo mid css) (hc:ApOne mid hi c) (h1:lo≤mid) (h2:mid≤hi):az4 lo hi (css++[c]):=by
 refine⟨fun i p d b hi' hb=>?_,fun i j p q d e hi' hj hne=>?_⟩
 ·rcases aN4 hi' with h3|⟨_,rfl⟩
  ·have:=h.1 i p d b h3 hb;omega
  ·have:=hc.1 p b hb;omega
 ·rcases aN4 hi' with h3|⟨e1,rfl⟩
  ·rcases aN4 hj with h4|⟨_,rfl⟩
   ·exact h.2 i j p q d e h3 h4 hne
   ·intro b h5 h6
    have:=(h.1 i p d b h3 h5).2
    have:=(hc.1 q b h6).1
    omega
  ·rcases aN4 hj with h4|⟨e2,rfl⟩
   ·intro b h5 h6
    have:=(h.1 j q e b h4 h6).2
    have:=(hc.1 p b h5).1
    omega
   ·exact hc.2 p q (hne.resolve_left fun h7=>h7 (e1.trans e2.symm))
theorem as9 (s:ByteArray) (b:Nat):(Value.string s).ownBlock≠some b:=by simp[Value.ownBlock]
theorem aF1 (k:IntKind) (i:Int) (b:Nat):(Value.int k i).ownBlock≠some b:=by simp[Value.ownBlock]
theorem aq4 (b:Nat):undef.ownBlock≠some b:=by simp[undef,Value.ownBlock]
theorem aR0 {z:World}{base base2 n n2 e k e2 k2:Nat}{v v2:Value}{xs xs2:List Value}(h:z.ownsRow base e k v n xs) (h2:z.ownsRow base2 e2 k2 v2 n2 xs2) (he:e≠e2):at2 v v2:=fun b hb hb2=>by
 rcases h2.2 with⟨rfl,_⟩|⟨g2,cap2,cur2,rfl,_,hg2,_⟩
 ·simp[Value.ownBlock]at hb2
 ·simp only[Value.ownBlock,Option.some.injEq]at hb2
  subst hb2
  exact al1 h hg2 he hb
theorem am3.one {base:Nat}{z:World}{cs:Array Value}{x:Mo}(h:am3 base z cs x) (ha:Ap12 cs):ApOne base z.heap.size cs.toList:=by
 obtain⟨ao,c,bo,d,eo,f,rfl,a1,a2,a3⟩:=h
 have ha:at2 (.slice ao x.vars.length c) (.slice bo x.queues.length d):=ha
 have t1:=aR0 a1 a3 (by decide)
 have t2:=aR0 a2 a3 (by decide)
 refine⟨fun p b hb=>?_,fun p q hne b hb hb2=>?_⟩
 ·match p,hb with
  | 0,hb=>exact absurd hb (as9 _ b)
  | 1,hb=>exact a1.lt b hb
  | 2,hb=>exact a2.lt b hb
  | 3,hb=>exact a3.lt b hb
  | n+4,hb=>exact absurd hb (aq4 b)
 ·match p,q,hb,hb2,hne with
  | 0,_,hb,_,_=>exact absurd hb (as9 _ b)
  | n+4,_,hb,_,_=>exact absurd hb (aq4 b)
  | _,0,_,hb2,_=>exact absurd hb2 (as9 _ b)
  | _,n+4,_,hb2,_=>exact absurd hb2 (aq4 b)
  | 1,1,_,_,hne=>exact hne rfl
  | 2,2,_,_,hne=>exact hne rfl
  | 3,3,_,_,hne=>exact hne rfl
  | 1,2,hb,hb2,_=>exact ha b hb hb2
  | 2,1,hb,hb2,_=>exact ha b hb2 hb
  | 1,3,hb,hb2,_=>exact t1 b hb hb2
  | 3,1,hb,hb2,_=>exact t1 b hb2 hb
  | 2,3,hb,hb2,_=>exact t2 b hb hb2
  | 3,2,hb,hb2,_=>exact t2 b hb2 hb
theorem an_.one {base:Nat}{z:World}{cs:Array Value}{x:Pr}(h:an_ base z cs x) (ha:Ap12 cs):ApOne base z.heap.size cs.toList:=by
 obtain⟨ao,c,bo,d,rfl,a1,a2⟩:=h
 have ha:at2 (.slice ao x.uses.length c) (.slice bo x.vars.length d):=ha
 refine⟨fun p b hb=>?_,fun p q hne b hb hb2=>?_⟩
 ·match p,hb with
  | 0,hb=>exact absurd hb (as9 _ b)
  | 1,hb=>exact a1.lt b hb
  | 2,hb=>exact a2.lt b hb
  | 3,hb=>exact absurd hb (aF1 _ _ b)
  | n+4,hb=>exact absurd hb (aq4 b)
 ·match p,q,hb,hb2,hne with
  | 0,_,hb,_,_=>exact absurd hb (as9 _ b)
  | 3,_,hb,_,_=>exact absurd hb (aF1 _ _ b)
  | n+4,_,hb,_,_=>exact absurd hb (aq4 b)
  | _,0,_,hb2,_=>exact absurd hb2 (as9 _ b)
  | _,3,_,hb2,_=>exact absurd hb2 (aF1 _ _ b)
  | _,n+4,_,hb2,_=>exact absurd hb2 (aq4 b)
  | 1,1,_,_,hne=>exact hne rfl
  | 2,2,_,_,hne=>exact hne rfl
  | 1,2,hb,hb2,_=>exact ha b hb hb2
  | 2,1,hb,hb2,_=>exact ha b hb2 hb
def am6 {α:Type}(R:Nat→World→Array Value→α→Prop) (e:TypeId) (base lo hi:Nat) (z:World) (v:Value) (xs:List α):Prop :=
 ∃ css:List (List Value),css.length=xs.length∧(∀ c∈css,c.length=4)∧z.ownsRow base e 4 v xs.length css.flatten∧(∀ (j:Nat) (cs:List Value) (x:α),css[j]? = some cs→xs[j]? = some x→R base z cs.toArray x)∧az4 lo hi css
theorem am6.nil {α:Type}{R:Nat→World→Array Value→α→Prop}{e:TypeId}{base lo hi:Nat}{z:World}:am6 R e base lo hi z (.slice none 0 0) ([] : List α) :=
 ⟨[],rfl,(fun c hc=>absurd hc (by simp)),World.ownsRow_nil _ _ _ _,(fun j cs x h=>absurd h (by simp)),az4.nil _ _⟩
theorem am6.row {α:Type}{R:Nat→World→Array Value→α→Prop}{e:TypeId}{base lo hi:Nat}{z:World}{v:Value}{xs:List α}(h:am6 R e base lo hi z v xs):an8 R e base z v xs:=by
 obtain⟨css,h1,h2,h3,h4,_⟩:=h
 exact⟨css,h1,h2,h3,h4⟩
theorem am6.app {α:Type}{R:Nat→World→Array Value→α→Prop}{e:TypeId}{base lo hi:Nat}{z':World}{v':Value}{xs:List α}{x:α}{cs:Array Value}(hcs:cs.size=4) (hx:R base z' cs x) (css:List (List Value)) (h1:css.length=xs.length) (h2:∀ c∈css,c.length=4) (h3:∀ (j:Nat) (cs:List Value) (x:α),css[j]? = some cs→xs[j]? = some x→R base z' cs.toArray x)
  (hv:z'.ownsRow base e 4 v' (xs.length+1) (css.flatten++cs.toList)) (hA:az4 lo hi (css++[cs.toList])):am6 R e base lo hi z' v' (xs++[x]):=by
 refine⟨css++[cs.toList],by simp[h1],fun c hc=>?_,?_,fun j ds y hj hy=>?_,hA⟩
 ·rcases List.mem_append.1 hc with hc|hc
  ·exact h2 c hc
  ·rw[List.mem_singleton.1 hc];simpa using hcs
 ·simpa using hv
 ·rcases aN4 hj with hj|⟨rfl,rfl⟩
  ·have hlt:=(List.getElem?_eq_some_iff.1 hj).1
   rw[List.getElem?_append_left (by omega)]at hy
   exact h3 j ds y hj hy
  ·rw[h1,List.getElem?_append_right (nlr _)]at hy
   simp at hy
   subst hy
   simpa using hx
theorem am6.of {α:Type}{R:Nat→World→Array Value→α→Prop}{S:Nat→Prop}{e:TypeId}{base lo hi hi':Nat}{z z':World}{v:Value}{xs:List α}(h:am6 R e base lo hi z v xs) (k:aa5 S z z') (he:S e) (hk:∀ cs x,R base z cs x→R base z' cs x) (hh:hi≤hi'):am6 R e base lo hi' z' v xs:=by
 obtain⟨css,h1,h2,h3,h4,h5⟩:=h
 exact⟨css,h1,h2,ax0 h3 k he,fun j cs x hj hx=>hk _ _ (h4 j cs x hj hx),h5.more hh⟩
theorem am6.monOf {base lo hi hi':Nat}{z z':World}{v:Value}{xs:List Mo}(h:am6 am3 41 base lo hi z v xs) (k:aa5 TyM z z') (hh:hi≤hi'):am6 am3 41 base lo hi' z' v xs :=
 h.of k (.inr (.inr rfl)) (fun _ _ hm=>hm.of k (.inl rfl) (.inr (.inl rfl))) hh
theorem am6.proOf {base lo hi hi':Nat}{z z':World}{v:Value}{xs:List Pr}(h:am6 an_ 44 base lo hi z v xs) (k:aa5 TyP z z') (hh:hi≤hi'):am6 an_ 44 base lo hi' z' v xs :=
 h.of k (.inr rfl) (fun _ _ hm=>hm.of k (.inl rfl)) hh
def PgV (L:Nat→Prop) (B base:Nat) (ns:List Nd) (ms:List Mo) (ps:List Pr) (v:Value) (z:World):Prop:=∃ no nc mo f po pf mid top,v=.agg #[.slice no ns.length nc,.slice mo ms.length f,.slice po ps.length pf]∧ao8 L B z (.slice no ns.length nc) ns∧am6 am3 41 base 0 mid z (.slice mo ms.length f) ms∧am6 an_ 44 base mid top z (.slice po ps.length pf) ps
theorem aa5.keepI {S:Nat→Prop}{z z':World}(hS:∀ T,S T→aa0 T) (k:ar7 z z'):aa5 S z z':=fun b cs T fr h e=>k.blk b cs T fr (hS T h).1 (hS T h).2.1 e
theorem TyM.apartI (T:Nat) (h:TyM T):aa0 T:=by
 rcases h with rfl|rfl|rfl
 ·exact aa0.s
 ·exact aa0.e
 ·exact aa0.m
theorem TyP.apartI (T:Nat) (h:TyP T):aa0 T:=by
 rcases h with rfl|rfl
 ·exact aa0.s
 ·exact aa0.p
theorem TySE.apartI (T:Nat) (h:TySE T):aa0 T:=by
 rcases h with rfl|rfl
 ·exact aa0.s
 ·exact aa0.e
theorem TyS9.apartI (T:Nat) (h:TyS9 T):aa0 T:=by
 have h:T=9:=h
 subst h
 exact aa0.s
theorem ao8.chg {L:Nat→Prop}{B:Nat}{z:World}{v:Value}{ns:List Nd}{b:Nat}{cs:Array Value}{T:TypeId}(h:ao8 L B z v ns) (hx:Box z b cs T) (hT:aa0 T) (i:Nat) (u:Value):ao8 L B (z.setCell ⟨b,i,none⟩ u) v ns:=by
 obtain⟨css,n1,n2,n3,n4,n5,n6⟩:=h
 refine⟨css,n1,n2,aa_ n3 hx (fun e=>hT.1 e.symm) i u,fun j cs x hj hx2=>?_,n5,n6⟩
 obtain⟨kv,e,a1,a2⟩:=n4 j cs x hj hx2
 exact⟨kv,e,aa_ a1 hx (fun e=>hT.2.2.2 e.symm) i u,a2⟩
theorem ao8.shape {L:Nat→Prop}{B:Nat}{z:World}{v:Value}{ns:List Nd}(h:ao8 L B z v ns):∃ ao c,v=.slice ao ns.length c:=by
 obtain⟨css,n1,n2,n3,n4,n5,n6⟩:=h
 exact ab_ n3
def IMonsRel (L:Nat→Prop) (B g:Nat) (sz:Int) (l:List Sg) (lv:Value) (R:Rd×List Mo) (w:World) (rb xb:Nat) (wr:World):Prop :=
 ∃ (s:Rd) (ms:List Mo) (m:Nat) (mo:Option Addr) (f:Nat),Hid (Rd.monitors l (m+1) s ms=R)∧Hid (l.length-s.pos<m+1∧ms.length≤s.pos)∧Hid (BoxI L B g sz l lv w s rb xb 26 #[.slice none 0 0,.slice none 0 0,.slice none 0 0] #[.slice none 0 0,.slice mo ms.length f,.slice none 0 0] wr)∧Hid (am6 am3 41 w.heap.size 0 wr.heap.size wr (.slice mo ms.length f) ms)
def IProsRel (L:Nat→Prop) (B g:Nat) (sz:Int) (l:List Sg) (lv:Value) (R:Rd×List Pr) (w:World) (rb xb mid:Nat) (mv:Value) (ms:List Mo) (wr:World):Prop :=
 ∃ (s:Rd) (ps:List Pr) (m:Nat) (po:Option Addr) (f:Nat),Hid (Rd.processes l (m+1) s ps=R)∧Hid (l.length-s.pos<m+1∧ps.length≤s.pos)∧Hid (BoxI L B g sz l lv w s rb xb 26 #[.slice none 0 0,.slice none 0 0,.slice none 0 0] #[.slice none 0 0,mv,.slice po ps.length f] wr)∧Hid (am6 am3 41 w.heap.size 0 mid wr mv ms)∧Hid (am6 an_ 44 w.heap.size mid wr.heap.size wr (.slice po ps.length f) ps)∧Hid (mid≤wr.heap.size)
theorem BoxI.drew {L:Nat→Prop}{B g:Nat}{sz:Int}{l:List Sg}{lv:Value}{w:World}{s:Rd}{rb xb:Nat}{T:TypeId}{rs cs:Array Value}{z:World}(h:BoxI L B g sz l lv w s rb xb T rs cs z):BoxI L B g sz l lv w s rb xb T rs cs z.drew :=
 ⟨h.fin.then' (IEnd.drewN h.fin.at' 1),h.res,h.box,h.rlo,h.xlo,h.ne⟩
theorem wq:ae9 ⟨#[109,111,110,105,116,111,114]⟩=true∧ae9 ⟨#[112,114,111,99,101,115,115]⟩=true∧ae9 ⟨#[46]⟩=true:=by decide +kernel
theorem aO7 {L:Nat→Prop}{B g:Nat}{sz:Int}{l:List Sg}{lv:Value}(hw:ag8 l) (h500:l.length≤500) (hx:∀ x∈l,x.text.size≤1048576) (hB:3<B) (w:World) (h:IAt L B g sz l lv ⟨0,false,[]⟩ w) (hO:ak5 w) :
  Calls Tryz.prog 43 #[.pointer (some ⟨g,0,none⟩)] w (ag0 L B g sz l lv ((ae7 l).1.last l) (PgV L B w.heap.size (ae7 l).1.nodes (ae7 l).2.1 (ae7 l).2.2) w):=by
 have hl:l.length≤1048576:=by omega
 have noL:∀ b,L b→b<w.heap.size:=h.loose
 have HO:=qb hO
 have HB:=qb hB
 have HBL:=qb h.heap
 have CQ:=fun (s:Rd) t (ht:ae9 t=true) w h=>qb (ah1 (L:=L) (B:=B) (g:=g) (sz:=sz) (l:=l) (lv:=lv) (s:=s) t w h hw hl ht)
 have CD:=fun (s:Rd) w h=>qb (ag5 (L:=L) (B:=B) (g:=g) (sz:=sz) (l:=l) (lv:=lv) (s:=s) ⟨#[46]⟩ w h hw hl wq.2.2)
 have CT:=fun (s:Rd) w h=>qb (aE_ (L:=L) (B:=B) (g:=g) (sz:=sz) (l:=l) (lv:=lv) (s:=s) w h)
 have CM:=fun (s:Rd) w h hO=>qb (aO5 (L:=L) (B:=B) (g:=g) (sz:=sz) (l:=l) (lv:=lv) hw h500 hx hB s w h hO)
 have CP:=fun (s:Rd) w h hO=>qb (aO6 (L:=L) (B:=B) (g:=g) (sz:=sz) (l:=l) (lv:=lv) hw h500 hx hB s w h hO)
 have S0:Hid (BoxI L B g sz l lv w ⟨0,false,[]⟩ w.heap.size (w.heap.size+1) 26 #[.slice none 0 0,.slice none 0 0,.slice none 0 0] #[.slice none 0 0,.slice none 0 0,.slice none 0 0] ((w.alloc (.cells #[.slice none 0 0,.slice none 0 0,.slice none 0 0] 26)).alloc (.cells #[.slice none 0 0,.slice none 0 0,.slice none 0 0] 26))):=⟨((IEnd.refl h).new _).new _,(Box.made _ _ _).stays (bal _ _),Box.madeAt (by simp) _ _,nlr _,by omega,by omega⟩
 obtain⟨RR,hRR⟩:∃ RR,RR=ae7 l:=⟨_,rfl⟩
 rw[←hRR]
 unfold ae7 at hRR
 obtain⟨R1,hR1⟩:∃ R,R=Rd.monitors l (l.length+1) ⟨0,false,[]⟩ []:=⟨_,rfl⟩
 rw[←hR1]at hRR
 obtain⟨R2,hR2⟩:∃ R,R=Rd.processes l (l.length+1) R1.1 []:=⟨_,rfl⟩
 rw[←hR2]at hRR
 rw[tx6.2.2.2.2.2.2]at hRR
 have HRR:=qb hRR
 have HR1:=qb hR1.symm
 have HR2:=qb hR2.symm
 clear hRR hR1 hR2 h hO
 go_enter Tryz.func43,Tryz.ntmps43
 go_wp2_with fail
 obtain⟨rb,hrb⟩:∃ rb,rb=w.heap.size:=⟨_,rfl⟩
 obtain⟨xb,hxb⟩:∃ xb,xb=w.heap.size+1:=⟨_,rfl⟩
 have S1:Hid (BoxI L B g sz l lv w ⟨0,false,[]⟩ rb xb 26 #[.slice none 0 0,.slice none 0 0,.slice none 0 0] #[.slice none 0 0,.slice none 0 0,.slice none 0 0] ((w.alloc (.cells #[.slice none 0 0,.slice none 0 0,.slice none 0 0] 26)).alloc (.cells #[.slice none 0 0,.slice none 0 0,.slice none 0 0] 26))):=by rw[hrb,hxb];exact S0
 rw[←hxb,←hrb]
 clear hrb hxb S0
 generalize (w.alloc (.cells #[.slice none 0 0,.slice none 0 0,.slice none 0 0] 26)).alloc (.cells #[.slice none 0 0,.slice none 0 0,.slice none 0 0] 26)=Z1 at S1 ⊢
 go_loopw [] (fun wr=>IMonsRel L B g sz l lv R1 w rb xb wr) (fun wr=>l.length-(intOf ((wr.cell? ⟨g,1,none⟩).getD undef)).toNat)
 case atStart=>exact⟨⟨0,false,[]⟩,[],l.length,none,0,HR1,⟨by show l.length-0<_;omega,Nat.zero_le _⟩,S1,am6.nil⟩
 case round =>
  obtain⟨s',ms,m',mo,f,HX1,HP,HS,HR⟩:=hrel
  have CQ1:=CQ s' ⟨#[109,111,110,105,116,111,114]⟩ wq.1 _ HS.out.fin.at'
  cases hq:s'.isQ l ⟨#[109,111,110,105,116,111,114]⟩ with
  | true =>
   have hlt:=Rd.isQ_lt hq
   rw[hq,show s'.may l ⟨#[109,111,110,105,116,111,114]⟩=s'.on from by simp[Rd.may,hq]]at CQ1
   have hpo:s'.on.pos=s'.pos+1:=rfl
   have CM1:=CM s'.on
   have hpe:=Rd.monitor_pos l s'.on
   have HX2:Hid (Rd.monitors l m' (s'.on.monitor l).1 (ms++[(s'.on.monitor l).2])=R1):=by
    have:=HX1.out
    rw[Rd.monitors,tx6.2.2.2.2.1,hq,if_pos rfl]at this
    exact this
   obtain⟨y,hy⟩:∃ y,y=s'.on.monitor l:=⟨_,rfl⟩
   rw[←hy]at CM1 hpe HX2
   have HPO:=qb (show s'.pos+1≤y.1.pos by omega)
   have HKN:Hid (ms.length≤2000000):=by have:=HP.out;show _≤_;omega
   obtain⟨css,hc1,hc2,hc3,hc4,hc5⟩:=HR.out
   have HAP:=qb hc5
   have HC:Hid (css.length=ms.length∧(∀ c∈css,c.length=4)∧∀ (j:Nat) (cs:List Value) (x:Mo),css[j]? = some cs→ms[j]? = some x→am3 w.heap.size wr cs.toArray x):=⟨hc1,hc2,hc4⟩
   have HOW:=qb hc3
   clear hy hpo hpe hq CQ CD CM CP CT hc1 hc2 hc3 hc4 hc5 S1
   go_wp2_with fail
   refine(qa CQ1).mono ?_
   rintro e w3⟨rfl,he⟩
   have K3:=qb (HS.out.call aa0.g he).drew
   have O3:Hid (World.ownsRow w3.drew w.heap.size 41 4 (.slice mo ms.length f) ms.length css.flatten):=ab5 (z':=w3) HOW.out he.keep aa0.m
   have E3:Hid (aa5 TySE wr w3.drew):=(aa5.keepI TySE.apartI he.keep).trans (aa5.drew _)
   have HZ3:Hid (wr.heap.size≤w3.drew.heap.size):=he.keep.size
   clear he CQ1
   go_wp2_with fail
   have y1:=chp K3.out.box 1
   simp at y1
   cases hby:y.1.bad with
   | true =>
    have C8:=qb (ag0.no hby (qa (CM1 w3.drew K3.out.fin.at' (HO.out.stays K3.out.fin.bel HB.out))))
    have HA:=qb (show (RR.1.last l).At y.1.pos from by rw[HRR.out];exact Rd.At.last (Rd.At.must l (by rw[←HR2.out,←HX2.out];exact Rd.At.processes (Rd.At.monitors ⟨hby,rfl⟩ _ _) _ _) _))
    clear CM1
    refine wp_region_any (by kernel_rfl) ?_
    try (change wpAny _ _ _ _ _ _ _ (World.drew _))
    refine wpAny_take (i:=0) (v:=?_) rfl (by kernel_rfl) (by kernel_rfl) (by kernel_rfl) (fun _ _ _ h=>h) (Or.inl ⟨by rfl,?_⟩) ?_
    rotate_left
    ·intro w;go_simp;with_reducible rfl
    refine wpAny_take (i:=2) (v:=?_) rfl (by kernel_rfl) (by kernel_rfl) (by kernel_rfl) (fun _ _ _ h=>h) (Or.inl ⟨by rfl,?_⟩) ?_
    rotate_left
    ·intro w;go_simp;with_reducible rfl
    refine wpAny_ready (rs:=[1,3]) (by kernel_rfl) (by simp) ?_
    refine AllReady.cons rfl (fun K hK=>?_) (AllReady.cons rfl (fun K hK=>?_) AllReady.nil)
    ·go_simp
     refine hK _ _ ?_
     clear hK K
     refine wpAny_ready (rs:=[3]) (by kernel_rfl) (by simp) ?_
     refine AllReady.cons rfl (fun K hK=>?_) AllReady.nil
     go_simp
     refine(qa C8).mono ?_
     rintro e wz⟨rfl,he⟩
     exact⟨rfl,ag0.lost (K3.out.fin.lost he) HA.out⟩
    ·go_simp
     refine(qa C8).mono ?_
     rintro e wz⟨rfl,he⟩
     exact⟨rfl,ag0.lost (K3.out.fin.lost he) HA.out⟩
   | false =>
    have C8:=qb (ag0.yes hby (qa (CM1 w3.drew K3.out.fin.at' (HO.out.stays K3.out.fin.bel HB.out))))
    clear CM1
    go_region_law (first
     | (refine aG1 23 41 4 88 (.agg #[.string ⟨#[]⟩,.slice none 0 0,.slice none 0 0,.slice none 0 0]) aa0.m Tryz.underlying23 Tryz.infoMo rfl (by decide) (by decide) rfl (.tmp 8) (.tmp 11) rfl (kb:=w5.heap.size) rfl K5.out.fin noL HBL.out O5.out rfl rfl HKN.out rfl (by simp[Value.oneCell']) ?_;intro v9 w9 hk9 ho9 hh9 hs9;have HS9:=qb hs9;have sh9:=ab_ ho9;obtain⟨eo9,f9,e9⟩:=sh9;subst e9;have B9:=qb (K5.out.change hk9 (hh9 _ K5.out.res.lt (al1 O5.out K5.out.res (by decide))) (hh9 _ K5.out.box.lt (al1 O5.out K5.out.box (by decide))));have E9:=qb (E5.out.trans (aa5.grow O5.out TySE.notM hh9));have M9:=qb (M5.out.of (aa5.grow O5.out TySE.notM hh9) (.inl rfl) (.inr rfl));have O9:=qb ho9;have u1:=chp B9.out.box 1;have uf:=fhp B9.out.box 1;simp at u1;clear hk9 ho9 hh9 hs9)
     | (go_simp;go_at_call 75;refine(qa C8).mono ?_;rintro e w5⟨v,rfl,he,cs,e7,hm,hap⟩;subst e7;have G5:=qb (am3.one hm hap);have HZ5:=qb he.keep.size;clear hap;have K5:=qb (K3.out.call aa0.g he);have O5:=qb (ab5 O3.out he.keep aa0.m);have E5:=qb (E3.out.trans (aa5.keepI TySE.apartI he.keep));have M5:=qb (am3.base hm K3.out.fin.keep.size);have z1:=chp K5.out.box 1;simp at z1;have hxl:=K5.out.box.lt;obtain⟨ao,c,bo,d,eo,f',e6,a1,a2,a3⟩:=hm;subst e6;clear he a1 a2 a3))
    all_goals
     have T9:=qb (B9.out.put aa0.g noL HBL.out 1 (.slice eo9 (ms.length+1) f9))
     simp at T9
     have hpl:=T9.out.fin.at'.pos
     have h5:=HPO.out
     have h6:=HP.out
     have KE:=qb (E9.out.trans (aa5.poke B9.out.box TySE.notG 1 (.slice eo9 (ms.length+1) f9)))
     have HZ9:Hid (w5.heap.size≤(w9.setCell ⟨xb,1,none⟩ (.slice eo9 (ms.length+1) f9)).heap.size):=by simpa [Hid] using HS9.out
     have R9:Hid (am6 am3 41 w.heap.size 0 (w9.setCell ⟨xb,1,none⟩ (.slice eo9 (ms.length+1) f9)).heap.size (w9.setCell ⟨xb,1,none⟩ (.slice eo9 (ms.length+1) f9)) (.slice eo9 (ms.length+1) f9) (ms++[y.2])) :=
      am6.app rfl (M9.out.of (aa5.poke B9.out.box TySE.notG 1 (.slice eo9 (ms.length+1) f9)) (.inl rfl) (.inr rfl)) css HC.out.1 HC.out.2.1 (fun j cs x hj hx=>(HC.out.2.2 j cs x hj hx).of KE.out (.inl rfl) (.inr rfl)) (aa_ O9.out B9.out.box (by decide) 1 (.slice eo9 (ms.length+1) f9)) (((HAP.out.more HZ3.out).app G5.out (Nat.zero_le _) HZ5.out).more HZ9.out)
     have FL:ms.length+1=(ms++[y.2]).length:=by simp
     have hm:∃ k,m'=k+1:=⟨m'-1,by omega⟩
     obtain⟨k,rfl⟩:=hm
     go_wp2
     go_roundw
     case rel =>
      rw[FL]at T9 R9
      rw[FL]
      exact⟨y.1,ms++[y.2],k,eo9,f9,HX2,⟨by omega,by simp;omega⟩,T9,R9⟩
     case measure =>
      rw[T9.out.fin.at'.posCell,HS.out.fin.at'.posCell]
      omega
  | false =>
   rw[hq,show s'.may l ⟨#[109,111,110,105,116,111,114]⟩=s' from by simp[Rd.may,hq]]at CQ1
   have HX2:Hid (R1=(s',ms)):=by
    have:=HX1.out
    rw[Rd.monitors,tx6.2.2.2.2.1,hq,if_neg (by simp)]at this
    exact this.symm
   have e1:R1.1=s':=by rw[HX2.out]
   have e2:R1.2=ms:=by rw[HX2.out]
   rw[e1]at HR2
   rw[e2]at HRR
   clear hq CM HX1 HP S1 HX2 e1 e2 HR1
   go_wp2_with fail
   refine(qa CQ1).mono ?_
   rintro e w3⟨rfl,he⟩
   have S4:=qb (HS.out.call aa0.g he)
   have M4:=qb (HR.out.monOf (aa5.keepI TyM.apartI he.keep) he.keep.size)
   clear he CQ1 HS HR
   go_wp2_with fail
   go_loopw [] (fun wr=>IProsRel L B g sz l lv R2 w rb xb w3.heap.size (.slice mo ms.length f) ms wr) (fun wr=>l.length-(intOf ((wr.cell? ⟨g,1,none⟩).getD undef)).toNat)
   case atStart=>exact⟨s',[],l.length,none,0,HR2,⟨by omega,Nat.zero_le _⟩,S4,M4,am6.nil,nlr _⟩
   case round =>
    obtain⟨s2,ps,m2,po,pf,HX1,HP,HS,HM,HR,HMID⟩:=hrel
    have CQ1:=CQ s2 ⟨#[112,114,111,99,101,115,115]⟩ wq.2.1 _ HS.out.fin.at'
    cases hq:s2.isQ l ⟨#[112,114,111,99,101,115,115]⟩ with
    | true =>
     have hlt:=Rd.isQ_lt hq
     rw[hq,show s2.may l ⟨#[112,114,111,99,101,115,115]⟩=s2.on from by simp[Rd.may,hq]]at CQ1
     have hpo:s2.on.pos=s2.pos+1:=rfl
     have CM1:=CP s2.on
     have hpe:=Rd.process_pos l s2.on
     have HX3:Hid (Rd.processes l m2 (s2.on.process l).1 (ps++[(s2.on.process l).2])=R2):=by
      have:=HX1.out
      rw[Rd.processes,tx6.2.2.2.2.2.1,hq,if_pos rfl]at this
      exact this
     obtain⟨y,hy⟩:∃ y,y=s2.on.process l:=⟨_,rfl⟩
     rw[←hy]at CM1 hpe HX3
     have HPO:=qb (show s2.pos+1≤y.1.pos by omega)
     have HKN:Hid (ps.length≤2000000):=by have:=HP.out;show _≤_;omega
     obtain⟨css,hc1,hc2,hc3,hc4,hc5⟩:=HR.out
     have HAP:=qb hc5
     have HC:Hid (css.length=ps.length∧(∀ c∈css,c.length=4)∧∀ (j:Nat) (cs:List Value) (x:Pr),css[j]? = some cs→ps[j]? = some x→an_ w.heap.size wr cs.toArray x):=⟨hc1,hc2,hc4⟩
     have HOW:=qb hc3
     clear hy hpo hpe hq CQ CD CP CT hc1 hc2 hc3 hc4 hc5 S4 M4
     go_wp2_with fail
     refine(qa CQ1).mono ?_
     rintro e w4⟨rfl,he⟩
     have K3:=qb (HS.out.call aa0.g he).drew
     have O3:Hid (World.ownsRow w4.drew w.heap.size 44 4 (.slice po ps.length pf) ps.length css.flatten):=ab5 (z':=w4) HOW.out he.keep aa0.p
     have E3:Hid (aa5 TyS9 wr w4.drew):=(aa5.keepI TyS9.apartI he.keep).trans (aa5.drew _)
     have N3:Hid (aa5 TyM wr w4.drew):=(aa5.keepI TyM.apartI he.keep).trans (aa5.drew _)
     have HZ3:Hid (wr.heap.size≤w4.drew.heap.size):=he.keep.size
     clear he CQ1
     go_wp2_with fail
     have y1:=chp K3.out.box 2
     simp at y1
     cases hby:y.1.bad with
     | true =>
      have C8:=qb (ag0.no hby (qa (CM1 w4.drew K3.out.fin.at' (HO.out.stays K3.out.fin.bel HB.out))))
      have HA:=qb (show (RR.1.last l).At y.1.pos from by rw[HRR.out];exact Rd.At.last (Rd.At.must l (by rw[←HX3.out];exact Rd.At.processes ⟨hby,rfl⟩ _ _) _))
      clear CM1
      refine wp_region_any (by kernel_rfl) ?_
      try (change wpAny _ _ _ _ _ _ _ (World.drew _))
      refine wpAny_take (i:=0) (v:=?_) rfl (by kernel_rfl) (by kernel_rfl) (by kernel_rfl) (fun _ _ _ h=>h) (Or.inl ⟨by rfl,?_⟩) ?_
      rotate_left
      ·intro w;go_simp;with_reducible rfl
      refine wpAny_take (i:=2) (v:=?_) rfl (by kernel_rfl) (by kernel_rfl) (by kernel_rfl) (fun _ _ _ h=>h) (Or.inl ⟨by rfl,?_⟩) ?_
      rotate_left
      ·intro w;go_simp;with_reducible rfl
      refine wpAny_ready (rs:=[1,3]) (by kernel_rfl) (by simp) ?_
      refine AllReady.cons rfl (fun K hK=>?_) (AllReady.cons rfl (fun K hK=>?_) AllReady.nil)
      ·go_simp
       refine hK _ _ ?_
       clear hK K
       refine wpAny_ready (rs:=[3]) (by kernel_rfl) (by simp) ?_
       refine AllReady.cons rfl (fun K hK=>?_) AllReady.nil
       go_simp
       refine(qa C8).mono ?_
       rintro e wz⟨rfl,he⟩
       exact⟨rfl,ag0.lost (K3.out.fin.lost he) HA.out⟩
      ·go_simp
       refine(qa C8).mono ?_
       rintro e wz⟨rfl,he⟩
       exact⟨rfl,ag0.lost (K3.out.fin.lost he) HA.out⟩
     | false =>
      have C8:=qb (ag0.yes hby (qa (CM1 w4.drew K3.out.fin.at' (HO.out.stays K3.out.fin.bel HB.out))))
      clear CM1
      go_region_law (first
       | (refine aG1 24 44 4 72 (.agg #[.string ⟨#[]⟩,.slice none 0 0,.slice none 0 0,.int .i64 0]) aa0.p Tryz.underlying24 Tryz.infoPr rfl (by decide) (by decide) rfl (.tmp 17) (.tmp 20) rfl (kb:=w5.heap.size) rfl K5.out.fin noL HBL.out O5.out rfl rfl HKN.out rfl (by simp[Value.oneCell']) ?_;intro v9 w9 hk9 ho9 hh9 hs9;have HS9:=qb hs9;have sh9:=ab_ ho9;obtain⟨eo9,f9,e9⟩:=sh9;subst e9;have B9:=qb (K5.out.change hk9 (hh9 _ K5.out.res.lt (al1 O5.out K5.out.res (by decide))) (hh9 _ K5.out.box.lt (al1 O5.out K5.out.box (by decide))));have E9:=qb (E5.out.trans (aa5.grow O5.out TyS9.notP hh9));have N9:=qb (N5.out.trans (aa5.grow O5.out TyM.notP hh9));have M9:=qb (M5.out.of (aa5.grow O5.out TyS9.notP hh9) rfl);have O9:=qb ho9;have u1:=chp B9.out.box 2;have uf:=fhp B9.out.box 2;simp at u1;clear hk9 ho9 hh9 hs9)
       | (go_simp;go_at_call 76;refine(qa C8).mono ?_;rintro e w5⟨v,rfl,he,cs,e7,hm,hap⟩;subst e7;have G5:=qb (an_.one hm hap);have HZ5:=qb he.keep.size;clear hap;have K5:=qb (K3.out.call aa0.g he);have O5:=qb (ab5 O3.out he.keep aa0.p);have E5:=qb (E3.out.trans (aa5.keepI TyS9.apartI he.keep));have N5:=qb (N3.out.trans (aa5.keepI TyM.apartI he.keep));have M5:=qb (an_.base hm K3.out.fin.keep.size);have z1:=chp K5.out.box 2;simp at z1;have hxl:=K5.out.box.lt;obtain⟨ao,c,bo,d,e6,a1,a2⟩:=hm;subst e6;clear he a1 a2))
      all_goals
       have T9:=qb (B9.out.put aa0.g noL HBL.out 2 (.slice eo9 (ps.length+1) f9))
       simp at T9
       have hpl:=T9.out.fin.at'.pos
       have h5:=HPO.out
       have h6:=HP.out
       have KE:=qb (E9.out.trans (aa5.poke B9.out.box TyS9.notG 2 (.slice eo9 (ps.length+1) f9)))
       have MM:=qb (HM.out.monOf (N9.out.trans (aa5.poke B9.out.box TyM.notG 2 (.slice eo9 (ps.length+1) f9))) (nlr _))
       have HZ9:Hid (w5.heap.size≤(w9.setCell ⟨xb,2,none⟩ (.slice eo9 (ps.length+1) f9)).heap.size):=by simpa [Hid] using HS9.out
       have HM9:=qb (nlt HMID.out (nlt HZ3.out (nlt HZ5.out HZ9.out)))
       have R9:Hid (am6 an_ 44 w.heap.size w3.heap.size (w9.setCell ⟨xb,2,none⟩ (.slice eo9 (ps.length+1) f9)).heap.size (w9.setCell ⟨xb,2,none⟩ (.slice eo9 (ps.length+1) f9)) (.slice eo9 (ps.length+1) f9) (ps++[y.2])) :=
        am6.app rfl (M9.out.of (aa5.poke B9.out.box TyS9.notG 2 (.slice eo9 (ps.length+1) f9)) rfl) css HC.out.1 HC.out.2.1 (fun j cs x hj hx=>(HC.out.2.2 j cs x hj hx).of KE.out rfl) (aa_ O9.out B9.out.box (by decide) 2 (.slice eo9 (ps.length+1) f9)) (((HAP.out.more HZ3.out).app G5.out (nlt HMID.out HZ3.out) HZ5.out).more HZ9.out)
       have FL:ps.length+1=(ps++[y.2]).length:=by simp
       have hm:∃ k,m2=k+1:=⟨m2-1,by omega⟩
       obtain⟨k,rfl⟩:=hm
       go_wp2
       go_roundw
       case rel =>
        rw[FL]at T9 R9 MM HM9
        rw[FL]
        exact⟨y.1,ps++[y.2],k,eo9,f9,HX3,⟨by omega,by simp;omega⟩,T9,MM,R9,HM9⟩
       case measure =>
        rw[T9.out.fin.at'.posCell,HS.out.fin.at'.posCell]
        omega
    | false =>
     rw[hq,show s2.may l ⟨#[112,114,111,99,101,115,115]⟩=s2 from by simp[Rd.may,hq]]at CQ1
     have HX3:Hid (R2=(s2,ps)):=by
      have:=HX1.out
      rw[Rd.processes,tx6.2.2.2.2.2.1,hq,if_neg (by simp)]at this
      exact this.symm
     have e1:R2.1=s2:=by rw[HX3.out]
     have e2:R2.2=ps:=by rw[HX3.out]
     rw[e1,e2]at HRR
     have CD1:=CD s2
     obtain⟨c,hc⟩:∃ c,c=s2.must l ⟨#[46]⟩:=⟨_,rfl⟩
     rw[←hc]at CD1 HRR
     have CT1:=CT c
     clear hc hq CQ CD CP CT HX1 HP HX3 S4 M4 e1 e2 HR2
     go_wp2_with fail
     refine(qa CQ1).mono ?_
     rintro e w4⟨rfl,he⟩
     have S5:=qb (HS.out.call aa0.g he)
     have M5:=qb (HM.out.monOf (aa5.keepI TyM.apartI he.keep) (nlr _))
     have P5:=qb (HR.out.proOf (aa5.keepI TyP.apartI he.keep) (nlr _))
     clear he CQ1 HS HM HR
     go_wp2_with fail
     cases hbc:c.bad with
     | true =>
      have CDn:=qb (IOut.no hbc (qa (CD1 _ S5.out.fin.at')))
      have HA:=qb (show (RR.1.last l).At c.pos from by rw[HRR.out];exact Rd.At.last ⟨hbc,rfl⟩)
      refine(qa CDn).mono ?_
      rintro e z⟨rfl,he⟩
      exact⟨rfl,ag0.lost (S5.out.fin.lost he) HA.out⟩
     | false =>
      have CDy:=qb (IOut.yes hbc (qa (CD1 _ S5.out.fin.at')))
      refine(qa CDy).mono ?_
      rintro e z⟨rfl,he⟩
      have S6:=qb (S5.out.call aa0.g he)
      have M6:=qb (M5.out.monOf (aa5.keepI TyM.apartI he.keep) (nlr _))
      have P6:=qb (P5.out.proOf (aa5.keepI TyP.apartI he.keep) (nlr _))
      clear he CDy CD1 S5 M5 P5
      obtain⟨ao,cp,elv⟩:=S6.out.fin.at'.slice
      subst elv
      obtain⟨nv,c0,c1,c2,c3,cf⟩:=S6.out.fin.at'.cells
      by_cases hlt:c.pos<l.length
      ·have hd:decide (c.pos<l.length)=true:=by simp[hlt]
       have HLW:Hid (RR.1.last l=c.wrong):=by show _=_;rw[HRR.out];unfold Rd.last;rw[if_pos hlt]
       go_wp2
       go_quiet (fail)
       have K7:=qb (S6.out.fin.then' (IEnd.drewN S6.out.fin.at' nq))
       go_wp2_with (go_at_call 78;refine(qa (CT1 _ K7.out.at')).mono ?_;rintro e w7⟨rfl,he⟩;have K8:=qb (K7.out.then' he);clear he)
       refine⟨rfl,?_⟩
       rw[HLW.out]
       exact .inr ⟨rfl,rfl,K8.out.gone⟩
      ·have hge:¬ (c.pos:Int)<(l.length:Int):=by omega
       have hd:decide (c.pos<l.length)=false:=by simp;omega
       have HLW:Hid (RR.1.last l=c):=by show _=_;rw[HRR.out];unfold Rd.last;rw[if_neg hlt]
       go_wp2
       go_quiet (fail)
       have S7:Hid (BoxI L B g sz l (.slice ao l.length cp) w c rb xb 26 #[.slice none 0 0,.slice none 0 0,.slice none 0 0] #[.slice none 0 0,.slice mo ms.length f,.slice po ps.length pf] (z.drewN nq)):=⟨S6.out.fin.then' (IEnd.drewN S6.out.fin.at' nq),S6.out.res,S6.out.box,S6.out.rlo,S6.out.xlo,S6.out.ne⟩
       obtain⟨top,htop⟩:∃ top,top=wr.heap.size:=⟨_,rfl⟩
       obtain⟨mid,hmid⟩:∃ mid,mid=w3.heap.size:=⟨_,rfl⟩
       rw[←hmid]at M6 P6
       rw[←htop]at P6
       have M7:Hid (am6 am3 41 w.heap.size 0 mid (z.drewN nq) (.slice mo ms.length f) ms):=M6.out.monOf (fun _ _ _ _ _ e=>e) (nlr _)
       have P7:Hid (am6 an_ 44 w.heap.size mid top (z.drewN nq) (.slice po ps.length pf) ps):=P6.out.proOf (fun _ _ _ _ _ e=>e) (nlr _)
       clear htop hmid
       clear S6 M6 P6 c0 c1 c2 c3 cf
       generalize z.drewN nq=W at S7 M7 P7 ⊢
       obtain⟨nv,hbx,hN⟩:=S7.out.fin.at'.box
       obtain⟨no,nc,e⟩:=hN.shape
       subst e
       have NN:=qb hN
       have k3:=chp hbx 3
       have x0:=chp S7.out.box 0
       have x1:=chp S7.out.box 1
       have x2:=chp S7.out.box 2
       have fx:=fhp S7.out.box 0
       have r0:=chp S7.out.res 0
       have r1:=chp S7.out.res 1
       have r2:=chp S7.out.res 2
       have g0:=fhp S7.out.res 0
       have g1:=fhp S7.out.res 1
       have g2:=fhp S7.out.res 2
       simp at k3 x0 x1 x2 r0 r1 r2
       have hrx:¬ rb=xb:=S7.out.ne
       have hxr:¬ xb=rb:=fun e=>S7.out.ne e.symm
       have T0:=S7.out.put aa0.g noL HBL.out 0 (.slice no c.nodes.length nc)
       have T1:=T0.out aa0.g noL HBL.out 0 (.slice no c.nodes.length nc)
       have T2:=T1.out aa0.g noL HBL.out 1 (.slice mo ms.length f)
       have T3:=qb (T2.out aa0.g noL HBL.out 2 (.slice po ps.length pf))
       have NF:=qb ((((NN.out.chg S7.out.box aa0.g 0 (.slice no c.nodes.length nc)).chg T0.res aa0.g 0 (.slice no c.nodes.length nc)).chg T1.res aa0.g 1 (.slice mo ms.length f)).chg T2.res aa0.g 2 (.slice po ps.length pf))
       have MF:=qb ((((M7.out.monOf (aa5.poke S7.out.box TyM.notG 0 (.slice no c.nodes.length nc)) (nlr _)).monOf (aa5.poke T0.res TyM.notG 0 (.slice no c.nodes.length nc)) (nlr _)).monOf (aa5.poke T1.res TyM.notG 1 (.slice mo ms.length f)) (nlr _)).monOf (aa5.poke T2.res TyM.notG 2 (.slice po ps.length pf)) (nlr _))
       have PF:=qb ((((P7.out.proOf (aa5.poke S7.out.box TyP.notG 0 (.slice no c.nodes.length nc)) (nlr _)).proOf (aa5.poke T0.res TyP.notG 0 (.slice no c.nodes.length nc)) (nlr _)).proOf (aa5.poke T1.res TyP.notG 1 (.slice mo ms.length f)) (nlr _)).proOf (aa5.poke T2.res TyP.notG 2 (.slice po ps.length pf)) (nlr _))
       have TF:=T3
       simp at TF
       clear T0 T1 T2 hbx hN
       go_wp2
       refine an9 (g:=rb) (t:=26) (cs:=#[.slice no c.nodes.length nc,.slice mo ms.length f,.slice po ps.length pf]) rfl rfl TF.out.res _ Tryz.underlying26 rfl (by kernel_rfl) rfl ?_
       rw[HLW.out,HRR.out]
       exact .inl ⟨hbc,_,rfl,TF.out.fin,no,nc,mo,f,po,pf,mid,top,rfl,NF.out,MF.out,PF.out⟩
end Go.Proofs.YtcpapceeekkacaaGreatDoor
