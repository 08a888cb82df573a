import Derived.Test.YtcpapceeekkacaaGreatDoorTreeQ
import Derived.Test.YtcpapceeekkacaaGreatDoorIrdL
set_option maxRecDepth 100000
set_option maxHeartbeats 8000000
namespace Go.Proofs.YtcpapceeekkacaaGreatDoor
open Go.RowKit
theorem blk_ne {v u:Value}(h:at2 v u) (hv:v.ownBlock=some (ai7 v)) (hu:u.ownBlock=some (ai7 u)):ai7 v≠ai7 u:=fun e=>h _ hv (by rw[hu,e])
structure Sub (z:World) (B T s n:Nat) (v:Value) (vv:Nat→Nat→Value) (lm:Nat→Nat→Nat) (Ty:Nat→Prop):Prop where
 row:∃ xs,z.ownsRow B T s v n xs
 sub:∀ j q,j<n→0<lm j q→∃ e s' m xs,z.ownsRow B e s' (vv j q) m xs∧m*s'=lm j q∧Ty e
 ap:∀ i j q r,i<n→j<n→(i≠j∨q≠r)→at2 (vv i q) (vv j r)
 ty:∀ e,Ty e→e≠T
 pos:0<s
theorem Sub.one {z:World}{B T s n:Nat}{v:Value}{vv:Nat→Nat→Value}{lm:Nat→Nat→Nat}{Ty:Nat→Prop}(h:Sub z B T s n v vv lm Ty) {j q:Nat}(hj:j<n) (hq:0<lm j q) :
  (vv j q).ownBlock=some (ai7 (vv j q))∧Cells z B (ai7 (vv j q)) (lm j q)∧∃ e cur,Ty e∧z.heap[ai7 (vv j q)]? = some (.cells cur e (0,0)):=by
 obtain⟨e,s',m,xs,ho,hm,he⟩:=h.sub j q hj hq
 obtain⟨h1,_,h3,cur,h4⟩:=aJ1 ho (by omega)
 rw[hm]at h3
 exact⟨h1,h3,e,cur,he,h4⟩
theorem Sub.own {z:World}{B T s n:Nat}{v:Value}{vv:Nat→Nat→Value}{lm:Nat→Nat→Nat}{Ty:Nat→Prop}(h:Sub z B T s n v vv lm Ty) (hn:0<n) :
  v.ownBlock=some (ai7 v)∧Cells z B (ai7 v) (n*s)∧∃ cur,z.heap[ai7 v]? = some (.cells cur T (0,0)):=by
 obtain⟨xs,ho⟩:=h.row
 obtain⟨h1,_,h3,h4⟩:=aJ1 ho (Nat.mul_pos hn h.pos)
 exact⟨h1,h3,h4⟩
theorem aG3 {z:World}{b b':Nat}{cur cur':Array Value}{T T':Nat}(h:z.heap[b]? = some (.cells cur T (0,0))) (h':z.heap[b']? = some (.cells cur' T' (0,0))) (hT:T≠T'):b≠b':=fun e=>by
 subst e
 rw[h]at h'
 injection h' with h'
 injection h' with _ h' _
 exact hT h'
theorem Sub.out {z:World}{B T s n:Nat}{v:Value}{vv:Nat→Nat→Value}{lm:Nat→Nat→Nat}{Ty:Nat→Prop}(h:Sub z B T s n v vv lm Ty):∀ j,j<n→∀ q,0<lm j q→ai7 (vv j q)≠ai7 v:=fun j hj q hq=>by
 obtain⟨_,_,e,cur,he,h1⟩:=h.one hj hq
 obtain⟨_,_,cur',h2⟩:=h.own (by omega)
 exact aG3 h1 h2 (h.ty e he)
theorem Sub.two {z:World}{B T s n:Nat}{v:Value}{vv:Nat→Nat→Value}{lm:Nat→Nat→Nat}{Ty:Nat→Prop}(h:Sub z B T s n v vv lm Ty):∀ i j q r,i<n→j<n→(i≠j∨q≠r)→0<lm i q→0<lm j r→ai7 (vv i q)≠ai7 (vv j r):=fun i j q r hi hj hne hq hr =>
 blk_ne (h.ap i j q r hi hj hne) (h.one hi hq).1 (h.one hj hr).1
theorem Sub.free {z:World}{B T s n:Nat}{v:Value}{vv:Nat→Nat→Value}{lm:Nat→Nat→Nat}{Ty:Nat→Prop}{f:Nat→List Pl}{sl:Nat→Bool}(h:Sub z B T s n v vv lm Ty) (hl:Lay f n (ai7 v) s sl (fun j q=>ai7 (vv j q)) lm):Free B z (pls f n) :=
 hl.free (fun h0=>(h.own h0).2.1) (fun _ _ hj hq=>(h.one hj hq).2.1)
theorem Sub.type {z:World}{B T s n:Nat}{v:Value}{vv:Nat→Nat→Value}{lm:Nat→Nat→Nat}{Ty:Nat→Prop}{f:Nat→List Pl}{sl:Nat→Bool}(h:Sub z B T s n v vv lm Ty) (hl:Lay f n (ai7 v) s sl (fun j q=>ai7 (vv j q)) lm) {p:Pl}(hp:p∈pls f n):∃ e cur,(e=T∨Ty e)∧z.heap[p.1]? = some (.cells cur e (0,0)):=by
 rcases hl.where hp with⟨h0,e⟩|⟨j,q,hj,hq,e⟩
 ·obtain⟨_,_,cur,h2⟩:=h.own h0
  exact⟨T,cur,.inl rfl,by rw[e];exact h2⟩
 ·obtain⟨_,_,ty,cur,he,h1⟩:=h.one hj hq
  exact⟨ty,cur,.inr he,by rw[e];exact h1⟩
theorem ax3 {w:World}{base e s n j o:Nat}{v:Value}{css:List (List Value)}{cs:List Value}(h:w.ownsRow base e s v n css.flatten) (hs:∀ c∈css,c.length=s) (hj:css[j]? = some cs) (hjn:j<n) (ho:o<s):w.cell? ⟨ai7 v,j*s+o,none⟩=some (cs.getD o undef):=by
 have hlt:j*s+o<n*s:=by
  have:(j+1)*s≤n*s:=Nat.mul_le_mul_right s hjn
  rw[Nat.succ_mul]at this
  omega
 rcases h.2 with⟨_,h0⟩|⟨g,cap,cur,rfl,_⟩
 ·omega
 ·show w.cell? ⟨g,j*s+o,none⟩=_
  have hl:=hs cs (List.mem_of_getElem? hj)
  rw[h.cellAt _ hlt,az7 css j o cs hs hj ho,List.getD_eq_getElem?_getD,List.getElem?_eq_getElem (by omega)]
  rfl
def vvOf (css:List (List Value)) (j q:Nat):Value:=(css.getD j []).getD q undef
theorem ai3 {css:List (List Value)}{j q:Nat}{c:List Value}(h:css[j]? = some c):vvOf css j q=c.getD q undef:=by
 simp[vvOf,List.getD_eq_getElem?_getD,h]
theorem ai6 {α:Type}{xs:List α}{j:Nat}(h:j<xs.length):∃ x,xs[j]? = some x:=⟨xs[j],List.getElem?_eq_getElem h⟩
def klOf (ns:List Nd) (j q:Nat):Nat:=if q=5 then ((ns[j]?).map fun x=>x.kids.length).getD 0 else 0
def enOf (ms:List Mo) (j:Nat):Nat:=((ms[j]?).map fun x=>x.ents.length).getD 0
def mlOf (ms:List Mo) (j:Nat):Nat→Nat
 | 1=>((ms[j]?).map fun x=>x.vars.length).getD 0
 | 2=>((ms[j]?).map fun x=>x.queues.length).getD 0
 | 3=>enOf ms j*3
 | _=>0
def plOf (ps:List Pr) (j:Nat):Nat→Nat
 | 1=>((ps[j]?).map fun x=>x.uses.length).getD 0
 | 2=>((ps[j]?).map fun x=>x.vars.length).getD 0
 | _=>0
theorem subN {B:Nat}{z:World}{v:Value}{ns:List Nd}{css:List (List Value)}(n1:css.length=ns.length) (n3:z.ownsRow B 74 6 v ns.length css.flatten) (n4:∀ (j:Nat) (cs:List Value) (x:Nd),css[j]? = some cs→ns[j]? = some x→INode (fun _=>False) B z cs x) (n6:ax7 css) :
  Sub z B 74 6 ns.length v (vvOf css) (klOf ns) (fun e=>e=3):=by
 refine⟨⟨_,n3⟩,fun j q hj hq=>?_,fun i j q r hi hj hne=>?_,fun e he=>by rw[he];decide,by omega⟩
 ·obtain⟨cs,hc⟩:=ai6 (show j<css.length by omega)
  obtain⟨x,hx⟩:=ai6 hj
  obtain⟨kv,rfl,ho,_⟩:=n4 j cs x hc hx
  by_cases h5:q=5
  ·subst h5
   refine⟨3,1,x.kids.length,x.kids.map I64,?_,?_,rfl⟩
   ·rw[ai3 hc];exact ho
   ·simp[klOf,hx]
  ·simp[klOf,h5]at hq
 ·obtain⟨a,ha⟩:=ai6 (show i<css.length by omega)
  obtain⟨b,hb⟩:=ai6 (show j<css.length by omega)
  obtain⟨x,hx⟩:=ai6 hi
  obtain⟨y,hy⟩:=ai6 hj
  obtain⟨ka,ea,_⟩:=n4 i a x ha hx
  obtain⟨kb,eb,_⟩:=n4 j b y hb hy
  have one:∀ {a:List Value}{x:Nd}{ka:Value}{q:Nat}{k:Nat},a=[.int .i64 x.kind,.int .i64 x.num,.string x.name,.string x.more,.string x.into,ka]→(a.getD q undef).ownBlock=some k→q=5:=by
   rintro a x ka q k rfl h
   match q,h with
   | 0,h=>exact absurd h (aF1 _ _ k)
   | 1,h=>exact absurd h (aF1 _ _ k)
   | 2,h=>exact absurd h (as9 _ k)
   | 3,h=>exact absurd h (as9 _ k)
   | 4,h=>exact absurd h (as9 _ k)
   | 5,_=>rfl
   | n+6,h=>exact absurd h (aq4 k)
  intro k h1 h2
  rw[ai3 ha]at h1
  rw[ai3 hb]at h2
  have e1:=one ea h1
  have e2:=one eb h2
  subst e1 e2
  rcases Nat.lt_trichotomy i j with h|h|h
  ·exact n6 i j a b h ha hb k h1 h2
  ·rcases hne with h3|h3
   ·exact h3 h
   ·exact h3 rfl
  ·exact n6 j i b a h hb ha k h2 h1
theorem subM {B base lo hi:Nat}{z:World}{v:Value}{ms:List Mo}{css:List (List Value)}(hB:B≤base) (m1:css.length=ms.length) (m3:z.ownsRow base 41 4 v ms.length css.flatten) (m4:∀ (j:Nat) (cs:List Value) (x:Mo),css[j]? = some cs→ms[j]? = some x→am3 base z cs.toArray x) (m5:az4 lo hi css) :
  Sub z B 41 4 ms.length v (vvOf css) (mlOf ms) (fun e=>e=9∨e=67):=by
 refine⟨⟨_,ad1 m3 hB⟩,fun j q hj hq=>?_,fun i j q r hi hj hne=>?_,fun e he=>by rcases he with rfl|rfl <;> decide,by omega⟩
 ·obtain⟨cs,hc⟩:=ai6 (show j<css.length by omega)
  obtain⟨x,hx⟩:=ai6 hj
  obtain⟨ao,c,bo,d,eo,f,e,a1,a2,a3⟩:=m4 j cs x hc hx
  have e:cs=[.string x.name,.slice ao x.vars.length c,.slice bo x.queues.length d,.slice eo x.ents.length f]:=by simpa using congrArg Array.toList e
  subst e
  match q,hq with
  | 0,hq=>simp[mlOf]at hq
  | 1,_=>exact⟨9,1,x.vars.length,_,by rw[ai3 hc];exact ad1 a1 hB,by simp[mlOf,hx],.inl rfl⟩
  | 2,_=>exact⟨9,1,x.queues.length,_,by rw[ai3 hc];exact ad1 a2 hB,by simp[mlOf,hx],.inl rfl⟩
  | 3,_=>exact⟨67,3,x.ents.length,_,by rw[ai3 hc];exact ad1 a3 hB,by simp[mlOf,enOf,hx],.inr rfl⟩
  | n+4,hq=>simp[mlOf]at hq
 ·obtain⟨a,ha⟩:=ai6 (show i<css.length by omega)
  obtain⟨b,hb⟩:=ai6 (show j<css.length by omega)
  rw[ai3 ha,ai3 hb]
  exact m5.2 i j q r a b ha hb hne
theorem subP {B base lo hi:Nat}{z:World}{v:Value}{ps:List Pr}{css:List (List Value)}(hB:B≤base) (m1:css.length=ps.length) (m3:z.ownsRow base 44 4 v ps.length css.flatten) (m4:∀ (j:Nat) (cs:List Value) (x:Pr),css[j]? = some cs→ps[j]? = some x→an_ base z cs.toArray x) (m5:az4 lo hi css) :
  Sub z B 44 4 ps.length v (vvOf css) (plOf ps) (fun e=>e=9):=by
 refine⟨⟨_,ad1 m3 hB⟩,fun j q hj hq=>?_,fun i j q r hi hj hne=>?_,fun e he=>by rw[he];decide,by omega⟩
 ·obtain⟨cs,hc⟩:=ai6 (show j<css.length by omega)
  obtain⟨x,hx⟩:=ai6 hj
  obtain⟨ao,c,bo,d,e,a1,a2⟩:=m4 j cs x hc hx
  have e:cs=[.string x.name,.slice ao x.uses.length c,.slice bo x.vars.length d,.int .i64 x.body]:=by simpa using congrArg Array.toList e
  subst e
  match q,hq with
  | 0,hq=>simp[plOf]at hq
  | 1,_=>exact⟨9,1,x.uses.length,_,by rw[ai3 hc];exact ad1 a1 hB,by simp[plOf,hx],rfl⟩
  | 2,_=>exact⟨9,1,x.vars.length,_,by rw[ai3 hc];exact ad1 a2 hB,by simp[plOf,hx],rfl⟩
  | n+3,hq=>simp[plOf]at hq
 ·obtain⟨a,ha⟩:=ai6 (show i<css.length by omega)
  obtain⟨b,hb⟩:=ai6 (show j<css.length by omega)
  rw[ai3 ha,ai3 hb]
  exact m5.2 i j q r a b ha hb hne
def planOf (ns:List Nd) (ms:List Mo) (ps:List Pr) (nv mv pv:Value) (cn cm cp:List (List Value)):Plan :=
 ⟨ns.length,ms.length,ps.length,ai7 nv,ai7 mv,ai7 pv,fun j q=>ai7 (vvOf cn j q),klOf ns,fun j q=>ai7 (vvOf cm j q),mlOf ms,fun j q=>ai7 (vvOf cp j q),plOf ps,enOf ms,vvOf cn,vvOf cm,vvOf cp⟩
theorem PgV.plan {B base:Nat}{ns:List Nd}{ms:List Mo}{ps:List Pr}{v:Value}{z:World}(h:PgV (fun _=>False) B base ns ms ps v z) (hB:B≤base) (hL:aN1 ⟨ns,ms,ps⟩) :
  ∃ (X:Plan) (nv mv pv:Value),v=.agg #[nv,mv,pv]∧ah6 nv X.n X.gN∧ah6 mv X.m X.gM∧ah6 pv X.p X.gP∧(X.n≤1048576∧X.m≤1048576∧X.p≤1048576)∧aq7 X z∧Outs X∧Free B z X.all∧X.all.length≤100000000000000:=by
 obtain⟨no,nc,mo,f,po,pf,mid,top,rfl,hN,hM,hP⟩:=h
 obtain⟨cn,n1,n2,n3,n4,n5,n6⟩:=hN
 obtain⟨cm,m1,m2,m3,m4,m5⟩:=hM
 obtain⟨cp,p1,p2,p3,p4,p5⟩:=hP
 generalize Value.slice no ns.length nc=nv at n3 n5 ⊢
 generalize Value.slice mo ms.length f=mv at m3 ⊢
 generalize Value.slice po ps.length pf=pv at p3 ⊢
 have SN:=subN n1 n3 n4 n6
 have SM:=subM hB m1 m3 m4 m5
 have SP:=subP hB p1 p3 p4 p5
 have LN:=layN (g:=ai7 nv) (n:=ns.length) (bm:=fun j q=>ai7 (vvOf cn j q)) (lm:=klOf ns) SN.out SN.two
 have LM:=layM (g:=ai7 mv) (n:=ms.length) (bm:=fun j q=>ai7 (vvOf cm j q)) (lm:=mlOf ms) (en:=enOf ms) (fun j=>rfl) SM.out SM.two
 have LP:=layP (g:=ai7 pv) (n:=ps.length) (bm:=fun j q=>ai7 (vvOf cp j q)) (lm:=plOf ps) SP.out SP.two
 have FN:=SN.free LN
 have FM:=SM.free LM
 have FP:=SP.free LP
 obtain⟨X,hX⟩:∃ X,X=planOf ns ms ps nv mv pv cn cm cp:=⟨_,rfl⟩
 have dNM:∀ p∈pls X.fN X.n,∀ q∈pls X.fM X.m,p.1≠q.1:=fun p hp q hq=>by
  rw[hX]at hp hq
  obtain⟨e1,c1,t1,h1⟩:=SN.type LN hp
  obtain⟨e2,c2,t2,h2⟩:=SM.type LM hq
  refine aG3 h1 h2 ?_
  rcases t1 with rfl|rfl <;> rcases t2 with rfl|rfl|rfl <;> decide
 have dNP:∀ p∈pls X.fN X.n,∀ q∈pls X.fP X.p,p.1≠q.1:=fun p hp q hq=>by
  rw[hX]at hp hq
  obtain⟨e1,c1,t1,h1⟩:=SN.type LN hp
  obtain⟨e2,c2,t2,h2⟩:=SP.type LP hq
  refine aG3 h1 h2 ?_
  rcases t1 with rfl|rfl <;> rcases t2 with rfl|rfl <;> decide
 have dMP:∀ p∈pls X.fM X.m,∀ q∈pls X.fP X.p,p.1≠q.1:=fun p hp q hq=>by
  rw[hX]at hp hq
  rcases LM.where hp with⟨h0,e⟩|⟨j,u,hj,hu,e⟩
  ·obtain⟨_,_,c1,h1⟩:=SM.own h0
   obtain⟨e2,c2,t2,h2⟩:=SP.type LP hq
   rw[e]
   refine aG3 h1 h2 ?_
   rcases t2 with rfl|rfl <;> decide
  ·obtain⟨hb1,_,e1,c1,t1,h1⟩:=SM.one hj hu
   rcases LP.where hq with⟨h0,e'⟩|⟨k,r,hk,hr,e'⟩
   ·obtain⟨_,_,c2,h2⟩:=SP.own h0
    rw[e,e']
    refine aG3 h1 h2 ?_
    rcases t1 with rfl|rfl <;> decide
   ·obtain⟨hb2,_⟩:=SP.one hk hr
    rw[e,e']
    obtain⟨a,ha⟩:=ai6 (show j<cm.length by omega)
    obtain⟨b,hb⟩:=ai6 (show k<cp.length by omega)
    have g1:=(m5.1 j u a _ ha (by rw[←ai3 ha];exact hb1)).2
    have g2:=(p5.1 k r b _ hb (by rw[←ai3 hb];exact hb2)).1
    omega
 have hF:Free B z X.all:=by
  have FN':Free B z (pls X.fN X.n):=by rw[hX];exact FN
  have FM':Free B z (pls X.fM X.m):=by rw[hX];exact FM
  have FP':Free B z (pls X.fP X.p):=by rw[hX];exact FP
  refine FN'.app (FM'.app FP' dMP) fun p hp q hq=>?_
  rcases List.mem_append.1 hq with hq|hq
  ·exact dNM p hp q hq
  ·exact dNP p hp q hq
 have outN:∀ (j o:Nat) (t:Bool),0<X.n→(X.gN,o,t)∉pls X.fM X.m++pls X.fP X.p:=fun j o t h0 hm=>by
  rw[hX]at hm h0
  obtain⟨_,_,c1,h1⟩:=SN.own h0
  rcases List.mem_append.1 hm with hm|hm
  ·obtain⟨e2,c2,t2,h2⟩:=SM.type LM hm
   exact aG3 h1 h2 (by rcases t2 with rfl|rfl|rfl <;> decide) rfl
  ·obtain⟨e2,c2,t2,h2⟩:=SP.type LP hm
   exact aG3 h1 h2 (by rcases t2 with rfl|rfl <;> decide) rfl
 have outM:∀ (o:Nat) (t:Bool),0<X.m→(X.gM,o,t)∉pls X.fN X.n∧(X.gM,o,t)∉pls X.fP X.p:=fun o t h0=>by
  rw[hX]at h0 ⊢
  obtain⟨_,_,c1,h1⟩:=SM.own h0
  refine⟨fun hm=>?_,fun hm=>?_⟩
  ·obtain⟨e2,c2,t2,h2⟩:=SN.type LN hm
   exact aG3 h1 h2 (by rcases t2 with rfl|rfl <;> decide) rfl
  ·obtain⟨e2,c2,t2,h2⟩:=SP.type LP hm
   exact aG3 h1 h2 (by rcases t2 with rfl|rfl <;> decide) rfl
 have outP:∀ (o:Nat) (t:Bool),0<X.p→(X.gP,o,t)∉pls X.fN X.n∧(X.gP,o,t)∉pls X.fM X.m:=fun o t h0=>by
  rw[hX]at h0 ⊢
  obtain⟨_,_,c1,h1⟩:=SP.own h0
  refine⟨fun hm=>?_,fun hm=>?_⟩
  ·obtain⟨e2,c2,t2,h2⟩:=SN.type LN hm
   exact aG3 h1 h2 (by rcases t2 with rfl|rfl <;> decide) rfl
  ·obtain⟨e2,c2,t2,h2⟩:=SM.type LM hm
   exact aG3 h1 h2 (by rcases t2 with rfl|rfl|rfl <;> decide) rfl
 have hO:Outs X:=by
  refine⟨fun j t hj hm=>?_,fun j t hj=>?_,fun j t hj=>?_⟩
  ·rcases List.mem_append.1 hm with hm|hm
   ·rw[hX]at hm
    exact LN.slice j 5 (by omega) rfl t hm
   ·exact outN 0 _ t (by omega) hm
  ·have key:∀ o,0<o→o<4→(X.gM,j*4+o,t)∉X.all:=fun o h1 h2 hm=>by
    rcases List.mem_append.1 hm with hm|hm
    ·exact(outM _ t (by omega)).1 hm
    ·rcases List.mem_append.1 hm with hm|hm
     ·rw[hX]at hm
      exact LM.slice j o h2 (by rcases(show o=1∨o=2∨o=3 by omega) with rfl|rfl|rfl <;> rfl) t hm
     ·exact(outM _ t (by omega)).2 hm
   exact⟨key 1 (by omega) (by omega),key 2 (by omega) (by omega),key 3 (by omega) (by omega)⟩
  ·have key:∀ o,0<o→o<3→(X.gP,j*4+o,t)∉X.all:=fun o h1 h2 hm=>by
    rcases List.mem_append.1 hm with hm|hm
    ·exact(outP _ t (by omega)).1 hm
    ·rcases List.mem_append.1 hm with hm|hm
     ·exact(outP _ t (by omega)).2 hm
     ·rw[hX]at hm
      exact LP.slice j o (by omega) (by rcases(show o=1∨o=2 by omega) with rfl|rfl <;> rfl) t hm
   exact⟨key 1 (by omega) (by omega),key 2 (by omega) (by omega)⟩
 have hR:aq7 X z:=by
  rw[hX]
  refine⟨fun h0=>(SN.own h0).2.1.2.1,fun h0=>(SM.own h0).2.1.2.1,fun h0=>(SP.own h0).2.1.2.1,fun j hj=>?_,fun j hj=>?_,fun j hj=>?_⟩
  ·have hj:j<ns.length:=hj
   obtain⟨cs,hc⟩:=ai6 (show j<cn.length by omega)
   obtain⟨x,hx⟩:=ai6 hj
   obtain⟨kv,e,ho,_⟩:=n4 j cs x hc hx
   have ek:klOf ns j 5=x.kids.length:=by simp[klOf,hx]
   have ev:vvOf cn j 5=kv:=by rw[ai3 hc,e];rfl
   refine⟨?_,?_,?_⟩
   ·show z.cell? ⟨ai7 nv,j*6+5,none⟩=some (vvOf cn j 5)
    rw[ai3 hc]
    exact ax3 n3 n2 hc hj (by omega)
   ·show ah6 (vvOf cn j 5) (klOf ns j 5) (ai7 (vvOf cn j 5))
    rw[ek,ev]
    exact al6 ho
   ·show klOf ns j 5≤_
    rw[ek]
    exact hL.kids x (List.mem_of_getElem? hx)
  ·have hj:j<ms.length:=hj
   obtain⟨cs,hc⟩:=ai6 (show j<cm.length by omega)
   obtain⟨x,hx⟩:=ai6 hj
   obtain⟨ao,c,bo,d,eo,f,e,a1,a2,a3⟩:=m4 j cs x hc hx
   have e:cs=[.string x.name,.slice ao x.vars.length c,.slice bo x.queues.length d,.slice eo x.ents.length f]:=by simpa using congrArg Array.toList e
   have hm:=hL.mon x (List.mem_of_getElem? hx)
   have g1:mlOf ms j 1=x.vars.length:=by simp[mlOf,hx]
   have g2:mlOf ms j 2=x.queues.length:=by simp[mlOf,hx]
   have g3:enOf ms j=x.ents.length:=by simp[enOf,hx]
   have v1:vvOf cm j 1=.slice ao x.vars.length c:=by rw[ai3 hc,e];rfl
   have v2:vvOf cm j 2=.slice bo x.queues.length d:=by rw[ai3 hc,e];rfl
   have v3:vvOf cm j 3=.slice eo x.ents.length f:=by rw[ai3 hc,e];rfl
   have key:∀ o,o<4→z.cell? ⟨ai7 mv,j*4+o,none⟩=some (vvOf cm j o):=fun o ho=>by
    rw[ai3 hc]
    exact ax3 m3 m2 hc hj ho
   refine⟨key 1 (by omega),?_,?_,key 2 (by omega),?_,?_,key 3 (by omega),?_,?_⟩
   ·show ah6 (vvOf cm j 1) (mlOf ms j 1) (ai7 (vvOf cm j 1))
    rw[g1,v1];exact al6 a1
   ·show mlOf ms j 1≤_
    rw[g1];exact hm.1
   ·show ah6 (vvOf cm j 2) (mlOf ms j 2) (ai7 (vvOf cm j 2))
    rw[g2,v2];exact al6 a2
   ·show mlOf ms j 2≤_
    rw[g2];exact hm.2.1
   ·show ah6 (vvOf cm j 3) (enOf ms j) (ai7 (vvOf cm j 3))
    rw[g3,v3];exact al6 a3
   ·show enOf ms j≤_
    rw[g3];exact hm.2.2
  ·have hj:j<ps.length:=hj
   obtain⟨cs,hc⟩:=ai6 (show j<cp.length by omega)
   obtain⟨x,hx⟩:=ai6 hj
   obtain⟨ao,c,bo,d,e,a1,a2⟩:=p4 j cs x hc hx
   have e:cs=[.string x.name,.slice ao x.uses.length c,.slice bo x.vars.length d,.int .i64 x.body]:=by simpa using congrArg Array.toList e
   have hm:=hL.pro x (List.mem_of_getElem? hx)
   have g1:plOf ps j 1=x.uses.length:=by simp[plOf,hx]
   have g2:plOf ps j 2=x.vars.length:=by simp[plOf,hx]
   have v1:vvOf cp j 1=.slice ao x.uses.length c:=by rw[ai3 hc,e];rfl
   have v2:vvOf cp j 2=.slice bo x.vars.length d:=by rw[ai3 hc,e];rfl
   have key:∀ o,o<4→z.cell? ⟨ai7 pv,j*4+o,none⟩=some (vvOf cp j o):=fun o ho=>by
    rw[ai3 hc]
    exact ax3 p3 p2 hc hj ho
   refine⟨key 1 (by omega),?_,?_,key 2 (by omega),?_,?_⟩
   ·show ah6 (vvOf cp j 1) (plOf ps j 1) (ai7 (vvOf cp j 1))
    rw[g1,v1];exact al6 a1
   ·show plOf ps j 1≤_
    rw[g1];exact hm.1
   ·show ah6 (vvOf cp j 2) (plOf ps j 2) (ai7 (vvOf cp j 2))
    rw[g2,v2];exact al6 a2
   ·show plOf ps j 2≤_
    rw[g2];exact hm.2
 have hn:X.n≤1048576∧X.m≤1048576∧X.p≤1048576:=by rw[hX];exact⟨hL.nl,hL.ml,hL.pl⟩
 have hlen:X.all.length≤100000000000000:=by
  have a1:(pls X.fN X.n).length≤X.n*2000000:=aA2 fun j hj=>by
   have:=(hR.sn j hj).2.2
   simp only[Plan.fN,plN,List.length_append,bk5,List.length_cons,List.length_nil]
   omega
  have a2:(pls X.fM X.m).length≤X.m*10000000:=aA2 fun j hj=>by
   obtain⟨_,_,b1,_,_,b2,_,_,b3⟩:=hR.sm j hj
   simp only[Plan.fM,plM,List.length_append,aX_,plE_len,List.length_cons,List.length_nil]
   omega
  have a3:(pls X.fP X.p).length≤X.p*10000000:=aA2 fun j hj=>by
   obtain⟨_,_,b1,_,_,b2⟩:=hR.sp j hj
   simp only[Plan.fP,plP,List.length_append,aX_,List.length_cons,List.length_nil]
   omega
  simp only[Plan.all,List.length_append]
  omega
 have iN:ah6 nv X.n X.gN:=by rw[hX];exact al6 n3
 have iM:ah6 mv X.m X.gM:=by rw[hX];exact al6 m3
 have iP:ah6 pv X.p X.gP:=by rw[hX];exact al6 p3
 exact⟨X,nv,mv,pv,rfl,iN,iM,iP,hn,hR,hO,hF,hlen⟩
end Go.Proofs.YtcpapceeekkacaaGreatDoor
