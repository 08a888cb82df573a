import Derived.Test.YtcpapceeekkacaaGreatDoorMarkH
import Derived.Test.YtcpapceeekkacaaGreatDoorMarkM
import Derived.DataElems
import Derived.Laws.Cells
import Derived.Lib.Builder
import Derived.Deep.MidRow
set_option maxRecDepth 100000
set_option maxHeartbeats 8000000
namespace Go.Proofs.YtcpapceeekkacaaGreatDoor
open Go.RowKit
def OwnAt (g s:Nat) (sl:Nat→Bool) (j:Nat) (p:Pl):Prop:=p.1=g∧∃ o,o<s∧sl o=false∧p.2.1=j*s+o
def InB (b m:Nat) (p:Pl):Prop:=p.1=b∧p.2.1<m
def Cells (w:World) (base b m:Nat):Prop:=base≤b∧b<w.heap.size∧∀ i,i<m→(∃ y,w.cell? ⟨b,i,none⟩=some y)∧w.frozen? ⟨b,i,none⟩=false
theorem InB.pos {b m:Nat}{p:Pl}(h:InB b m p):0<m:=by have:=h.2;omega
theorem aJ2 {s i o j r:Nat}(ho:o<s) (hr:r<s) (e:i*s+o=j*s+r):i=j∧o=r:=by
 have h1:(i*s+o) % s=o:=by rw[Nat.mul_add_mod_self_right];exact Nat.mod_eq_of_lt ho
 have h2:(j*s+r) % s=r:=by rw[Nat.mul_add_mod_self_right];exact Nat.mod_eq_of_lt hr
 have h3:o=r:=by rw[←h1,e,h2]
 subst h3
 have h4:i*s=j*s:=by omega
 exact⟨Nat.eq_of_mul_eq_mul_right (by omega) h4,rfl⟩
theorem ay8 {P Q:List Pl}(hp:(P.map aq5).Nodup) (hq:(Q.map aq5).Nodup) (h:∀ p∈P,∀ q∈Q,aq5 p≠aq5 q):((P++Q).map aq5).Nodup:=by
 rw[List.map_append]
 refine List.nodup_append.2 ⟨hp,hq,fun a ha b hb=>?_⟩
 obtain⟨p,hp',rfl⟩:=List.mem_map.1 ha
 obtain⟨q,hq',rfl⟩:=List.mem_map.1 hb
 exact h p hp' q hq'
theorem ay9 {f:Nat→List Pl}{n:Nat}(h1:∀ j,j<n→((f j).map aq5).Nodup) (h2:∀ i j,i<j→j<n→∀ p∈f i,∀ q∈f j,aq5 p≠aq5 q):((pls f n).map aq5).Nodup:=by
 induction n with
 | zero=>simp[ai9]
 | succ n ih =>
  rw[ae2]
  refine ay8 (ih (fun j hj=>h1 j (by omega)) (fun i j hij hj=>h2 i j hij (by omega))) (h1 n (by omega)) fun p hp q hq=>?_
  obtain⟨i,hi,hp⟩:=ax1.1 hp
  exact h2 i n hi (by omega) p hp q hq
theorem ap3 {p q:Pl}(h:p.1≠q.1∨p.2.1≠q.2.1):aq5 p≠aq5 q:=fun e=>by
 simp only[aq5,Prod.mk.injEq]at e
 rcases h with h|h
 ·exact h e.1
 ·exact h e.2
structure Lay (f:Nat→List Pl) (n g s:Nat) (sl:Nat→Bool) (bm lm:Nat→Nat→Nat):Prop where
 mem:∀ j,j<n→∀ p∈f j,OwnAt g s sl j p∨∃ q,InB (bm j q) (lm j q) p
 one:∀ j,j<n→((f j).map aq5).Nodup
 out:∀ j,j<n→∀ q,0<lm j q→bm j q≠g
 two:∀ i j q r,i<n→j<n→(i≠j∨q≠r)→0<lm i q→0<lm j r→bm i q≠bm j r
theorem Lay.nodup {f:Nat→List Pl}{n g s:Nat}{sl:Nat→Bool}{bm lm:Nat→Nat→Nat}(h:Lay f n g s sl bm lm):((pls f n).map aq5).Nodup:=by
 refine ay9 h.one fun i j hij hj p hp q hq=>ap3 ?_
 rcases h.mem i (by omega) p hp with⟨a1,o,a2,a3,a4⟩|⟨u,a1⟩
 ·rcases h.mem j hj q hq with⟨b1,r,b2,b3,b4⟩|⟨v,b1⟩
  ·refine .inr fun e=>?_
   rw[a4,b4]at e
   have:=(aJ2 a2 b2 e).1
   omega
  ·refine .inl fun e=>h.out j hj v b1.pos ?_
   rw[←b1.1,←e,a1]
 ·rcases h.mem j hj q hq with⟨b1,r,b2,b3,b4⟩|⟨v,b1⟩
  ·refine .inl fun e=>h.out i (by omega) u a1.pos ?_
   rw[←a1.1,e,b1]
  ·refine .inl fun e=>h.two i j u v (by omega) hj (.inl (by omega)) a1.pos b1.pos ?_
   rw[←a1.1,←b1.1,e]
theorem Lay.slice {f:Nat→List Pl}{n g s:Nat}{sl:Nat→Bool}{bm lm:Nat→Nat→Nat}(h:Lay f n g s sl bm lm) (j o:Nat) (ho:o<s) (hsl:sl o=true) (t:Bool):(g,j*s+o,t)∉pls f n:=fun hm=>by
 obtain⟨i,hi,hp⟩:=ax1.1 hm
 rcases h.mem i hi _ hp with⟨a1,r,a2,a3,a4⟩|⟨u,a1⟩
 ·have:=(aJ2 ho a2 a4).2
  subst this
  rw[hsl]at a3
  cases a3
 ·exact h.out i hi u a1.pos a1.1.symm
theorem Lay.where {f:Nat→List Pl}{n g s:Nat}{sl:Nat→Bool}{bm lm:Nat→Nat→Nat}(h:Lay f n g s sl bm lm) {p:Pl}(hp:p∈pls f n):(0<n∧p.1=g)∨∃ j q,j<n∧0<lm j q∧p.1=bm j q:=by
 obtain⟨i,hi,hp⟩:=ax1.1 hp
 rcases h.mem i hi _ hp with⟨a1,_⟩|⟨u,a1⟩
 ·exact .inl ⟨by omega,a1⟩
 ·exact .inr ⟨i,u,hi,a1.pos,a1.1⟩
theorem Lay.free {f:Nat→List Pl}{n g s base:Nat}{sl:Nat→Bool}{bm lm:Nat→Nat→Nat}{w:World}(h:Lay f n g s sl bm lm) (hc0:0<n→Cells w base g (n*s)) (hc:∀ j q,j<n→0<lm j q→Cells w base (bm j q) (lm j q)):Free base w (pls f n):=by
 have key:∀ b j t,(b,j,t)∈pls f n→(base≤b∧b<w.heap.size)∧(∃ y,w.cell? ⟨b,j,none⟩=some y)∧w.frozen? ⟨b,j,none⟩=false:=fun b j t hm=>by
  obtain⟨i,hi,hp⟩:=ax1.1 hm
  rcases h.mem i hi _ hp with⟨a1,o,a2,a3,a4⟩|⟨u,a1,a2⟩
  ·have hC:=hc0 (by omega)
   simp only at a1 a4
   subst a1
   refine⟨⟨hC.1,hC.2.1⟩,hC.2.2 j ?_⟩
   rw[a4]
   have:(i+1)*s≤n*s:=Nat.mul_le_mul_right s (by omega)
   rw[Nat.succ_mul]at this
   omega
  ·simp only at a1 a2
   have hC:=hc i u hi (by omega)
   subst a1
   exact⟨⟨hC.1,hC.2.1⟩,hC.2.2 j a2⟩
 exact⟨fun b j t hm=>(key b j t hm).1,fun b j t hm=>(key b j t hm).2.1,fun b j t hm=>(key b j t hm).2.2,h.nodup⟩
theorem Free.app {base:Nat}{w:World}{P Q:List Pl}(hp:Free base w P) (hq:Free base w Q) (h:∀ p∈P,∀ q∈Q,p.1≠q.1):Free base w (P++Q):=by
 refine⟨fun b j t hm=>?_,fun b j t hm=>?_,fun b j t hm=>?_,ay8 hp.nd hq.nd fun p hp' q hq'=>ap3 (.inl (h p hp' q hq'))⟩
 ·rcases List.mem_append.1 hm with hm|hm
  ·exact hp.blk b j t hm
  ·exact hq.blk b j t hm
 ·rcases List.mem_append.1 hm with hm|hm
  ·exact hp.cell b j t hm
  ·exact hq.cell b j t hm
 ·rcases List.mem_append.1 hm with hm|hm
  ·exact hp.froz b j t hm
  ·exact hq.froz b j t hm
def ai7 (v:Value):Nat:=v.ownBlock.getD 0
theorem aJ1 {w:World}{base e s n:Nat}{v:Value}{xs:List Value}(h:w.ownsRow base e s v n xs) (hn:0<n*s):v.ownBlock=some (ai7 v)∧ah6 v n (ai7 v)∧Cells w base (ai7 v) (n*s)∧∃ cur,w.heap[ai7 v]? = some (.cells cur e (0,0)):=by
 have hn0:0<n:=Nat.pos_of_mul_pos_right hn
 obtain⟨h1,h2⟩:=h
 have hO:w.ownsRow base e s v n xs:=⟨h1,h2⟩
 rcases h2 with⟨_,h0⟩|⟨g,cap,cur,rfl,hb,hg,_,_,_,_⟩
 ·omega
 ·refine⟨rfl,.inr ⟨hn0,cap,rfl⟩,⟨hb,(hO.lt g rfl).2,fun i hi=>⟨?_,hO.frozenAt i⟩⟩,cur,hg⟩
  have:w.cell? ⟨g,i,none⟩=xs[i]? := hO.cellAt i hi
  exact⟨xs[i]'(by omega),by show w.cell? ⟨g,i,none⟩=_;rw[this,List.getElem?_eq_getElem (by omega)]⟩
theorem al6 {w:World}{base e s n:Nat}{v:Value}{xs:List Value}(h:w.ownsRow base e s v n xs):ah6 v n (ai7 v):=by
 rcases h.2 with⟨rfl,h0⟩|⟨g,cap,cur,rfl,_⟩
 ·exact .inl ⟨h0,none,0,rfl⟩
 ·rcases Nat.eq_zero_or_pos n with h0|h0
  ·subst h0;exact .inl ⟨rfl,_,_,rfl⟩
  ·exact .inr ⟨h0,cap,rfl⟩
theorem inI {b n:Nat}{p:Pl}(h:p∈pls (plI b) n):InB b n p:=by
 obtain⟨j,hj,hp⟩:=ax1.1 h
 simp only[plI,List.mem_singleton]at hp
 subst hp
 exact⟨rfl,hj⟩
theorem inT {b n:Nat}{p:Pl}(h:p∈pls (plT b) n):InB b n p:=by
 obtain⟨j,hj,hp⟩:=ax1.1 h
 simp only[plT,List.mem_singleton]at hp
 subst hp
 exact⟨rfl,hj⟩
theorem inE {b n:Nat}{p:Pl}(h:p∈pls (plE b) n):InB b (n*3) p:=by
 obtain⟨j,hj,hp⟩:=ax1.1 h
 simp only[plE,List.mem_cons,List.not_mem_nil,or_false]at hp
 rcases hp with rfl|rfl|rfl
 ·exact⟨rfl,by show j*3<_;omega⟩
 ·exact⟨rfl,by show j*3+1<_;omega⟩
 ·exact⟨rfl,by show j*3+2<_;omega⟩
theorem ndI (b n:Nat):((pls (plI b) n).map aq5).Nodup:=ay9 (fun j _=>by simp[plI]) fun i j hij _ p hp q hq=>by
 simp only[plI,List.mem_singleton]at hp hq
 subst hp hq
 exact ap3 (.inr (by show i≠j;omega))
theorem ndT (b n:Nat):((pls (plT b) n).map aq5).Nodup:=ay9 (fun j _=>by simp[plT]) fun i j hij _ p hp q hq=>by
 simp only[plT,List.mem_singleton]at hp hq
 subst hp hq
 exact ap3 (.inr (by show i≠j;omega))
theorem ndE (b n:Nat):((pls (plE b) n).map aq5).Nodup:=ay9 (fun j _=>by simp[plE,aq5]) fun i j hij _ p hp q hq=>by
 simp only[plE,List.mem_cons,List.not_mem_nil,or_false]at hp hq
 rcases hp with rfl|rfl|rfl <;> rcases hq with rfl|rfl|rfl <;> exact ap3 (.inr (by simp only;omega))
abbrev Box (w:World) (g:Nat) (cs:Array Value) (t:TypeId):Prop:=w.heap[g]? = some (.cells cs t (0,0))
theorem Box.made (w:World) (cs:Array Value) (t:TypeId):Box (w.alloc (.cells cs t)) w.heap.size cs t:=heap_alloc_new w _
theorem Box.madeAt {w:World}{g:Nat}(hg:g=w.heap.size) (cs:Array Value) (t:TypeId):Box (w.alloc (.cells cs t)) g cs t:=by
 subst hg;exact heap_alloc_new w _
theorem Box.lt {w:World}{g:Nat}{cs:Array Value}{t:TypeId}(h:Box w g cs t):g<w.heap.size:=by
 rcases Nat.lt_or_ge g w.heap.size with hg|hg
 ·exact hg
 ·rw[Box,Array.getElem?_eq_none hg]at h;cases h
theorem Box.stays {w w':World}{g:Nat}{cs:Array Value}{t:TypeId}(h:Box w g cs t) (hb:Below w.heap.size w w'):Box w' g cs t:=(hb.block g h.lt).trans h
theorem Box.set {w:World}{g:Nat}{cs:Array Value}{t:TypeId}(h:Box w g cs t) (i:Nat) (v:Value):Box (w.setCell ⟨g,i,none⟩ v) g (cs.setIfInBounds i v) t:=by
 have h':w.heap[g]? = some (.cells cs t (0,0)):=h
 simp[Box,World.setCell,Array.getElem?_modify,h']
theorem Box.other {w:World}{g:Nat}{cs:Array Value}{t:TypeId}(h:Box w g cs t) (a:Addr) (v:Value) (ha:g≠a.block):Box (w.setCell a v) g cs t :=
 (Below.heap_setCell w a v g ha).trans h
theorem Box.read {P:Program}{w:World}{g:Nat}{cs:Array Value}{t:TypeId}(h:Box w g cs t) (ty:TypeId) (d:TypeDesc) (hu:P.underlying ty=some d) (hd:d.isRow=true) (hi:(P.info? ty).map (·.size)=some cs.size) :
  (loadVar ty ⟨g,0,none⟩).run P w=.ok (.agg cs) w:=by
 have hl:(loadCells ⟨g,0,none⟩ cs.size).run P w=.ok cs w:=by
  have:=run_loadCells_list (P:=P) w ⟨g,0,none⟩ cs.toList (fun j v hv=>by
   have e:(⟨g,0,none⟩:Addr).add j=⟨g,j,none⟩:=by
    simp only[Addr.add]
    split
    ·next h=>subst h;rfl
    ·simp
   rw[e,chp h j]
   simpa using hv)
  simpa using this
 cases hq:P.info? ty with
 | none=>simp[hq]at hi
 | some i =>
  have hs:i.size=cs.size:=by simpa [hq] using hi
  have hagg:(isAgg ty).run P w=.ok true w:=by
   unfold isAgg
   rw[Sem.run_bind,run_underlying hu w]
   cases d <;> simp_all
  simp[loadVar,Sem.run_bind,hagg,sizeOf,typeInfo,hq,hs,hl]
theorem aT5 {P:Program}{fn:Func}{p:Tmp}{ty:TypeId}(h:fn.results=#[.cell p ty]) (tmps:Array Value) (w:World) {a:Addr}(hp:tmps.getD p undef=.pointer (some a)) {v:Value}(hl:(loadVar ty a).run P w=.ok v w) :
  (results fn tmps).run P w=.ok v w:=by
 have hp':tmps[p]?.getD undef=.pointer (some a):=by simpa using hp
 simp only[results,h]
 simp[hp',asAddr,hl]
theorem an9 {P:Program}{fn:Func}{p:Tmp}{ty:TypeId}{Q:Ending→World→Prop}{a:Act}{w:World}{g:Nat}{cs:Array Value}{t:TypeId}(hr:fn.results=#[.cell p ty]) (hp:a.tmps.getD p undef=.pointer (some ⟨g,0,none⟩)) (hb:Box w g cs t)
  (d:TypeDesc) (hu:P.underlying ty=some d) (hd:d.isRow=true) (hi:(P.info? ty).map (·.size)=some cs.size) (hdf:a.defers=[]) (h:Q (.returned (.agg cs)) w):bodyPost P fn Q .ret a w :=
 bodyPost_ret (aT5 hr a.tmps w hp (hb.read ty d hu hd hi)) hdf h
theorem layN {g n:Nat}{bm lm:Nat→Nat→Nat}(h1:∀ j,j<n→∀ q,0<lm j q→bm j q≠g) (h2:∀ i j q r,i<n→j<n→(i≠j∨q≠r)→0<lm i q→0<lm j r→bm i q≠bm j r) :
  Lay (plN g (fun j=>bm j 5) (fun j=>lm j 5)) n g 6 (fun o=>o == 5) bm lm:=by
 refine⟨fun j hj p hp=>?_,fun j hj=>?_,h1,h2⟩
 ·simp only[plN]at hp
  rcases List.mem_append.1 hp with hp|hp
  ·left
   simp only[List.mem_cons,List.not_mem_nil,or_false]at hp
   rcases hp with rfl|rfl|rfl|rfl|rfl
   ·exact⟨rfl,0,by omega,rfl,rfl⟩
   ·exact⟨rfl,1,by omega,rfl,rfl⟩
   ·exact⟨rfl,2,by omega,rfl,rfl⟩
   ·exact⟨rfl,3,by omega,rfl,rfl⟩
   ·exact⟨rfl,4,by omega,rfl,rfl⟩
  ·exact .inr ⟨5,inI hp⟩
 ·refine ay8 (by simp[aq5]) (ndI _ _) fun p hp q hq=>ap3 (.inl ?_)
  have hq:=inI hq
  rw[hq.1]
  have:p.1=g:=by
   simp only[List.mem_cons,List.not_mem_nil,or_false]at hp
   rcases hp with rfl|rfl|rfl|rfl|rfl <;> rfl
  rw[this]
  exact(h1 j hj 5 hq.pos).symm
theorem layM {g n:Nat}{bm lm:Nat→Nat→Nat}{en:Nat→Nat}(he:∀ j,lm j 3=en j*3) (h1:∀ j,j<n→∀ q,0<lm j q→bm j q≠g) (h2:∀ i j q r,i<n→j<n→(i≠j∨q≠r)→0<lm i q→0<lm j r→bm i q≠bm j r) :
  Lay (plM g (fun j=>bm j 1) (fun j=>lm j 1) (fun j=>bm j 2) (fun j=>lm j 2) (fun j=>bm j 3) en) n g 4 (fun o=>o == 1 || o == 2 || o == 3) bm lm:=by
 refine⟨fun j hj p hp=>?_,fun j hj=>?_,h1,h2⟩
 ·simp only[plM,List.mem_append,List.mem_singleton]at hp
  rcases hp with rfl|hp|hp|hp
  ·exact .inl ⟨rfl,0,by omega,rfl,rfl⟩
  ·exact .inr ⟨1,inT hp⟩
  ·exact .inr ⟨2,inT hp⟩
  ·exact .inr ⟨3,by rw[he];exact inE hp⟩
 ·refine ay8 (by simp) (ay8 (ndT _ _) (ay8 (ndT _ _) (ndE _ _) fun p hp q hq=>?_) fun p hp q hq=>?_) fun p hp q hq=>?_
  ·have hp:=inT hp
   have hq:=inE hq
   rw[←he]at hq
   exact ap3 (.inl (by rw[hp.1,hq.1];exact h2 j j 2 3 hj hj (.inr (by omega)) hp.pos hq.pos))
  ·have hp:=inT hp
   rcases List.mem_append.1 hq with hq|hq
   ·have hq:=inT hq
    exact ap3 (.inl (by rw[hp.1,hq.1];exact h2 j j 1 2 hj hj (.inr (by omega)) hp.pos hq.pos))
   ·have hq:=inE hq
    rw[←he]at hq
    exact ap3 (.inl (by rw[hp.1,hq.1];exact h2 j j 1 3 hj hj (.inr (by omega)) hp.pos hq.pos))
  ·simp only[List.mem_singleton]at hp
   subst hp
   refine ap3 (.inl ?_)
   rcases List.mem_append.1 hq with hq|hq
   ·have hq:=inT hq
    rw[hq.1]
    exact(h1 j hj 1 hq.pos).symm
   ·rcases List.mem_append.1 hq with hq|hq
    ·have hq:=inT hq
     rw[hq.1]
     exact(h1 j hj 2 hq.pos).symm
    ·have hq:=inE hq
     rw[←he]at hq
     rw[hq.1]
     exact(h1 j hj 3 hq.pos).symm
theorem layP {g n:Nat}{bm lm:Nat→Nat→Nat}(h1:∀ j,j<n→∀ q,0<lm j q→bm j q≠g) (h2:∀ i j q r,i<n→j<n→(i≠j∨q≠r)→0<lm i q→0<lm j r→bm i q≠bm j r) :
  Lay (plP g (fun j=>bm j 1) (fun j=>lm j 1) (fun j=>bm j 2) (fun j=>lm j 2)) n g 4 (fun o=>o == 1 || o == 2) bm lm:=by
 refine⟨fun j hj p hp=>?_,fun j hj=>?_,h1,h2⟩
 ·simp only[plP,List.mem_append,List.mem_singleton]at hp
  rcases hp with rfl|hp|hp|rfl
  ·exact .inl ⟨rfl,0,by omega,rfl,rfl⟩
  ·exact .inr ⟨1,inT hp⟩
  ·exact .inr ⟨2,inT hp⟩
  ·exact .inl ⟨rfl,3,by omega,rfl,rfl⟩
 ·refine ay8 (by simp) (ay8 (ndT _ _) (ay8 (ndT _ _) (by simp) fun p hp q hq=>?_) fun p hp q hq=>?_) fun p hp q hq=>?_
  ·have hp:=inT hp
   simp only[List.mem_singleton]at hq
   subst hq
   exact ap3 (.inl (by rw[hp.1];exact h1 j hj 2 hp.pos))
  ·have hp:=inT hp
   rcases List.mem_append.1 hq with hq|hq
   ·have hq:=inT hq
    exact ap3 (.inl (by rw[hp.1,hq.1];exact h2 j j 1 2 hj hj (.inr (by omega)) hp.pos hq.pos))
   ·simp only[List.mem_singleton]at hq
    subst hq
    exact ap3 (.inl (by rw[hp.1];exact h1 j hj 1 hp.pos))
  ·simp only[List.mem_singleton]at hp
   subst hp
   rcases List.mem_append.1 hq with hq|hq
   ·have hq:=inT hq
    exact ap3 (.inl (by rw[hq.1];exact(h1 j hj 1 hq.pos).symm))
   ·rcases List.mem_append.1 hq with hq|hq
    ·have hq:=inT hq
     exact ap3 (.inl (by rw[hq.1];exact(h1 j hj 2 hq.pos).symm))
    ·simp only[List.mem_singleton]at hq
     subst hq
     exact ap3 (.inr (by show j*4≠j*4+3;omega))
structure Plan where
 n:Nat
 m:Nat
 p:Nat
 gN:Nat
 gM:Nat
 gP:Nat
 kb:Nat→Nat→Nat
 kl:Nat→Nat→Nat
 mb:Nat→Nat→Nat
 ml:Nat→Nat→Nat
 pb:Nat→Nat→Nat
 pl:Nat→Nat→Nat
 en:Nat→Nat
 kv:Nat→Nat→Value
 mv:Nat→Nat→Value
 pv:Nat→Nat→Value
def Plan.fN (X:Plan):Nat→List Pl:=plN X.gN (fun j=>X.kb j 5) (fun j=>X.kl j 5)
def Plan.fM (X:Plan):Nat→List Pl:=plM X.gM (fun j=>X.mb j 1) (fun j=>X.ml j 1) (fun j=>X.mb j 2) (fun j=>X.ml j 2) (fun j=>X.mb j 3) X.en
def Plan.fP (X:Plan):Nat→List Pl:=plP X.gP (fun j=>X.pb j 1) (fun j=>X.pl j 1) (fun j=>X.pb j 2) (fun j=>X.pl j 2)
def Plan.all (X:Plan):List Pl:=pls X.fN X.n++(pls X.fM X.m++pls X.fP X.p)
structure aq7 (X:Plan) (w:World):Prop where
 gn:0<X.n→X.gN<w.heap.size
 gm:0<X.m→X.gM<w.heap.size
 gp:0<X.p→X.gP<w.heap.size
 sn:∀ j,j<X.n→w.cell? ⟨X.gN,j*6+5,none⟩=some (X.kv j 5)∧ah6 (X.kv j 5) (X.kl j 5) (X.kb j 5)∧X.kl j 5≤1048576
 sm:∀ j,j<X.m→w.cell? ⟨X.gM,j*4+1,none⟩=some (X.mv j 1)∧ah6 (X.mv j 1) (X.ml j 1) (X.mb j 1)∧X.ml j 1≤1048576∧w.cell? ⟨X.gM,j*4+2,none⟩=some (X.mv j 2)∧ah6 (X.mv j 2) (X.ml j 2) (X.mb j 2)∧X.ml j 2≤1048576∧w.cell? ⟨X.gM,j*4+3,none⟩=some (X.mv j 3)∧ah6 (X.mv j 3) (X.en j) (X.mb j 3)∧X.en j≤1048576
 sp:∀ j,j<X.p→w.cell? ⟨X.gP,j*4+1,none⟩=some (X.pv j 1)∧ah6 (X.pv j 1) (X.pl j 1) (X.pb j 1)∧X.pl j 1≤1048576∧w.cell? ⟨X.gP,j*4+2,none⟩=some (X.pv j 2)∧ah6 (X.pv j 2) (X.pl j 2) (X.pb j 2)∧X.pl j 2≤1048576
structure Outs (X:Plan):Prop where
 on:∀ j t,j<X.n→(X.gN,j*6+5,t)∉X.all
 om:∀ j t,j<X.m→(X.gM,j*4+1,t)∉X.all∧(X.gM,j*4+2,t)∉X.all∧(X.gM,j*4+3,t)∉X.all
 op:∀ j t,j<X.p→(X.gP,j*4+1,t)∉X.all∧(X.gP,j*4+2,t)∉X.all
theorem aq7.of {X:Plan}{w w':World}(h:aq7 X w) (hs:w.heap.size≤w'.heap.size) (hn:∀ j,j<X.n→w'.cell? ⟨X.gN,j*6+5,none⟩=w.cell? ⟨X.gN,j*6+5,none⟩)
  (hm:∀ j o,j<X.m→(o=1∨o=2∨o=3)→w'.cell? ⟨X.gM,j*4+o,none⟩=w.cell? ⟨X.gM,j*4+o,none⟩) (hp:∀ j o,j<X.p→(o=1∨o=2)→w'.cell? ⟨X.gP,j*4+o,none⟩=w.cell? ⟨X.gP,j*4+o,none⟩):aq7 X w':=by
 refine⟨fun h0=>nll (h.gn h0) hs,fun h0=>nll (h.gm h0) hs,fun h0=>nll (h.gp h0) hs,fun j hj=>?_,fun j hj=>?_,fun j hj=>?_⟩
 ·obtain⟨a,b⟩:=h.sn j hj
  exact⟨(hn j hj).trans a,b⟩
 ·obtain⟨a,b,c,d,e,f,g,i⟩:=h.sm j hj
  exact⟨(hm j 1 hj (.inl rfl)).trans a,b,c,(hm j 2 hj (.inr (.inl rfl))).trans d,e,f,(hm j 3 hj (.inr (.inr rfl))).trans g,i⟩
 ·obtain⟨a,b,c,d,e⟩:=h.sp j hj
  exact⟨(hp j 1 hj (.inl rfl)).trans a,b,c,(hp j 2 hj (.inr rfl)).trans d,e⟩
theorem aq7.stays {X:Plan}{w w':World}(h:aq7 X w) (hb:Below w.heap.size w w'):aq7 X w' :=
 h.of hb.size (fun _ hj=>hb.cell (p:=⟨X.gN,_,none⟩) (h.gn (by omega))) (fun _ _ hj _=>hb.cell (p:=⟨X.gM,_,none⟩) (h.gm (by omega))) (fun _ _ hj _=>hb.cell (p:=⟨X.gP,_,none⟩) (h.gp (by omega)))
theorem aq7.mks {X:Plan}{base k:Nat}{w w':World}{P R:List Pl}(h:aq7 X w) (hm:Mks base w w' X.all P R k) (ho:Outs X):aq7 X w' :=
 h.of hm.bel.size (fun j hj=>hm.other (h.gn (by omega)) fun t=>ho.on j t hj) (fun j o hj hq=>hm.other (h.gm (by omega)) fun t=>by
   rcases hq with rfl|rfl|rfl
   ·exact(ho.om j t hj).1
   ·exact(ho.om j t hj).2.1
   ·exact(ho.om j t hj).2.2) (fun j o hj hq=>hm.other (h.gp (by omega)) fun t=>by
   rcases hq with rfl|rfl
   ·exact(ho.op j t hj).1
   ·exact(ho.op j t hj).2)
theorem aE5 {base:Nat}(X:Plan) (nv mv pv:Value) (w:World) (hN:ah6 nv X.n X.gN) (hM:ah6 mv X.m X.gM) (hP:ah6 pv X.p X.gP) (hn:X.n≤1048576∧X.m≤1048576∧X.p≤1048576) (hR:aq7 X w) (hO:Outs X) (hF:Free base w X.all) (hk:X.all.length≤100000000000000) (hb:base≤w.heap.size) :
  Calls Tryz.prog 7 #[.agg #[nv,mv,pv],.int .i64 1] w fun e w'=>e=.returned (.int .i64 (1+(X.all.length:Nat)))∧Mks base w w' X.all X.all [] 1:=by
 have B0:=qb ((Below.refl w.heap.size w).alloc (nlr _) (.cells #[nv,mv,pv] 26))
 have M0:Hid (Mks base w (w.alloc (.cells #[nv,mv,pv] 26)) X.all [] X.all 1):=(Mks.start 1 hF).stays B0.out hb
 have X0:Hid (Box (w.alloc (.cells #[nv,mv,pv] 26)) w.heap.size #[nv,mv,pv] 26):=Box.made _ _ _
 have HGB:Hid (∀ p∈X.all,p.1<w.heap.size):=fun p hp=>(hF.blk p.1 p.2.1 p.2.2 hp).2
 obtain⟨l1,hl1⟩:∃ l:Nat,l=(pls X.fN X.n).length:=⟨_,rfl⟩
 obtain⟨l2,hl2⟩:∃ l:Nat,l=(pls X.fM X.m).length:=⟨_,rfl⟩
 obtain⟨l3,hl3⟩:∃ l:Nat,l=(pls X.fP X.p).length:=⟨_,rfl⟩
 have hlen:X.all.length=l1+(l2+l3):=by rw[hl1,hl2,hl3];simp only[Plan.all,List.length_append]
 have HLEN:=qb hlen
 have hql:1+l1+l2+l3≤1000000000000000:=by omega
 have H1:=qb hl1
 have H2:=qb hl2
 have H3:=qb hl3
 have HR:=qb hR
 have HO:=qb hO
 have HNV:=qb hN
 have HMV:=qb hM
 have HPV:=qb hP
 have b0:=chp X0.out 0
 simp at b0
 clear hl1 hl2 hl3 hlen hR hO hF hk hN hM hP
 go_enter Tryz.func7,Tryz.ntmps7
 go_wp2_with fail
 generalize w.alloc (.cells #[nv,mv,pv] 26)=W at M0 X0 b0 B0 ⊢
 have R0:=qb (HR.out.mks M0.out HO.out)
 refine(bj8 (k0:=1) _ HNV.out (M0.out.sub (Q:=pls X.fN X.n)) (by show 1+(pls X.fN X.n).length≤_;rw[←H1.out];omega) (by omega) (nlt hb M0.out.bel.size) hn.1 R0.out.sn (fun j t hj hm=>HO.out.on j t hj (List.mem_append_left _ hm)) R0.out.gn _ (by omega)).mono ?_
 rintro e z1⟨rfl,hm1⟩
 have M1:=qb (M0.out.call hm1 (by simp))
 have b1:=(hm1.other (b:=w.heap.size) (j:=1) X0.out.lt (fun t hm=>Nat.lt_irrefl _ (HGB.out _ (List.mem_append_left _ hm)))).trans (chp X0.out 1)
 have b2:=(hm1.other (b:=w.heap.size) (j:=2) X0.out.lt (fun t hm=>Nat.lt_irrefl _ (HGB.out _ (List.mem_append_left _ hm)))).trans (chp X0.out 2)
 have x1:w.heap.size<z1.heap.size:=nll X0.out.lt hm1.bel.size
 simp at b1 b2
 have C2:=qb b2
 have R1:=qb (HR.out.mks M1.out HO.out)
 have E1:Hid ((pls (plN X.gN (fun j=>X.kb j 5) fun j=>X.kl j 5) X.n).length=l1):=H1.out.symm
 rw[E1.out]
 clear hm1 b2 b0
 go_wp2_with fail
 refine(bj7 (k0:=1+l1) _ HMV.out (M1.out.sub (Q:=pls X.fM X.m)) (by show 1+l1+(pls X.fM X.m).length≤_;rw[←H2.out];omega) (by omega) (nlt hb M1.out.bel.size) hn.2.1 R1.out.sm (fun j t hj=>⟨fun hm=>(HO.out.om j t hj).1 (List.mem_append_right _ (List.mem_append_left _ hm)),fun hm=>(HO.out.om j t hj).2.1 (List.mem_append_right _ (List.mem_append_left _ hm)),fun hm=>(HO.out.om j t hj).2.2 (List.mem_append_right _ (List.mem_append_left _ hm))⟩) R1.out.gm _ (by omega)).mono ?_
 rintro e z2⟨rfl,hm2⟩
 have M2:=qb (M1.out.call hm2 (by have:=H1.out;simp only[List.nil_append];omega))
 have c2:=(hm2.other (b:=w.heap.size) (j:=2) x1 (fun t hm=>Nat.lt_irrefl _ (HGB.out _ (List.mem_append_right _ (List.mem_append_left _ hm))))).trans C2.out
 have R2:=qb (HR.out.mks M2.out HO.out)
 have E2:Hid ((pls (plM X.gM (fun j=>X.mb j 1) (fun j=>X.ml j 1) (fun j=>X.mb j 2) (fun j=>X.ml j 2) (fun j=>X.mb j 3) X.en) X.m).length=l2):=H2.out.symm
 rw[E2.out]
 clear hm2 b1
 go_wp2_with fail
 have M3:Hid (Mks base w z2 X.all (([]++pls X.fN X.n)++pls X.fM X.m) (pls X.fP X.p++[]) 1):=by have:=M2.out;rw[List.append_nil];exact this
 refine(bj9 (k0:=1+l1+l2) _ HPV.out (M3.out.sub (Q:=pls X.fP X.p)) (by show 1+l1+l2+(pls X.fP X.p).length≤_;rw[←H3.out];omega) (by omega) (nlt hb M3.out.bel.size) hn.2.2 R2.out.sp (fun j t hj=>⟨fun hm=>(HO.out.op j t hj).1 (List.mem_append_right _ (List.mem_append_right _ hm)),fun hm=>(HO.out.op j t hj).2 (List.mem_append_right _ (List.mem_append_right _ hm))⟩) R2.out.gp _ (by omega)).mono ?_
 rintro e z3⟨rfl,hm3⟩
 have M4:=qb (M3.out.call hm3 (by have:=H1.out;have:=H2.out;simp only[List.nil_append,List.length_append];omega))
 have E3:Hid ((pls (plP X.gP (fun j=>X.pb j 1) (fun j=>X.pl j 1) (fun j=>X.pb j 2) fun j=>X.pl j 2) X.p).length=l3):=H3.out.symm
 rw[E3.out]
 clear hm3 c2
 go_wp2
 go_ret
 refine⟨by rw[HLEN.out];refine congrArg (fun i=>Ending.returned (.int .i64 i)) ?_;omega,?_⟩
 have:=M4.out
 simp only[List.nil_append,List.append_assoc]at this
 exact this
theorem aD9 (X:Plan) (nv mv pv:Value) (w:World) (hN:ah6 nv X.n X.gN) (hM:ah6 mv X.m X.gM) (hP:ah6 pv X.p X.gP) (hn:X.n≤1048576∧X.m≤1048576∧X.p≤1048576) (hR:aq7 X w) (hF:ae1 w X.all 1) (hk:X.all.length≤100000000000000) :
  Calls Tryz.prog 8 #[.agg #[nv,mv,pv],.int .i64 1] w fun e w'=>e=.returned (.int .i64 (1+(X.all.length:Nat)))∧Below w.heap.size w w':=by
 have B0:=qb ((Below.refl w.heap.size w).alloc (nlr _) (.cells #[nv,mv,pv] 26))
 have X0:Hid (Box (w.alloc (.cells #[nv,mv,pv] 26)) w.heap.size #[nv,mv,pv] 26):=Box.made _ _ _
 obtain⟨l1,hl1⟩:∃ l:Nat,l=(pls X.fN X.n).length:=⟨_,rfl⟩
 obtain⟨l2,hl2⟩:∃ l:Nat,l=(pls X.fM X.m).length:=⟨_,rfl⟩
 obtain⟨l3,hl3⟩:∃ l:Nat,l=(pls X.fP X.p).length:=⟨_,rfl⟩
 have hlen:X.all.length=l1+(l2+l3):=by rw[hl1,hl2,hl3];simp only[Plan.all,List.length_append]
 have HLEN:=qb hlen
 have hql:1+l1+l2+l3≤1000000000000000:=by omega
 have G1:Hid (ae1 w (pls X.fN X.n) 1):=hF.left
 have G2:Hid (ae1 w (pls X.fM X.m) (1+l1)):=by rw[hl1];exact hF.right.left
 have G3:Hid (ae1 w (pls X.fP X.p) (1+l1+l2)):=by rw[hl1,hl2];exact hF.right.right
 have H1:=qb hl1
 have H2:=qb hl2
 have H3:=qb hl3
 have HR:=qb hR
 have HNV:=qb hN
 have HMV:=qb hM
 have HPV:=qb hP
 have b0:=chp X0.out 0
 simp at b0
 have E1:Hid ((pls (plN X.gN (fun j=>X.kb j 5) fun j=>X.kl j 5) X.n).length=l1):=H1.out.symm
 have E2:Hid ((pls (plM X.gM (fun j=>X.mb j 1) (fun j=>X.ml j 1) (fun j=>X.mb j 2) (fun j=>X.ml j 2) (fun j=>X.mb j 3) X.en) X.m).length=l2):=H2.out.symm
 have E3:Hid ((pls (plP X.gP (fun j=>X.pb j 1) (fun j=>X.pl j 1) (fun j=>X.pb j 2) fun j=>X.pl j 2) X.p).length=l3):=H3.out.symm
 clear hl1 hl2 hl3 hlen hR hF hk hN hM hP
 go_enter Tryz.func8,Tryz.ntmps8
 go_wp2_with fail
 generalize w.alloc (.cells #[nv,mv,pv] 26)=W at X0 b0 B0 ⊢
 have R0:=qb (HR.out.stays B0.out)
 refine(bi1 (k0:=1) _ HNV.out (G1.out.stays B0.out) (by rw[E1.out];omega) (by omega) hn.1 R0.out.sn _ (by omega)).mono ?_
 rintro e z1⟨rfl,hb1⟩
 have X1:=qb (X0.out.stays hb1)
 have B1:Hid (Below w.heap.size w z1):=B0.out.trans (hb1.mono B0.out.size)
 have R1:=qb (HR.out.stays B1.out)
 rw[E1.out]
 have b1:=chp X1.out 1
 simp at b1
 clear hb1 b0 X0
 go_wp2_with fail
 refine(bi0 (k0:=1+l1) _ HMV.out (G2.out.stays B1.out) (by rw[E2.out];omega) (by omega) hn.2.1 R1.out.sm _ (by omega)).mono ?_
 rintro e z2⟨rfl,hb2⟩
 have X2:=qb (X1.out.stays hb2)
 have B2:Hid (Below w.heap.size w z2):=B1.out.trans (hb2.mono B1.out.size)
 have R2:=qb (HR.out.stays B2.out)
 rw[E2.out]
 have b2:=chp X2.out 2
 simp at b2
 clear hb2 b1 X1
 go_wp2_with fail
 refine(bi2 (k0:=1+l1+l2) _ HPV.out (G3.out.stays B2.out) (by rw[E3.out];omega) (by omega) hn.2.2 R2.out.sp _ (by omega)).mono ?_
 rintro e z3⟨rfl,hb3⟩
 have B3:Hid (Below w.heap.size w z3):=B2.out.trans (hb3.mono B2.out.size)
 rw[E3.out]
 clear hb3 b2 X2
 go_wp2
 go_ret
 exact⟨by rw[HLEN.out];refine congrArg (fun i=>Ending.returned (.int .i64 i)) ?_;omega,B3.out⟩
def ai8 (w:World) (v:Value) (xs:List ByteArray):Prop :=
 ∃ ao c,v=.slice ao xs.length c∧∀ j (h:j<xs.length),∃ a,ao=some a∧a.block<w.heap.size∧w.cell? (a.add j)=some (.string xs[j])
theorem ai8.stays {w w':World}{v:Value}{xs:List ByteArray}(h:ai8 w v xs) (hb:Below w.heap.size w w'):ai8 w' v xs:=by
 obtain⟨ao,c,rfl,hc⟩:=h
 refine⟨ao,c,rfl,fun j hj=>?_⟩
 obtain⟨a,rfl,ha,hx⟩:=hc j hj
 exact⟨a,rfl,nll ha hb.size,(hb.cell (by rw[af_];exact ha)).trans hx⟩
structure En where
 name:ByteArray
 param:ByteArray
 body:Int
structure aZ0 (w:World) (a:Addr) (x:En):Prop where
 c0:w.cell? a=some (.string x.name)
 c1:w.cell? { block:=a.block,off:=a.off+1 }=some (.string x.param)
 c2:w.cell? { block:=a.block,off:=a.off+2 }=some (.int .i64 x.body)
theorem aZ0.stays {w w':World}{a:Addr}{x:En}(h:aZ0 w a x) (hb:Below w.heap.size w w') (ha:a.block<w.heap.size):aZ0 w' a x :=
 ⟨(hb.cell ha).trans h.c0,(hb.cell (p:={ block:=a.block,off:=a.off+1 }) ha).trans h.c1,(hb.cell (p:={ block:=a.block,off:=a.off+2 }) ha).trans h.c2⟩
def aC8 (w:World) (v:Value) (xs:List En):Prop :=
 ∃ ao c,v=.slice ao xs.length c∧∀ j (h:j<xs.length),∃ a,ao=some a∧a.block<w.heap.size∧aZ0 w (a.add (j*3)) xs[j]
theorem aC8.stays {w w':World}{v:Value}{xs:List En}(h:aC8 w v xs) (hb:Below w.heap.size w w'):aC8 w' v xs:=by
 obtain⟨ao,c,rfl,hc⟩:=h
 refine⟨ao,c,rfl,fun j hj=>?_⟩
 obtain⟨a,rfl,ha,hx⟩:=hc j hj
 exact⟨a,rfl,nll ha hb.size,hx.stays hb (by rw[af_];exact ha)⟩
structure Mo where
 name:ByteArray
 vars:List ByteArray
 queues:List ByteArray
 ents:List En
structure aZ1 (w:World) (a:Addr) (x:Mo) (vv qv ev:Value):Prop where
 c0:w.cell? a=some (.string x.name)
 c1:w.cell? { block:=a.block,off:=a.off+1 }=some vv
 c2:w.cell? { block:=a.block,off:=a.off+2 }=some qv
 c3:w.cell? { block:=a.block,off:=a.off+3 }=some ev
 vars:ai8 w vv x.vars
 queues:ai8 w qv x.queues
 ents:aC8 w ev x.ents
theorem aZ1.stays {w w':World}{a:Addr}{x:Mo}{vv qv ev:Value}(h:aZ1 w a x vv qv ev) (hb:Below w.heap.size w w') (ha:a.block<w.heap.size):aZ1 w' a x vv qv ev :=
 ⟨(hb.cell ha).trans h.c0,(hb.cell (p:={ block:=a.block,off:=a.off+1 }) ha).trans h.c1,(hb.cell (p:={ block:=a.block,off:=a.off+2 }) ha).trans h.c2,
  (hb.cell (p:={ block:=a.block,off:=a.off+3 }) ha).trans h.c3,h.vars.stays hb,h.queues.stays hb,h.ents.stays hb⟩
def ar8 (w:World) (v:Value) (xs:List Mo):Prop :=
 ∃ ao c,v=.slice ao xs.length c∧∀ j (h:j<xs.length),∃ a vv qv ev,ao=some a∧a.block<w.heap.size∧aZ1 w (a.add (j*4)) xs[j] vv qv ev
theorem ar8.stays {w w':World}{v:Value}{xs:List Mo}(h:ar8 w v xs) (hb:Below w.heap.size w w'):ar8 w' v xs:=by
 obtain⟨ao,c,rfl,hc⟩:=h
 refine⟨ao,c,rfl,fun j hj=>?_⟩
 obtain⟨a,vv,qv,ev,rfl,ha,hx⟩:=hc j hj
 exact⟨a,vv,qv,ev,rfl,nll ha hb.size,hx.stays hb (by rw[af_];exact ha)⟩
structure Pr where
 name:ByteArray
 uses:List ByteArray
 vars:List ByteArray
 body:Int
structure aZ2 (w:World) (a:Addr) (x:Pr) (uv vv:Value):Prop where
 c0:w.cell? a=some (.string x.name)
 c1:w.cell? { block:=a.block,off:=a.off+1 }=some uv
 c2:w.cell? { block:=a.block,off:=a.off+2 }=some vv
 c3:w.cell? { block:=a.block,off:=a.off+3 }=some (.int .i64 x.body)
 uses:ai8 w uv x.uses
 vars:ai8 w vv x.vars
theorem aZ2.stays {w w':World}{a:Addr}{x:Pr}{uv vv:Value}(h:aZ2 w a x uv vv) (hb:Below w.heap.size w w') (ha:a.block<w.heap.size):aZ2 w' a x uv vv :=
 ⟨(hb.cell ha).trans h.c0,(hb.cell (p:={ block:=a.block,off:=a.off+1 }) ha).trans h.c1,(hb.cell (p:={ block:=a.block,off:=a.off+2 }) ha).trans h.c2,
  (hb.cell (p:={ block:=a.block,off:=a.off+3 }) ha).trans h.c3,h.uses.stays hb,h.vars.stays hb⟩
def ar9 (w:World) (v:Value) (xs:List Pr):Prop :=
 ∃ ao c,v=.slice ao xs.length c∧∀ j (h:j<xs.length),∃ a uv vv,ao=some a∧a.block<w.heap.size∧aZ2 w (a.add (j*4)) xs[j] uv vv
theorem ar9.stays {w w':World}{v:Value}{xs:List Pr}(h:ar9 w v xs) (hb:Below w.heap.size w w'):ar9 w' v xs:=by
 obtain⟨ao,c,rfl,hc⟩:=h
 refine⟨ao,c,rfl,fun j hj=>?_⟩
 obtain⟨a,uv,vv,rfl,ha,hx⟩:=hc j hj
 exact⟨a,uv,vv,rfl,nll ha hb.size,hx.stays hb (by rw[af_];exact ha)⟩
def ad4 (ms:List Mo) (ps:List Pr):List Int:=(ms.flatMap fun m=>m.ents.map En.body)++ps.map Pr.body
end Go.Proofs.YtcpapceeekkacaaGreatDoor
