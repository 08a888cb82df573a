import Derived.Test.YtcpapceeekkacaaGreatDoorSignP
import Derived.Test.YtcpapceeekkacaaGreatDoorTreeQ
import Derived.Laws.MakeOwn
import Derived.Test.YtcpapceeekkacaaGreatDoorMarkM
import Derived.Handy
import Derived.BigQuiet
import Derived.WalkSmall
import Derived.Deep.RegionHeld3
set_option maxRecDepth 100000
set_option maxHeartbeats 8000000
namespace Go.Proofs.YtcpapceeekkacaaGreatDoor
section
variable (l:List Sg)
def NdF (x:Nd):Prop:=x.kids.length≤l.length+3∧x.name.size≤1048576∧x.more.size≤1048576∧x.into.size≤1048576
def Rd.Fine (s:Rd):Prop:=∀ x∈s.nodes,NdF l x
theorem Rd.Fine.on {s:Rd}(h:s.Fine l):s.on.Fine l:=h
theorem Rd.Fine.put {s:Rd}(h:s.Fine l) {x:Nd}(hx:NdF l x):(s.put x).1.Fine l:=by
 unfold Rd.put
 split
 ·exact h
 ·intro y hy
  rcases List.mem_append.1 hy with hy|hy
  ·exact h y hy
  ·rw[List.mem_singleton.1 hy];exact hx
theorem aq9:ByteArray.empty.size≤1048576:=by decide
theorem NdF.k {kd nu:Int}{ks:List Int}(h:ks.length≤l.length+3):NdF l (ndK kd nu ks):=⟨h,aq9,aq9,aq9⟩
theorem NdF.n {kd:Int}{nm:ByteArray}{ks:List Int}(h:ks.length≤l.length+3) (hn:nm.size≤1048576):NdF l (ndN kd nm ks):=⟨h,hn,aq9,aq9⟩
theorem Rd.Fine.must {s:Rd}(h:s.Fine l) (t:ByteArray):(s.must l t).Fine l:=by
 unfold Rd.must
 split <;> exact h
theorem Rd.Fine.name {s:Rd}(h:s.Fine l):(s.name l).1.Fine l:=by
 unfold Rd.name
 split <;> exact h
theorem Rd.name_size (hx:∀ x∈l,x.text.size≤1048576) (s:Rd):(s.name l).2.size≤1048576:=by
 unfold Rd.name
 split
 ·next t e =>
  unfold Rd.nameQ at e
  split at e
  ·next x hn =>
   split at e
   ·injection e with e
    subst e
    obtain⟨_,hp,e2⟩:=s.next_in l hn
    exact hx x (e2▸List.getElem_mem hp)
   ·cases e
  ·cases e
 ·exact aq9
theorem Rd.Fine.op:∀ (ops:List ByteArray) (k:Int) {s:Rd},s.Fine l→(Rd.op l ops k s).1.Fine l
 | [],_,_,h=>h
 | t :: ts,k,s,h=>by
  unfold Rd.op
  split
  ·exact h
  ·exact Rd.Fine.op ts (k+1) h
def Rd.Fines (f:Rd→Rd×Int):Prop:=∀ s:Rd,s.Fine l→(f s).1.Fine l
variable {l}
theorem Rd.Fines.many {ops:List ByteArray}{k0:Int}{sub:Rd→Rd×Int}(hs:Rd.Fines l sub):∀ (n:Nat) (k:Int) (s:Rd),s.Fine l→(Rd.many l ops k0 sub n s k).1.Fine l
 | 0,_,_,h=>h
 | n+1,k,s,h=>by
  unfold Rd.many
  split
  ·exact h
  ·split
   ·exact Rd.Fine.op l ops k0 h
   ·exact Rd.Fines.many hs n _ _ (Rd.Fine.put l (hs _ (Rd.Fine.op l ops k0 h)) (NdF.k l (by simp)))
theorem Rd.Fines.factorW (hx:∀ x∈l,x.text.size≤1048576) {val fac:Rd→Rd×Int}(hv:Rd.Fines l val) (hf:Rd.Fines l fac):Rd.Fines l (Rd.factorW l val fac):=by
 intro s h
 unfold Rd.factorW
 split
 ·exact h
 ·split
  ·exact Rd.Fine.put l h.on (NdF.k l (by simp))
  ·split
   ·exact Rd.Fine.must l (hv _ h.on) _
   ·split
    ·exact Rd.Fine.put l (hf _ h.on) (NdF.k l (by simp))
    ·split
     ·exact Rd.Fine.put l (hf _ h.on) (NdF.k l (by simp))
     ·exact Rd.Fine.put l (h.name l) (NdF.n l (by simp) (Rd.name_size l hx s))
theorem Rd.Fines.termW {fac:Rd→Rd×Int}(hf:Rd.Fines l fac):Rd.Fines l (Rd.termW l fac):=fun s h=>Rd.Fines.many hf _ _ _ (hf s h)
theorem Rd.Fines.sumW {fac:Rd→Rd×Int}(hf:Rd.Fines l fac):Rd.Fines l (Rd.sumW l fac):=fun s h=>Rd.Fines.many (Rd.Fines.termW hf) _ _ _ (Rd.Fines.termW hf s h)
theorem Rd.Fines.partW {fac:Rd→Rd×Int}(hf:Rd.Fines l fac):Rd.Fines l (Rd.partW l fac):=by
 intro s h
 have h1:=Rd.Fines.sumW hf s h
 unfold Rd.partW
 dsimp only
 split
 ·exact Rd.Fine.op l _ _ h1
 ·exact Rd.Fine.put l (Rd.Fines.sumW hf _ (Rd.Fine.op l _ _ h1)) (NdF.k l (by simp))
theorem Rd.Fines.valueW {fac:Rd→Rd×Int}(hf:Rd.Fines l fac):Rd.Fines l (Rd.valueW l fac):=fun s h=>Rd.Fines.many (Rd.Fines.partW hf) _ _ _ (Rd.Fines.partW hf s h)
theorem Rd.Fines.deepV (hx:∀ x∈l,x.text.size≤1048576):∀ n,Rd.Fines l (Rd.deepV l n).1∧Rd.Fines l (Rd.deepV l n).2
 | 0=>⟨fun _ h=>h,fun _ h=>h⟩
 | n+1=>by
  have h:=Rd.Fines.deepV hx n
  exact⟨Rd.Fines.valueW (Rd.Fines.factorW hx h.1 h.2),Rd.Fines.factorW hx h.1 h.2⟩
theorem Rd.Fines.value (hx:∀ x∈l,x.text.size≤1048576):Rd.Fines l (Rd.value l):=(Rd.Fines.deepV hx _).1
theorem Rd.Fines.callW (hx:∀ x∈l,x.text.size≤1048576):Rd.Fines l (Rd.callW l):=by
 intro s h
 have h6:=Rd.Fine.must l (Rd.Fines.value hx _ (Rd.Fine.must l (Rd.Fine.name l (Rd.Fine.must l (Rd.Fine.name l h) (tx "."))) (tx "("))) (tx ")")
 unfold Rd.callW
 dsimp only
 split
 ·exact Rd.Fine.put l (h6.on.name l) ⟨by simp,Rd.name_size l hx _,Rd.name_size l hx _,Rd.name_size l hx _⟩
 ·exact Rd.Fine.put l h6 ⟨by simp,Rd.name_size l hx _,Rd.name_size l hx _,aq9⟩
theorem Rd.Fines.stmtW (hx:∀ x∈l,x.text.size≤1048576) {blk:Rd→Rd×Int}(hb:Rd.Fines l blk):Rd.Fines l (Rd.stmtW l blk):=by
 intro s h
 have hv:=Rd.Fines.value hx _ h.on
 have hn:=h.on.name l
 unfold Rd.stmtW
 dsimp only
 split
 ·have h2:=hb _ (hv.must l (tx "then"))
  split
  ·exact Rd.Fine.put l (hb _ h2.on) (NdF.k l (by simp))
  ·exact Rd.Fine.put l h2 (NdF.k l (by simp))
 ·split
  ·exact Rd.Fine.put l (hb _ (hv.must l (tx "do"))) (NdF.k l (by simp))
  ·split
   ·exact Rd.Fines.callW hx _ h.on
   ·split
    ·exact Rd.Fine.put l hv (NdF.k l (by simp))
    ·split
     ·exact Rd.Fine.put l hn (NdF.n l (by simp) (Rd.name_size l hx _))
     ·split
      ·exact Rd.Fine.put l hn (NdF.n l (by simp) (Rd.name_size l hx _))
      ·split
       ·exact Rd.Fine.put l hn (NdF.n l (by simp) (Rd.name_size l hx _))
       ·split
        ·exact Rd.Fine.put l h.on (NdF.k l (by simp))
        ·exact Rd.Fine.put l (Rd.Fines.value hx _ ((h.name l).must l (tx ":="))) (NdF.n l (by simp) (Rd.name_size l hx _))
theorem Rd.Fines.more {stmt:Rd→Rd×Int}(hs:Rd.Fines l stmt):∀ (n:Nat) (ks:List Int) (s:Rd),s.Fine l→(Rd.more l stmt n s ks).1.Fine l∧(Rd.more l stmt n s ks).2.length≤ks.length+n
 | 0,_,_,h=>⟨h,nlr _⟩
 | n+1,ks,s,h=>by
  unfold Rd.more
  split
  ·have:=Rd.Fines.more hs n (ks++[(stmt s.on).2]) _ (hs _ h.on)
   refine⟨this.1,nlt this.2 ?_⟩
   simp
   omega
  ·exact⟨h,by show ks.length≤_;omega⟩
theorem Rd.Fines.blockW {stmt:Rd→Rd×Int}(hs:Rd.Fines l stmt):Rd.Fines l (Rd.blockW l stmt):=by
 intro s h
 unfold Rd.blockW
 dsimp only
 have h3:=Rd.Fines.more hs (l.length+1) [(stmt (s.must l (tx "begin"))).2] _ (hs _ (h.must l (tx "begin")))
 exact Rd.Fine.put l (h3.1.must l (tx "end")) (NdF.k l (nlt h3.2 (by simp;omega)))
theorem Rd.Fines.deepB (hx:∀ x∈l,x.text.size≤1048576):∀ n,Rd.Fines l (Rd.deepB l n).1∧Rd.Fines l (Rd.deepB l n).2
 | 0=>⟨fun _ h=>h,fun _ h=>h⟩
 | n+1=>by
  have h:=Rd.Fines.deepB hx n
  exact⟨Rd.Fines.blockW (Rd.Fines.stmtW hx h.1),Rd.Fines.stmtW hx h.1⟩
theorem Rd.Fines.block (hx:∀ x∈l,x.text.size≤1048576):Rd.Fines l (Rd.block l):=(Rd.Fines.deepB hx _).1
def SsF (l:List Sg) (xs:List ByteArray):Prop:=xs.length≤l.length+2∧∀ x∈xs,x.size≤1048576
theorem Rd.comma_fine (hx:∀ x∈l,x.text.size≤1048576):∀ (n:Nat) (s:Rd) (ns:List ByteArray),s.Fine l→(∀ x∈ns,x.size≤1048576)→(Rd.comma l n s ns).1.Fine l∧(Rd.comma l n s ns).2.length≤ns.length+n∧∀ x∈(Rd.comma l n s ns).2,x.size≤1048576
 | 0,_,_,h,hn=>⟨h,nlr _,hn⟩
 | n+1,s,ns,h,hn=>by
  unfold Rd.comma
  split
  ·have:=Rd.comma_fine hx n (s.on.name l).1 (ns++[(s.on.name l).2]) (h.on.name l) (fun x hm=>by
    rcases List.mem_append.1 hm with hm|hm
    ·exact hn x hm
    ·rw[List.mem_singleton.1 hm];exact Rd.name_size l hx _)
   refine⟨this.1,nlt this.2.1 ?_,this.2.2⟩
   simp
   omega
  ·exact⟨h,by show ns.length≤_;omega,hn⟩
theorem Rd.names_fine (hx:∀ x∈l,x.text.size≤1048576) {s:Rd}(h:s.Fine l):(s.names l).1.Fine l∧SsF l (s.names l).2:=by
 have:=Rd.comma_fine hx (l.length+1) (s.name l).1 [(s.name l).2] (h.name l) (fun x hm=>by rw[List.mem_singleton.1 hm];exact Rd.name_size l hx _)
 exact⟨this.1,nlt this.2.1 (by simp;omega),this.2.2⟩
theorem Rd.listed_fine (hx:∀ x∈l,x.text.size≤1048576) {s:Rd}(h:s.Fine l) (t:ByteArray):(s.listed l t).1.Fine l∧SsF l (s.listed l t).2:=by
 unfold Rd.listed
 split
 ·have:=Rd.names_fine hx h.on
  exact⟨this.1.must l _,this.2⟩
 ·exact⟨h,by simp,fun x hm=>by cases hm⟩
def EnF (e:En):Prop:=e.name.size≤1048576∧e.param.size≤1048576
theorem Rd.entry_fine (hx:∀ x∈l,x.text.size≤1048576) {s:Rd}(h:s.Fine l):(s.entry l).1.Fine l∧EnF (s.entry l).2:=by
 unfold Rd.entry
 dsimp only
 exact⟨Rd.Fine.must l (Rd.Fines.block hx _ (Rd.Fine.must l (Rd.Fine.name l (Rd.Fine.must l (h.name l) _)) _)) _,Rd.name_size l hx _,Rd.name_size l hx _⟩
theorem Rd.entries_fine (hx:∀ x∈l,x.text.size≤1048576):∀ (n:Nat) (s:Rd) (es:List En),s.Fine l→(∀ e∈es,EnF e)→(Rd.entries l n s es).1.Fine l∧(Rd.entries l n s es).2.length≤es.length+n∧∀ e∈(Rd.entries l n s es).2,EnF e
 | 0,_,_,h,hn=>⟨h,nlr _,hn⟩
 | n+1,s,es,h,hn=>by
  unfold Rd.entries
  split
  ·have:=Rd.entries_fine hx n (s.on.entry l).1 (es++[(s.on.entry l).2]) (Rd.entry_fine hx h.on).1 (fun x hm=>by
    rcases List.mem_append.1 hm with hm|hm
    ·exact hn x hm
    ·rw[List.mem_singleton.1 hm];exact(Rd.entry_fine hx h.on).2)
   refine⟨this.1,nlt this.2.1 ?_,this.2.2⟩
   simp
   omega
  ·exact⟨h,by show es.length≤_;omega,hn⟩
def MoF (l:List Sg) (m:Mo):Prop:=m.name.size≤1048576∧SsF l m.vars∧SsF l m.queues∧m.ents.length≤l.length+1∧∀ e∈m.ents,EnF e
def PrF (l:List Sg) (p:Pr):Prop:=p.name.size≤1048576∧SsF l p.uses∧SsF l p.vars
theorem Rd.monitor_fine (hx:∀ x∈l,x.text.size≤1048576) {s:Rd}(h:s.Fine l):(s.monitor l).1.Fine l∧MoF l (s.monitor l).2:=by
 unfold Rd.monitor
 dsimp only
 have h1:=Rd.listed_fine hx ((h.name l).must l (tx ";")) (tx "var")
 have h2:=Rd.listed_fine hx h1.1 (tx "queue")
 have h3:=Rd.entries_fine hx (l.length+1) _ [] h2.1 (fun e he=>by cases he)
 exact⟨(h3.1.must l _).must l _,Rd.name_size l hx _,h1.2,h2.2,by simpa using h3.2.1,h3.2.2⟩
theorem Rd.process_fine (hx:∀ x∈l,x.text.size≤1048576) {s:Rd}(h:s.Fine l):(s.process l).1.Fine l∧PrF l (s.process l).2:=by
 unfold Rd.process
 dsimp only
 have h0:Rd.Fine l (if (s.name l).1.isQ l (tx "uses")=true then (s.name l).1.on.names l else ((s.name l).1,[])).1∧SsF l (if (s.name l).1.isQ l (tx "uses")=true then (s.name l).1.on.names l else ((s.name l).1,[])).2:=by
  split
  ·exact Rd.names_fine hx (h.name l).on
  ·exact⟨h.name l,by simp,fun x hm=>by cases hm⟩
 have h1:=Rd.listed_fine hx (h0.1.must l (tx ";")) (tx "var")
 exact⟨(Rd.Fines.block hx _ h1.1).must l _,Rd.name_size l hx _,h0.2,h1.2⟩
theorem Rd.monitors_fine (hx:∀ x∈l,x.text.size≤1048576):∀ (n:Nat) (s:Rd) (ms:List Mo),s.Fine l→(∀ m∈ms,MoF l m)→(Rd.monitors l n s ms).1.Fine l∧(Rd.monitors l n s ms).2.length≤ms.length+n∧∀ m∈(Rd.monitors l n s ms).2,MoF l m
 | 0,_,_,h,hn=>⟨h,nlr _,hn⟩
 | n+1,s,ms,h,hn=>by
  unfold Rd.monitors
  split
  ·have:=Rd.monitors_fine hx n (s.on.monitor l).1 (ms++[(s.on.monitor l).2]) (Rd.monitor_fine hx h.on).1 (fun x hm=>by
    rcases List.mem_append.1 hm with hm|hm
    ·exact hn x hm
    ·rw[List.mem_singleton.1 hm];exact(Rd.monitor_fine hx h.on).2)
   refine⟨this.1,nlt this.2.1 ?_,this.2.2⟩
   simp
   omega
  ·exact⟨h,by show ms.length≤_;omega,hn⟩
theorem Rd.processes_fine (hx:∀ x∈l,x.text.size≤1048576):∀ (n:Nat) (s:Rd) (ps:List Pr),s.Fine l→(∀ p∈ps,PrF l p)→(Rd.processes l n s ps).1.Fine l∧(Rd.processes l n s ps).2.length≤ps.length+n∧∀ p∈(Rd.processes l n s ps).2,PrF l p
 | 0,_,_,h,hn=>⟨h,nlr _,hn⟩
 | n+1,s,ps,h,hn=>by
  unfold Rd.processes
  split
  ·have:=Rd.processes_fine hx n (s.on.process l).1 (ps++[(s.on.process l).2]) (Rd.process_fine hx h.on).1 (fun x hm=>by
    rcases List.mem_append.1 hm with hm|hm
    ·exact hn x hm
    ·rw[List.mem_singleton.1 hm];exact(Rd.process_fine hx h.on).2)
   refine⟨this.1,nlt this.2.1 ?_,this.2.2⟩
   simp
   omega
  ·exact⟨h,by show ps.length≤_;omega,hn⟩
end
open Go.RowKit
structure am8 (base:Nat) (w w':World):Prop where
 size:w.heap.size≤w'.heap.size
 block:∀ b,base≤b→b<w.heap.size→w'.heap[b]? = w.heap[b]?
theorem am8.cell {base:Nat}{w w':World}(h:am8 base w w') {p:Addr}(h1:base≤p.block) (h2:p.block<w.heap.size):w'.cell? p=w.cell? p:=World.cell?_of_block (h.block p.block h1 h2)
theorem am8.below {base:Nat}{w w':World}(hb:Below w.heap.size w w'):am8 base w w':=⟨hb.size,fun b _ h=>hb.block b h⟩
theorem am8.setCell {base g:Nat}(hg:g<base) (w:World) (o:Nat) (v:Value):am8 base w (w.setCell ⟨g,o,none⟩ v) :=
 ⟨by simp[World.setCell],fun b h1 _=>Below.heap_setCell w ⟨g,o,none⟩ v b (by show b≠g;omega)⟩
def Room:Value→Prop
 | .slice _ n c=>n≤c
 | _=>True
def ai5 (base:Nat) (w:World) (v:Value) (vs:List Value):Prop :=
 ∃ ao c,v=.slice ao vs.length c∧vs.length≤c∧∀ j u,vs[j]? = some u→∃ a,ao=some a∧base≤a.block∧a.block<w.heap.size∧w.cell? (a.add j)=some u
def as_ (s base:Nat) (w:World) (v:Value) (css:List (List Value)):Prop :=
 ∃ ao c,v=.slice ao css.length c∧css.length≤c∧∀ j cs,css[j]? = some cs→cs.length=s∧∃ a,ao=some a∧base≤a.block∧a.block<w.heap.size∧∀ i u,cs[i]? = some u→w.cell? (a.add (j*s+i))=some u
theorem ai5.kept {base:Nat}{w w':World}{v:Value}{vs:List Value}(h:ai5 base w v vs) (k:am8 base w w'):ai5 base w' v vs:=by
 obtain⟨ao,c,rfl,hr,hc⟩:=h
 refine⟨ao,c,rfl,hr,fun j u hj=>?_⟩
 obtain⟨a,rfl,h1,h2,h3⟩:=hc j u hj
 exact⟨a,rfl,h1,nll h2 k.size,(k.cell (by rw[af_];exact h1) (by rw[af_];exact h2)).trans h3⟩
theorem ai5.mono {base base':Nat}{w:World}{v:Value}{vs:List Value}(h:ai5 base w v vs) (hb:base'≤base):ai5 base' w v vs:=by
 obtain⟨ao,c,rfl,hr,hc⟩:=h
 refine⟨ao,c,rfl,hr,fun j u hj=>?_⟩
 obtain⟨a,rfl,h1,h2⟩:=hc j u hj
 exact⟨a,rfl,nlt hb h1,h2⟩
theorem aw9 (g j:Nat):(⟨g,0,none⟩:Addr).add j=⟨g,j,none⟩:=by
 simp only[Addr.add]
 split
 ·next h=>subst h;rfl
 ·simp
theorem ai5.own {base n:Nat}{w:World}{e:TypeId}{v:Value}{vs:List Value}(h:w.ownsRow base e 1 v n vs):ai5 base w v vs:=by
 have hl:vs.length=n:=by simpa using h.1
 rcases h.2 with⟨rfl,h0⟩|⟨g,cap,cur,rfl,hb1,hg,hr,_⟩
 ·exact⟨none,0,by rw[hl,h0],by omega,fun j u hj=>by
   have:=(List.getElem?_eq_some_iff.1 hj).1
   omega⟩
 ·refine⟨_,cap,by rw[hl],by omega,fun j u hj=>⟨_,rfl,hb1,(h.lt g rfl).2,?_⟩⟩
  have hj2:=(List.getElem?_eq_some_iff.1 hj).1
  rw[aw9,h.cellAt j (by omega)]
  exact hj
theorem ba_ {s:Nat}:∀ (css:List (List Value)),(∀ c∈css,c.length=s)→css.flatten.length=css.length*s
 | [],_=>by simp
 | c :: css,h=>by
  rw[List.flatten_cons,List.length_append,ba_ css (fun c hc=>h c (by simp[hc])),h c (by simp),List.length_cons,Nat.add_mul,Nat.one_mul,Nat.add_comm]
theorem az7 {s:Nat}:∀ (css:List (List Value)) (k i:Nat) (cs:List Value),(∀ c∈css,c.length=s)→css[k]? = some cs→i<s→css.flatten[k*s+i]? = cs[i]?
 | c :: css,0,i,cs,h,hk,hi=>by
  simp at hk
  subst hk
  rw[List.flatten_cons,Nat.zero_mul,Nat.zero_add,List.getElem?_append_left (by rw[h c (by simp)];exact hi)]
 | c :: css,k+1,i,cs,h,hk,hi=>by
  have e:(k+1)*s+i=c.length+(k*s+i):=by rw[h c (by simp),Nat.add_mul,Nat.one_mul];omega
  rw[List.flatten_cons,e,List.getElem?_append_right (by omega),show c.length+(k*s+i)-c.length=k*s+i by omega]
  exact az7 css k i cs (fun c hc=>h c (by simp[hc])) (by simpa using hk) hi
theorem as_.own {s base n:Nat}{w:World}{e:TypeId}{v:Value}{css:List (List Value)}(h:w.ownsRow base e s v n css.flatten) (hn:css.length=n) (hs:∀ c∈css,c.length=s):as_ s base w v css:=by
 rcases h.2 with⟨rfl,h0⟩|⟨g,cap,cur,rfl,hb1,hg,hr,_⟩
 ·exact⟨none,0,by rw[hn,h0],by omega,fun j u hj=>by
   have:=(List.getElem?_eq_some_iff.1 hj).1
   omega⟩
 ·refine⟨_,cap,by rw[hn],by omega,fun j cs hj=>⟨hs cs (List.mem_of_getElem? hj),_,rfl,hb1,(h.lt g rfl).2,fun i u hi=>?_⟩⟩
  have hi2:i<s:=by rw[←hs cs (List.mem_of_getElem? hj)];exact(List.getElem?_eq_some_iff.1 hi).1
  exact h.cells rfl (j*s+i) u (by rw[az7 css j i cs hs hj hi2];exact hi)
theorem aP6 (z:List Value) (hz:0<z.length) (n:Nat):(madeCells z.toArray (n*z.length)).toList=(List.replicate n z).flatten:=by
 apply List.ext_getElem?
 intro i
 by_cases hi:i<n*z.length
 ·have hd:i / z.length<n:=Nat.div_lt_of_lt_mul (by rw[Nat.mul_comm];exact hi)
  have hm:i % z.length<z.length:=Nat.mod_lt _ hz
  have e:i / z.length*z.length+i % z.length=i:=by rw[Nat.mul_comm];exact Nat.div_add_mod i z.length
  have h1:=az7 (s:=z.length) (List.replicate n z) (i / z.length) (i % z.length) z (fun c hc=>by rw[(List.mem_replicate.1 hc).2]) (by simp[hd]) hm
  rw[e]at h1
  rw[h1]
  simp only[madeCells,Array.toList_map,Array.toList_range,List.getElem?_map,List.getElem?_range hi,Option.map_some]
  simp[hm]
 ·rw[List.getElem?_eq_none (by rw[Array.length_toList,size_madeCells];omega),List.getElem?_eq_none (by rw[ba_ (s:=z.length) _ (fun c hc=>by rw[(List.mem_replicate.1 hc).2])];simp;omega)]
abbrev ax6 (base:Nat) (w:World) (v:Value) (xs:List Int):Prop:=ai5 base w v (xs.map I64)
abbrev aC9 (base:Nat) (w:World) (v:Value) (xs:List ByteArray):Prop:=ai5 base w v (xs.map Value.string)
theorem ax6.at {base:Nat}{w:World}{v:Value}{xs:List Int}(h:ax6 base w v xs):aa6 w v xs:=by
 obtain⟨ao,c,rfl,_,hc⟩:=h
 refine⟨ao,c,by simp,fun j hj=>?_⟩
 obtain⟨a,rfl,_,h2,h3⟩:=hc j (I64 xs[j]) (by simp[hj])
 exact⟨a,rfl,h2,h3⟩
theorem aC9.at {base:Nat}{w:World}{v:Value}{xs:List ByteArray}(h:aC9 base w v xs):ai8 w v xs:=by
 obtain⟨ao,c,rfl,_,hc⟩:=h
 refine⟨ao,c,by simp,fun j hj=>?_⟩
 obtain⟨a,rfl,_,h2,h3⟩:=hc j (.string xs[j]) (by simp[hj])
 exact⟨a,rfl,h2,h3⟩
class Told {α:Type}(R:Nat→World→List Value→α→Prop):Prop where
 kept:∀ {base:Nat}{w w':World}{cs:List Value}{x:α},R base w cs x→am8 base w w'→R base w' cs x
 mono:∀ {base base':Nat}{w:World}{cs:List Value}{x:α},R base w cs x→base'≤base→R base' w cs x
def bg6 {α:Type}(R:Nat→World→List Value→α→Prop) (s base:Nat) (w:World) (v:Value) (xs:List α):Prop :=
 ∃ css:List (List Value),as_ s base w v css∧css.length=xs.length∧∀ (j:Nat) (cs:List Value) (x:α),css[j]? = some cs→xs[j]? = some x→R base w cs x
def EntC (_base:Nat) (_w:World) (cs:List Value) (x:En):Prop:=cs=[.string x.name,.string x.param,.int .i64 x.body]
abbrev EnsIn (base:Nat) (w:World) (v:Value) (xs:List En):Prop:=bg6 EntC 3 base w v xs
def MonC (base:Nat) (w:World) (cs:List Value) (x:Mo):Prop:=∃ vv qv ev,cs=[.string x.name,vv,qv,ev]∧aC9 base w vv x.vars∧aC9 base w qv x.queues∧EnsIn base w ev x.ents
def ProC (base:Nat) (w:World) (cs:List Value) (x:Pr):Prop:=∃ uv vv,cs=[.string x.name,uv,vv,.int .i64 x.body]∧aC9 base w uv x.uses∧aC9 base w vv x.vars
abbrev MosIn (base:Nat) (w:World) (v:Value) (xs:List Mo):Prop:=bg6 MonC 4 base w v xs
abbrev PrsIn (base:Nat) (w:World) (v:Value) (xs:List Pr):Prop:=bg6 ProC 4 base w v xs
theorem ak9 (a:Addr) (k n:Nat) (hn:0<n):a.add (k+n) = { block:=(a.add k).block,off:=(a.add k).off+n }:=by
 simp only[Addr.add]
 rw[if_neg (by omega)]
 split
 ·next h=>subst h;simp
 ·simp only[Addr.mk.injEq,and_true,true_and];omega
theorem EnsIn.at {base:Nat}{w:World}{v:Value}{xs:List En}(h:EnsIn base w v xs):aC8 w v xs:=by
 obtain⟨css,⟨ao,c,rfl,_,hc⟩,hl,hr⟩:=h
 refine⟨ao,c,by rw[hl],fun j hj=>?_⟩
 have hj2:j<css.length:=by omega
 obtain⟨_,a,rfl,_,h2,h3⟩:=hc j css[j] (List.getElem?_eq_getElem hj2)
 have e:css[j]=_:=hr j css[j] xs[j] (List.getElem?_eq_getElem hj2) (List.getElem?_eq_getElem hj)
 rw[e]at h3
 refine⟨a,rfl,h2,h3 0 _ rfl,?_,?_⟩
 ·rw[←ak9 a _ 1 (by omega)];exact h3 1 _ rfl
 ·rw[←ak9 a _ 2 (by omega)];exact h3 2 _ rfl
theorem MosIn.at {base:Nat}{w:World}{v:Value}{xs:List Mo}(h:MosIn base w v xs):ar8 w v xs:=by
 obtain⟨css,⟨ao,c,rfl,_,hc⟩,hl,hr⟩:=h
 refine⟨ao,c,by rw[hl],fun j hj=>?_⟩
 have hj2:j<css.length:=by omega
 obtain⟨_,a,rfl,_,h2,h3⟩:=hc j css[j] (List.getElem?_eq_getElem hj2)
 obtain⟨vv,qv,ev,e,k1,k2,k3⟩:=hr j css[j] xs[j] (List.getElem?_eq_getElem hj2) (List.getElem?_eq_getElem hj)
 rw[e]at h3
 refine⟨a,vv,qv,ev,rfl,h2,h3 0 _ rfl,?_,?_,?_,k1.at,k2.at,k3.at⟩
 ·rw[←ak9 a _ 1 (by omega)];exact h3 1 _ rfl
 ·rw[←ak9 a _ 2 (by omega)];exact h3 2 _ rfl
 ·rw[←ak9 a _ 3 (by omega)];exact h3 3 _ rfl
theorem PrsIn.at {base:Nat}{w:World}{v:Value}{xs:List Pr}(h:PrsIn base w v xs):ar9 w v xs:=by
 obtain⟨css,⟨ao,c,rfl,_,hc⟩,hl,hr⟩:=h
 refine⟨ao,c,by rw[hl],fun j hj=>?_⟩
 have hj2:j<css.length:=by omega
 obtain⟨_,a,rfl,_,h2,h3⟩:=hc j css[j] (List.getElem?_eq_getElem hj2)
 obtain⟨uv,vv,e,k1,k2⟩:=hr j css[j] xs[j] (List.getElem?_eq_getElem hj2) (List.getElem?_eq_getElem hj)
 rw[e]at h3
 refine⟨a,uv,vv,rfl,h2,h3 0 _ rfl,?_,?_,?_,k1.at,k2.at⟩
 ·rw[←ak9 a _ 1 (by omega)];exact h3 1 _ rfl
 ·rw[←ak9 a _ 2 (by omega)];exact h3 2 _ rfl
 ·rw[←ak9 a _ 3 (by omega)];exact h3 3 _ rfl
def ai_ (w:World) (v:Value) (n:Nat):Prop :=
 ∃ ao c,v=.slice ao n c∧n≤c∧∀ j,j<n→∃ a kv,ao=some a∧a.block<w.heap.size∧w.cell? { block:=(a.add (j*6)).block,off:=(a.add (j*6)).off+5 }=some kv∧Room kv
theorem ai_.stays {w w':World}{v:Value}{n:Nat}(h:ai_ w v n) (hb:Below w.heap.size w w'):ai_ w' v n:=by
 obtain⟨ao,c,rfl,hr,hc⟩:=h
 refine⟨ao,c,rfl,hr,fun j hj=>?_⟩
 obtain⟨a,kv,rfl,h1,h2,h3⟩:=hc j hj
 exact⟨a,kv,rfl,nll h1 hb.size,(hb.cell (p:={ block:=(a.add (j*6)).block,off:=(a.add (j*6)).off+5 }) (by show (a.add (j*6)).block<_;rw[af_];exact h1)).trans h2,h3⟩
structure Filled {α:Type}(R:Nat→World→List Value→α→Prop) (s:Nat) (e:TypeId) (w:World) (xs:List α) (k:Nat) (wr:World):Prop where
 row:∃ css:List (List Value),css.length=xs.length∧(∀ c∈css,c.length=s)∧wr.ownsRow w.heap.size e s (.slice (some ⟨w.heap.size,0,none⟩) xs.length xs.length) xs.length css.flatten
  ∧ ∀ (j:Nat) (cs:List Value) (x:α),j<k→css[j]? = some cs→xs[j]? = some x→R (w.heap.size+1) wr cs x
 below:Below w.heap.size w wr
structure ak_ (w w':World):Prop where
 size:w.heap.size≤w'.heap.size
 blk:∀ (b:Nat) (cs:Array Value) (T:Nat) (fr:Nat×Nat),T≠74→T≠37→w.heap[b]? = some (Obj.cells cs T fr)→w'.heap[b]? = some (Obj.cells cs T fr)
theorem ak_.refl (w:World):ak_ w w:=⟨nlr _,fun _ _ _ _ _ _ h=>h⟩
theorem ak_.trans {a b c:World}(h:ak_ a b) (k:ak_ b c):ak_ a c:=⟨nlt h.size k.size,fun b cs T fr h1 h2 h3=>k.blk b cs T fr h1 h2 (h.blk b cs T fr h1 h2 h3)⟩
theorem ag7 {w:World}{b:Nat}{o:Obj}(h:w.heap[b]? = some o):b<w.heap.size:=by
 rcases Nat.lt_or_ge b w.heap.size with hg|hg
 ·exact hg
 ·rw[Array.getElem?_eq_none hg]at h;cases h
theorem ak_.below {w w':World}(hb:Below w.heap.size w w'):ak_ w w':=⟨hb.size,fun b _ _ _ _ _ h=>(hb.block b (ag7 h)).trans h⟩
theorem ak_.set {w:World}{g:Nat}{cs:Array Value}(hg:Box w g cs 37) (i:Nat) (v:Value):ak_ w (w.setCell ⟨g,i,none⟩ v) :=
 ⟨by simp[World.setCell],fun b cs' T fr _ h2 h3=>by
  rw[Below.heap_setCell w ⟨g,i,none⟩ v b (by
   intro e
   have e:b=g:=e
   subst e
   have h4:w.heap[b]? = some (.cells cs 37 (0,0)):=hg
   rw[h3]at h4
   injection h4 with h4
   injection h4 with _ h4 _
   exact h2 h4)]
  exact h3⟩
def ak7 (L:Nat→Prop) (w:World) (v:Value) (xs:List Int):Prop :=
 ∃ ao c,v=.slice ao xs.length c∧(xs=[]∨∃ b o cs fr,ao=some ⟨b,o,none⟩∧¬ L b∧w.heap[b]? = some (.cells cs 3 fr)∧∀ j (h:j<xs.length),cs[o+j]? = some (.int .i64 xs[j]))
theorem ak7.keep {L:Nat→Prop}{w w':World}{v:Value}{xs:List Int}(h:ak7 L w v xs) (k:ak_ w w'):ak7 L w' v xs:=by
 obtain⟨ao,c,rfl,hc⟩:=h
 refine⟨ao,c,rfl,?_⟩
 rcases hc with hc|⟨b,o,cs,fr,e,h0,h1,h2⟩
 ·exact .inl hc
 ·exact .inr ⟨b,o,cs,fr,e,h0,k.blk b cs 3 fr (by decide) (by decide) h1,h2⟩
theorem ak7.at {L:Nat→Prop}{w:World}{v:Value}{xs:List Int}(h:ak7 L w v xs):aa6 w v xs:=by
 obtain⟨ao,c,rfl,hc⟩:=h
 refine⟨ao,c,rfl,fun j hj=>?_⟩
 rcases hc with hc|⟨b,o,cs,fr,rfl,_,h1,h2⟩
 ·subst hc;simp at hj
 ·refine⟨_,rfl,ag7 h1,?_⟩
  have e:(⟨b,o,none⟩:Addr).add j=⟨b,o+j,none⟩:=by
   simp only[Addr.add]
   split
   ·next h=>subst h;rfl
   ·rfl
  rw[e,chp h1 (o+j)]
  exact h2 j hj
theorem ak7.made {L:Nat→Prop}{w:World}(hL:∀ b,L b→b<w.heap.size) {g:Nat}(hg:g=w.heap.size) (xs:List Int) (n c:Nat) (hn:n=xs.length):ak7 L (w.alloc (.cells (xs.map I64).toArray 3)) (.slice (some ⟨g,0,none⟩) n c) xs:=by
 subst hg hn
 refine⟨_,c,rfl,.inr ⟨w.heap.size,0,_,(0,0),rfl,fun h=>absurd (hL _ h) (Nat.lt_irrefl _),heap_alloc_new w _,fun j hj=>?_⟩⟩
 simp[hj,I64]
theorem ak7.nil {L:Nat→Prop}(w:World):ak7 L w (.slice none 0 0) []:=⟨none,0,rfl,.inl rfl⟩
abbrev SgT (w:World) (v:Value) (l:List Sg):Prop:=w.ownsRow 0 48 4 v l.length (ac7 l)
theorem SgT.keep {w w':World}{v:Value}{l:List Sg}(h:SgT w v l) (k:ak_ w w'):SgT w' v l:=by
 obtain⟨h1,h2⟩:=h
 refine⟨h1,?_⟩
 rcases h2 with h2|⟨g,cap,cur,rfl,hb1,hg,r⟩
 ·exact .inl h2
 ·exact .inr ⟨g,cap,cur,rfl,hb1,k.blk g cur _ (0,0) (by decide) (by decide) hg,r⟩
def NodeT (L:Nat→Prop) (w:World) (cs:List Value) (x:Nd):Prop:=∃ kv,cs=[.int .i64 x.kind,.int .i64 x.num,.string x.name,.string x.more,.string x.into,kv]∧ak7 L w kv x.kids
def at1 (L:Nat→Prop) (B:Nat) (w:World) (v:Value) (ns:List Nd):Prop :=
 ∃ css:List (List Value),css.length=ns.length∧(∀ c∈css,c.length=6)∧w.ownsRow B 74 6 v ns.length css.flatten∧(∀ (j:Nat) (cs:List Value) (x:Nd),css[j]? = some cs→ns[j]? = some x→NodeT L w cs x)∧∀ b,v.ownBlock=some b→¬ L b
structure RdAt (L:Nat→Prop) (B g:Nat) (l:List Sg) (lv:Value) (s:Rd) (w:World):Prop where
 box:∃ nv,Box w g #[lv,.int .i64 (s.pos:Int),.bool s.bad,nv] 37∧at1 L B w nv s.nodes
 sg:SgT w lv l
 base:B≤g
 pos:s.pos≤l.length
 good:s.Good 0
 loose:∀ b,L b→b<w.heap.size
 gl:¬ L g
theorem at1.keep {L:Nat→Prop}{B:Nat}{w w':World}{v:Value}{ns:List Nd}(h:at1 L B w v ns) (k:ak_ w w') (hown:∀ css,w.ownsRow B 74 6 v ns.length css→w'.ownsRow B 74 6 v ns.length css):at1 L B w' v ns:=by
 obtain⟨css,h1,h2,h3,h4,h5⟩:=h
 refine⟨css,h1,h2,hown _ h3,fun j cs x hj hx=>?_,h5⟩
 obtain⟨kv,e,hk⟩:=h4 j cs x hj hx
 exact⟨kv,e,hk.keep k⟩
theorem RdAt.below {L:Nat→Prop}{B g:Nat}{l:List Sg}{lv:Value}{s:Rd}{w w':World}(h:RdAt L B g l lv s w) (hb:Below w.heap.size w w'):RdAt L B g l lv s w':=by
 obtain⟨⟨nv,h1,h2⟩,h3,h4,h5,h6,h7,h8⟩:=h
 exact⟨⟨nv,h1.stays hb,h2.keep (ak_.below hb) (fun _ ho=>ac8 ho hb)⟩,h3.keep (ak_.below hb),h4,h5,h6,fun b hb2=>nll (h7 b hb2) hb.size,h8⟩
theorem aA0 {B n:Nat}{w:World}{v:Value}{xs:List Value}(h:w.ownsRow B 74 6 v n xs) {g:Nat}{cs:Array Value}(hg:Box w g cs 37) (i:Nat) (u:Value):(w.setCell ⟨g,i,none⟩ u).ownsRow B 74 6 v n xs:=by
 obtain⟨h1,h2⟩:=h
 refine⟨h1,?_⟩
 rcases h2 with h2|⟨g',cap,cur,rfl,hb1,hg',r⟩
 ·exact .inl h2
 ·refine .inr ⟨g',cap,cur,rfl,hb1,?_,r⟩
  rw[Below.heap_setCell w ⟨g,i,none⟩ u g' (by
   intro e
   have e:g'=g:=e
   subst e
   have h4:w.heap[g']? = some (.cells cs 37 (0,0)):=hg
   rw[hg']at h4
   injection h4 with h4
   injection h4 with _ h4 _
   exact absurd h4 (by decide))]
  exact hg'
theorem RdAt.on {L:Nat→Prop}{B g:Nat}{l:List Sg}{lv:Value}{s:Rd}{w:World}(h:RdAt L B g l lv s w) (hp:s.pos<l.length):RdAt L B g l lv s.on (w.setCell ⟨g,1,none⟩ (.int .i64 ((s.pos:Int)+1))):=by
 obtain⟨⟨nv,h1,h2⟩,h3,h4,h5,h6,h7,h8⟩:=h
 have k:=ak_.set h1 1 (.int .i64 ((s.pos:Int)+1))
 refine⟨⟨nv,?_,h2.keep k (fun _ ho=>aA0 ho h1 1 _)⟩,h3.keep k,h4,hp,h6.on.less,fun b hb=>nll (h7 b hb) k.size,h8⟩
 have:=h1.set 1 (.int .i64 ((s.pos:Int)+1))
 simpa [Rd.on] using this
theorem RdAt.wrong {L:Nat→Prop}{B g:Nat}{l:List Sg}{lv:Value}{s:Rd}{w:World}(h:RdAt L B g l lv s w):RdAt L B g l lv s.wrong (w.setCell ⟨g,2,none⟩ (.bool true)):=by
 obtain⟨⟨nv,h1,h2⟩,h3,h4,h5,h6,h7,h8⟩:=h
 have k:=ak_.set h1 2 (.bool true)
 refine⟨⟨nv,?_,h2.keep k (fun _ ho=>aA0 ho h1 2 _)⟩,h3.keep k,h4,h5,h6,fun b hb=>nll (h7 b hb) k.size,h8⟩
 have:=h1.set 2 (.bool true)
 simpa [Rd.wrong] using this
theorem RdAt.onKeep {L:Nat→Prop}{B g:Nat}{l:List Sg}{lv:Value}{s:Rd}{w:World}(h:RdAt L B g l lv s w) (i:Nat) (v:Value):ak_ w (w.setCell ⟨g,i,none⟩ v)∧Below B w (w.setCell ⟨g,i,none⟩ v)∧∀ b,L b→(w.setCell ⟨g,i,none⟩ v).heap[b]? = w.heap[b]? := by
 obtain⟨⟨nv,h1,_⟩,_,h4,_,_,_,h8⟩:=h
 refine⟨ak_.set h1 i v,(Below.refl _ _).setCell h4 _,fun b hb=>Below.heap_setCell w ⟨g,i,none⟩ v b fun e=>?_⟩
 have e:b=g:=e
 subst e
 exact h8 hb
structure aa8 (L:Nat→Prop) (B g:Nat) (l:List Sg) (lv:Value) (s':Rd) (w w':World):Prop where
 at':RdAt L B g l lv s' w'
 keep:ak_ w w'
 bel:Below B w w'
 held:∀ b,L b→w'.heap[b]? = w.heap[b]?
theorem aa8.refl {L:Nat→Prop}{B g:Nat}{l:List Sg}{lv:Value}{s:Rd}{w:World}(h:RdAt L B g l lv s w):aa8 L B g l lv s w w:=⟨h,ak_.refl _,Below.refl _ _,fun _ _=>rfl⟩
theorem aa8.then' {L:Nat→Prop}{B g:Nat}{l:List Sg}{lv:Value}{s s':Rd}{a b c:World}(h:aa8 L B g l lv s a b) (k:aa8 L B g l lv s' b c):aa8 L B g l lv s' a c:=⟨k.at',h.keep.trans k.keep,h.bel.trans k.bel,fun b hb=>(k.held b hb).trans (h.held b hb)⟩
theorem RdAt.cells {L:Nat→Prop}{B g:Nat}{l:List Sg}{lv:Value}{s:Rd}{w:World}(h:RdAt L B g l lv s w):∃ nv,w.cell? ⟨g,0,none⟩=some lv∧w.cell? ⟨g,1,none⟩=some (.int .i64 (s.pos:Int))∧w.cell? ⟨g,2,none⟩=some (.bool s.bad)∧w.cell? ⟨g,3,none⟩=some nv∧∀ i,w.frozen? ⟨g,i,none⟩=false:=by
 obtain⟨⟨nv,h1,_⟩,_,_,_,_,_,_⟩:=h
 exact⟨nv,chp h1 0,chp h1 1,chp h1 2,chp h1 3,fun i=>fhp h1 i⟩
theorem RdAt.sign {L:Nat→Prop}{B g:Nat}{l:List Sg}{lv:Value}{s:Rd}{w:World}(h:RdAt L B g l lv s w) {j:Nat}(hj:j<l.length):∃ a c p,lv=.slice (some a) l.length c∧a.add (j*4)=p∧w.cell? p=some (.int .i64 l[j].kind)∧w.cell? { block:=p.block,off:=p.off+1 }=some (.string l[j].text)∧w.cell? { block:=p.block,off:=p.off+2 }=some (.int .i64 l[j].num)∧w.cell? { block:=p.block,off:=p.off+3 }=some (.int .i64 l[j].place):=by
 obtain⟨ao,c,e,hc⟩:=(SgAt.own h.sg).1
 obtain⟨a,rfl,_,h2⟩:=hc j hj
 obtain⟨f0,f1,f2,f3⟩:=h2.facts
 exact⟨a,c,_,e,rfl,f0,f1,f2,f3⟩
theorem RdAt.slice {L:Nat→Prop}{B g:Nat}{l:List Sg}{lv:Value}{s:Rd}{w:World}(h:RdAt L B g l lv s w):∃ ao c,lv=.slice ao l.length c:=by
 obtain⟨ao,c,e,_⟩:=(SgAt.own h.sg).1
 exact⟨ao,c,e⟩
theorem ak_.drewN (w:World) (q:Nat):ak_ w (w.drewN q):=⟨nlr _,fun _ _ _ _ _ _ h=>h⟩
theorem rdIs_any {L:Nat→Prop}{B g:Nat}{l:List Sg}{lv:Value}{s:Rd}(t:ByteArray) (w:World) (h:RdAt L B g l lv s w) :
  Calls Tryz.prog 28 #[.pointer (some ⟨g,0,none⟩),.string t] w fun e w'=>e=.returned (.bool (s.isQ l t))∧∃ q,w'=w.drewN q:=by
 obtain⟨nv,c0,c1,c2,c3,f⟩:=h.cells
 obtain⟨ao,cp,rfl⟩:=h.slice
 have H:=qb h
 have hp:=h.pos
 clear h
 cases hb:s.bad with
 | true =>
  have HR:Hid (s.isQ l t=false):=by simp[Hid,Rd.isQ,Rd.next,hb]
  rw[hb]at c2
  go_enter Tryz.func28,Tryz.ntmps28
  go_wp2
  go_quiet (fail)
  go_wp2
  go_ret
  exact⟨by rw[HR.out];rfl,_,rfl⟩
 | false =>
  rw[hb]at c2
  by_cases hlt:s.pos<l.length
  ·have hd:decide (s.pos<l.length)=true:=by simp;omega
   obtain⟨a,c',p,e,ha,d0,d1,d2,d3⟩:=H.out.sign hlt
   injection e with e1 e2 e3
   subst e1 e3
   obtain⟨x,ex⟩:∃ x,x=l[s.pos]:=⟨_,rfl⟩
   rw[←ex]at d0 d1 d2 d3
   have HR:Hid (s.isQ l t=((x.text.toList == t.toList) && decide (x.kind≠2))):=by simp[Hid,Rd.isQ,Rd.next,hb,hlt,ex]
   have hi0:(0:Int)≤(s.pos:Int):=by omega
   have hi1:(s.pos:Int)<(l.length:Int):=by omega
   clear ex
   clear e2
   cases ht:x.text.toList == t.toList with
   | true =>
    rw[ht]at HR
    go_enter Tryz.func28,Tryz.ntmps28
    go_wp2
    go_quiet (fail)
    go_wp2
    go_ret
    refine⟨?_,_,rfl⟩
    rw[HR.out]
    show Ending.returned (.bool (x.kind != 2))=_
    cases hk:decide (x.kind=2) <;> simp at hk <;> simp[hk]
   | false =>
    rw[ht]at HR
    go_enter Tryz.func28,Tryz.ntmps28
    go_wp2
    go_quiet (fail)
    go_wp2
    go_ret
    exact⟨by rw[HR.out];rfl,_,rfl⟩
  ·have hd:decide (s.pos<l.length)=false:=by simp;omega
   have HR:Hid (s.isQ l t=false):=by simp[Hid,Rd.isQ,Rd.next,hb,hlt]
   go_enter Tryz.func28,Tryz.ntmps28
   go_wp2
   go_quiet (fail)
   go_wp2
   go_ret
   exact⟨by rw[HR.out];rfl,_,rfl⟩
end Go.Proofs.YtcpapceeekkacaaGreatDoor
