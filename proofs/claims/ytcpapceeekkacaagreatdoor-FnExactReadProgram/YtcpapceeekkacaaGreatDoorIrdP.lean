import Derived.Test.YtcpapceeekkacaaGreatDoorReadS
import Derived.BigQuiet
set_option maxRecDepth 100000
set_option maxHeartbeats 8000000
namespace Go.Proofs.YtcpapceeekkacaaGreatDoor
open Go.RowKit
def bg7 (s:ByteArray) (x:Sg):Prop:=∃ pos,pos<s.size∧ag3 (rest s pos)≠0∧al8 (ag3 (rest s pos)) (ab0 (rest s pos))=true∧x=sgOf s pos
theorem aM3 (s:ByteArray):∀ (f pos:Nat) (acc:List Sg),(∀ x∈acc,bg7 s x)→∀ x∈(aw1 s f pos acc).1,bg7 s x
 | 0,_,_,h=>h
 | f+1,pos,acc,h=>by
  unfold aw1
  split
  ·next hp =>
   split
   ·exact aM3 s f _ _ h
   ·next hk =>
    split
    ·next hq =>
     refine aM3 s f _ _ fun x hx=>?_
     rcases List.mem_append.1 hx with hx|hx
     ·exact h x hx
     ·rw[List.mem_singleton.1 hx]
      exact⟨pos,hp,hk,hq.1,rfl⟩
    ·intro x hx;cases hx
  ·exact h
theorem au7 (s:ByteArray):∀ x∈(ad2 s).1,bg7 s x:=by
 unfold ad2
 split
 ·intro x hx;cases hx
 ·exact aM3 s _ _ _ (fun x hx=>absurd hx (by simp))
theorem ax2 (s:ByteArray) (hs:s.size≤1048576):∀ x∈(ad2 s).1,x.text.size≤1048576:=fun x hx=>by
 obtain⟨pos,hp,_,_,rfl⟩:=au7 s x hx
 show (s.extract pos _).size≤_
 rw[ByteArray.size_extract]
 omega
theorem aS0 (s:ByteArray):∀ x∈(ad2 s).1,0≤x.place∧x.place<s.size:=fun x hx=>by
 obtain⟨pos,hp,_,_,rfl⟩:=au7 s x hx
 show 0≤((pos:Nat):Int)∧((pos:Nat):Int)<(s.size:Int)
 omega
def ae7 (l:List Sg):Rd×List Mo×List Pr :=
 ((Rd.processes l (l.length+1) (Rd.monitors l (l.length+1) ⟨0,false,[]⟩ []).1 []).1.must l (tx "."),(Rd.monitors l (l.length+1) ⟨0,false,[]⟩ []).2,(Rd.processes l (l.length+1) (Rd.monitors l (l.length+1) ⟨0,false,[]⟩ []).1 []).2)
structure PgSt (B g:Nat) (l:List Sg) (lv:Value) (w:World) (s:Rd) (xb:Nat) (cs:Array Value) (z:World):Prop where
 fin:aa8 (fun _=>False) B g l lv s w z
 box:Box z xb cs 26
 xlo:w.heap.size≤xb
theorem noL {w:World}:∀ b,(fun _=>False:Nat→Prop) b→b<w.heap.size:=fun _ h=>h.elim
theorem PgSt.call {B g:Nat}{l:List Sg}{lv:Value}{w:World}{s s':Rd}{xb:Nat}{cs:Array Value}{z z':World}(h:PgSt B g l lv w s xb cs z) (he:aa8 (fun _=>False) B g l lv s' z z'):PgSt B g l lv w s' xb cs z' :=
 ⟨h.fin.then' he,h.box.keep he.keep aa3.g,h.xlo⟩
theorem PgSt.drew {B g:Nat}{l:List Sg}{lv:Value}{w:World}{s:Rd}{xb:Nat}{cs:Array Value}{z:World}(h:PgSt B g l lv w s xb cs z):PgSt B g l lv w s xb cs z.drew :=
 ⟨h.fin.then' (aa8.below h.fin.at' (Below.refl _ _).drew h.fin.at'.heap),h.box,h.xlo⟩
theorem PgSt.put {B g:Nat}{l:List Sg}{lv:Value}{w:World}{s:Rd}{xb:Nat}{cs:Array Value}{z:World}(h:PgSt B g l lv w s xb cs z) (hB:B≤w.heap.size) (i:Nat) (u:Value):PgSt B g l lv w s xb (cs.setIfInBounds i u) (z.setCell ⟨xb,i,none⟩ u) :=
 ⟨h.fin.poke' noL hB aa3.g h.xlo h.box i u,h.box.set i u,h.xlo⟩
theorem PgSt.change {B g:Nat}{l:List Sg}{lv:Value}{w:World}{s:Rd}{xb:Nat}{cs:Array Value}{z z':World}(h:PgSt B g l lv w s xb cs z) (hf:aa8 (fun _=>False) B g l lv s w z') (hx:z'.heap[xb]? = z.heap[xb]?):PgSt B g l lv w s xb cs z' :=
 ⟨hf,hx.trans h.box,h.xlo⟩
theorem at1.chg {L:Nat→Prop}{B:Nat}{z:World}{v:Value}{ns:List Nd}{b:Nat}{cs:Array Value}{T:TypeId}(h:at1 L B z v ns) (hx:Box z b cs T) (hT:aa3 T) (i:Nat) (u:Value):at1 L B (z.setCell ⟨b,i,none⟩ u) v ns:=by
 obtain⟨css,n1,n2,n3,n4,n5⟩:=h
 have same:∀ {c:Nat}{ds:Array Value}{T':Nat}{fr:Nat×Nat},z.heap[c]? = some (Obj.cells ds T' fr)→¬ aa3 T'→(z.setCell ⟨b,i,none⟩ u).heap[c]? = some (Obj.cells ds T' fr):=fun {c ds T' fr} e hn=>by
  rw[Below.heap_setCell z ⟨b,i,none⟩ u c (fun e2=>by
   have e2:c=b:=e2
   subst e2
   have h9:z.heap[c]? = some (.cells cs T (0,0)):=hx
   rw[e]at h9
   injection h9 with h9
   injection h9 with _ h9 _
   exact hn (h9▸hT))]
  exact e
 refine⟨css,n1,n2,?_,fun j cs x hj hx=>?_,n5⟩
 ·obtain⟨m1,m2⟩:=n3
  refine⟨m1,?_⟩
  rcases m2 with m2|⟨g',cap,cur,rfl,hb1,hg',r⟩
  ·exact .inl m2
  ·exact .inr ⟨g',cap,cur,rfl,hb1,same hg' (fun a=>a.1 rfl),r⟩
 ·obtain⟨kv,e',ao,c,e2,hc2⟩:=n4 j cs x hj hx
  refine⟨kv,e',ao,c,e2,?_⟩
  rcases hc2 with hc2|⟨b,o',cs',fr,e3,h0,hh2,hr⟩
  ·exact .inl hc2
  ·exact .inr ⟨b,o',cs',fr,e3,h0,same hh2 (fun a=>a.2.2.2 rfl),hr⟩
theorem at1.shape {L:Nat→Prop}{B:Nat}{z:World}{v:Value}{ns:List Nd}(h:at1 L B z v ns):∃ ao c,v=.slice ao ns.length c:=by
 obtain⟨css,n1,n2,n3,n4,n5⟩:=h
 exact ab_ n3
theorem aa5.below {S:Nat→Prop}{z z':World}(hb:Below z.heap.size z z'):aa5 S z z':=fun b _ _ _ _ e=>(hb.block b (ag7 e)).trans e
theorem aN7 {P:Program}{fn:Func}{p q:Tmp}{ty:TypeId}(h:fn.results=#[.cell p ty,.tmp q]) (tmps:Array Value) (w:World) {a:Addr}(hp:tmps.getD p undef=.pointer (some a)) {v:Value}(hl:(loadVar ty a).run P w=.ok v w) :
  (results fn tmps).run P w=.ok (.tuple #[v,tmps.getD q undef]) w:=by
 have hp':tmps[p]?.getD undef=.pointer (some a):=by simpa using hp
 simp only[results,h]
 simp[hp',asAddr,hl]
theorem ap5 {P:Program}{fn:Func}{p q:Tmp}{ty:TypeId}{Q:Ending→World→Prop}{a:Act}{w:World}{g:Nat}{cs:Array Value}{t:TypeId}(hr:fn.results=#[.cell p ty,.tmp q]) (hp:a.tmps.getD p undef=.pointer (some ⟨g,0,none⟩)) (hb:Box w g cs t)
  (d:TypeDesc) (hu:P.underlying ty=some d) (hd:d.isRow=true) (hi:(P.info? ty).map (·.size)=some cs.size) (hdf:a.defers=[]) (h:Q (.returned (.tuple #[.agg cs,a.tmps.getD q undef])) w):bodyPost P fn Q .ret a w :=
 bodyPost_ret (aN7 hr a.tmps w hp (hb.read ty d hu hd hi)) hdf h
theorem RdAt.begin {B:Nat}{l:List Sg}{lo:Option Addr}{lc:Nat}{w:World}(ho:w.ownsRow 0 48 4 (.slice lo l.length lc) l.length (ac7 l)) (hB:B≤w.heap.size) :
  RdAt (fun _=>False) B w.heap.size l (.slice lo l.length lc) ⟨0,false,[]⟩ (w.alloc (.cells #[.slice lo l.length lc,.int .i64 0,.bool false,.slice none 0 0] 37)):=by
 refine⟨⟨.slice none 0 0,Box.made w _ _,[],rfl,(fun c hc=>absurd hc (by simp)),World.ownsRow_nil _ _ _ _,(fun j cs x h=>absurd h (by simp)),(fun b hb=>absurd hb (by simp[Value.ownBlock]))⟩,ho.alloc _,hB,Nat.zero_le _,nlr _,(fun b hb=>hb.elim),(fun h=>h)⟩
theorem at1.nds {B:Nat}{z:World}{v:Value}{ns:List Nd}(h:at1 (fun _=>False) B z v ns):af7 z v ns:=by
 obtain⟨css,h1,h2,h3,h4,_⟩:=h
 obtain⟨ao,c,rfl⟩:=ab_ h3
 refine⟨ao,c,rfl,fun j hj=>?_⟩
 obtain⟨cs,hcs⟩:∃ cs,css[j]? = some cs:=⟨css[j]'(by omega),List.getElem?_eq_getElem (by omega)⟩
 obtain⟨kv,e,hk⟩:=h4 j cs ns[j] hcs (List.getElem?_eq_getElem hj)
 rcases h3.2 with⟨e2,h0⟩|⟨g,cap,cur,e2,hb1,hg,hr,hm,hs,ht⟩
 ·omega
 ·injection e2 with e3 _ _
  subst e3
  have cell:∀ i u,i<6→cs[i]? = some u→z.cell? ⟨g,j*6+i,none⟩=some u:=fun i u hi hu=>by
   have e4:=chp hg (j*6+i)
   rw[e4]
   have e5:=az7 css j i cs h2 hcs hi
   rw[hu,←ht,List.getElem?_take_of_lt (by omega)]at e5
   simpa using e5
  have hadd:(⟨g,0,none⟩:Addr).add (j*6)=⟨g,j*6,none⟩:=by
   unfold Addr.add
   split
   ·next h0=>rw[h0]
   ·simp
  rw[e]at cell
  refine⟨⟨g,0,none⟩,kv,rfl,ag7 hg,?_⟩
  rw[hadd]
  exact⟨cell 0 _ (by decide) rfl,cell 1 _ (by decide) rfl,cell 2 _ (by decide) rfl,cell 3 _ (by decide) rfl,cell 4 _ (by decide) rfl,cell 5 _ (by decide) rfl,hk.at⟩
theorem ba8 {w:World}{ops:Array Oper}{o:Oper}{a:Act}{K:Act→World→Prop}{Q:Exit→Act→World→Prop}{E:Prop}(st e:TypeId) (k bytes:Nat) (zero:Value) (he:aa3 e) (hu:Tryz.prog.underlying st=some (.slice e)) (hinf:(Tryz.prog.info? e).map (fun i=>(i.zero,i.size,i.bytes))=some (some zero,k,bytes)) (hzs:zero.cells.size=k) (hk0:0<k) (hby:bytes≤1000) (hgd:o.guard=none) (sl x:Operand)
  (ho:o.op=.call { callee:=.builtin .append,args:=#[sl,x],argTypes:=#[st,st] })
  {L:Nat→Prop}{B g:Nat}{l:List Sg}{lv:Value}{w0:World}{s:Rd}{v:Value}{n:Nat}{xs:List Value}{cs:Array Value}{kb:Nat}(hkb:kb=w.heap.size) (h:aa8 L B g l lv s w0 w) (hL:∀ b,L b→b<w0.heap.size) (hB:B≤w0.heap.size) (hv:w.ownsRow w0.heap.size e k v n xs) (hs:a.eval sl=v) (hx:a.eval x=.slice (some ⟨kb,0,none⟩) 1 1) (hn:n≤2000000) (hcs:cs.size=k) (h1:∀ u∈cs.toList,u.oneCell'=true)
  (hK:∀ v' w',aa8 L B g l lv s w0 w'→w'.ownsRow w0.heap.size e k v' (n+1) (xs++cs.toList)→(∀ c,c<w.heap.size→v.ownBlock≠some c→w'.heap[c]? = w.heap[c]?)→w.heap.size≤w'.heap.size→K (a.put o.dst v') w'):if Region.wanted o (yielded ops a.tmps)=true then Oper.wp Tryz.prog o a (w.alloc (.cells cs e)) K Q else E:=by
 subst hkb
 obtain⟨i,hi,hz0,hz1,hz2⟩:=info_parts hinf
 have hs0:=h.keep.size
 have hw:Region.wanted o (yielded ops a.tmps)=true:=by simp[Region.wanted,hgd]
 rw[if_pos hw]
 have hb2:(n+1)*bytes≤140737488355328:=by
  have:(n+1)*bytes≤2000001*1000:=Nat.mul_le_mul (by omega) hby
  omega
 obtain⟨v',w',hr,hown,hgr,_,hob⟩:=run_append_own_at (P:=Tryz.prog) (w.alloc (.cells cs e)) w0.heap.size st o.type e i zero k bytes hu hi hz0 hz1 hz2 hzs hk0 v _ _ (hv.alloc _) ⟨w.heap.size,0,none⟩ 1 1 cs.toList (by simp[hcs]) (fun j u hj=>ag4 w cs e j u hj) h1 (by simp[maxLen];omega) hb2 (by simp;omega)
 unfold Oper.wp execOp
 simp only[ho,resolve,invoke,builtin,Sem.run_bind,Sem.run_pure,Result.andThen_ok,List.map_toArray,List.map_cons,List.map_nil,hs,hx,hr]
 have hsz:w.heap.size≤w'.heap.size:=by have:=hgr.size;simp at this;omega
 exact hK v' w' ((h.new _).grow hL hB he (hv.alloc _) hgr) hown (fun c hc hne=>(hgr.block c (by simp;omega) (fun e=>hne e.symm)).trans (Below.heap_alloc w _ c hc)) hsz
theorem Rd.monitor_pos (l:List Sg) (s:Rd):s.pos≤(s.monitor l).1.pos:=by
 unfold Rd.monitor
 dsimp only
 exact nlt (Rd.name_pos l s) (nlt (Rd.must_pos l _ _) (nlt (Rd.listed_pos l _ _) (nlt (Rd.listed_pos l _ _) (nlt (Rd.entries_pos l _ _ _) (nlt (Rd.must_pos l _ _) (Rd.must_pos l _ _))))))
theorem Rd.process_pos (l:List Sg) (s:Rd):s.pos≤(s.process l).1.pos:=by
 unfold Rd.process
 dsimp only
 have h0:(s.name l).1.pos≤(if (s.name l).1.isQ l (tx "uses")=true then (s.name l).1.on.names l else ((s.name l).1,[])).1.pos:=by
  split
  ·exact nlt (Nat.le_succ _) (Rd.names_pos l (s.name l).1.on)
  ·exact nlr _
 exact nlt (Rd.name_pos l s) (nlt h0 (nlt (Rd.must_pos l _ _) (nlt (Rd.listed_pos l _ _) (nlt (Rd.block_pos l _) (Rd.must_pos l _ _)))))
theorem Tryz.infoMo:(Tryz.prog.info? 41).map (fun i=>(i.zero,i.size,i.bytes))=some (some (.agg #[.string ⟨#[]⟩,.slice none 0 0,.slice none 0 0,.slice none 0 0]),4,88):=by kernel_rfl
theorem Tryz.infoPr:(Tryz.prog.info? 44).map (fun i=>(i.zero,i.size,i.bytes))=some (some (.agg #[.string ⟨#[]⟩,.slice none 0 0,.slice none 0 0,.int .i64 0]),4,72):=by kernel_rfl
def aa0 (T:Nat):Prop:=T≠74∧T≠52∧T≠48∧T≠3
structure ar7 (w w':World):Prop where
 size:w.heap.size≤w'.heap.size
 blk:∀ (b:Nat) (cs:Array Value) (T:Nat) (fr:Nat×Nat),T≠74→T≠52→w.heap[b]? = some (Obj.cells cs T fr)→w'.heap[b]? = some (Obj.cells cs T fr)
theorem ar7.refl (w:World):ar7 w w:=⟨nlr _,fun _ _ _ _ _ _ h=>h⟩
theorem ar7.trans {a b c:World}(h:ar7 a b) (k:ar7 b c):ar7 a c:=⟨nlt h.size k.size,fun b cs T fr h1 h2 h3=>k.blk b cs T fr h1 h2 (h.blk b cs T fr h1 h2 h3)⟩
theorem ar7.below {w w':World}(hb:Below w.heap.size w w'):ar7 w w':=⟨hb.size,fun b _ _ _ _ _ h=>(hb.block b (ag7 h)).trans h⟩
def IKid (L:Nat→Prop) (B:Nat) (w:World) (v:Value) (xs:List Int):Prop:=w.ownsRow B 3 1 v xs.length (xs.map I64)∧∀ b,v.ownBlock=some b→¬ L b
def ax7 (css:List (List Value)):Prop:=∀ (i j:Nat) (a b:List Value),i<j→css[i]? = some a→css[j]? = some b→∀ k,(a.getD 5 undef).ownBlock=some k→(b.getD 5 undef).ownBlock≠some k
def INode (L:Nat→Prop) (B:Nat) (w:World) (cs:List Value) (x:Nd):Prop:=∃ kv,cs=[.int .i64 x.kind,.int .i64 x.num,.string x.name,.string x.more,.string x.into,kv]∧IKid L B w kv x.kids
def ao8 (L:Nat→Prop) (B:Nat) (w:World) (v:Value) (ns:List Nd):Prop :=
 ∃ css:List (List Value),css.length=ns.length∧(∀ c∈css,c.length=6)∧w.ownsRow B 74 6 v ns.length css.flatten∧(∀ (j:Nat) (cs:List Value) (x:Nd),css[j]? = some cs→ns[j]? = some x→INode L B w cs x)∧(∀ b,v.ownBlock=some b→¬ L b)∧ax7 css
structure IAt (L:Nat→Prop) (B g:Nat) (sz:Int) (l:List Sg) (lv:Value) (s:Rd) (w:World):Prop where
 box:∃ nv,Box w g #[lv,.int .i64 (s.pos:Int),.int .i64 sz,nv] 52∧ao8 L B w nv s.nodes
 sg:SgT w lv l
 base:B≤g
 pos:s.pos≤l.length
 good:s.Good 0
 loose:∀ b,L b→b<w.heap.size
 gl:¬ L g
 fine:s.bad=false
 sl:∀ b,lv.ownBlock=some b→¬ L b
structure IEnd (L:Nat→Prop) (B g:Nat) (sz:Int) (l:List Sg) (lv:Value) (s':Rd) (w w':World):Prop where
 at':IAt L B g sz l lv s' w'
 keep:ar7 w w'
 bel:Below B w w'
 held:∀ b,L b→w'.heap[b]? = w.heap[b]?
theorem IEnd.refl {L:Nat→Prop}{B g:Nat}{sz:Int}{l:List Sg}{lv:Value}{s:Rd}{w:World}(h:IAt L B g sz l lv s w):IEnd L B g sz l lv s w w:=⟨h,ar7.refl _,Below.refl _ _,fun _ _=>rfl⟩
theorem IEnd.then' {L:Nat→Prop}{B g:Nat}{sz:Int}{l:List Sg}{lv:Value}{s s':Rd}{a b c:World}(h:IEnd L B g sz l lv s a b) (k:IEnd L B g sz l lv s' b c):IEnd L B g sz l lv s' a c:=⟨k.at',h.keep.trans k.keep,h.bel.trans k.bel,fun b hb=>(k.held b hb).trans (h.held b hb)⟩
theorem IAt.boxLt {L:Nat→Prop}{B g:Nat}{sz:Int}{l:List Sg}{lv:Value}{s:Rd}{w:World}(h:IAt L B g sz l lv s w):g<w.heap.size:=by
 obtain⟨nv,h1,_⟩:=h.box
 exact h1.lt
theorem IAt.heap {L:Nat→Prop}{B g:Nat}{sz:Int}{l:List Sg}{lv:Value}{s:Rd}{w:World}(h:IAt L B g sz l lv s w):B≤w.heap.size:=nlt h.base (Nat.le_of_lt h.boxLt)
theorem aj7 {z z':World}{base:Nat}{e:TypeId}{k n:Nat}{v:Value}{xs:List Value}(h:z.ownsRow base e k v n xs) (hc:∀ c cs fr,v.ownBlock=some c→z.heap[c]? = some (Obj.cells cs e fr)→z'.heap[c]? = z.heap[c]?):z'.ownsRow base e k v n xs:=by
 obtain⟨h1,h2⟩:=h
 refine⟨h1,?_⟩
 rcases h2 with h2|⟨g',cap,cur,rfl,hb1,hg',r⟩
 ·exact .inl h2
 ·exact .inr ⟨g',cap,cur,rfl,hb1,(hc g' cur _ rfl hg').trans hg',r⟩
theorem IAt.change {L L':Nat→Prop}{B g:Nat}{sz:Int}{l:List Sg}{lv:Value}{s:Rd}{w w':World}(h:IAt L B g sz l lv s w) (hL:∀ b,L' b→L b∨w.heap.size≤b) (hl:∀ b,L' b→b<w'.heap.size)
  (hc:∀ c,c<w.heap.size→w'.heap[c]? = w.heap[c]?∨(∃ cs T fr,w.heap[c]? = some (Obj.cells cs T fr)∧aa0 T)∨L c):IAt L' B g sz l lv s w':=by
 have hgl:=h.boxLt
 obtain⟨⟨nv,h1,css,n1,n2,n3,n4,n5,n6⟩,h3,h4,h5,h6,h7,h8,h9,h10⟩:=h
 have no:∀ c,c<w.heap.size→¬ L c→¬ L' c:=fun c hc0 hn hx=>by
  rcases hL c hx with hx|hx
  ·exact hn hx
  ·omega
 have same:∀ {c:Nat}{cs:Array Value}{T:Nat}{fr:Nat×Nat},w.heap[c]? = some (Obj.cells cs T fr)→¬ aa0 T→¬ L c→w'.heap[c]? = w.heap[c]? := fun {c cs T fr} e hT hn=>by
  rcases hc c (ag7 e) with e2|⟨cs',T',fr',e2,e3⟩|e2
  ·exact e2
  ·rw[e]at e2
   injection e2 with e2
   injection e2 with _ e2 _
   subst e2
   exact absurd e3 hT
  ·exact absurd e2 hn
 refine⟨⟨nv,(same h1 (fun a=>a.2.1 rfl) h8).trans h1,css,n1,n2,aj7 n3 (fun c cs fr hv e=>same e (fun a=>a.1 rfl) (n5 c hv)),fun j cs x hj hx=>?_,fun b hb=>no b (n3.lt b hb).2 (n5 b hb),n6⟩,aj7 h3 (fun c cs fr hv e=>same e (fun a=>a.2.2.1 rfl) (h10 c hv)),h4,h5,h6,hl,no g hgl h8,h9,fun b hb=>no b (h3.lt b hb).2 (h10 b hb)⟩
 obtain⟨kv,e,a1,a2⟩:=n4 j cs x hj hx
 exact⟨kv,e,aj7 a1 (fun c cs fr hv e=>same e (fun a=>a.2.2.2 rfl) (a2 c hv)),fun b hb=>no b (a1.lt b hb).2 (a2 b hb)⟩
theorem IEnd.change {L:Nat→Prop}{B g:Nat}{sz:Int}{l:List Sg}{lv:Value}{s:Rd}{w0 z z':World}(h:IEnd L B g sz l lv s w0 z) (hL:∀ b,L b→b<w0.heap.size) (M:Nat→Prop) (hM:IAt M B g sz l lv s z) (hbel:Below B z z')
  (hc:∀ c,c<z.heap.size→z'.heap[c]? = z.heap[c]?∨(w0.heap.size≤c∧((∃ cs T fr,z.heap[c]? = some (Obj.cells cs T fr)∧aa0 T)∨M c))) (hLM:∀ b,L b→M b):IEnd L B g sz l lv s w0 z':=by
 have hk:=h.keep
 have old:∀ c,c<w0.heap.size→z'.heap[c]? = z.heap[c]? := fun c hc0=>by
  rcases hc c (nll hc0 hk.size) with e|⟨e,_⟩
  ·exact e
  ·omega
 exact⟨hM.change (fun b hb=>.inl (hLM b hb)) (fun b hb=>nll (hL b hb) (nlt hk.size hbel.size)) (fun c hc0=>(hc c hc0).imp id (fun e=>e.2)),
  ⟨nlt hk.size hbel.size,fun b cs T fr t1 t2 e=>(old b (ag7 e)).trans (hk.blk b cs T fr t1 t2 e)⟩,h.bel.trans hbel,fun b hb2=>(old b (hL b hb2)).trans (h.held b hb2)⟩
theorem IAt.below {L:Nat→Prop}{B g:Nat}{sz:Int}{l:List Sg}{lv:Value}{s:Rd}{w w':World}(h:IAt L B g sz l lv s w) (hb:Below w.heap.size w w'):IAt L B g sz l lv s w' :=
 h.change (fun _b hb=>.inl hb) (fun b hb2=>nll (h.loose b hb2) hb.size) (fun c hc=>.inl (hb.block c hc))
theorem IEnd.below {L:Nat→Prop}{B g:Nat}{sz:Int}{l:List Sg}{lv:Value}{s:Rd}{w w':World}(h:IAt L B g sz l lv s w) (hb:Below w.heap.size w w'):IEnd L B g sz l lv s w w':=⟨h.below hb,ar7.below hb,hb.mono h.heap,fun b hL=>hb.block b (h.loose b hL)⟩
theorem IAt.hold {L:Nat→Prop}{B g:Nat}{sz:Int}{l:List Sg}{lv:Value}{s:Rd}{w:World}(h:IAt L B g sz l lv s w) (o:Obj):IAt (fun b=>L b∨b=w.heap.size) B g sz l lv s (w.alloc o) :=
 h.change (fun b hb=>hb.imp id (fun e=>Nat.le_of_eq e.symm)) (fun b hb=>by
  rw[show (w.alloc o).heap.size=w.heap.size+1 by simp]
  rcases hb with hb|hb
  ·have:=h.loose b hb;omega
  ·omega) (fun c hc=>.inl (Below.heap_alloc w o c hc))
theorem IEnd.new {L:Nat→Prop}{B g:Nat}{sz:Int}{l:List Sg}{lv:Value}{s:Rd}{w W:World}(h:IEnd L B g sz l lv s w W) (o:Obj):IEnd L B g sz l lv s w (W.alloc o):=h.then' (IEnd.below h.at' (bal _ o))
theorem IAt.cells {L:Nat→Prop}{B g:Nat}{sz:Int}{l:List Sg}{lv:Value}{s:Rd}{w:World}(h:IAt L B g sz l lv s w):∃ nv,w.cell? ⟨g,0,none⟩=some lv∧w.cell? ⟨g,1,none⟩=some (.int .i64 (s.pos:Int))∧w.cell? ⟨g,2,none⟩=some (.int .i64 sz)∧w.cell? ⟨g,3,none⟩=some nv∧∀ i,w.frozen? ⟨g,i,none⟩=false:=by
 obtain⟨⟨nv,h1,_⟩,_⟩:=h
 exact⟨nv,chp h1 0,chp h1 1,chp h1 2,chp h1 3,fun i=>fhp h1 i⟩
theorem IAt.slice {L:Nat→Prop}{B g:Nat}{sz:Int}{l:List Sg}{lv:Value}{s:Rd}{w:World}(h:IAt L B g sz l lv s w):∃ ao c,lv=.slice ao l.length c:=ab_ h.sg
theorem IAt.sign {L:Nat→Prop}{B g:Nat}{sz:Int}{l:List Sg}{lv:Value}{s:Rd}{w:World}(h:IAt L B g sz l lv s w) {j:Nat}(hj:j<l.length):∃ a c p,lv=.slice (some a) l.length c∧a.add (j*4)=p∧w.cell? p=some (.int .i64 l[j].kind)∧w.cell? { block:=p.block,off:=p.off+1 }=some (.string l[j].text)∧w.cell? { block:=p.block,off:=p.off+2 }=some (.int .i64 l[j].num)∧w.cell? { block:=p.block,off:=p.off+3 }=some (.int .i64 l[j].place):=by
 obtain⟨ao,c,e,hc⟩:=(SgAt.own h.sg).1
 obtain⟨a,rfl,_,h2⟩:=hc j hj
 obtain⟨f0,f1,f2,f3⟩:=h2.facts
 exact⟨a,c,_,e,rfl,f0,f1,f2,f3⟩
theorem IEnd.on {L:Nat→Prop}{B g:Nat}{sz:Int}{l:List Sg}{lv:Value}{s:Rd}{w:World}(h:IAt L B g sz l lv s w) (hp:s.pos<l.length):IEnd L B g sz l lv s.on w (w.setCell ⟨g,1,none⟩ (.int .i64 ((s.pos:Int)+1))):=by
 obtain⟨⟨nv,h1,css,n1,n2,n3,n4,n5,n6⟩,h3,h4,h5,h6,h7,h8,h9,h10⟩:=h
 have ot:∀ {c:Nat}{cs:Array Value}{T:Nat}{fr:Nat×Nat},w.heap[c]? = some (Obj.cells cs T fr)→T≠52→(w.setCell ⟨g,1,none⟩ (.int .i64 ((s.pos:Int)+1))).heap[c]? = w.heap[c]? := fun {c cs T fr} e hT =>
  Below.heap_setCell w ⟨g,1,none⟩ _ c (fun e2=>by
   have e2:c=g:=e2
   subst e2
   have h9:w.heap[c]? = some (.cells _ 52 (0,0)):=h1
   rw[e]at h9
   injection h9 with h9
   injection h9 with _ h9 _
   exact hT h9)
 refine⟨⟨⟨nv,?_,css,n1,n2,aj7 n3 (fun c cs fr _ e=>ot e (by decide)),fun j cs x hj hx=>?_,n5,n6⟩,aj7 h3 (fun c cs fr _ e=>ot e (by decide)),h4,hp,h6.on.less,fun b hb=>by simpa [World.setCell] using h7 b hb,h8,h9,h10⟩,⟨by simp[World.setCell],fun b cs T fr _ t2 e=>(ot e t2).trans e⟩,(Below.refl _ _).setCell h4 _,fun b hb=>Below.heap_setCell w ⟨g,1,none⟩ _ b (fun e=>h8 ((show b=g from e)▸hb))⟩
 ·have:=h1.set 1 (.int .i64 ((s.pos:Int)+1))
  simpa [Rd.on] using this
 ·obtain⟨kv,e,a1,a2⟩:=n4 j cs x hj hx
  exact⟨kv,e,aj7 a1 (fun c cs fr _ e=>ot e (by decide)),a2⟩
def sgAt (sz:Int) (l:List Sg) (s:Rd):Sg:=match l[s.pos]? with
 | some x=>x
 | none=>⟨0,ByteArray.empty,0,sz⟩
theorem IEnd.drewN {L:Nat→Prop}{B g:Nat}{sz:Int}{l:List Sg}{lv:Value}{s:Rd}{w:World}(h:IAt L B g sz l lv s w) (q:Nat):IEnd L B g sz l lv s w (w.drewN q):=IEnd.below h ⟨rfl,rfl,rfl,nlr _,fun _ _=>rfl⟩
def set4 (w:World) (b:Nat) (u0 u1 u2 u3:Value):World:=(((w.setCell ⟨b,0,none⟩ u0).setCell ⟨b,1,none⟩ u1).setCell ⟨b,2,none⟩ u2).setCell ⟨b,3,none⟩ u3
theorem bm0 (w:World) (b:Nat) (u0 u1 u2 u3:Value):(∀ c,c≠b→(set4 w b u0 u1 u2 u3).heap[c]? = w.heap[c]?)∧∀ B,B≤b→Below B w (set4 w b u0 u1 u2 u3) :=
 ⟨fun c hc=>(Below.heap_setCell _ ⟨b,3,none⟩ u3 c hc).trans ((Below.heap_setCell _ ⟨b,2,none⟩ u2 c hc).trans ((Below.heap_setCell _ ⟨b,1,none⟩ u1 c hc).trans (Below.heap_setCell _ ⟨b,0,none⟩ u0 c hc))),
  fun B hB=>((((Below.refl B w).setCell (p:=⟨b,0,none⟩) hB u0).setCell (p:=⟨b,1,none⟩) hB u1).setCell (p:=⟨b,2,none⟩) hB u2).setCell (p:=⟨b,3,none⟩) hB u3⟩
theorem ay3 {L:Nat→Prop}{B g:Nat}{sz:Int}{l:List Sg}{lv:Value}{s:Rd}(w:World) (h:IAt L B g sz l lv s w) :
  Calls Tryz.prog 96 #[.pointer (some ⟨g,0,none⟩)] w fun e w'=>e=.returned (.agg #[.int .i64 (sgAt sz l s).kind,.string (sgAt sz l s).text,.int .i64 (sgAt sz l s).num,.int .i64 (sgAt sz l s).place])∧IEnd L B g sz l lv s w w':=by
 have hgl:=h.boxLt
 have LO:=qb h.loose
 have HBL:=qb h.heap
 have E0:=qb ((IEnd.refl h).new (.cells #[.int .i64 0,.string ⟨#[]⟩,.int .i64 0,.int .i64 0] 48))
 have X0:=qb (Box.made w #[.int .i64 0,.string ⟨#[]⟩,.int .i64 0,.int .i64 0] 48)
 obtain⟨nv,c0,c1,c2,c3,f⟩:=E0.out.at'.cells
 obtain⟨ao,cp,e⟩:=h.slice
 subst e
 have hp:=h.pos
 by_cases hlt:s.pos<l.length
 ·have HS:Hid (sgAt sz l s=l[s.pos]):=by simp[Hid,sgAt,hlt]
  obtain⟨a,c',p,e,ha,d0,d1,d2,d3⟩:=E0.out.at'.sign hlt
  injection e with e1 e2 e3
  subst e1 e3
  obtain⟨x,ex⟩:∃ x,x=l[s.pos]:=⟨_,rfl⟩
  rw[←ex]at d0 d1 d2 d3 HS
  have hi0:(0:Int)≤(s.pos:Int):=by omega
  have hi1:(s.pos:Int)<(l.length:Int):=by omega
  have hd:decide (s.pos<l.length)=true:=by simp[hlt]
  rw[HS.out]
  have HX:=qb ex
  have H:=qb h
  clear ex e2 h hp
  go_enter Tryz.func96,Tryz.ntmps96
  go_wp2
  go_quiet (fail)
  go_wp2
  have M0:=qb (((H.out.hold (.cells #[.int .i64 0,.string ⟨#[]⟩,.int .i64 0,.int .i64 0] 48)).below (w':=(w.alloc (.cells #[.int .i64 0,.string ⟨#[]⟩,.int .i64 0,.int .i64 0] 48)).drewN nq) ⟨rfl,rfl,rfl,nlr _,fun _ _=>rfl⟩))
  have E1:=qb (E0.out.then' (IEnd.drewN E0.out.at' nq))
  have X1:Hid (Box ((w.alloc (.cells #[.int .i64 0,.string ⟨#[]⟩,.int .i64 0,.int .i64 0] 48)).drewN nq) w.heap.size #[.int .i64 0,.string ⟨#[]⟩,.int .i64 0,.int .i64 0] 48):=X0.out
  obtain⟨rb,hrb⟩:∃ rb,rb=w.heap.size:=⟨_,rfl⟩
  have HRB:=qb hrb
  rw[←hrb]at M0 X1 ⊢
  clear hrb
  generalize (w.alloc (.cells #[.int .i64 0,.string ⟨#[]⟩,.int .i64 0,.int .i64 0] 48)).drewN nq=W at M0 E1 X1 ⊢
  clear c0 c1 c2 c3 f d0 d1 d2 d3
  obtain⟨nv,c0,c1,c2,c3,f⟩:=E1.out.at'.cells
  obtain⟨a',c'',p',e,ha',d0,d1,d2,d3⟩:=E1.out.at'.sign hlt
  injection e with e1 e2 e3
  injection e1 with e1
  subst e1
  rw[ha]at ha'
  subst ha'
  rw[←HX.out]at d0 d1 d2 d3
  have x0:=chp X1.out 0
  have x1:=chp X1.out 1
  have x2:=chp X1.out 2
  have x3:=chp X1.out 3
  have g0:=fhp X1.out 0
  have g1:=fhp X1.out 1
  have g2:=fhp X1.out 2
  have g3:=fhp X1.out 3
  simp at x0 x1 x2 x3
  clear e2 e3 E0 X0
  have HW:=qb (bm0 W rb (.int .i64 x.kind) (.string x.text) (.int .i64 x.num) (.int .i64 x.place))
  have XF:Hid (Box (set4 W rb (.int .i64 x.kind) (.string x.text) (.int .i64 x.num) (.int .i64 x.place)) rb #[.int .i64 x.kind,.string x.text,.int .i64 x.num,.int .i64 x.place] 48):=by
   have:=(((X1.out.set 0 (.int .i64 x.kind)).set 1 (.string x.text)).set 2 (.int .i64 x.num)).set 3 (.int .i64 x.place)
   simpa [Hid,set4] using this
  have EF:=qb (E1.out.change LO.out (fun b=>L b∨b=rb) M0.out (HW.out.2 B (by rw[HRB.out];exact HBL.out)) (fun c hc=>by
   by_cases hcr:c=rb
   ·exact .inr ⟨by rw[hcr,HRB.out];exact nlr _,.inr (.inr hcr)⟩
   ·exact .inl (HW.out.1 c hcr)) (fun b hb=>.inl hb))
  have EG:=qb (EF.out.then' (IEnd.drewN EF.out.at' 1))
  clear HW EF
  go_region
  all_goals go_wp2
  all_goals refine an9 (g:=rb) (t:=48) (cs:=#[.int .i64 x.kind,.string x.text,.int .i64 x.num,.int .i64 x.place]) rfl rfl XF.out _ Tryz.underlying48 rfl (by kernel_rfl) rfl ?_
  all_goals exact⟨rfl,EG.out⟩
 ·have HS:Hid (sgAt sz l s=⟨0,ByteArray.empty,0,sz⟩):=by
   simp only[Hid,sgAt,List.getElem?_eq_none (Nat.le_of_not_lt hlt)]
  rw[HS.out]
  have hi1:¬ (s.pos:Int)<(l.length:Int):=by omega
  have H:=qb h
  clear h hp
  go_enter Tryz.func96,Tryz.ntmps96
  go_wp2
  go_quiet (fail)
  go_wp2_with fail
  have M0:=qb (((H.out.hold (.cells #[.int .i64 0,.string ⟨#[]⟩,.int .i64 0,.int .i64 0] 48)).below (w':=(w.alloc (.cells #[.int .i64 0,.string ⟨#[]⟩,.int .i64 0,.int .i64 0] 48)).drewN nq) ⟨rfl,rfl,rfl,nlr _,fun _ _=>rfl⟩))
  have E1:=qb (E0.out.then' (IEnd.drewN E0.out.at' nq))
  have X1:Hid (Box ((w.alloc (.cells #[.int .i64 0,.string ⟨#[]⟩,.int .i64 0,.int .i64 0] 48)).drewN nq) w.heap.size #[.int .i64 0,.string ⟨#[]⟩,.int .i64 0,.int .i64 0] 48):=X0.out
  obtain⟨rb,hrb⟩:∃ rb,rb=w.heap.size:=⟨_,rfl⟩
  have HRB:=qb hrb
  rw[←hrb]at M0 X1 ⊢
  clear hrb
  generalize (w.alloc (.cells #[.int .i64 0,.string ⟨#[]⟩,.int .i64 0,.int .i64 0] 48)).drewN nq=W at M0 E1 X1 ⊢
  have HW:=qb (bm0 W rb (.int .i64 0) (.string ⟨#[]⟩) (.int .i64 0) (.int .i64 sz))
  have XF:Hid (Box (set4 W rb (.int .i64 0) (.string ⟨#[]⟩) (.int .i64 0) (.int .i64 sz)) rb #[.int .i64 0,.string ⟨#[]⟩,.int .i64 0,.int .i64 sz] 48):=by
   have:=(((X1.out.set 0 (.int .i64 0)).set 1 (.string ⟨#[]⟩)).set 2 (.int .i64 0)).set 3 (.int .i64 sz)
   simpa [Hid,set4] using this
  have EF:=qb (E1.out.change LO.out (fun b=>L b∨b=rb) M0.out (HW.out.2 B (by rw[HRB.out];exact HBL.out)) (fun c hc=>by
   by_cases hcr:c=rb
   ·exact .inr ⟨by rw[hcr,HRB.out];exact nlr _,.inr (.inr hcr)⟩
   ·exact .inl (HW.out.1 c hcr)) (fun b hb=>.inl hb))
  refine an9 (g:=rb) (t:=48) (cs:=#[.int .i64 0,.string ⟨#[]⟩,.int .i64 0,.int .i64 sz]) rfl rfl XF.out _ Tryz.underlying48 rfl (by kernel_rfl) rfl ?_
  exact⟨rfl,EF.out⟩
theorem bh5 (x:Sg):∀ w:World,(Instr.field 48 (.agg #[.int .i64 x.kind,.string x.text,.int .i64 x.num,.int .i64 x.place]) 1).run Tryz.prog w=.ok (.string x.text) w:=fun _=>by kernel_rfl
theorem fieldS3 (x:Sg):∀ w:World,(Instr.field 48 (.agg #[.int .i64 x.kind,.string x.text,.int .i64 x.num,.int .i64 x.place]) 3).run Tryz.prog w=.ok (.int .i64 x.place) w:=fun _=>by kernel_rfl
def aG5 (p:Int):List PanicEntry:=[{ v:=.iface 79 (.agg #[.int .i64 p]),recovered:=false }]
theorem aE_ {L:Nat→Prop}{B g:Nat}{sz:Int}{l:List Sg}{lv:Value}{s:Rd}(w:World) (h:IAt L B g sz l lv s w) :
  Calls Tryz.prog 78 #[.pointer (some ⟨g,0,none⟩)] w fun e w'=>e=.panicked (aG5 (sgAt sz l s).place)∧IEnd L B g sz l lv s w w':=by
 have C:=qb (ay3 w h)
 obtain⟨x,hx⟩:∃ x,sgAt sz l s=x:=⟨_,rfl⟩
 rw[hx]at C ⊢
 have F3:=fieldS3 x
 clear hx h
 go_enter Tryz.func78,Tryz.ntmps78
 go_wp2_with (go_at_call 96;refine(qa C).mono ?_;rintro e w1⟨rfl,he⟩;have K1:=qb he;clear he)
 exact⟨rfl,rfl,K1.out⟩
theorem bc9 {L:Nat→Prop}{B g:Nat}{sz:Int}{l:List Sg}{lv:Value}{s:Rd}(t:ByteArray) (w:World) (h:IAt L B g sz l lv s w) (hl:l.length≤1048576) (ht:t.toList≠[]) :
  Calls Tryz.prog 74 #[.pointer (some ⟨g,0,none⟩),.string t] w fun e w'=>e=.returned (.bool ((sgAt sz l s).text.toList == t.toList))∧IEnd L B g sz l lv (if ((sgAt sz l s).text.toList == t.toList)=true then s.on else s) w w':=by
 have C:=qb (ay3 w h)
 have hlt:((sgAt sz l s).text.toList == t.toList)=true→s.pos<l.length:=fun e=>by
  rcases Nat.lt_or_ge s.pos l.length with h1|h1
  ·exact h1
  ·simp only[sgAt,List.getElem?_eq_none h1]at e
   exact absurd (by simpa using (beq_iff_eq.1 e).symm) ht
 obtain⟨x,hx⟩:∃ x,sgAt sz l s=x:=⟨_,rfl⟩
 rw[hx]at C hlt ⊢
 have F1:=bh5 x
 have hp:=h.pos
 clear hx h ht
 cases hq:(x.text.toList == t.toList) with
 | true =>
  have hwr:wrap64 ((s.pos:Int)+1)=(s.pos:Int)+1:=IntWalk.wrap64_in _ (by omega)
  have hlt:=hlt hq
  rw[if_pos rfl]
  go_enter Tryz.func74,Tryz.ntmps74
  go_wp2_with (go_at_call 96;refine(qa C).mono ?_;rintro e w1⟨rfl,he⟩;have K1:=qb he;have K2:=qb (K1.out.then' (IEnd.on K1.out.at' hlt));obtain⟨nv,c0,c1,c2,c3,f⟩:=K1.out.at'.cells;have f1:=f 1;clear he)
  go_ret
  exact⟨rfl,K2.out⟩
 | false =>
  rw[if_neg (by simp)]
  go_enter Tryz.func74,Tryz.ntmps74
  go_wp2_with (go_at_call 96;refine(qa C).mono ?_;rintro e w1⟨rfl,he⟩;have K1:=qb he;clear he)
  go_ret
  exact⟨rfl,K1.out⟩
section
variable (l:List Sg)
def Rd.At (p:Nat) (s:Rd):Prop:=s.bad=true∧s.pos=p
theorem Rd.At.isQ {p:Nat}{s:Rd}(h:s.At p) (t:ByteArray):s.isQ l t=false:=Rd.isQ_bad l h.1 t
theorem Rd.At.must {p:Nat}{s:Rd}(h:s.At p) (t:ByteArray):(s.must l t).At p:=by
 unfold Rd.must
 rw[h.isQ l t]
 exact⟨rfl,h.2⟩
theorem Rd.At.name {p:Nat}{s:Rd}(h:s.At p):(s.name l).1.At p:=by
 have e:s.nameQ l=none:=by simp[Rd.nameQ,Rd.next,h.1]
 unfold Rd.name
 rw[e]
 exact⟨rfl,h.2⟩
theorem Rd.At.put {p:Nat}{s:Rd}(h:s.At p) (x:Nd):(s.put x).1.At p:=by
 unfold Rd.put
 rw[h.1]
 exact h
def Rd.Stays (f:Rd→Rd×Int):Prop:=∀ (p:Nat) (s:Rd),s.At p→(f s).1.At p
theorem Rd.At.many {ops:List ByteArray}{k0:Int}{sub:Rd→Rd×Int}{p:Nat}{s:Rd}(h:s.At p) (n:Nat) (k:Int):(Rd.many l ops k0 sub n s k).1.At p:=by
 cases n with
 | zero=>exact h
 | succ n=>rw[Rd.many,h.1];exact h
theorem Rd.Stays.factorW (val fac:Rd→Rd×Int):Rd.Stays (Rd.factorW l val fac):=fun p s h=>by
 have e:s.next l=none:=by simp[Rd.next,h.1]
 unfold Rd.factorW
 rw[e]
 exact⟨rfl,h.2⟩
variable {l}
theorem Rd.Stays.termW {fac:Rd→Rd×Int}(hf:Rd.Stays fac):Rd.Stays (Rd.termW l fac):=fun p s h=>Rd.At.many l (hf p s h) _ _
theorem Rd.Stays.sumW {fac:Rd→Rd×Int}(hf:Rd.Stays fac):Rd.Stays (Rd.sumW l fac):=fun p s h=>Rd.At.many l (Rd.Stays.termW hf p s h) _ _
theorem Rd.Stays.partW {fac:Rd→Rd×Int}(hf:Rd.Stays fac):Rd.Stays (Rd.partW l fac):=fun p s h=>by
 have h1:=Rd.Stays.sumW (l:=l) hf p s h
 unfold Rd.partW
 dsimp only
 rw[Rd.op_bad l h1.1]
 simpa using h1
theorem Rd.Stays.valueW {fac:Rd→Rd×Int}(hf:Rd.Stays fac):Rd.Stays (Rd.valueW l fac):=fun p s h=>Rd.At.many l (Rd.Stays.partW hf p s h) _ _
theorem Rd.Stays.value:Rd.Stays (Rd.value l):=Rd.Stays.valueW (Rd.Stays.factorW l _ _)
theorem Rd.Stays.deepV:∀ n,Rd.Stays (Rd.deepV l n).1∧Rd.Stays (Rd.deepV l n).2
 | 0=>⟨fun _ _ h=>h,fun _ _ h=>h⟩
 | _n+1=>⟨Rd.Stays.valueW (Rd.Stays.factorW l _ _),Rd.Stays.factorW l _ _⟩
theorem Rd.Stays.stmtW (blk:Rd→Rd×Int):Rd.Stays (Rd.stmtW l blk):=fun p s h=>by
 unfold Rd.stmtW
 simp only[h.isQ l,if_false,Bool.false_eq_true]
 exact Rd.At.put (Rd.Stays.value p _ (Rd.At.must l (Rd.At.name l h) _)) _
theorem Rd.At.more {stmt:Rd→Rd×Int}{p:Nat}{s:Rd}(h:s.At p) (n:Nat) (ks:List Int):(Rd.more l stmt n s ks).1.At p:=by
 cases n with
 | zero=>exact h
 | succ n=>rw[Rd.more,h.isQ l];exact h
theorem Rd.Stays.blockW {stmt:Rd→Rd×Int}(hs:Rd.Stays stmt):Rd.Stays (Rd.blockW l stmt):=fun p s h=>by
 unfold Rd.blockW
 dsimp only
 exact Rd.At.put (Rd.At.must l (Rd.At.more (hs p _ (Rd.At.must l h _)) _ _) _) _
theorem Rd.Stays.deepB:∀ n,Rd.Stays (Rd.deepB l n).1∧Rd.Stays (Rd.deepB l n).2
 | 0=>⟨fun _ _ h=>h,fun _ _ h=>h⟩
 | _n+1=>⟨Rd.Stays.blockW (Rd.Stays.stmtW _),Rd.Stays.stmtW _⟩
theorem Rd.Stays.block:Rd.Stays (Rd.block l):=(Rd.Stays.deepB _).1
theorem Rd.At.comma {p:Nat}{s:Rd}(h:s.At p) (n:Nat) (ns:List ByteArray):(Rd.comma l n s ns).1.At p:=by
 cases n with
 | zero=>exact h
 | succ n=>rw[Rd.comma,h.isQ l];exact h
theorem Rd.At.listed {p:Nat}{s:Rd}(h:s.At p) (t:ByteArray):(s.listed l t).1.At p:=by
 unfold Rd.listed
 rw[h.isQ l]
 exact h
theorem Rd.At.entries {p:Nat}{s:Rd}(h:s.At p) (n:Nat) (es:List En):(Rd.entries l n s es).1.At p:=by
 cases n with
 | zero=>exact h
 | succ n=>rw[Rd.entries,h.isQ l];exact h
theorem Rd.At.monitors {p:Nat}{s:Rd}(h:s.At p) (n:Nat) (ms:List Mo):(Rd.monitors l n s ms).1.At p:=by
 cases n with
 | zero=>exact h
 | succ n=>rw[Rd.monitors,h.isQ l];exact h
theorem Rd.At.processes {p:Nat}{s:Rd}(h:s.At p) (n:Nat) (ps:List Pr):(Rd.processes l n s ps).1.At p:=by
 cases n with
 | zero=>exact h
 | succ n=>rw[Rd.processes,h.isQ l];exact h
end
structure ag8 (l:List Sg):Prop where
 word:∀ x∈l,x.kind=2→∃ b r,x.text.toList=b :: r∧ad0 b.toNat=true
 name:∀ x∈l,aa7 x.text=true→x.kind=1
def ae9 (t:ByteArray):Bool:=match t.toList with
 | b :: _=>!ad0 b.toNat
 | []=>false
end Go.Proofs.YtcpapceeekkacaaGreatDoor
