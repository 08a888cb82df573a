import Derived.Test.YtcpapceeekkacaaGreatDoorNamesW
import Derived.Test.YtcpapceeekkacaaGreatDoorStaW
set_option maxRecDepth 100000
set_option maxHeartbeats 8000000
namespace Go.Proofs.YtcpapceeekkacaaGreatDoor
open Go.RowKit
structure at7 (L:Nat→Prop) (B g:Nat) (l:List Sg) (lv:Value) (w:World) (s:Rd) (rb xb:Nat) (T:TypeId) (rs cs:Array Value) (z:World):Prop where
 fin:aa8 L B g l lv s w z
 res:Box z rb rs T
 box:Box z xb cs T
 rlo:w.heap.size≤rb
 xlo:w.heap.size≤xb
 ne:rb≠xb
theorem at7.call {L:Nat→Prop}{B g:Nat}{l:List Sg}{lv:Value}{w:World}{s s':Rd}{rb xb:Nat}{T:TypeId}{rs cs:Array Value}{z z':World}(h:at7 L B g l lv w s rb xb T rs cs z) (hT:aa3 T) (he:aa8 L B g l lv s' z z'):at7 L B g l lv w s' rb xb T rs cs z' :=
 ⟨h.fin.then' he,h.res.keep he.keep hT,h.box.keep he.keep hT,h.rlo,h.xlo,h.ne⟩
theorem at7.put {L:Nat→Prop}{B g:Nat}{l:List Sg}{lv:Value}{w:World}{s:Rd}{rb xb:Nat}{T:TypeId}{rs cs:Array Value}{z:World}(h:at7 L B g l lv w s rb xb T rs cs z) (hT:aa3 T) (hL:∀ b,L b→b<w.heap.size) (hB:B≤w.heap.size) (i:Nat) (u:Value):at7 L B g l lv w s rb xb T rs (cs.setIfInBounds i u) (z.setCell ⟨xb,i,none⟩ u) :=
 ⟨h.fin.poke' hL hB hT h.xlo h.box i u,h.res.other _ _ h.ne,h.box.set i u,h.rlo,h.xlo,h.ne⟩
theorem at7.out {L:Nat→Prop}{B g:Nat}{l:List Sg}{lv:Value}{w:World}{s:Rd}{rb xb:Nat}{T:TypeId}{rs cs:Array Value}{z:World}(h:at7 L B g l lv w s rb xb T rs cs z) (hT:aa3 T) (hL:∀ b,L b→b<w.heap.size) (hB:B≤w.heap.size) (i:Nat) (u:Value):at7 L B g l lv w s rb xb T (rs.setIfInBounds i u) cs (z.setCell ⟨rb,i,none⟩ u) :=
 ⟨h.fin.poke' hL hB hT h.rlo h.res i u,h.res.set i u,h.box.other _ _ (Ne.symm h.ne),h.rlo,h.xlo,h.ne⟩
theorem at7.change {L:Nat→Prop}{B g:Nat}{l:List Sg}{lv:Value}{w:World}{s:Rd}{rb xb:Nat}{T:TypeId}{rs cs:Array Value}{z z':World}(h:at7 L B g l lv w s rb xb T rs cs z) (hf:aa8 L B g l lv s w z') (hr:z'.heap[rb]? = z.heap[rb]?) (hx:z'.heap[xb]? = z.heap[xb]?):at7 L B g l lv w s rb xb T rs cs z' :=
 ⟨hf,hr.trans h.res,hx.trans h.box,h.rlo,h.xlo,h.ne⟩
theorem tx6:tx "uses" = ⟨#[117,115,101,115]⟩∧tx "var" = ⟨#[118,97,114]⟩∧tx "queue" = ⟨#[113,117,101,117,101]⟩∧tx "entry" = ⟨#[101,110,116,114,121]⟩∧tx "monitor" = ⟨#[109,111,110,105,116,111,114]⟩∧tx "process" = ⟨#[112,114,111,99,101,115,115]⟩∧tx "." = ⟨#[46]⟩:=by decide +kernel
def an_ (base:Nat) (z:World) (cs:Array Value) (x:Pr):Prop :=
 ∃ ao c bo d,cs=#[.string x.name,.slice ao x.uses.length c,.slice bo x.vars.length d,.int .i64 x.body]∧z.ownsRow base 9 1 (.slice ao x.uses.length c) x.uses.length (x.uses.map Value.string)∧z.ownsRow base 9 1 (.slice bo x.vars.length d) x.vars.length (x.vars.map Value.string)
theorem ag4 (w:World) (cs:Array Value) (e:TypeId) (j:Nat) (u:Value) (h:cs.toList[j]? = some u):(w.alloc (.cells cs e)).cell? ((⟨w.heap.size,0,none⟩:Addr).add j)=some u:=by
 have h2:((⟨w.heap.size,0,none⟩:Addr).add j)=⟨w.heap.size,j,none⟩:=by
  unfold Addr.add
  split
  ·next h0=>subst h0;rfl
  ·simp
 rw[h2]
 have h3:=chp (heap_alloc_new w (.cells cs e)) j
 rw[h3]
 simpa using h
theorem bg4 {w:World}{ops:Array Oper}{rest:List Oper}{o:Oper}{a:Act}{Q:Exit→Act→World→Prop}(st e:TypeId) (k bytes:Nat) (zero:Value) (he:aa3 e) (hu:Tryz.prog.underlying st=some (.slice e)) (hinf:(Tryz.prog.info? e).map (fun i=>(i.zero,i.size,i.bytes))=some (some zero,k,bytes)) (hzs:zero.cells.size=k) (hk0:0<k) (hby:bytes≤1000) (hgd:o.guard=none) (sl x:Operand)
  (ho:o.op=.call { callee:=.builtin .append,args:=#[sl,x],argTypes:=#[st,st] })
  {L:Nat→Prop}{B g:Nat}{l:List Sg}{lv:Value}{w0:World}{s:Rd}{v:Value}{n:Nat}{xs:List Value}{cs:Array Value}{kb:Nat}(hkb:kb=w.heap.size) (h:aa8 L B g l lv s w0 w) (hL:∀ b,L b→b<w0.heap.size) (hB:B≤w0.heap.size) (hv:w.ownsRow w0.heap.size e k v n xs) (hs:a.eval sl=v) (hx:a.eval x=.slice (some ⟨kb,0,none⟩) 1 1) (hn:n≤2000000) (hcs:cs.size=k) (h1:∀ u∈cs.toList,u.oneCell'=true)
  (hK:∀ v' w',aa8 L B g l lv s w0 w'→w'.ownsRow w0.heap.size e k v' (n+1) (xs++cs.toList)→(∀ c,c<w.heap.size→v.ownBlock≠some c→w'.heap[c]? = w.heap[c]?)→w.heap.size≤w'.heap.size→wpList Tryz.prog ops Q rest (a.put o.dst v') w'):wpList Tryz.prog ops Q (o :: rest) a (w.alloc (.cells cs e)):=by
 subst hkb
 obtain⟨i,hi,hz0,hz1,hz2⟩:=info_parts hinf
 have hs0:=h.keep.size
 refine wpList_append_own_at _ hgd sl x st ho w0.heap.size e i zero k bytes hu hi hz0 hz1 hz2 hzs hk0 v _ _ hs (hv.alloc _) ⟨w.heap.size,0,none⟩ 1 1 cs.toList hx (by simp[hcs]) (fun j u hj=>ag4 w cs e j u hj) h1 (by simp[maxLen];omega) ?_ (by simp;omega) ?_
 ·have:(n+1)*bytes≤2000001*1000:=Nat.mul_le_mul (by omega) hby
  omega
 intro v' w' hown hgr _ hob
 have hsz:w.heap.size≤w'.heap.size:=by have:=hgr.size;simp at this;omega
 exact hK v' w' ((h.new _).grow hL hB he (hv.alloc _) hgr) hown (fun c hc hne=>(hgr.block c (by simp;omega) (fun e=>hne e.symm)).trans (Below.heap_alloc w _ c hc)) hsz
structure aT1 (L:Nat→Prop) (B g:Nat) (l:List Sg) (lv:Value) (w:World) (s:Rd) (rb xb:Nat) (rs cs:Array Value) (eb:Nat) (es:Array Value) (z:World):Prop where
 st:at7 L B g l lv w s rb xb 41 rs cs z
 ent:Box z eb es 67
 elo:w.heap.size≤eb
theorem aZ5 {z:World}{a b:Nat}{cs ds:Array Value}{S T:TypeId}(h:Box z a cs S) (k:Box z b ds T) (hT:S≠T):a≠b:=fun e=>by
 subst e
 have h2:z.heap[a]? = some (.cells cs S (0,0)):=h
 have k2:z.heap[a]? = some (.cells ds T (0,0)):=k
 rw[h2]at k2
 injection k2 with k2
 injection k2 with _ k2 _
 exact hT k2
theorem aT1.call {L:Nat→Prop}{B g:Nat}{l:List Sg}{lv:Value}{w:World}{s s':Rd}{rb xb:Nat}{rs cs:Array Value}{eb:Nat}{es:Array Value}{z z':World}(h:aT1 L B g l lv w s rb xb rs cs eb es z) (he:aa8 L B g l lv s' z z'):aT1 L B g l lv w s' rb xb rs cs eb es z' :=
 ⟨h.st.call aa3.m he,h.ent.keep he.keep aa3.e,h.elo⟩
theorem aT1.put {L:Nat→Prop}{B g:Nat}{l:List Sg}{lv:Value}{w:World}{s:Rd}{rb xb:Nat}{rs cs:Array Value}{eb:Nat}{es:Array Value}{z:World}(h:aT1 L B g l lv w s rb xb rs cs eb es z) (hL:∀ b,L b→b<w.heap.size) (hB:B≤w.heap.size) (i:Nat) (u:Value):aT1 L B g l lv w s rb xb rs cs eb (es.setIfInBounds i u) (z.setCell ⟨eb,i,none⟩ u) :=
 ⟨h.st.change (h.st.fin.poke' hL hB aa3.e h.elo h.ent i u) (Below.heap_setCell z ⟨eb,i,none⟩ u rb (aZ5 h.st.res h.ent (by decide))) (Below.heap_setCell z ⟨eb,i,none⟩ u xb (aZ5 h.st.box h.ent (by decide))),h.ent.set i u,h.elo⟩
theorem ap9 {z:World}{base b:Nat}{e:TypeId}{k n:Nat}{v:Value}{xs:List Value}(h:z.ownsRow base e k v n xs) (hv:v.ownBlock≠some b) (i:Nat) (u:Value):(z.setCell ⟨b,i,none⟩ u).ownsRow base e k v n xs :=
 aC5 h (fun c _ hne=>Below.heap_setCell z ⟨b,i,none⟩ u c hne) hv
theorem at_ {z z':World}{base base2:Nat}{e T:TypeId}{k n k2 n2:Nat}{v v2:Value}{xs ys:List Value}(h:z.ownsRow base e k v n xs) (hc:∀ c,c<z.heap.size→v2.ownBlock≠some c→z'.heap[c]? = z.heap[c]?) (hv:z.ownsRow base2 T k2 v2 n2 ys) (hT:e≠T):z'.ownsRow base e k v n xs:=by
 obtain⟨h1,h2⟩:=h
 refine⟨h1,?_⟩
 rcases h2 with h2|⟨g',cap,cur,rfl,hb1,hg',r⟩
 ·exact .inl h2
 ·exact .inr ⟨g',cap,cur,rfl,hb1,(hc g' (ag7 hg') (al1 hv hg' (Ne.symm hT))).trans hg',r⟩
theorem Tryz.infoEnt:(Tryz.prog.info? 67).map (fun i=>(i.zero,i.size,i.bytes))=some (some (.agg #[.string ⟨#[]⟩,.string ⟨#[]⟩,.int .i64 0]),3,40):=by kernel_rfl
def aq3 (x:En):List Value:=[.string x.name,.string x.param,.int .i64 x.body]
def am3 (base:Nat) (z:World) (cs:Array Value) (x:Mo):Prop :=
 ∃ ao c bo d eo f,cs=#[.string x.name,.slice ao x.vars.length c,.slice bo x.queues.length d,.slice eo x.ents.length f]∧z.ownsRow base 9 1 (.slice ao x.vars.length c) x.vars.length (x.vars.map Value.string)∧z.ownsRow base 9 1 (.slice bo x.queues.length d) x.queues.length (x.queues.map Value.string)
  ∧ z.ownsRow base 67 3 (.slice eo x.ents.length f) x.ents.length (x.ents.flatMap aq3)
theorem Rd.block_pos (l:List Sg) (s:Rd):s.pos≤(s.block l).1.pos:=(Rd.deepB_pos l _).1 s
theorem Rd.entry_pos (l:List Sg) (s:Rd):s.pos≤(s.entry l).1.pos:=by
 unfold Rd.entry
 dsimp only
 exact nlt (Rd.name_pos l s) (nlt (Rd.must_pos l _ _) (nlt (Rd.name_pos l _) (nlt (Rd.must_pos l _ _) (nlt (Rd.block_pos l _) (Rd.must_pos l _ _)))))
theorem Rd.entries_pos (l:List Sg):∀ (n:Nat) (s:Rd) (es:List En),s.pos≤(Rd.entries l n s es).1.pos
 | 0,_,_=>nlr _
 | n+1,s,es=>by
  unfold Rd.entries
  split
  ·have h1:=Rd.entry_pos l s.on
   have h2:s.on.pos=s.pos+1:=rfl
   have h3:=Rd.entries_pos l n (s.on.entry l).1 (es++[(s.on.entry l).2])
   omega
  ·exact nlr _
theorem Rd.listed_pos (l:List Sg) (t:ByteArray) (s:Rd):s.pos≤(s.listed l t).1.pos:=by
 unfold Rd.listed
 split
 ·have h2:s.on.pos=s.pos+1:=rfl
  have h3:=Rd.names_pos l s.on
  have h4:=Rd.must_pos l (tx ";") (s.on.names l).1
  dsimp only
  omega
 ·exact nlr _
def EntRel (L:Nat→Prop) (B g:Nat) (l:List Sg) (lv:Value) (R:Rd×List En) (w:World) (rb xb:Nat) (nm:ByteArray) (vv qv:Value) (vs qs:List ByteArray) (wr:World):Prop :=
 ∃ (s:Rd) (es:List En) (m:Nat) (eo:Option Addr) (f:Nat),Hid (Rd.entries l (m+1) s es=R)∧Hid (l.length-s.pos<m+1∧es.length≤s.pos)∧Hid (at7 L B g l lv w s rb xb 41 #[.string ⟨#[]⟩,.slice none 0 0,.slice none 0 0,.slice none 0 0] #[.string nm,vv,qv,.slice eo es.length f] wr)
  ∧ Hid (wr.ownsRow w.heap.size 9 1 vv vs.length (vs.map Value.string))∧Hid (wr.ownsRow w.heap.size 9 1 qv qs.length (qs.map Value.string))∧Hid (wr.ownsRow w.heap.size 67 3 (.slice eo es.length f) es.length (es.flatMap aq3))
theorem aM0 {L:Nat→Prop}{B g:Nat}{l:List Sg}{lv:Value}(s:Rd) (w:World) (h:RdAt L B g l lv s w) (hl:l.length≤1048576) (hx:∀ x∈l,x.text.size≤1048576) :
  Calls Tryz.prog 11 #[.pointer (some ⟨g,0,none⟩)] w fun e w'=>∃ cs,e=.returned (.agg cs)∧aa8 L B g l lv (s.monitor l).1 w w'∧am3 w.heap.size w' cs (s.monitor l).2:=by
 have CN:=fun (s:Rd) w h=>qb (ah9 (L:=L) (B:=B) (g:=g) (l:=l) (lv:=lv) (s:=s) w h hl hx)
 have CM:=fun (s:Rd) t w h=>qb (ag6 (L:=L) (B:=B) (g:=g) (l:=l) (lv:=lv) (s:=s) t w h hl)
 have CQ:=fun (s:Rd) w h=>qb (ah0 (L:=L) (B:=B) (g:=g) (l:=l) (lv:=lv) (s:=s) (tx "entry") w h hl)
 have CL:=fun (s:Rd) t w h=>qb (aB5 (L:=L) (B:=B) (g:=g) (l:=l) (lv:=lv) t s w h hl hx)
 have CB:=fun (s:Rd) w h=>qb (aR3 (L:=L) (B:=B) (g:=g) (l:=l) (lv:=lv) s w h hl hx)
 have LO:=qb h.loose
 have HB0:=qb h.heap
 have E0:=qb ((aa8.refl h).new (.cells #[.string ⟨#[]⟩,.slice none 0 0,.slice none 0 0,.slice none 0 0] 41))
 have X0:=qb (Box.made w #[.string ⟨#[]⟩,.slice none 0 0,.slice none 0 0,.slice none 0 0] 41)
 obtain⟨R,hR⟩:∃ R,R=s.monitor l:=⟨_,rfl⟩
 rw[←hR]
 unfold Rd.monitor at hR
 dsimp only at hR
 have C1:=CN s _ E0.out.at'
 obtain⟨a,ha⟩:∃ a,a=s.name l:=⟨_,rfl⟩
 rw[←ha]at C1 hR
 have C2:=CM a.1 (tx ";")
 obtain⟨m,hm⟩:∃ m,m=a.1.must l (tx ";"):=⟨_,rfl⟩
 rw[←hm]at C2 hR
 have C3:=CL m (tx "var")
 obtain⟨b,hb⟩:∃ b,b=m.listed l (tx "var"):=⟨_,rfl⟩
 rw[←hb]at C3 hR
 have C4:=CL b.1 (tx "queue")
 obtain⟨c,hc⟩:∃ c,c=b.1.listed l (tx "queue"):=⟨_,rfl⟩
 rw[←hc]at C4 hR
 obtain⟨D,hD⟩:∃ D,D=Rd.entries l (l.length+1) c.1 []:=⟨_,rfl⟩
 rw[←hD]at hR
 have C8:=CM D.1 (tx "end")
 have C9:=CM (D.1.must l (tx "end")) (tx ";")
 rw[tx5.2]at C2 C9 hR
 rw[tx6.2.1]at C3
 rw[tx6.2.2.1]at C4
 rw[tx4.2.2]at C8 C9 hR
 rw[tx6.2.2.2.1]at CQ
 have HR:=qb hR
 have HD:=qb hD.symm
 clear ha hm hb hc hD hR h hx CL
 go_enter Tryz.func11,Tryz.ntmps11
 go_wp2_with (go_at_call 29;refine(qa C1).mono ?_;rintro e w1⟨rfl,he⟩;have K1:=qb (E0.out.then' he);have X1:=qb (X0.out.keep he.keep aa3.m);clear he C1)
 have S1:Hid (at7 L B g l lv w a.1 w.heap.size w1.heap.size 41 #[.string ⟨#[]⟩,.slice none 0 0,.slice none 0 0,.slice none 0 0] #[.string a.2,.slice none 0 0,.slice none 0 0,.slice none 0 0] (w1.alloc (.cells #[.string a.2,.slice none 0 0,.slice none 0 0,.slice none 0 0] 41))):=by
  have hs:=K1.out.keep.size
  have hr:=X1.out.lt
  exact⟨K1.out.new _,X1.out.stays (bal _ _),Box.made _ _ _,nlr _,by omega,by omega⟩
 obtain⟨xb,hxb⟩:∃ xb,xb=w1.heap.size:=⟨_,rfl⟩
 rw[←hxb]at S1 ⊢
 generalize w1.alloc (.cells #[.string a.2,.slice none 0 0,.slice none 0 0,.slice none 0 0] 41)=Z1 at S1 ⊢
 obtain⟨rb,hrb⟩:∃ rb,rb=w.heap.size:=⟨_,rfl⟩
 have S1':Hid (at7 L B g l lv w a.1 rb xb 41 #[.string ⟨#[]⟩,.slice none 0 0,.slice none 0 0,.slice none 0 0] #[.string a.2,.slice none 0 0,.slice none 0 0,.slice none 0 0] Z1):=by rw[hrb];exact S1
 rw[←hrb]
 have HRB:=qb hrb
 clear hxb hrb S1 K1 X1 X0 E0
 refine(qa (C2 _ S1'.out.fin.at')).mono ?_
 rintro e w2⟨rfl,he⟩
 have S2:=qb (S1'.out.call aa3.m he)
 clear he S1'
 have y0:=chp S2.out.box 0
 have f0:=fhp S2.out.box 0
 have r0:=chp S2.out.res 0
 have g0:=fhp S2.out.res 0
 have y1:=chp S2.out.box 1
 have f1:=fhp S2.out.box 1
 have r1:=chp S2.out.res 1
 have g1:=fhp S2.out.res 1
 have y2:=chp S2.out.box 2
 have f2:=fhp S2.out.box 2
 have r2:=chp S2.out.res 2
 have g2:=fhp S2.out.res 2
 have y3:=chp S2.out.box 3
 have f3:=fhp S2.out.box 3
 have r3:=chp S2.out.res 3
 have g3:=fhp S2.out.res 3
 simp at y0 r0 y1 r1 y2 r2 y3 r3
 go_wp2_with fail
 refine(qa (C3 _ S2.out.fin.at')).mono ?_
 rintro e w3⟨ao,ac,rfl,he,ho⟩
 have S3:=qb (S2.out.call aa3.m he)
 have N2:=qb (ad1 ho S2.out.fin.keep.size);clear ho
 clear he S2
 clear y0 f0 r0 g0 y1 f1 r1 g1 y2 f2 r2 g2 y3 f3 r3 g3
 have y0:=chp S3.out.box 0
 have f0:=fhp S3.out.box 0
 have r0:=chp S3.out.res 0
 have g0:=fhp S3.out.res 0
 have y1:=chp S3.out.box 1
 have f1:=fhp S3.out.box 1
 have r1:=chp S3.out.res 1
 have g1:=fhp S3.out.res 1
 have y2:=chp S3.out.box 2
 have f2:=fhp S3.out.box 2
 have r2:=chp S3.out.res 2
 have g2:=fhp S3.out.res 2
 have y3:=chp S3.out.box 3
 have f3:=fhp S3.out.box 3
 have r3:=chp S3.out.res 3
 have g3:=fhp S3.out.res 3
 simp at y0 r0 y1 r1 y2 r2 y3 r3
 go_wp2_with fail
 have S3p:=qb (S3.out.put aa3.m LO.out HB0.out 1 (.slice ao b.2.length ac))
 simp at S3p
 have V:=qb (aa_ N2.out S3.out.box (by decide) 1 (.slice ao b.2.length ac));clear N2
 clear y0 f0 r0 g0 y1 f1 r1 g1 y2 f2 r2 g2 y3 f3 r3 g3
 generalize w3.setCell ⟨xb,1,none⟩ (.slice ao b.2.length ac)=w3p at S3p V ⊢
 clear S3
 refine(qa (C4 _ S3p.out.fin.at')).mono ?_
 rintro e w4⟨bo,bc,rfl,he,ho⟩
 have S4:=qb (S3p.out.call aa3.m he)
 have Vn:=qb (aa4 V.out he.keep aa3.s);clear V;have V:=Vn;clear Vn
 have N3:=qb (ad1 ho S3p.out.fin.keep.size);clear ho
 clear he S3p
 have y0:=chp S4.out.box 0
 have f0:=fhp S4.out.box 0
 have r0:=chp S4.out.res 0
 have g0:=fhp S4.out.res 0
 have y1:=chp S4.out.box 1
 have f1:=fhp S4.out.box 1
 have r1:=chp S4.out.res 1
 have g1:=fhp S4.out.res 1
 have y2:=chp S4.out.box 2
 have f2:=fhp S4.out.box 2
 have r2:=chp S4.out.res 2
 have g2:=fhp S4.out.res 2
 have y3:=chp S4.out.box 3
 have f3:=fhp S4.out.box 3
 have r3:=chp S4.out.res 3
 have g3:=fhp S4.out.res 3
 simp at y0 r0 y1 r1 y2 r2 y3 r3
 go_wp2_with fail
 have S4p:=qb (S4.out.put aa3.m LO.out HB0.out 2 (.slice bo c.2.length bc))
 simp at S4p
 have Vn:=qb (aa_ V.out S4.out.box (by decide) 2 (.slice bo c.2.length bc));clear V;have V:=Vn;clear Vn
 have Q:=qb (aa_ N3.out S4.out.box (by decide) 2 (.slice bo c.2.length bc));clear N3
 clear y0 f0 r0 g0 y1 f1 r1 g1 y2 f2 r2 g2 y3 f3 r3 g3
 generalize w4.setCell ⟨xb,2,none⟩ (.slice bo c.2.length bc)=w4p at S4p V Q ⊢
 clear S4
 go_loopw [] (fun wr=>EntRel L B g l lv D w rb xb a.2 (.slice ao b.2.length ac) (.slice bo c.2.length bc) b.2 c.2 wr) (fun wr=>l.length-(intOf ((wr.cell? ⟨g,1,none⟩).getD undef)).toNat)
 case atStart=>exact⟨c.1,[],l.length,none,0,HD,⟨by omega,Nat.zero_le _⟩,S4p,V,Q,World.ownsRow_nil _ _ _ _⟩
 case round =>
  obtain⟨s',es,m',eo,f,HX,HP,HS,HV,HQ,HE⟩:=hrel
  have CQ1:=CQ s' _ HS.out.fin.at'
  cases hq:s'.isQ l (tx "entry") with
  | true =>
   have hlt:=Rd.isQ_lt hq
   have HM1:Hid (s'.may l ⟨#[101,110,116,114,121]⟩=s'.on):=by show _=_;rw[←tx6.2.2.2.1];simp[Rd.may,hq]
   rw[←tx6.2.2.2.1,hq,tx6.2.2.2.1,HM1.out]at CQ1
   have hpo:s'.on.pos=s'.pos+1:=rfl
   have hpe:=Rd.entry_pos l s'.on
   have HX2:Hid (Rd.entries l m' (s'.on.entry l).1 (es++[(s'.on.entry l).2])=D):=by
    have:=HX.out
    rw[Rd.entries,hq,if_pos rfl]at this
    exact this
   have HPO:=qb (show s'.pos+1≤(s'.on.entry l).1.pos by omega)
   have hlen:es.length≤2000000:=by have:=HP.out;omega
   have HKN:=qb hlen
   obtain⟨y,hy⟩:∃ y,y=s'.on.entry l:=⟨_,rfl⟩
   rw[←hy]at HX2 HPO
   unfold Rd.entry at hy
   dsimp only at hy
   have D1:=CN s'.on
   obtain⟨n1,hn1⟩:∃ n1,n1=s'.on.name l:=⟨_,rfl⟩
   rw[←hn1]at D1 hy
   have D2:=CM n1.1 (tx "(")
   obtain⟨n2,hn2⟩:∃ n2,n2=n1.1.must l (tx "("):=⟨_,rfl⟩
   rw[←hn2]at D2 hy
   have D3:=CN n2
   obtain⟨n3,hn3⟩:∃ n3,n3=n2.name l:=⟨_,rfl⟩
   rw[←hn3]at D3 hy
   have D4:=CM n3.1 (tx ")")
   obtain⟨n4,hn4⟩:∃ n4,n4=n3.1.must l (tx ")"):=⟨_,rfl⟩
   rw[←hn4]at D4 hy
   have D5:=CB n4
   obtain⟨n5,hn5⟩:∃ n5,n5=n4.block l:=⟨_,rfl⟩
   rw[←hn5]at D5 hy
   have D6:=CM n5.1 (tx ";")
   rw[tx2.1]at D2
   rw[tx2.2.1]at D4
   rw[tx5.2]at D6 hy
   have HY:=qb hy
   clear hy hn1 hn2 hn3 hn4 hn5 hpo hpe hq hlen CN CM CQ CB C8 C9 C2 C3 C4
   go_wp2_with (first
    | (go_at_call 10;refine(qa CQ1).mono ?_;rintro e w3⟨rfl,he⟩;have K3:=qb (HS.out.call aa3.m he);have V3:=qb (aa4 HV.out he.keep aa3.s);have Q3:=qb (aa4 HQ.out he.keep aa3.s);have E3:=qb (aa4 HE.out he.keep aa3.e);clear he CQ1)
    | (go_at_call 29;refine(qa (D1 _ K3.out.fin.at')).mono ?_;rintro e w4⟨rfl,he⟩;have K4:=qb (K3.out.call aa3.m he);have V4:=qb (aa4 V3.out he.keep aa3.s);have Q4:=qb (aa4 Q3.out he.keep aa3.s);have E4:=qb (aa4 E3.out he.keep aa3.e);clear he D1))
   have hr4:=K4.out.fin.keep.size
   have S5:Hid (aT1 L B g l lv w n1.1 rb xb #[.string ⟨#[]⟩,.slice none 0 0,.slice none 0 0,.slice none 0 0] #[.string a.2,.slice ao b.2.length ac,.slice bo c.2.length bc,.slice eo es.length f] w4.heap.size #[.string n1.2,.string ⟨#[]⟩,.int .i64 0] (w4.alloc (.cells #[.string n1.2,.string ⟨#[]⟩,.int .i64 0] 67))) :=
    ⟨K4.out.change (K4.out.fin.new _) (Below.heap_alloc w4 _ _ K4.out.res.lt) (Below.heap_alloc w4 _ _ K4.out.box.lt),Box.made _ _ _,hr4⟩
   have V5:=qb (V4.out.alloc (.cells #[.string n1.2,.string ⟨#[]⟩,.int .i64 0] 67))
   have Q5:=qb (Q4.out.alloc (.cells #[.string n1.2,.string ⟨#[]⟩,.int .i64 0] 67))
   have E5:=qb (E4.out.alloc (.cells #[.string n1.2,.string ⟨#[]⟩,.int .i64 0] 67))
   have NE:Hid ((Value.slice eo es.length f).ownBlock≠some w4.heap.size):=fun e=>by have:=(E4.out.lt _ e).2;omega
   obtain⟨eb,heb⟩:∃ eb,eb=w4.heap.size:=⟨_,rfl⟩
   rw[←heb]at S5 NE ⊢
   generalize w4.alloc (.cells #[.string n1.2,.string ⟨#[]⟩,.int .i64 0] 67)=Z5 at S5 V5 Q5 E5 ⊢
   clear heb hr4 K3 V3 Q3 E3 K4 V4 Q4 E4 w4
   refine(qa (D2 _ S5.out.st.fin.at')).mono ?_
   rintro e w6⟨rfl,he⟩
   have S6:=qb (S5.out.call he)
   have V6:=qb (aa4 V5.out he.keep aa3.s)
   have Q6:=qb (aa4 Q5.out he.keep aa3.s)
   have E6:=qb (aa4 E5.out he.keep aa3.e)
   clear he S5 V5 Q5 E5 D2
   have y0:=chp S6.out.ent 0
   have f0:=fhp S6.out.ent 0
   have y1:=chp S6.out.ent 1
   have f1:=fhp S6.out.ent 1
   have y2:=chp S6.out.ent 2
   have f2:=fhp S6.out.ent 2
   simp at y0 y1 y2
   go_wp2_with fail
   refine(qa (D3 _ S6.out.st.fin.at')).mono ?_
   rintro e w7⟨rfl,he⟩
   have S7:=qb (S6.out.call he)
   have V7:=qb (aa4 V6.out he.keep aa3.s)
   have Q7:=qb (aa4 Q6.out he.keep aa3.s)
   have E7:=qb (aa4 E6.out he.keep aa3.e)
   clear he S6 V6 Q6 E6 D3
   clear y0 f0 y1 f1 y2 f2
   have y0:=chp S7.out.ent 0
   have f0:=fhp S7.out.ent 0
   have y1:=chp S7.out.ent 1
   have f1:=fhp S7.out.ent 1
   have y2:=chp S7.out.ent 2
   have f2:=fhp S7.out.ent 2
   simp at y0 y1 y2
   go_wp2_with fail
   have S7p:=qb (S7.out.put LO.out HB0.out 1 (.string n3.2))
   simp at S7p
   have V7p:=qb (aa_ V7.out S7.out.ent (by decide) 1 (.string n3.2))
   have Q7p:=qb (aa_ Q7.out S7.out.ent (by decide) 1 (.string n3.2))
   have E7p:=qb (ap9 E7.out NE.out 1 (.string n3.2))
   clear y0 y1 y2 f0 f1 f2
   generalize w7.setCell ⟨eb,1,none⟩ (.string n3.2)=w7p at S7p V7p Q7p E7p ⊢
   clear S7 V7 Q7 E7
   refine(qa (D4 _ S7p.out.st.fin.at')).mono ?_
   rintro e w8⟨rfl,he⟩
   have S8:=qb (S7p.out.call he)
   have V8:=qb (aa4 V7p.out he.keep aa3.s)
   have Q8:=qb (aa4 Q7p.out he.keep aa3.s)
   have E8:=qb (aa4 E7p.out he.keep aa3.e)
   clear he S7p V7p Q7p E7p D4
   have y0:=chp S8.out.ent 0
   have f0:=fhp S8.out.ent 0
   have y1:=chp S8.out.ent 1
   have f1:=fhp S8.out.ent 1
   have y2:=chp S8.out.ent 2
   have f2:=fhp S8.out.ent 2
   simp at y0 y1 y2
   go_wp2_with fail
   refine(qa (D5 _ S8.out.st.fin.at')).mono ?_
   rintro e w9⟨rfl,he⟩
   have S9:=qb (S8.out.call he)
   have V9:=qb (aa4 V8.out he.keep aa3.s)
   have Q9:=qb (aa4 Q8.out he.keep aa3.s)
   have E9:=qb (aa4 E8.out he.keep aa3.e)
   clear he S8 V8 Q8 E8 D5
   clear y0 f0 y1 f1 y2 f2
   have y0:=chp S9.out.ent 0
   have f0:=fhp S9.out.ent 0
   have y1:=chp S9.out.ent 1
   have f1:=fhp S9.out.ent 1
   have y2:=chp S9.out.ent 2
   have f2:=fhp S9.out.ent 2
   simp at y0 y1 y2
   go_wp2_with fail
   have S9p:=qb (S9.out.put LO.out HB0.out 2 (.int .i64 n5.2))
   simp at S9p
   have V9p:=qb (aa_ V9.out S9.out.ent (by decide) 2 (.int .i64 n5.2))
   have Q9p:=qb (aa_ Q9.out S9.out.ent (by decide) 2 (.int .i64 n5.2))
   have E9p:=qb (ap9 E9.out NE.out 2 (.int .i64 n5.2))
   clear y0 y1 y2 f0 f1 f2
   generalize w9.setCell ⟨eb,2,none⟩ (.int .i64 n5.2)=w9p at S9p V9p Q9p E9p ⊢
   clear S9 V9 Q9 E9
   refine(qa (D6 _ S9p.out.st.fin.at')).mono ?_
   rintro e w10⟨rfl,he⟩
   have S10:=qb (S9p.out.call he)
   have V10:=qb (aa4 V9p.out he.keep aa3.s)
   have Q10:=qb (aa4 Q9p.out he.keep aa3.s)
   have E10:=qb (aa4 E9p.out he.keep aa3.e)
   clear he S9p V9p Q9p E9p D6
   have y0:=chp S10.out.ent 0
   have f0:=fhp S10.out.ent 0
   have y1:=chp S10.out.ent 1
   have f1:=fhp S10.out.ent 1
   have y2:=chp S10.out.ent 2
   have f2:=fhp S10.out.ent 2
   simp at y0 y1 y2
   have z3:=chp S10.out.st.box 3
   simp at z3
   have hxl:=S10.out.st.box.lt
   have hel:=S10.out.ent.lt
   go_wp2_with (at_builtin;refine bg4 39 67 3 40 (.agg #[.string ⟨#[]⟩,.string ⟨#[]⟩,.int .i64 0]) aa3.e Tryz.underlying39 Tryz.infoEnt rfl (by decide) (by decide) rfl (.tmp 34) (.tmp 36) rfl (kb:=w10.heap.size) rfl S10.out.st.fin LO.out HB0.out E10.out rfl rfl HKN.out rfl (by simp[Value.oneCell']) ?_;intro v9 w9 hk9 ho9 hh9 hs9;have sh9:=ab_ ho9;obtain⟨eo9,f9,e9⟩:=sh9;subst e9;have B9:=qb (S10.out.st.change hk9 (hh9 _ S10.out.st.res.lt (al1 E10.out S10.out.st.res (by decide))) (hh9 _ S10.out.st.box.lt (al1 E10.out S10.out.st.box (by decide))));have V9:=qb (at_ V10.out hh9 E10.out (by decide));have Q9:=qb (at_ Q10.out hh9 E10.out (by decide));have E9:=qb ho9;have u3:=chp B9.out.box 3;have uf:=fhp B9.out.box 3;simp at u3;clear hk9 ho9 hh9 hs9)
   have T9:=qb (B9.out.put aa3.m LO.out HB0.out 3 (.slice eo9 (es.length+1) f9))
   simp at T9
   have V9':=qb (aa_ V9.out B9.out.box (by decide) 3 (.slice eo9 (es.length+1) f9))
   have Q9':=qb (aa_ Q9.out B9.out.box (by decide) 3 (.slice eo9 (es.length+1) f9))
   have E9':=qb (aa_ E9.out B9.out.box (by decide) 3 (.slice eo9 (es.length+1) f9))
   have hpl:=T9.out.fin.at'.pos
   have h5:=HPO.out
   have h6:=HP.out
   have HY2:=HY.out
   have FL:es.length+1=(es++[y.2]).length:=by simp
   have FM:es.flatMap aq3++(#[Value.string n1.2,Value.string n3.2,Value.int .i64 n5.2] : Array Value).toList=(es++[y.2]).flatMap aq3:=by rw[HY2];simp[aq3]
   have F1:n5.1.must l ⟨#[59]⟩=y.1:=by rw[HY2]
   rw[F1]at T9 hpl
   have hm:∃ k,m'=k+1:=⟨m'-1,by omega⟩
   obtain⟨k,rfl⟩:=hm
   go_roundw
   case rel =>
    rw[FL]at T9 V9' Q9' E9'
    rw[FM]at E9'
    rw[FL]
    exact⟨y.1,es++[y.2],k,eo9,f9,HX2,⟨by omega,by simp;omega⟩,T9,V9',Q9',E9'⟩
   case measure =>
    rw[T9.out.fin.at'.posCell,HS.out.fin.at'.posCell]
    omega
  | false =>
   have HM1:Hid (s'.may l ⟨#[101,110,116,114,121]⟩=s'):=by show _=_;rw[←tx6.2.2.2.1];simp[Rd.may,hq]
   rw[←tx6.2.2.2.1,hq,tx6.2.2.2.1,HM1.out]at CQ1
   have HX2:Hid (D=(s',es)):=by
    have:=HX.out
    rw[Rd.entries,hq,if_neg (by simp)]at this
    exact this.symm
   have e1:D.1=s':=by rw[HX2.out]
   have e2:D.2=es:=by rw[HX2.out]
   rw[e1]at C8 C9 HR
   rw[e2]at HR
   clear CQ CN CM CB C2 C3 C4 hq e1 e2 HX2
   go_wp2_with (first
    | (go_at_call 10;refine(qa CQ1).mono ?_;rintro e w3⟨rfl,he⟩;have K3:=qb (HS.out.call aa3.m he);have V3:=qb (aa4 HV.out he.keep aa3.s);have Q3:=qb (aa4 HQ.out he.keep aa3.s);have E3:=qb (aa4 HE.out he.keep aa3.e);clear he CQ1)
    | (go_at_call 13;refine(qa (C8 _ K3.out.fin.at')).mono ?_;rintro e w4⟨rfl,he⟩;have K4:=qb (K3.out.call aa3.m he);have V4:=qb (aa4 V3.out he.keep aa3.s);have Q4:=qb (aa4 Q3.out he.keep aa3.s);have E4:=qb (aa4 E3.out he.keep aa3.e);clear he C8)
    | (go_at_call 13;refine(qa (C9 _ K4.out.fin.at')).mono ?_;rintro e w5⟨rfl,he⟩;have K5:=qb (K4.out.call aa3.m he);have V5:=qb (aa4 V4.out he.keep aa3.s);have Q5:=qb (aa4 Q4.out he.keep aa3.s);have E5:=qb (aa4 E4.out he.keep aa3.e);have y0:=chp K5.out.box 0;have y1:=chp K5.out.box 1;have y2:=chp K5.out.box 2;have y3:=chp K5.out.box 3;have r0:=chp K5.out.res 0;have r1:=chp K5.out.res 1;have r2:=chp K5.out.res 2;have r3:=chp K5.out.res 3;have f0:=fhp K5.out.res 0;have f1:=fhp K5.out.res 1;have f2:=fhp K5.out.res 2;have f3:=fhp K5.out.res 3;simp at y0 y1 y2 y3 r0 r1 r2 r3;clear he C9))
   have T4:=qb ((((K5.out.out aa3.m LO.out HB0.out 0 (.string a.2)).out aa3.m LO.out HB0.out 1 (.slice ao b.2.length ac)).out aa3.m LO.out HB0.out 2 (.slice bo c.2.length bc)).out aa3.m LO.out HB0.out 3 (.slice eo es.length f))
   simp at T4
   have V6:=qb (aa_ (aa_ (aa_ (aa_ V5.out K5.out.res (by decide) 0 (.string a.2)) (K5.out.out aa3.m LO.out HB0.out 0 (.string a.2)).res (by decide) 1 (.slice ao b.2.length ac)) ((K5.out.out aa3.m LO.out HB0.out 0 (.string a.2)).out aa3.m LO.out HB0.out 1 (.slice ao b.2.length ac)).res (by decide) 2 (.slice bo c.2.length bc)) (((K5.out.out aa3.m LO.out HB0.out 0 (.string a.2)).out aa3.m LO.out HB0.out 1 (.slice ao b.2.length ac)).out aa3.m LO.out HB0.out 2 (.slice bo c.2.length bc)).res (by decide) 3 (.slice eo es.length f))
   have Q6:=qb (aa_ (aa_ (aa_ (aa_ Q5.out K5.out.res (by decide) 0 (.string a.2)) (K5.out.out aa3.m LO.out HB0.out 0 (.string a.2)).res (by decide) 1 (.slice ao b.2.length ac)) ((K5.out.out aa3.m LO.out HB0.out 0 (.string a.2)).out aa3.m LO.out HB0.out 1 (.slice ao b.2.length ac)).res (by decide) 2 (.slice bo c.2.length bc)) (((K5.out.out aa3.m LO.out HB0.out 0 (.string a.2)).out aa3.m LO.out HB0.out 1 (.slice ao b.2.length ac)).out aa3.m LO.out HB0.out 2 (.slice bo c.2.length bc)).res (by decide) 3 (.slice eo es.length f))
   have E6:=qb (aa_ (aa_ (aa_ (aa_ E5.out K5.out.res (by decide) 0 (.string a.2)) (K5.out.out aa3.m LO.out HB0.out 0 (.string a.2)).res (by decide) 1 (.slice ao b.2.length ac)) ((K5.out.out aa3.m LO.out HB0.out 0 (.string a.2)).out aa3.m LO.out HB0.out 1 (.slice ao b.2.length ac)).res (by decide) 2 (.slice bo c.2.length bc)) (((K5.out.out aa3.m LO.out HB0.out 0 (.string a.2)).out aa3.m LO.out HB0.out 1 (.slice ao b.2.length ac)).out aa3.m LO.out HB0.out 2 (.slice bo c.2.length bc)).res (by decide) 3 (.slice eo es.length f))
   refine an9 (g:=rb) (t:=41) (cs:=#[.string a.2,.slice ao b.2.length ac,.slice bo c.2.length bc,.slice eo es.length f]) rfl rfl T4.out.res _ Tryz.underlying41 rfl (by kernel_rfl) rfl ?_
   rw[HR.out]
   exact⟨_,rfl,T4.out.fin,ao,ac,bo,bc,eo,f,rfl,V6.out,Q6.out,E6.out⟩
end Go.Proofs.YtcpapceeekkacaaGreatDoor
