import Derived.Test.YtcpapceeekkacaaGreatDoorIrdG
set_option maxRecDepth 100000
set_option maxHeartbeats 8000000
namespace Go.Proofs.YtcpapceeekkacaaGreatDoor
open Go.RowKit
structure BoxI (L:Nat→Prop) (B g:Nat) (sz:Int) (l:List Sg) (lv:Value) (w:World) (s:Rd) (rb xb:Nat) (T:TypeId) (rs cs:Array Value) (z:World):Prop where
 fin:IEnd L B g sz l lv s w z
 res:Box z rb rs T
 box:Box z xb cs T
 rlo:w.heap.size≤rb
 xlo:w.heap.size≤xb
 ne:rb≠xb
theorem BoxI.call {L:Nat→Prop}{B g:Nat}{sz:Int}{l:List Sg}{lv:Value}{w:World}{s s':Rd}{rb xb:Nat}{T:TypeId}{rs cs:Array Value}{z z':World}(h:BoxI L B g sz l lv w s rb xb T rs cs z) (hT:aa0 T) (he:IEnd L B g sz l lv s' z z'):BoxI L B g sz l lv w s' rb xb T rs cs z' :=
 ⟨h.fin.then' he,h.res.keepI he.keep hT,h.box.keepI he.keep hT,h.rlo,h.xlo,h.ne⟩
theorem BoxI.put {L:Nat→Prop}{B g:Nat}{sz:Int}{l:List Sg}{lv:Value}{w:World}{s:Rd}{rb xb:Nat}{T:TypeId}{rs cs:Array Value}{z:World}(h:BoxI L B g sz l lv w s rb xb T rs cs z) (hT:aa0 T) (hL:∀ b,L b→b<w.heap.size) (hB:B≤w.heap.size) (i:Nat) (u:Value):BoxI L B g sz l lv w s rb xb T rs (cs.setIfInBounds i u) (z.setCell ⟨xb,i,none⟩ u) :=
 ⟨h.fin.poke hL hB hT h.xlo h.box i u,h.res.other _ _ h.ne,h.box.set i u,h.rlo,h.xlo,h.ne⟩
theorem BoxI.out {L:Nat→Prop}{B g:Nat}{sz:Int}{l:List Sg}{lv:Value}{w:World}{s:Rd}{rb xb:Nat}{T:TypeId}{rs cs:Array Value}{z:World}(h:BoxI L B g sz l lv w s rb xb T rs cs z) (hT:aa0 T) (hL:∀ b,L b→b<w.heap.size) (hB:B≤w.heap.size) (i:Nat) (u:Value):BoxI L B g sz l lv w s rb xb T (rs.setIfInBounds i u) cs (z.setCell ⟨rb,i,none⟩ u) :=
 ⟨h.fin.poke hL hB hT h.rlo h.res i u,h.res.set i u,h.box.other _ _ (Ne.symm h.ne),h.rlo,h.xlo,h.ne⟩
theorem BoxI.change {L:Nat→Prop}{B g:Nat}{sz:Int}{l:List Sg}{lv:Value}{w:World}{s:Rd}{rb xb:Nat}{T:TypeId}{rs cs:Array Value}{z z':World}(h:BoxI L B g sz l lv w s rb xb T rs cs z) (hf:IEnd L B g sz l lv s w z') (hr:z'.heap[rb]? = z.heap[rb]?) (hx:z'.heap[xb]? = z.heap[xb]?):BoxI L B g sz l lv w s rb xb T rs cs z' :=
 ⟨hf,hr.trans h.res,hx.trans h.box,h.rlo,h.xlo,h.ne⟩
def EntV (x:En) (v:Value) (_:World):Prop:=v=.agg #[.string x.name,.string x.param,.int .i64 x.body]
def PrV (base:Nat) (x:Pr) (v:Value) (z:World):Prop:=∃ cs,v=.agg cs∧an_ base z cs x∧Ap12 cs
theorem wh0:ae9 ⟨#[40]⟩=true∧tx "(" = ⟨#[40]⟩:=by decide +kernel
theorem wh1:ae9 ⟨#[41]⟩=true∧tx ")" = ⟨#[41]⟩:=by decide +kernel
theorem wh2:ae9 ⟨#[59]⟩=true∧tx ";" = ⟨#[59]⟩:=by decide +kernel
theorem wh3:ae9 ⟨#[117,115,101,115]⟩=true∧tx "uses" = ⟨#[117,115,101,115]⟩:=by decide +kernel
theorem wh4:ae9 ⟨#[118,97,114]⟩=true∧tx "var" = ⟨#[118,97,114]⟩:=by decide +kernel
theorem bc8 {L:Nat→Prop}{B g:Nat}{sz:Int}{l:List Sg}{lv:Value}(hw:ag8 l) (h500:l.length≤500) (hx:∀ x∈l,x.text.size≤1048576) (hB:3<B) (s:Rd) (w:World) (h:IAt L B g sz l lv s w) (hO:ak5 w) :
  Calls Tryz.prog 99 #[.pointer (some ⟨g,0,none⟩)] w (ag0 L B g sz l lv (s.entry l).1 (EntV (s.entry l).2) w):=by
 have hl:l.length≤1048576:=by omega
 have HO:=qb hO
 have HB:=qb hB
 have LO:=qb h.loose
 have HBL:=qb h.heap
 have CQ:=fun (s:Rd) t (ht:ae9 t=true) w h=>qb (ah1 (L:=L) (B:=B) (g:=g) (sz:=sz) (l:=l) (lv:=lv) (s:=s) t w h hw hl ht)
 have CM:=fun (s:Rd) t (ht:ae9 t=true) w h=>qb (ag5 (L:=L) (B:=B) (g:=g) (sz:=sz) (l:=l) (lv:=lv) (s:=s) t w h hw hl ht)
 have CN:=fun (s:Rd) w h=>qb (ah7 (L:=L) (B:=B) (g:=g) (sz:=sz) (l:=l) (lv:=lv) (s:=s) w h hw hl hx)
 have CB:=fun (s:Rd) w h hO=>qb (aK8 (L:=L) (B:=B) (g:=g) (sz:=sz) (l:=l) (lv:=lv) s w h hO hw h500 hx hB)
 have CS:=fun (s:Rd) w h=>qb (av2 (L:=L) (B:=B) (g:=g) (sz:=sz) (l:=l) (lv:=lv) s w h hw h500 hx)
 have CD:=fun t (ht:ae9 t=true) (s:Rd) w h=>qb (as7 (L:=L) (B:=B) (g:=g) (sz:=sz) (l:=l) (lv:=lv) t ht s w h hw h500 hx)
 have E0:=qb ((IEnd.refl h).new (.cells #[.string ⟨#[]⟩,.string ⟨#[]⟩,.int .i64 0] 67))
 have X0:=qb (Box.made w #[.string ⟨#[]⟩,.string ⟨#[]⟩,.int .i64 0] 67)
 obtain⟨R,hR⟩:∃ R,R=s.entry l:=⟨_,rfl⟩
 rw[←hR]
 unfold Rd.entry at hR
 dsimp only at hR
 rw[wh0.2,wh1.2,wh2.2]at hR
 have C1:=CN s
 obtain⟨a,ha⟩:∃ a,a=s.name l:=⟨_,rfl⟩
 rw[←ha]at C1 hR
 have C2:=CM a.1 ⟨#[40]⟩ wh0.1
 have hm2:∀ p,a.1.At p→(a.1.must l ⟨#[40]⟩).At p:=fun p h=>Rd.At.must l h _
 obtain⟨m,hm⟩:∃ m,m=a.1.must l ⟨#[40]⟩:=⟨_,rfl⟩
 rw[←hm]at C2 hR hm2
 have C3:=CN m
 have hm3:∀ p,m.At p→(m.name l).1.At p:=fun p h=>Rd.At.name l h
 obtain⟨b,hb⟩:∃ b,b=m.name l:=⟨_,rfl⟩
 rw[←hb]at C3 hR hm3
 have C4:=CM b.1 ⟨#[41]⟩ wh1.1
 have hm4:∀ p,b.1.At p→(b.1.must l ⟨#[41]⟩).At p:=fun p h=>Rd.At.must l h _
 obtain⟨n,hn⟩:∃ n,n=b.1.must l ⟨#[41]⟩:=⟨_,rfl⟩
 rw[←hn]at C4 hR hm4
 have C5:=CB n
 have hm5:∀ p,n.At p→(n.block l).1.At p:=fun p h=>Rd.Stays.block p _ h
 obtain⟨c,hc⟩:∃ c,c=n.block l:=⟨_,rfl⟩
 rw[←hc]at C5 hR hm5
 have C6:=CM c.1 ⟨#[59]⟩ wh2.1
 have hm6:∀ p,c.1.At p→(c.1.must l ⟨#[59]⟩).At p:=fun p h=>Rd.At.must l h _
 obtain⟨d,hd⟩:∃ d,d=c.1.must l ⟨#[59]⟩:=⟨_,rfl⟩
 rw[←hd]at C6 hR hm6
 have HR:=qb hR
 clear CQ CM CN CB CS CD hR ha hm hb hn hc hd h hO
 go_enter Tryz.func99,Tryz.ntmps99
 go_wp2_with fail
 cases hb0:a.1.bad
 rotate_left
 ·have C1n:=fun w h=>qb (IOut.no hb0 (qa (C1 w h)))
  have HA:=qb (show R.1.At a.1.pos from by rw[HR.out];exact hm6 _ (hm5 _ (hm4 _ (hm3 _ (hm2 _ ⟨hb0,rfl⟩)))))
  refine(qa (C1n _ E0.out.at')).mono ?_;rintro e w1⟨rfl,he⟩;have KL:=qb (E0.out.lost he);clear he C1n
  exact⟨rfl,ag0.lost KL.out HA.out⟩
 have C1y:=fun w h=>qb (IOut.yes hb0 (qa (C1 w h)))
 clear C1
 refine(qa (C1y _ E0.out.at')).mono ?_;rintro e w1⟨rfl,he⟩;have X1:=qb (X0.out.keepI he.keep aa0.e);have hs1:=(E0.out.then' he).keep.size;have hr1:=X1.out.lt;have S1:Hid (BoxI L B g sz l lv w a.1 w.heap.size w1.heap.size 67 #[.string ⟨#[]⟩,.string ⟨#[]⟩,.int .i64 0] #[.string a.2,.string ⟨#[]⟩,.int .i64 0] (w1.alloc (.cells #[.string a.2,.string ⟨#[]⟩,.int .i64 0] 67))):=⟨(E0.out.then' he).new _,X1.out.stays (bal _ _),Box.made _ _ _,nlr _,hs1,by omega⟩;clear he hs1 hr1 X1 C1y
 go_wp2_with fail
 cases hb1:m.bad
 rotate_left
 ·have C2n:=fun w h=>qb (IOut.no hb1 (qa (C2 w h)))
  have HA:=qb (show R.1.At m.pos from by rw[HR.out];exact hm6 _ (hm5 _ (hm4 _ (hm3 _ ⟨hb1,rfl⟩))))
  refine(qa (C2n _ S1.out.fin.at')).mono ?_;rintro e w2⟨rfl,he⟩;have KL:=qb (S1.out.fin.lost he);clear he C2n
  exact⟨rfl,ag0.lost KL.out HA.out⟩
 have C2y:=fun w h=>qb (IOut.yes hb1 (qa (C2 w h)))
 clear C2
 refine(qa (C2y _ S1.out.fin.at')).mono ?_;rintro e w2⟨rfl,he⟩;have S2:=qb (S1.out.call aa0.e he);have y0:=chp S2.out.box 0;have f0:=fhp S2.out.box 0;have y1:=chp S2.out.box 1;have f1:=fhp S2.out.box 1;have y2:=chp S2.out.box 2;have f2:=fhp S2.out.box 2;simp at y0 y1 y2;clear he C2y
 go_wp2_with fail
 cases hb2:b.1.bad
 rotate_left
 ·have C3n:=fun w h=>qb (IOut.no hb2 (qa (C3 w h)))
  have HA:=qb (show R.1.At b.1.pos from by rw[HR.out];exact hm6 _ (hm5 _ (hm4 _ ⟨hb2,rfl⟩)))
  refine(qa (C3n _ S2.out.fin.at')).mono ?_;rintro e w3⟨rfl,he⟩;have KL:=qb (S2.out.fin.lost he);clear he C3n
  exact⟨rfl,ag0.lost KL.out HA.out⟩
 have C3y:=fun w h=>qb (IOut.yes hb2 (qa (C3 w h)))
 clear C3
 refine(qa (C3y _ S2.out.fin.at')).mono ?_;rintro e w3⟨rfl,he⟩;have S3:=qb (S2.out.call aa0.e he);clear y0 f0 y1 f1 y2 f2;have y0:=chp S3.out.box 0;have f0:=fhp S3.out.box 0;have y1:=chp S3.out.box 1;have f1:=fhp S3.out.box 1;have y2:=chp S3.out.box 2;have f2:=fhp S3.out.box 2;simp at y0 y1 y2;have S3p:=qb (S3.out.put aa0.e LO.out HBL.out 1 (.string b.2));simp at S3p;clear he C3y
 go_wp2_with fail
 cases hb3:n.bad
 rotate_left
 ·have C4n:=fun w h=>qb (IOut.no hb3 (qa (C4 w h)))
  have HA:=qb (show R.1.At n.pos from by rw[HR.out];exact hm6 _ (hm5 _ ⟨hb3,rfl⟩))
  refine(qa (C4n _ S3p.out.fin.at')).mono ?_;rintro e w4⟨rfl,he⟩;have KL:=qb (S3p.out.fin.lost he);clear he C4n
  exact⟨rfl,ag0.lost KL.out HA.out⟩
 have C4y:=fun w h=>qb (IOut.yes hb3 (qa (C4 w h)))
 clear C4
 refine(qa (C4y _ S3p.out.fin.at')).mono ?_;rintro e w4⟨rfl,he⟩;have S4:=qb (S3p.out.call aa0.e he);clear y0 f0 y1 f1 y2 f2;have y0:=chp S4.out.box 0;have f0:=fhp S4.out.box 0;have y1:=chp S4.out.box 1;have f1:=fhp S4.out.box 1;have y2:=chp S4.out.box 2;have f2:=fhp S4.out.box 2;simp at y0 y1 y2;clear he C4y
 go_wp2_with fail
 cases hb4:c.1.bad
 rotate_left
 ·have C5n:=fun w h hO=>qb (IOut.no hb4 (qa (C5 w h hO)))
  have HA:=qb (show R.1.At c.1.pos from by rw[HR.out];exact hm6 _ ⟨hb4,rfl⟩)
  refine(qa (C5n _ S4.out.fin.at' (HO.out.stays S4.out.fin.bel HB.out))).mono ?_;rintro e w5⟨rfl,he⟩;have KL:=qb (S4.out.fin.lost he);clear he C5n
  exact⟨rfl,ag0.lost KL.out HA.out⟩
 have C5y:=fun w h hO=>qb (IOut.yes hb4 (qa (C5 w h hO)))
 clear C5
 refine(qa (C5y _ S4.out.fin.at' (HO.out.stays S4.out.fin.bel HB.out))).mono ?_;rintro e w5⟨rfl,he⟩;have S5:=qb (S4.out.call aa0.e he);clear y0 f0 y1 f1 y2 f2;have y0:=chp S5.out.box 0;have f0:=fhp S5.out.box 0;have y1:=chp S5.out.box 1;have f1:=fhp S5.out.box 1;have y2:=chp S5.out.box 2;have f2:=fhp S5.out.box 2;simp at y0 y1 y2;have S5p:=qb (S5.out.put aa0.e LO.out HBL.out 2 (.int .i64 c.2));simp at S5p;clear he C5y
 go_wp2_with fail
 cases hb5:d.bad
 rotate_left
 ·have C6n:=fun w h=>qb (IOut.no hb5 (qa (C6 w h)))
  have HA:=qb (show R.1.At d.pos from by rw[HR.out];exact⟨hb5,rfl⟩)
  refine(qa (C6n _ S5p.out.fin.at')).mono ?_;rintro e w6⟨rfl,he⟩;have KL:=qb (S5p.out.fin.lost he);clear he C6n
  exact⟨rfl,ag0.lost KL.out HA.out⟩
 have C6y:=fun w h=>qb (IOut.yes hb5 (qa (C6 w h)))
 clear C6
 refine(qa (C6y _ S5p.out.fin.at')).mono ?_;rintro e w6⟨rfl,he⟩;have S6:=qb (S5p.out.call aa0.e he);clear y0 f0 y1 f1 y2 f2;have y0:=chp S6.out.box 0;have f0:=fhp S6.out.box 0;have y1:=chp S6.out.box 1;have f1:=fhp S6.out.box 1;have y2:=chp S6.out.box 2;have f2:=fhp S6.out.box 2;simp at y0 y1 y2;have r0:=chp S6.out.res 0;have g0:=fhp S6.out.res 0;have r1:=chp S6.out.res 1;have g1:=fhp S6.out.res 1;have r2:=chp S6.out.res 2;have g2:=fhp S6.out.res 2;simp at r0 r1 r2;clear he C6y
 go_wp2_with fail
 have T4:=qb (((S6.out.out aa0.e LO.out HBL.out 0 (.string a.2)).out aa0.e LO.out HBL.out 1 (.string b.2)).out aa0.e LO.out HBL.out 2 (.int .i64 c.2))
 simp at T4
 refine an9 (g:=w.heap.size) (t:=67) (cs:=#[.string a.2,.string b.2,.int .i64 c.2]) rfl rfl T4.out.res _ Tryz.underlying67 rfl (by kernel_rfl) rfl ?_
 rw[HR.out]
 exact .inl ⟨hb5,_,rfl,T4.out.fin,rfl⟩
theorem aO6 {L:Nat→Prop}{B g:Nat}{sz:Int}{l:List Sg}{lv:Value}(hw:ag8 l) (h500:l.length≤500) (hx:∀ x∈l,x.text.size≤1048576) (hB:3<B) (s:Rd) (w:World) (h:IAt L B g sz l lv s w) (hO:ak5 w) :
  Calls Tryz.prog 76 #[.pointer (some ⟨g,0,none⟩)] w (ag0 L B g sz l lv (s.process l).1 (PrV w.heap.size (s.process l).2) w):=by
 have hl:l.length≤1048576:=by omega
 have HO:=qb hO
 have HB:=qb hB
 have LO:=qb h.loose
 have HBL:=qb h.heap
 have CQ:=fun (s:Rd) t (ht:ae9 t=true) w h=>qb (ah1 (L:=L) (B:=B) (g:=g) (sz:=sz) (l:=l) (lv:=lv) (s:=s) t w h hw hl ht)
 have CM:=fun (s:Rd) t (ht:ae9 t=true) w h=>qb (ag5 (L:=L) (B:=B) (g:=g) (sz:=sz) (l:=l) (lv:=lv) (s:=s) t w h hw hl ht)
 have CN:=fun (s:Rd) w h=>qb (ah7 (L:=L) (B:=B) (g:=g) (sz:=sz) (l:=l) (lv:=lv) (s:=s) w h hw hl hx)
 have CB:=fun (s:Rd) w h hO=>qb (aK8 (L:=L) (B:=B) (g:=g) (sz:=sz) (l:=l) (lv:=lv) s w h hO hw h500 hx hB)
 have CS:=fun (s:Rd) w h=>qb (av2 (L:=L) (B:=B) (g:=g) (sz:=sz) (l:=l) (lv:=lv) s w h hw h500 hx)
 have CD:=fun t (ht:ae9 t=true) (s:Rd) w h=>qb (as7 (L:=L) (B:=B) (g:=g) (sz:=sz) (l:=l) (lv:=lv) t ht s w h hw h500 hx)
 have E0:=qb ((IEnd.refl h).new (.cells #[.string ⟨#[]⟩,.slice none 0 0,.slice none 0 0,.int .i64 0] 44))
 have X0:=qb (Box.made w #[.string ⟨#[]⟩,.slice none 0 0,.slice none 0 0,.int .i64 0] 44)
 obtain⟨R,hR⟩:∃ R,R=s.process l:=⟨_,rfl⟩
 rw[←hR]
 unfold Rd.process at hR
 dsimp only at hR
 rw[wh3.2,wh2.2,wh4.2]at hR
 have C1:=CN s
 obtain⟨a,ha⟩:∃ a,a=s.name l:=⟨_,rfl⟩
 rw[←ha]at C1 hR
 have C2:=CQ a.1 ⟨#[117,115,101,115]⟩ wh3.1
 cases q:a.1.isQ l ⟨#[117,115,101,115]⟩ with
 | true =>
  rw[q,if_pos rfl]at hR
  rw[q,show a.1.may l ⟨#[117,115,101,115]⟩=a.1.on from by simp[Rd.may,q]]at C2
  have C3:=CS a.1.on
  have hm3:∀ p,a.1.At p→(a.1.on.names l).1.At p:=fun p h=>by have h2:=h.isQ l ⟨#[117,115,101,115]⟩;rw[q]at h2;cases h2
  obtain⟨u,hu⟩:∃ u,u=a.1.on.names l:=⟨_,rfl⟩
  rw[←hu]at C3 hR hm3
  clear hu
  have C4:=CM u.1 ⟨#[59]⟩ wh2.1
  have hm4:∀ p,u.1.At p→(u.1.must l ⟨#[59]⟩).At p:=fun p h=>Rd.At.must l h _
  obtain⟨m,hm⟩:∃ m,m=u.1.must l ⟨#[59]⟩:=⟨_,rfl⟩
  rw[←hm]at C4 hR hm4
  have C5:=CD ⟨#[118,97,114]⟩ wh4.1 m
  have hm5:∀ p,m.At p→(m.listed l ⟨#[118,97,114]⟩).1.At p:=fun p h=>Rd.At.listed h _
  obtain⟨b,hb⟩:∃ b,b=m.listed l ⟨#[118,97,114]⟩:=⟨_,rfl⟩
  rw[←hb]at C5 hR hm5
  have C6:=CB b.1
  have hm6:∀ p,b.1.At p→(b.1.block l).1.At p:=fun p h=>Rd.Stays.block p _ h
  obtain⟨c,hc⟩:∃ c,c=b.1.block l:=⟨_,rfl⟩
  rw[←hc]at C6 hR hm6
  have C7:=CM c.1 ⟨#[59]⟩ wh2.1
  have hm7:∀ p,c.1.At p→(c.1.must l ⟨#[59]⟩).At p:=fun p h=>Rd.At.must l h _
  obtain⟨d,hd⟩:∃ d,d=c.1.must l ⟨#[59]⟩:=⟨_,rfl⟩
  rw[←hd]at C7 hR hm7
  have HR:=qb hR
  clear CQ CM CN CB CS CD hR ha hm hb hc hd h hO q
  go_enter Tryz.func76,Tryz.ntmps76
  go_wp2_with fail
  cases hb0:a.1.bad
  rotate_left
  ·have C1n:=fun w h=>qb (IOut.no hb0 (qa (C1 w h)))
   have HA:=qb (show R.1.At a.1.pos from by rw[HR.out];exact hm7 _ (hm6 _ (hm5 _ (hm4 _ (hm3 _ ⟨hb0,rfl⟩)))))
   refine(qa (C1n _ E0.out.at')).mono ?_;rintro e w1⟨rfl,he⟩;have KL:=qb (E0.out.lost he);clear he C1n
   exact⟨rfl,ag0.lost KL.out HA.out⟩
  have C1y:=fun w h=>qb (IOut.yes hb0 (qa (C1 w h)))
  clear C1
  refine(qa (C1y _ E0.out.at')).mono ?_;rintro e w1⟨rfl,he⟩;have X1:=qb (X0.out.keepI he.keep aa0.p);have hs1:=(E0.out.then' he).keep.size;have hr1:=X1.out.lt;have S1:Hid (BoxI L B g sz l lv w a.1 w.heap.size w1.heap.size 44 #[.string ⟨#[]⟩,.slice none 0 0,.slice none 0 0,.int .i64 0] #[.string a.2,.slice none 0 0,.slice none 0 0,.int .i64 0] (w1.alloc (.cells #[.string a.2,.slice none 0 0,.slice none 0 0,.int .i64 0] 44))):=⟨(E0.out.then' he).new _,X1.out.stays (bal _ _),Box.made _ _ _,nlr _,hs1,by omega⟩;clear he hs1 hr1 X1 C1y
  go_wp2_with fail
  refine(qa (C2 _ S1.out.fin.at')).mono ?_;rintro e w2⟨rfl,he⟩;have S2:=qb (S1.out.call aa0.p he);have y0:=chp S2.out.box 0;have f0:=fhp S2.out.box 0;have y1:=chp S2.out.box 1;have f1:=fhp S2.out.box 1;have y2:=chp S2.out.box 2;have f2:=fhp S2.out.box 2;have y3:=chp S2.out.box 3;have f3:=fhp S2.out.box 3;simp at y0 y1 y2 y3;clear he C2
  go_wp2_with fail
  cases hb2:u.1.bad
  rotate_left
  ·have C3n:=fun w h=>qb (ag0.no hb2 (qa (C3 w h)))
   have HA:=qb (show R.1.At u.1.pos from by rw[HR.out];exact hm7 _ (hm6 _ (hm5 _ (hm4 _ ⟨hb2,rfl⟩))))
   refine(qa (C3n _ S2.out.fin.at')).mono ?_;rintro e w3⟨rfl,he⟩;have KL:=qb (S2.out.fin.lost he);clear he C3n
   exact⟨rfl,ag0.lost KL.out HA.out⟩
  have C3y:=fun w h=>qb (ag0.yes hb2 (qa (C3 w h)))
  clear C3
  refine(qa (C3y _ S2.out.fin.at')).mono ?_;rintro e w3⟨v,rfl,he,ao2,c2,e2,ho⟩;subst e2;have S3:=qb (S2.out.call aa0.p he);have N2:=qb (ad1 ho S2.out.fin.keep.size);clear ho;clear y0 f0 y1 f1 y2 f2 y3 f3;have y0:=chp S3.out.box 0;have f0:=fhp S3.out.box 0;have y1:=chp S3.out.box 1;have f1:=fhp S3.out.box 1;have y2:=chp S3.out.box 2;have f2:=fhp S3.out.box 2;have y3:=chp S3.out.box 3;have f3:=fhp S3.out.box 3;simp at y0 y1 y2 y3;have S3p:=qb (S3.out.put aa0.p LO.out HBL.out 1 (.slice ao2 u.2.length c2));simp at S3p;have U3p:=qb (aa_ N2.out S3.out.box (by decide) 1 (.slice ao2 u.2.length c2));clear he C3y
  go_wp2_with fail
  cases hb3:m.bad
  rotate_left
  ·have C4n:=fun w h=>qb (IOut.no hb3 (qa (C4 w h)))
   have HA:=qb (show R.1.At m.pos from by rw[HR.out];exact hm7 _ (hm6 _ (hm5 _ ⟨hb3,rfl⟩)))
   refine(qa (C4n _ S3p.out.fin.at')).mono ?_;rintro e w4⟨rfl,he⟩;have KL:=qb (S3p.out.fin.lost he);clear he C4n
   exact⟨rfl,ag0.lost KL.out HA.out⟩
  have C4y:=fun w h=>qb (IOut.yes hb3 (qa (C4 w h)))
  clear C4
  refine(qa (C4y _ S3p.out.fin.at')).mono ?_;rintro e w4⟨rfl,he⟩;have S4:=qb (S3p.out.call aa0.p he);have U4:=qb (ab5 U3p.out he.keep aa0.s);clear y0 f0 y1 f1 y2 f2 y3 f3;have y0:=chp S4.out.box 0;have f0:=fhp S4.out.box 0;have y1:=chp S4.out.box 1;have f1:=fhp S4.out.box 1;have y2:=chp S4.out.box 2;have f2:=fhp S4.out.box 2;have y3:=chp S4.out.box 3;have f3:=fhp S4.out.box 3;simp at y0 y1 y2 y3;clear he C4y
  go_wp2_with fail
  cases hb4:b.1.bad
  rotate_left
  ·have C5n:=fun w h=>qb (ag0.no hb4 (qa (C5 w h)))
   have HA:=qb (show R.1.At b.1.pos from by rw[HR.out];exact hm7 _ (hm6 _ ⟨hb4,rfl⟩))
   refine(qa (C5n _ S4.out.fin.at')).mono ?_;rintro e w5⟨rfl,he⟩;have KL:=qb (S4.out.fin.lost he);clear he C5n
   exact⟨rfl,ag0.lost KL.out HA.out⟩
  have C5y:=fun w h=>qb (ag0.yes hb4 (qa (C5 w h)))
  clear C5
  refine(qa (C5y _ S4.out.fin.at')).mono ?_;rintro e w5⟨v,rfl,he,ao4,c4,e2,ho⟩;subst e2;have S5:=qb (S4.out.call aa0.p he);have N4:=qb (ad1 ho S4.out.fin.keep.size);have RA:=qb (aN3 U4.out ho);clear ho;have U5:=qb (ab5 U4.out he.keep aa0.s);clear y0 f0 y1 f1 y2 f2 y3 f3;have y0:=chp S5.out.box 0;have f0:=fhp S5.out.box 0;have y1:=chp S5.out.box 1;have f1:=fhp S5.out.box 1;have y2:=chp S5.out.box 2;have f2:=fhp S5.out.box 2;have y3:=chp S5.out.box 3;have f3:=fhp S5.out.box 3;simp at y0 y1 y2 y3;have S5p:=qb (S5.out.put aa0.p LO.out HBL.out 2 (.slice ao4 b.2.length c4));simp at S5p;have U5p:=qb (aa_ U5.out S5.out.box (by decide) 2 (.slice ao4 b.2.length c4));have V5p:=qb (aa_ N4.out S5.out.box (by decide) 2 (.slice ao4 b.2.length c4));clear he C5y
  go_wp2_with fail
  cases hb5:c.1.bad
  rotate_left
  ·have C6n:=fun w h hO=>qb (IOut.no hb5 (qa (C6 w h hO)))
   have HA:=qb (show R.1.At c.1.pos from by rw[HR.out];exact hm7 _ ⟨hb5,rfl⟩)
   refine(qa (C6n _ S5p.out.fin.at' (HO.out.stays S5p.out.fin.bel HB.out))).mono ?_;rintro e w6⟨rfl,he⟩;have KL:=qb (S5p.out.fin.lost he);clear he C6n
   exact⟨rfl,ag0.lost KL.out HA.out⟩
  have C6y:=fun w h hO=>qb (IOut.yes hb5 (qa (C6 w h hO)))
  clear C6
  refine(qa (C6y _ S5p.out.fin.at' (HO.out.stays S5p.out.fin.bel HB.out))).mono ?_;rintro e w6⟨rfl,he⟩;have S6:=qb (S5p.out.call aa0.p he);have U6:=qb (ab5 U5p.out he.keep aa0.s);have V6:=qb (ab5 V5p.out he.keep aa0.s);clear y0 f0 y1 f1 y2 f2 y3 f3;have y0:=chp S6.out.box 0;have f0:=fhp S6.out.box 0;have y1:=chp S6.out.box 1;have f1:=fhp S6.out.box 1;have y2:=chp S6.out.box 2;have f2:=fhp S6.out.box 2;have y3:=chp S6.out.box 3;have f3:=fhp S6.out.box 3;simp at y0 y1 y2 y3;have S6p:=qb (S6.out.put aa0.p LO.out HBL.out 3 (.int .i64 c.2));simp at S6p;have U6p:=qb (aa_ U6.out S6.out.box (by decide) 3 (.int .i64 c.2));have V6p:=qb (aa_ V6.out S6.out.box (by decide) 3 (.int .i64 c.2));clear he C6y
  go_wp2_with fail
  cases hb6:d.bad
  rotate_left
  ·have C7n:=fun w h=>qb (IOut.no hb6 (qa (C7 w h)))
   have HA:=qb (show R.1.At d.pos from by rw[HR.out];exact⟨hb6,rfl⟩)
   refine(qa (C7n _ S6p.out.fin.at')).mono ?_;rintro e w7⟨rfl,he⟩;have KL:=qb (S6p.out.fin.lost he);clear he C7n
   exact⟨rfl,ag0.lost KL.out HA.out⟩
  have C7y:=fun w h=>qb (IOut.yes hb6 (qa (C7 w h)))
  clear C7
  refine(qa (C7y _ S6p.out.fin.at')).mono ?_;rintro e w7⟨rfl,he⟩;have S7:=qb (S6p.out.call aa0.p he);have U7:=qb (ab5 U6p.out he.keep aa0.s);have V7:=qb (ab5 V6p.out he.keep aa0.s);clear y0 f0 y1 f1 y2 f2 y3 f3;have y0:=chp S7.out.box 0;have f0:=fhp S7.out.box 0;have y1:=chp S7.out.box 1;have f1:=fhp S7.out.box 1;have y2:=chp S7.out.box 2;have f2:=fhp S7.out.box 2;have y3:=chp S7.out.box 3;have f3:=fhp S7.out.box 3;simp at y0 y1 y2 y3;have r0:=chp S7.out.res 0;have g0:=fhp S7.out.res 0;have r1:=chp S7.out.res 1;have g1:=fhp S7.out.res 1;have r2:=chp S7.out.res 2;have g2:=fhp S7.out.res 2;have r3:=chp S7.out.res 3;have g3:=fhp S7.out.res 3;simp at r0 r1 r2 r3;clear he C7y
  go_wp2_with fail
  have T4:=qb ((((S7.out.out aa0.p LO.out HBL.out 0 (.string a.2)).out aa0.p LO.out HBL.out 1 (.slice ao2 u.2.length c2)).out aa0.p LO.out HBL.out 2 (.slice ao4 b.2.length c4)).out aa0.p LO.out HBL.out 3 (.int .i64 c.2))
  simp at T4
  have UZ:=qb (aa_ (aa_ (aa_ (aa_ U7.out S7.out.res (by decide) 0 (.string a.2)) (S7.out.out aa0.p LO.out HBL.out 0 (.string a.2)).res (by decide) 1 (.slice ao2 u.2.length c2)) ((S7.out.out aa0.p LO.out HBL.out 0 (.string a.2)).out aa0.p LO.out HBL.out 1 (.slice ao2 u.2.length c2)).res (by decide) 2 (.slice ao4 b.2.length c4)) (((S7.out.out aa0.p LO.out HBL.out 0 (.string a.2)).out aa0.p LO.out HBL.out 1 (.slice ao2 u.2.length c2)).out aa0.p LO.out HBL.out 2 (.slice ao4 b.2.length c4)).res (by decide) 3 (.int .i64 c.2))
  have VZ:=qb (aa_ (aa_ (aa_ (aa_ V7.out S7.out.res (by decide) 0 (.string a.2)) (S7.out.out aa0.p LO.out HBL.out 0 (.string a.2)).res (by decide) 1 (.slice ao2 u.2.length c2)) ((S7.out.out aa0.p LO.out HBL.out 0 (.string a.2)).out aa0.p LO.out HBL.out 1 (.slice ao2 u.2.length c2)).res (by decide) 2 (.slice ao4 b.2.length c4)) (((S7.out.out aa0.p LO.out HBL.out 0 (.string a.2)).out aa0.p LO.out HBL.out 1 (.slice ao2 u.2.length c2)).out aa0.p LO.out HBL.out 2 (.slice ao4 b.2.length c4)).res (by decide) 3 (.int .i64 c.2))
  refine an9 (g:=w.heap.size) (t:=44) (cs:=#[.string a.2,.slice ao2 u.2.length c2,.slice ao4 b.2.length c4,.int .i64 c.2]) rfl rfl T4.out.res _ Tryz.underlying44 rfl (by kernel_rfl) rfl ?_
  rw[HR.out]
  exact .inl ⟨hb6,_,rfl,T4.out.fin,_,rfl,⟨ao2,c2,ao4,c4,rfl,UZ.out,VZ.out⟩,RA.out⟩
 | false =>
  rw[q,if_neg (by simp)]at hR
  dsimp only at hR
  rw[q,show a.1.may l ⟨#[117,115,101,115]⟩=a.1 from by simp[Rd.may,q]]at C2
  have C4:=CM a.1 ⟨#[59]⟩ wh2.1
  have hm4:∀ p,a.1.At p→(a.1.must l ⟨#[59]⟩).At p:=fun p h=>Rd.At.must l h _
  obtain⟨m,hm⟩:∃ m,m=a.1.must l ⟨#[59]⟩:=⟨_,rfl⟩
  rw[←hm]at C4 hR hm4
  have C5:=CD ⟨#[118,97,114]⟩ wh4.1 m
  have hm5:∀ p,m.At p→(m.listed l ⟨#[118,97,114]⟩).1.At p:=fun p h=>Rd.At.listed h _
  obtain⟨b,hb⟩:∃ b,b=m.listed l ⟨#[118,97,114]⟩:=⟨_,rfl⟩
  rw[←hb]at C5 hR hm5
  have C6:=CB b.1
  have hm6:∀ p,b.1.At p→(b.1.block l).1.At p:=fun p h=>Rd.Stays.block p _ h
  obtain⟨c,hc⟩:∃ c,c=b.1.block l:=⟨_,rfl⟩
  rw[←hc]at C6 hR hm6
  have C7:=CM c.1 ⟨#[59]⟩ wh2.1
  have hm7:∀ p,c.1.At p→(c.1.must l ⟨#[59]⟩).At p:=fun p h=>Rd.At.must l h _
  obtain⟨d,hd⟩:∃ d,d=c.1.must l ⟨#[59]⟩:=⟨_,rfl⟩
  rw[←hd]at C7 hR hm7
  have HR:=qb hR
  clear CQ CM CN CB CS CD hR ha hm hb hc hd h hO q
  go_enter Tryz.func76,Tryz.ntmps76
  go_wp2_with fail
  cases hb0:a.1.bad
  rotate_left
  ·have C1n:=fun w h=>qb (IOut.no hb0 (qa (C1 w h)))
   have HA:=qb (show R.1.At a.1.pos from by rw[HR.out];exact hm7 _ (hm6 _ (hm5 _ (hm4 _ ⟨hb0,rfl⟩))))
   refine(qa (C1n _ E0.out.at')).mono ?_;rintro e w1⟨rfl,he⟩;have KL:=qb (E0.out.lost he);clear he C1n
   exact⟨rfl,ag0.lost KL.out HA.out⟩
  have C1y:=fun w h=>qb (IOut.yes hb0 (qa (C1 w h)))
  clear C1
  refine(qa (C1y _ E0.out.at')).mono ?_;rintro e w1⟨rfl,he⟩;have X1:=qb (X0.out.keepI he.keep aa0.p);have hs1:=(E0.out.then' he).keep.size;have hr1:=X1.out.lt;have S1:Hid (BoxI L B g sz l lv w a.1 w.heap.size w1.heap.size 44 #[.string ⟨#[]⟩,.slice none 0 0,.slice none 0 0,.int .i64 0] #[.string a.2,.slice none 0 0,.slice none 0 0,.int .i64 0] (w1.alloc (.cells #[.string a.2,.slice none 0 0,.slice none 0 0,.int .i64 0] 44))):=⟨(E0.out.then' he).new _,X1.out.stays (bal _ _),Box.made _ _ _,nlr _,hs1,by omega⟩;clear he hs1 hr1 X1 C1y
  go_wp2_with fail
  refine(qa (C2 _ S1.out.fin.at')).mono ?_;rintro e w2⟨rfl,he⟩;have S2:=qb (S1.out.call aa0.p he);have y0:=chp S2.out.box 0;have f0:=fhp S2.out.box 0;have y1:=chp S2.out.box 1;have f1:=fhp S2.out.box 1;have y2:=chp S2.out.box 2;have f2:=fhp S2.out.box 2;have y3:=chp S2.out.box 3;have f3:=fhp S2.out.box 3;simp at y0 y1 y2 y3;clear he C2
  go_wp2_with fail
  cases hb2:m.bad
  rotate_left
  ·have C4n:=fun w h=>qb (IOut.no hb2 (qa (C4 w h)))
   have HA:=qb (show R.1.At m.pos from by rw[HR.out];exact hm7 _ (hm6 _ (hm5 _ ⟨hb2,rfl⟩)))
   refine(qa (C4n _ S2.out.fin.at')).mono ?_;rintro e w3⟨rfl,he⟩;have KL:=qb (S2.out.fin.lost he);clear he C4n
   exact⟨rfl,ag0.lost KL.out HA.out⟩
  have C4y:=fun w h=>qb (IOut.yes hb2 (qa (C4 w h)))
  clear C4
  refine(qa (C4y _ S2.out.fin.at')).mono ?_;rintro e w3⟨rfl,he⟩;have S3:=qb (S2.out.call aa0.p he);clear y0 f0 y1 f1 y2 f2 y3 f3;have y0:=chp S3.out.box 0;have f0:=fhp S3.out.box 0;have y1:=chp S3.out.box 1;have f1:=fhp S3.out.box 1;have y2:=chp S3.out.box 2;have f2:=fhp S3.out.box 2;have y3:=chp S3.out.box 3;have f3:=fhp S3.out.box 3;simp at y0 y1 y2 y3;clear he C4y
  go_wp2_with fail
  cases hb3:b.1.bad
  rotate_left
  ·have C5n:=fun w h=>qb (ag0.no hb3 (qa (C5 w h)))
   have HA:=qb (show R.1.At b.1.pos from by rw[HR.out];exact hm7 _ (hm6 _ ⟨hb3,rfl⟩))
   refine(qa (C5n _ S3.out.fin.at')).mono ?_;rintro e w4⟨rfl,he⟩;have KL:=qb (S3.out.fin.lost he);clear he C5n
   exact⟨rfl,ag0.lost KL.out HA.out⟩
  have C5y:=fun w h=>qb (ag0.yes hb3 (qa (C5 w h)))
  clear C5
  refine(qa (C5y _ S3.out.fin.at')).mono ?_;rintro e w4⟨v,rfl,he,ao3,c3,e2,ho⟩;subst e2;have S4:=qb (S3.out.call aa0.p he);have N3:=qb (ad1 ho S3.out.fin.keep.size);clear ho;clear y0 f0 y1 f1 y2 f2 y3 f3;have y0:=chp S4.out.box 0;have f0:=fhp S4.out.box 0;have y1:=chp S4.out.box 1;have f1:=fhp S4.out.box 1;have y2:=chp S4.out.box 2;have f2:=fhp S4.out.box 2;have y3:=chp S4.out.box 3;have f3:=fhp S4.out.box 3;simp at y0 y1 y2 y3;have S4p:=qb (S4.out.put aa0.p LO.out HBL.out 2 (.slice ao3 b.2.length c3));simp at S4p;have V4p:=qb (aa_ N3.out S4.out.box (by decide) 2 (.slice ao3 b.2.length c3));clear he C5y
  go_wp2_with fail
  cases hb4:c.1.bad
  rotate_left
  ·have C6n:=fun w h hO=>qb (IOut.no hb4 (qa (C6 w h hO)))
   have HA:=qb (show R.1.At c.1.pos from by rw[HR.out];exact hm7 _ ⟨hb4,rfl⟩)
   refine(qa (C6n _ S4p.out.fin.at' (HO.out.stays S4p.out.fin.bel HB.out))).mono ?_;rintro e w5⟨rfl,he⟩;have KL:=qb (S4p.out.fin.lost he);clear he C6n
   exact⟨rfl,ag0.lost KL.out HA.out⟩
  have C6y:=fun w h hO=>qb (IOut.yes hb4 (qa (C6 w h hO)))
  clear C6
  refine(qa (C6y _ S4p.out.fin.at' (HO.out.stays S4p.out.fin.bel HB.out))).mono ?_;rintro e w5⟨rfl,he⟩;have S5:=qb (S4p.out.call aa0.p he);have V5:=qb (ab5 V4p.out he.keep aa0.s);clear y0 f0 y1 f1 y2 f2 y3 f3;have y0:=chp S5.out.box 0;have f0:=fhp S5.out.box 0;have y1:=chp S5.out.box 1;have f1:=fhp S5.out.box 1;have y2:=chp S5.out.box 2;have f2:=fhp S5.out.box 2;have y3:=chp S5.out.box 3;have f3:=fhp S5.out.box 3;simp at y0 y1 y2 y3;have S5p:=qb (S5.out.put aa0.p LO.out HBL.out 3 (.int .i64 c.2));simp at S5p;have V5p:=qb (aa_ V5.out S5.out.box (by decide) 3 (.int .i64 c.2));clear he C6y
  go_wp2_with fail
  cases hb5:d.bad
  rotate_left
  ·have C7n:=fun w h=>qb (IOut.no hb5 (qa (C7 w h)))
   have HA:=qb (show R.1.At d.pos from by rw[HR.out];exact⟨hb5,rfl⟩)
   refine(qa (C7n _ S5p.out.fin.at')).mono ?_;rintro e w6⟨rfl,he⟩;have KL:=qb (S5p.out.fin.lost he);clear he C7n
   exact⟨rfl,ag0.lost KL.out HA.out⟩
  have C7y:=fun w h=>qb (IOut.yes hb5 (qa (C7 w h)))
  clear C7
  refine(qa (C7y _ S5p.out.fin.at')).mono ?_;rintro e w6⟨rfl,he⟩;have S6:=qb (S5p.out.call aa0.p he);have V6:=qb (ab5 V5p.out he.keep aa0.s);clear y0 f0 y1 f1 y2 f2 y3 f3;have y0:=chp S6.out.box 0;have f0:=fhp S6.out.box 0;have y1:=chp S6.out.box 1;have f1:=fhp S6.out.box 1;have y2:=chp S6.out.box 2;have f2:=fhp S6.out.box 2;have y3:=chp S6.out.box 3;have f3:=fhp S6.out.box 3;simp at y0 y1 y2 y3;have r0:=chp S6.out.res 0;have g0:=fhp S6.out.res 0;have r1:=chp S6.out.res 1;have g1:=fhp S6.out.res 1;have r2:=chp S6.out.res 2;have g2:=fhp S6.out.res 2;have r3:=chp S6.out.res 3;have g3:=fhp S6.out.res 3;simp at r0 r1 r2 r3;clear he C7y
  go_wp2_with fail
  have T4:=qb ((((S6.out.out aa0.p LO.out HBL.out 0 (.string a.2)).out aa0.p LO.out HBL.out 1 (.slice none 0 0)).out aa0.p LO.out HBL.out 2 (.slice ao3 b.2.length c3)).out aa0.p LO.out HBL.out 3 (.int .i64 c.2))
  simp at T4
  have VZ:=qb (aa_ (aa_ (aa_ (aa_ V6.out S6.out.res (by decide) 0 (.string a.2)) (S6.out.out aa0.p LO.out HBL.out 0 (.string a.2)).res (by decide) 1 (.slice none 0 0)) ((S6.out.out aa0.p LO.out HBL.out 0 (.string a.2)).out aa0.p LO.out HBL.out 1 (.slice none 0 0)).res (by decide) 2 (.slice ao3 b.2.length c3)) (((S6.out.out aa0.p LO.out HBL.out 0 (.string a.2)).out aa0.p LO.out HBL.out 1 (.slice none 0 0)).out aa0.p LO.out HBL.out 2 (.slice ao3 b.2.length c3)).res (by decide) 3 (.int .i64 c.2))
  refine an9 (g:=w.heap.size) (t:=44) (cs:=#[.string a.2,.slice none 0 0,.slice ao3 b.2.length c3,.int .i64 c.2]) rfl rfl T4.out.res _ Tryz.underlying44 rfl (by kernel_rfl) rfl ?_
  rw[HR.out]
  exact .inl ⟨hb5,_,rfl,T4.out.fin,_,rfl,⟨none,0,ao3,c3,rfl,World.ownsRow_nil _ _ _ _,VZ.out⟩,at2.none _ 0 0⟩
end Go.Proofs.YtcpapceeekkacaaGreatDoor
