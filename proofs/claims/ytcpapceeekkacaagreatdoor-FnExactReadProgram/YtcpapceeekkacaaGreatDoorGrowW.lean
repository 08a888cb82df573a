import Derived.Test.YtcpapceeekkacaaGreatDoorHoldW
import Derived.Test.YtcpapceeekkacaaGreatDoorSignP
set_option maxRecDepth 100000
set_option maxHeartbeats 8000000
namespace Go.Proofs.YtcpapceeekkacaaGreatDoor
open Go.RowKit
theorem tx3:tx "." = ⟨#[46]⟩∧tx "to" = ⟨#[116,111]⟩:=by decide +kernel
theorem be8 {L:Nat→Prop}{B g:Nat}{l:List Sg}{lv:Value}(s:Rd) (w:World) (h:RdAt L B g l lv s w) (hl:l.length≤1048576) (hx:∀ x∈l,x.text.size≤1048576) :
  Calls Tryz.prog 89 #[.pointer (some ⟨g,0,none⟩)] w fun e w'=>e=.returned (.int .i64 (s.callW l).2)∧aa8 L B g l lv (s.callW l).1 w w':=by
 have CN:=fun (L:Nat→Prop) (s:Rd) w h=>qb (ah9 (L:=L) (B:=B) (g:=g) (l:=l) (lv:=lv) (s:=s) w h hl hx)
 have CM:=fun (L:Nat→Prop) (s:Rd) t w h=>qb (ag6 (L:=L) (B:=B) (g:=g) (l:=l) (lv:=lv) (s:=s) t w h hl)
 have CQ:=fun (L:Nat→Prop) (s:Rd) t w h=>qb (ah0 (L:=L) (B:=B) (g:=g) (l:=l) (lv:=lv) (s:=s) t w h hl)
 have CV:=fun (L:Nat→Prop) (s:Rd) w h=>qb (am0 (L:=L) (B:=B) (g:=g) (l:=l) (lv:=lv) s w h hl hx)
 have CP:=fun (s:Rd) x kv w h hk hg=>qb (aj8 (L:=L) (B:=B) (g:=g) (l:=l) (lv:=lv) (s:=s) x kv w h hk hg hl)
 have C1:=CN L s w h
 obtain⟨R,hR⟩:∃ R,R=s.callW l:=⟨_,rfl⟩
 rw[←hR]
 unfold Rd.callW at hR
 dsimp only at hR
 obtain⟨a,ha⟩:∃ a,a=s.name l:=⟨_,rfl⟩
 rw[←ha]at C1 hR
 have C2:=fun L=>CM L a.1 (tx ".")
 obtain⟨a2,ha2⟩:∃ a2,a2=a.1.must l (tx "."):=⟨_,rfl⟩
 rw[←ha2]at hR
 have C3:=fun L=>CN L a2
 obtain⟨b,hb⟩:∃ b,b=a2.name l:=⟨_,rfl⟩
 rw[←hb]at hR
 have C4:=fun L=>CM L b.1 (tx "(")
 obtain⟨b2,hb2⟩:∃ b2,b2=b.1.must l (tx "("):=⟨_,rfl⟩
 rw[←hb2]at hR
 have C5:=fun L=>CV L b2
 obtain⟨v,hv⟩:∃ v,v=b2.value l:=⟨_,rfl⟩
 rw[←hv]at hR
 have C6:=fun L=>CM L v.1 (tx ")")
 obtain⟨c,hc⟩:∃ c,c=v.1.must l (tx ")"):=⟨_,rfl⟩
 have HM:Hid (∀ w,RdAt L B g l lv v.1 w→c.bad=false→c.Good 1):=fun w h=>by rw[hc];exact h.good.must1 l _
 rw[←hc]at hR
 have C7:=fun L=>CQ L c (tx "to")
 have C8:=fun L=>CN L c.on
 rw[←ha2,tx3.1]at C2
 rw[←hb]at C3
 rw[←hb2,tx2.1]at C4
 rw[←hv]at C5
 rw[←hc,tx2.2.1]at C6
 rw[tx3.2]at C7
 have HR:=qb hR
 clear ha ha2 hb hb2 hv hc hR h hx CM CV CQ
 go_enter Tryz.func89,Tryz.ntmps89
 go_wp2_with (go_at_call 29;refine(qa C1).mono ?_;rintro e w1⟨rfl,he⟩;have K1:=qb he;clear he)
 obtain⟨W1,hW1⟩:∃ W1,w1.alloc (.cells #[.int .i64 14,.int .i64 0,.string a.2,.string ⟨#[]⟩,.string ⟨#[]⟩,.slice none 0 0] 74)=W1:=⟨_,rfl⟩
 obtain⟨xb,hxb⟩:∃ xb,xb=w1.heap.size:=⟨_,rfl⟩
 have X1:Hid (Box W1 xb #[.int .i64 14,.int .i64 0,.string a.2,.string ⟨#[]⟩,.string ⟨#[]⟩,.slice none 0 0] 74):=by show Box _ _ _ _;rw[←hW1,hxb];exact Box.made w1 _ _
 have A1:Hid (RdAt (fun b=>L b∨b=xb) B g l lv a.1 W1):=by show RdAt _ _ _ _ _ _ _;rw[←hW1,hxb];exact K1.out.at'.hold _
 have E1:Hid (aa8 L B g l lv a.1 w W1):=by show aa8 _ _ _ _ _ _ _ _;rw[←hW1];exact K1.out.new _
 have hBx:B≤xb:=by rw[hxb];exact K1.out.at'.heap
 have hnx:¬ L xb:=fun h=>by have:=K1.out.at'.loose xb h;omega
 rw[hW1,←hxb]
 obtain⟨L',hL'⟩:∃ L':Nat→Prop,L'=fun b=>L b∨b=xb:=⟨_,rfl⟩
 rw[←hL']at A1
 have hLL:Hid (∀ b,L b→L' b):=fun b hb=>by rw[hL'];exact .inl hb
 have hLx:L' xb:=by rw[hL'];exact .inr rfl
 clear hL' K1 hW1 hxb C1 CN
 refine(qa (C2 L' _ A1.out)).mono ?_
 rintro e w2⟨rfl,he⟩
 have K2:=qb he
 have X2:=qb (K2.out.stays X1.out hLx)
 clear he C2
 go_wp2_with (go_at_call 29;refine(qa (C3 L' _ K2.out.at')).mono ?_;rintro e w3⟨rfl,he⟩;have K3:=qb he;have X3:=qb (K3.out.stays X2.out hLx);have y3:=chp X3.out 3;have yf:=fhp X3.out 3;clear he C3)
 have A3:=qb (K3.out.at'.poke X3.out hLx 3 (.string b.2))
 have E3:=qb (((E1.out.then' (K2.out.less hLL.out)).then' (K3.out.less hLL.out)).then' (aa8.poke K3.out.at' hLL.out X3.out hLx hnx hBx 3 (.string b.2)))
 have X3':Hid (Box (w3.setCell ⟨xb,3,none⟩ (.string b.2)) xb #[.int .i64 14,.int .i64 0,.string a.2,.string b.2,.string ⟨#[]⟩,.slice none 0 0] 74):=by have:=X3.out.set 3 (.string b.2);simpa [Hid] using this
 generalize w3.setCell ⟨xb,3,none⟩ (.string b.2)=W3 at A3 E3 X3' ⊢
 clear X3 K3 X2 K2 X1 A1 E1 y3 yf
 refine(qa (C4 L' _ A3.out)).mono ?_
 rintro e w4⟨rfl,he⟩
 have K4:=qb he
 have X4:=qb (K4.out.stays X3'.out hLx)
 clear he C4
 have hsl:Hid (∀ (o:Obj) (w6:World),RdAt L' B g l lv c w6→Box w6 xb #[.int .i64 14,.int .i64 0,.string a.2,.string b.2,.string ⟨#[]⟩,.slice none 0 0] 74→Box (w6.alloc o) xb #[.int .i64 14,.int .i64 0,.string a.2,.string b.2,.string ⟨#[]⟩,.slice none 0 0] 74):=fun o w6 _ hb=>(Below.heap_alloc w6 o xb hb.lt).trans hb
 go_wp2_with (first
  | (go_at_call 88;refine(qa (C5 L' _ K4.out.at')).mono ?_;rintro e w5⟨rfl,he⟩;have K5:=qb he;have X5:=qb (K5.out.stays X4.out hLx);clear he)
  | (go_at_call 13;refine(qa (C6 L' _ K5.out.at')).mono ?_;rintro e w6⟨rfl,he⟩;have K6:=qb he;have X6:=qb (K6.out.stays X5.out hLx);have X6':=fun o=>qb (hsl.out o _ K6.out.at' X6.out);have y5:=fun o=>(chp (X6' o).out 5).trans rfl;have yf:=fun o=>fhp (X6' o).out 5;clear he))
 obtain⟨kb,hkb⟩:∃ kb,kb=w6.heap.size:=⟨_,rfl⟩
 obtain⟨W6,hW6⟩:∃ W6,w6.alloc (.cells #[.int .i64 v.2] 3)=W6:=⟨_,rfl⟩
 have I6:Hid (ak7 L' W6 (.slice (some ⟨kb,0,none⟩) 1 1) [v.2]):=by show ak7 _ _ _ _;rw[←hW6];exact ak7.made K6.out.at'.loose hkb [v.2] 1 1 rfl
 have B6:=X6' (.cells #[.int .i64 v.2] 3)
 have N6:=qb (K6.out.new (.cells #[.int .i64 v.2] 3))
 rw[hW6]at B6 N6 ⊢
 rw[←hkb]
 have A7:=qb (N6.out.at'.poke B6.out hLx 5 (.slice (some ⟨kb,0,none⟩) 1 1))
 have E7:=qb ((((E3.out.then' (K4.out.less hLL.out)).then' (K5.out.less hLL.out)).then' (N6.out.less hLL.out)).then' (aa8.poke N6.out.at' hLL.out B6.out hLx hnx hBx 5 (.slice (some ⟨kb,0,none⟩) 1 1)))
 have X7:Hid (Box (W6.setCell ⟨xb,5,none⟩ (.slice (some ⟨kb,0,none⟩) 1 1)) xb #[.int .i64 14,.int .i64 0,.string a.2,.string b.2,.string ⟨#[]⟩,.slice (some ⟨kb,0,none⟩) 1 1] 74):=by have:=B6.out.set 5 (.slice (some ⟨kb,0,none⟩) 1 1);simpa [Hid] using this
 have I7:=qb (I6.out.keep (ak_.poke B6.out 5 (.slice (some ⟨kb,0,none⟩) 1 1)))
 have G7:Hid (c.bad=false→c.Good 1):=HM.out _ (K5.out.at'.less hLL.out)
 generalize W6.setCell ⟨xb,5,none⟩ (.slice (some ⟨kb,0,none⟩) 1 1)=W7 at A7 E7 X7 I7 ⊢
 clear y5 yf X6' X6 X5 X4 K4 K5 K6 N6 B6 I6 X3' A3 E3 hsl hkb hW6 HM
 cases hq:c.isQ l (tx "to") with
 | true =>
  obtain⟨d,hd⟩:∃ d,d=c.on.name l:=⟨_,rfl⟩
  have HX:Hid (R=d.1.put ⟨14,0,a.2,b.2,d.2,[v.2]⟩):=by show _=_;rw[HR.out,hq,if_pos rfl,←hd]
  have HD:Hid (c.Good 0→d.1.Good 1):=fun h=>by rw[hd];exact h.on.name l
  rw[←hd]at C8
  have C7':=C7 L' _ A7.out
  rw[←tx3.2,hq,tx3.2]at C7'
  have HM7:Hid (c.may l ⟨#[116,111]⟩=c.on):=by show _=_;rw[←tx3.2];simp[Rd.may,hq]
  rw[HM7.out]at C7'
  clear hd C7 HR G7
  refine(qa C7').mono ?_
  rintro e w8⟨rfl,he⟩
  have K8:=qb he
  have X8:=qb (K8.out.stays X7.out hLx)
  clear he C7'
  go_wp2_with (first
   | (go_at_call 29;refine(qa (C8 L' _ K8.out.at')).mono ?_;rintro e w9⟨rfl,he⟩;have K9:=qb he;have X9:=qb (K9.out.stays X8.out hLx);have y4:=chp X9.out 4;have yf:=fhp X9.out 4;clear he;have A9:=qb (K9.out.at'.poke X9.out hLx 4 (.string d.2));have X9':Hid (Box (w9.setCell ⟨xb,4,none⟩ (.string d.2)) xb #[.int .i64 14,.int .i64 0,.string a.2,.string b.2,.string d.2,.slice (some ⟨kb,0,none⟩) 1 1] 74):=(by have:=X9.out.set 4 (.string d.2);simpa [Hid] using this);have E9:=qb (((E7.out.then' (K8.out.less hLL.out)).then' (K9.out.less hLL.out)).then' (aa8.poke K9.out.at' hLL.out X9.out hLx hnx hBx 4 (.string d.2)));have I9:=qb ((((I7.out.keep K8.out.keep).keep K9.out.keep).keep (ak_.poke X9.out 4 (.string d.2))).less hLL.out);have u0:=(chp X9'.out 0).trans rfl;have u1:=(chp X9'.out 1).trans rfl;have u2:=(chp X9'.out 2).trans rfl;have u3:=(chp X9'.out 3).trans rfl;have u4:=(chp X9'.out 4).trans rfl;have u5:=(chp X9'.out 5).trans rfl;have C9:=CP d.1 ⟨14,0,a.2,b.2,d.2,[v.2]⟩ (.slice (some ⟨kb,0,none⟩) 1 1) _ E9.out.at' I9.out (fun _=>HD.out A7.out.good))
   | (go_at_call 62;refine(qa C9).mono ?_;rintro e w10⟨rfl,he⟩;have K10:=qb he;clear he))
  go_ret
  rw[HX.out]
  exact⟨rfl,E9.out.then' K10.out⟩
 | false =>
  have HX:Hid (R=c.put ⟨14,0,a.2,b.2,ByteArray.empty,[v.2]⟩):=by show _=_;rw[HR.out,hq,if_neg (by simp)]
  have C7':=C7 L' _ A7.out
  rw[←tx3.2,hq,tx3.2]at C7'
  have HM7:Hid (c.may l ⟨#[116,111]⟩=c):=by show _=_;rw[←tx3.2];simp[Rd.may,hq]
  rw[HM7.out]at C7'
  clear C7 HR C8
  refine(qa C7').mono ?_
  rintro e w8⟨rfl,he⟩
  have K8:=qb he
  have X8:=qb (K8.out.stays X7.out hLx)
  have E8:=qb (E7.out.then' (K8.out.less hLL.out))
  have C9:=CP c ⟨14,0,a.2,b.2,ByteArray.empty,[v.2]⟩ (.slice (some ⟨kb,0,none⟩) 1 1) _ E8.out.at' ((I7.out.keep K8.out.keep).less hLL.out) G7.out
  clear he C7' CP
  have u0:=(chp X8.out 0).trans rfl;have u1:=(chp X8.out 1).trans rfl;have u2:=(chp X8.out 2).trans rfl;have u3:=(chp X8.out 3).trans rfl;have u4:=(chp X8.out 4).trans rfl;have u5:=(chp X8.out 5).trans rfl
  go_wp2_with (go_at_call 62;refine(qa C9).mono ?_;rintro e w10⟨rfl,he⟩;have K10:=qb he;clear he)
  go_ret
  rw[HX.out]
  exact⟨rfl,E8.out.then' K10.out⟩
theorem Tryz.infoI:(Tryz.prog.info? 3).map (fun i=>(i.zero,i.size,i.bytes))=some (some (.int .i64 0),1,8):=by kernel_rfl
structure at8 (L:Nat→Prop) (B g:Nat) (l:List Sg) (lv:Value) (e:TypeId) (w0:World) (s:Rd) (v:Value) (xs:List Value) (w:World):Prop where
 at':RdAt (fun b=>L b∨v.ownBlock=some b) B g l lv s w
 own:w.ownsRow w0.heap.size e 1 v xs.length xs
 fin:aa8 L B g l lv s w0 w
 loose:∀ b,L b→b<w0.heap.size
theorem at8.made {L:Nat→Prop}{B g:Nat}{l:List Sg}{lv:Value}{e:TypeId}{w0 w:World}{s:Rd}(h:aa8 L B g l lv s w0 w) (h0:∀ b,L b→b<w0.heap.size) (x:Value):at8 L B g l lv e w0 s (.slice (some ⟨w.heap.size,0,none⟩) 1 1) [x] (w.alloc (.cells #[x] e)) :=
 ⟨(h.at'.hold _).less (fun b hb=>hb.imp id (fun e=>by simpa [Value.ownBlock] using e.symm)),⟨rfl,.inr ⟨w.heap.size,1,#[x],rfl,h.keep.size,heap_alloc_new w _,nlr _,by decide,rfl,rfl⟩⟩,h.new _,h0⟩
theorem at8.call {L:Nat→Prop}{B g:Nat}{l:List Sg}{lv:Value}{e:TypeId}{w0 w w':World}{s s':Rd}{v:Value}{xs:List Value}(h:at8 L B g l lv e w0 s v xs w) (he:aa8 (fun b=>L b∨v.ownBlock=some b) B g l lv s' w w'):at8 L B g l lv e w0 s' v xs w':=by
 refine⟨he.at',⟨h.own.1,?_⟩,h.fin.then' (he.less fun b hb=>.inl hb),h.loose⟩
 rcases h.own.2 with h2|⟨g',cap,cur,rfl,hb1,hg',r⟩
 ·exact .inl h2
 ·exact .inr ⟨g',cap,cur,rfl,hb1,(he.held g' (.inr rfl)).trans hg',r⟩
theorem at8.ints {L:Nat→Prop}{B g:Nat}{l:List Sg}{lv:Value}{w0 w:World}{s:Rd}{v:Value}{xs:List Int}(h:at8 L B g l lv 3 w0 s v (xs.map I64) w):ak7 L w v xs:=by
 obtain⟨h1,h2⟩:=h.own
 rcases h2 with⟨rfl,h2⟩|⟨g',cap,cur,rfl,hb1,hg',hc,hm,hs,ht⟩
 ·have e:xs=[]:=by simpa using h2
  subst e
  exact ak7.nil w
 ·refine⟨some ⟨g',0,none⟩,cap,by simp,.inr ⟨g',0,cur,(0,0),rfl,fun hL=>by have:=h.loose g' hL;omega,hg',fun j hj=>?_⟩⟩
  have e:(cur.toList.take ((xs.map I64).length*1))[j]? = (xs.map I64)[j]? := by rw[ht]
  rw[List.getElem?_take_of_lt (by simpa using hj)]at e
  simp[hj]at e
  simpa [hj] using e
theorem RdAt.beside {L:Nat→Prop}{B g:Nat}{l:List Sg}{lv:Value}{e:TypeId}{w1 w2:World}{s:Rd}{v v':Value}{n base:Nat}{xs:List Value}(h:RdAt (fun b=>L b∨v.ownBlock=some b) B g l lv s w1) (he:e≠48) (hv:w1.ownsRow base e 1 v n xs) (hgr:w1.grownBy w2 v.ownBlock) (hown:∀ k,v'.ownBlock=some k→k<w2.heap.size) (hob:v'.ownBlock=v.ownBlock∨v'.ownBlock=some w1.heap.size):RdAt (fun b=>L b∨v'.ownBlock=some b) B g l lv s w2:=by
 have hgl:=h.boxLt
 obtain⟨⟨nv,h1,css,n1,n2,n3,n4,n5⟩,h3,h4,h5,h6,h7,h8⟩:=h
 have hst:∀ c,c<w1.heap.size→¬ (v.ownBlock=some c)→w2.heap[c]? = w1.heap[c]? := fun c hc hn=>hgr.block c hc (fun e=>hn e.symm)
 have hnew:∀ c,c<w1.heap.size→¬ (L c∨v.ownBlock=some c)→¬ (L c∨v'.ownBlock=some c):=fun c hc hn hx=>by
  rcases hx with hx|hx
  ·exact hn (.inl hx)
  ·rcases hob with hob|hob
   ·exact hn (.inr (hob.symm.trans hx))
   ·rw[hob]at hx;injection hx with hx;omega
 refine⟨⟨nv,(hst g hgl fun e=>h8 (.inr e)).trans h1,css,n1,n2,?_,fun j cs x hj hx=>?_,fun b hb=>hnew b (n3.lt b hb).2 (n5 b hb)⟩,?_,h4,h5,h6,fun b hb=>?_,hnew g hgl h8⟩
 ·obtain⟨m1,m2⟩:=n3
  refine⟨m1,?_⟩
  rcases m2 with m2|⟨g',cap,cur,rfl,hb1,hg',r⟩
  ·exact .inl m2
  ·exact .inr ⟨g',cap,cur,rfl,hb1,(hst g' (ag7 hg') fun e=>n5 g' rfl (.inr e)).trans hg',r⟩
 ·obtain⟨kv,e',ao,c,e2,hc⟩:=n4 j cs x hj hx
  refine⟨kv,e',ao,c,e2,?_⟩
  rcases hc with hc|⟨b,o',cs',fr,e3,h0,hh,hr⟩
  ·exact .inl hc
  ·exact .inr ⟨b,o',cs',fr,e3,hnew b (ag7 hh) h0,(hst b (ag7 hh) fun e=>h0 (.inr e)).trans hh,hr⟩
 ·obtain⟨m1,m2⟩:=h3
  refine⟨m1,?_⟩
  rcases m2 with m2|⟨g',cap,cur,rfl,hb1,hg',r⟩
  ·exact .inl m2
  ·refine .inr ⟨g',cap,cur,rfl,hb1,(hst g' (ag7 hg') fun eo=>?_).trans hg',r⟩
   rcases hv.2 with⟨rfl,_⟩|⟨g2,cap2,cur2,rfl,_,hg2,_⟩
   ·simp[Value.ownBlock]at eo
   ·simp only[Value.ownBlock,Option.some.injEq]at eo
    subst eo
    rw[hg2]at hg'
    injection hg' with hg'
    injection hg' with _ hg' _
    exact he hg'
 ·rcases hb with hb|hb
  ·exact nll (h7 b (.inl hb)) hgr.size
  ·exact hown b hb
theorem at8.app {L:Nat→Prop}{B g:Nat}{l:List Sg}{lv:Value}{e:TypeId}{w0 w w1 w2:World}{s:Rd}{v v':Value}{xs ys:List Value}(h:at8 L B g l lv e w0 s v xs w) (he:e≠48) (hB:B≤w0.heap.size) (hb1:Below w.heap.size w w1) (hown:w2.ownsRow w0.heap.size e 1 v' ys.length ys) (hgr:w1.grownBy w2 v.ownBlock) (hob:v'.ownBlock=v.ownBlock∨v'.ownBlock=some w1.heap.size):at8 L B g l lv e w0 s v' ys w2:=by
 have hat:=(h.at'.below hb1).beside he (ac8 h.own hb1) hgr (fun k hk=>(hown.lt k hk).2) hob
 have hs0:=h.fin.keep.size
 have hs1:=hb1.size
 have hlow:∀ b,b<w0.heap.size→w2.heap[b]? = w.heap[b]? := fun b hb=>by
  rw[hgr.block b (by omega) (fun eo=>by have:=(h.own.lt b eo.symm).1;omega),hb1.block b (by omega)]
 refine⟨hat,hown,⟨hat.less fun b hb=>.inl hb,⟨nlt hs0 (nlt hs1 hgr.size),fun b cs T fr t1 t2 hb=>(hlow b (ag7 hb)).trans (h.fin.keep.blk b cs T fr t1 t2 hb)⟩,?_,fun b hb=>(hlow b (h.loose b hb)).trans (h.fin.held b hb)⟩,h.loose⟩
 exact(h.fin.bel.trans (hb1.mono (by omega))).grown hgr (by omega) (fun j hj=>by have:=(h.own.lt j hj).1;omega)
theorem av8 {w:World}{ops:Array Oper}{rest:List Oper}{o:Oper}{a:Act}{Q:Exit→Act→World→Prop}(hgd:o.guard=none) (sl x:Operand)
  (ho:o.op=.call { callee:=.builtin .append,args:=#[sl,x],argTypes:=#[70,70] })
  {L:Nat→Prop}{B g:Nat}{l:List Sg}{lv:Value}{w0:World}{s:Rd}{v:Value}{xs:List Int}{k:Int}{kb:Nat}(hkb:kb=w.heap.size) (h:at8 L B g l lv 3 w0 s v (xs.map I64) w) (hs:a.eval sl=v) (hx:a.eval x=.slice (some ⟨kb,0,none⟩) 1 1) (hB:B≤w0.heap.size) (hn:xs.length≤2000000)
  (hK:∀ v' w',at8 L B g l lv 3 w0 s v' ((xs++[k]).map I64) w'→wpList Tryz.prog ops Q rest (a.put o.dst v') w'):wpList Tryz.prog ops Q (o :: rest) a (w.alloc (.cells #[.int .i64 k] 3)):=by
 subst hkb
 obtain⟨i,hi,hz0,hz1,hz2⟩:=info_parts Tryz.infoI
 have hs0:=h.fin.keep.size
 have hb1:Below w.heap.size w (w.alloc (.cells #[.int .i64 k] 3)):=bal _ _
 refine wpList_append_own_at _ hgd sl x 70 ho w0.heap.size 3 i (.int .i64 0) 1 8 Tryz.underlying70 hi hz0 hz1 hz2 rfl (by decide) v _ _ hs (h.own.alloc _) ⟨w.heap.size,0,none⟩ 1 1 [.int .i64 k] hx rfl (cell_one_new _ _ _) (by simp;rfl) (by simp[maxLen];omega) (by simp;omega) (by simp;omega) ?_
 intro v' w' hown hgr _ hob
 refine hK v' w' (h.app (by decide) hB hb1 ?_ hgr hob)
 simpa using hown
theorem tx4:tx "begin" = ⟨#[98,101,103,105,110]⟩∧tx ";" = ⟨#[59]⟩∧tx "end" = ⟨#[101,110,100]⟩:=by decide +kernel
def MoreRel (L:Nat→Prop) (B g:Nat) (l:List Sg) (lv:Value) (stmt:Rd→Rd×Int) (n:Nat) (R:Rd×List Int) (w:World) (kv:Value) (wr:World):Prop :=
 ∃ (s:Rd) (ks:List Int) (m:Nat),Hid (Rd.more l stmt (m+1) s ks=R)∧Hid (l.length-s.pos<m+1∧l.length-s.pos<n∧ks.length≤s.pos+1)∧Hid (at8 L B g l lv 3 w s kv (ks.map I64) wr)
theorem aX1 {L:Nat→Prop}{B g:Nat}{l:List Sg}{lv:Value}{n:Nat}(stmt:Rd→Rd×Int) (hs:∀ L,Way L B g l lv 61 stmt n) (hl:l.length≤1048576) (s:Rd) (w:World) (hn:l.length-s.pos<n) (h:RdAt L B g l lv s w) :
  Calls Tryz.prog 31 #[.pointer (some ⟨g,0,none⟩)] w fun e w'=>e=.returned (.int .i64 (Rd.blockW l stmt s).2)∧aa8 L B g l lv (Rd.blockW l stmt s).1 w w':=by
 have H:=qb h
 have HS:=qb hs
 have CQ:=fun (L:Nat→Prop) (s:Rd) w h=>qb (ah0 (L:=L) (B:=B) (g:=g) (l:=l) (lv:=lv) (s:=s) (tx ";") w h hl)
 have C1:=qb (ag6 (L:=L) (B:=B) (g:=g) (l:=l) (lv:=lv) (s:=s) (tx "begin") w h hl)
 obtain⟨R,hR⟩:∃ R,R=Rd.blockW l stmt s:=⟨_,rfl⟩
 rw[←hR]
 unfold Rd.blockW at hR
 dsimp only at hR
 have hp0:=Rd.must_pos l (tx "begin") s
 obtain⟨s0,hs0⟩:∃ s0,s0=s.must l (tx "begin"):=⟨_,rfl⟩
 rw[←hs0]at C1 hR hp0
 have C2:=fun w h=>qb ((hs L).run s0 w (by omega) h)
 have hp1:=(hs L).pos s0
 obtain⟨a,ha⟩:∃ a,a=stmt s0:=⟨_,rfl⟩
 rw[←ha]at C2 hR hp1
 obtain⟨M,hM⟩:∃ M,M=Rd.more l stmt (l.length+1) a.1 [a.2]:=⟨_,rfl⟩
 rw[←hM]at hR
 have C5:=fun w h=>qb (ag6 (L:=L) (B:=B) (g:=g) (l:=l) (lv:=lv) (s:=M.1) (tx "end") w h hl)
 have C6:=fun kv w h hk hg=>qb (aj8 (L:=L) (B:=B) (g:=g) (l:=l) (lv:=lv) (s:=M.1.must l (tx "end")) (ndK 20 0 M.2) kv w h hk hg hl)
 rw[tx4.1]at C1
 rw[tx4.2.1]at CQ
 rw[tx4.2.2]at C5
 have HR:=qb hR
 have HM:=qb hM.symm
 have HN:Hid (l.length-a.1.pos<l.length+1∧l.length-a.1.pos<n∧1≤a.1.pos+1):=⟨by omega,by omega,by omega⟩
 clear hs hR hs0 ha hM hp0 hp1 h hn
 go_enter Tryz.func31,Tryz.ntmps31
 go_wp2_with (first
  | (go_at_call 13;refine(qa C1).mono ?_;rintro e w1⟨rfl,he⟩;have K1:=qb he;clear he)
  | (go_at_call 61;refine(qa (C2 _ K1.out.at')).mono ?_;rintro e w2⟨rfl,he⟩;have K2:=qb he;clear he))
 go_loopw [3] (fun kv wr=>MoreRel L B g l lv stmt n M w kv wr) (fun _ wr=>l.length-(intOf ((wr.cell? ⟨g,1,none⟩).getD undef)).toNat)
 case atStart=>exact⟨a.1,[a.2],l.length,HM,HN,at8.made (K1.out.then' K2.out) H.out.loose (.int .i64 a.2)⟩
 case round =>
  obtain⟨s',ks,m,HX,HP,HK⟩:=hrel
  obtain⟨ao,cp,hkv⟩:=ab_ HK.out.own
  rw[List.length_map]at hkv
  subst hkv
  have CQ1:=CQ _ s' _ HK.out.at'
  cases hq:s'.isQ l (tx ";") with
  | true =>
   have hlt:=Rd.isQ_lt hq
   have HM1:Hid (s'.may l ⟨#[59]⟩=s'.on):=by show _=_;rw[←tx4.2.1];simp[Rd.may,hq]
   rw[←tx4.2.1,hq,tx4.2.1,HM1.out]at CQ1
   have hpo:s'.on.pos=s'.pos+1:=rfl
   have CS:=fun L w h=>qb ((HS.out L).run s'.on w (by have:=HP.out;omega) h)
   have hpb:=(HS.out L).pos s'.on
   obtain⟨b,hb⟩:∃ b,b=stmt s'.on:=⟨_,rfl⟩
   rw[←hb]at CS hpb
   have HX2:Hid (Rd.more l stmt m b.1 (ks++[b.2])=M):=by
    have:=HX.out
    rw[Rd.more,hq,if_pos rfl,←hb]at this
    exact this
   have HPO:=qb (show s'.pos+1≤b.1.pos by omega)
   have HKN:Hid (ks.length≤2000000):=by have:=HP.out;show _≤_;omega
   have HB0:=qb H.out.heap
   clear hb hpb hpo hq C2 C5 C6 CQ
   go_wp2_with (first
    | (go_at_call 10;refine(qa CQ1).mono ?_;rintro e w3⟨rfl,he⟩;have K3:=qb (HK.out.call he);clear he)
    | (go_at_call 61;refine(qa (CS _ _ K3.out.at')).mono ?_;rintro e w4⟨rfl,he⟩;have K4:=qb (K3.out.call he);clear he)
    | (at_builtin;refine av8 rfl (.tmp 11) (.tmp 14) rfl (kb:=w4.heap.size) rfl K4.out rfl rfl HB0.out HKN.out ?_;intro v5 w5 hk5;have K5:=qb hk5;clear hk5))
   have hpl:=K5.out.at'.pos
   have h5:=HPO.out
   have h6:=HP.out
   have hm:∃ m',m=m'+1:=⟨m-1,by omega⟩
   obtain⟨m',rfl⟩:=hm
   go_roundw
   case rel=>exact⟨b.1,ks++[b.2],m',HX2,⟨by omega,by omega,by simp;omega⟩,K5⟩
   case measure =>
    rw[K5.out.at'.posCell,HK.out.at'.posCell]
    omega
  | false =>
   have HM1:Hid (s'.may l ⟨#[59]⟩=s'):=by show _=_;rw[←tx4.2.1];simp[Rd.may,hq]
   rw[←tx4.2.1,hq,tx4.2.1,HM1.out]at CQ1
   have HX2:Hid (M=(s',ks)):=by
    have:=HX.out
    rw[Rd.more,hq,if_neg (by simp)]at this
    exact this.symm
   have HG:Hid (∀ w,RdAt L B g l lv M.1 w→(M.1.must l (tx "end")).bad=false→(M.1.must l (tx "end")).Good 1):=fun w h=>h.good.must1 l _
   clear C2 CQ hq
   have e1:M.1=s':=by rw[HX2.out]
   have e2:M.2=ks:=by rw[HX2.out]
   rw[e1]at C5 C6 HG
   rw[e2]at C6
   have HR2:Hid (R=(s'.must l (tx "end")).put (ndK 20 0 ks)):=by show _=_;rw[HR.out,e1,e2]
   clear e1 e2
   rw[tx4.2.2]at HR2 C6 HG
   go_wp2_with (first
    | (go_at_call 10;refine(qa CQ1).mono ?_;rintro e w3⟨rfl,he⟩;have K3:=qb (HK.out.call he);clear he)
    | (go_at_call 13;refine(qa (C5 _ K3.out.fin.at')).mono ?_;rintro e w4⟨rfl,he⟩;have K4:=qb he;have I4:=qb (K3.out.ints.keep K4.out.keep);clear he)
    | (go_at_call 62;refine(qa (C6 _ _ K4.out.at' I4.out (HG.out _ K3.out.fin.at'))).mono ?_;rintro e w5⟨rfl,he⟩;have K5:=qb he;clear he))
   go_ret
   rw[HR2.out]
   exact⟨rfl,(K3.out.fin.then' K4.out).then' K5.out⟩
def aa3 (T:Nat):Prop:=T≠74∧T≠37∧T≠48∧T≠3
theorem aa3.s:aa3 9:=⟨by decide,by decide,by decide,by decide⟩
theorem aa3.e:aa3 67:=⟨by decide,by decide,by decide,by decide⟩
theorem aa3.m:aa3 41:=⟨by decide,by decide,by decide,by decide⟩
theorem aa3.p:aa3 44:=⟨by decide,by decide,by decide,by decide⟩
theorem aa3.g:aa3 26:=⟨by decide,by decide,by decide,by decide⟩
theorem aa8.change {L:Nat→Prop}{B g:Nat}{l:List Sg}{lv:Value}{s:Rd}{w0 z z':World}(h:aa8 L B g l lv s w0 z) (hL:∀ b,L b→b<w0.heap.size) (hbel:Below B z z')
  (hc:∀ c,c<z.heap.size→z'.heap[c]? = z.heap[c]?∨(w0.heap.size≤c∧∃ cs T fr,z.heap[c]? = some (Obj.cells cs T fr)∧aa3 T)):aa8 L B g l lv s w0 z':=by
 obtain⟨⟨⟨nv,h1,css,n1,n2,n3,n4,n5⟩,h3,h4,h5,h6,h7,h8⟩,hk,hb,hh⟩:=h
 have same:∀ {c:Nat}{cs:Array Value}{T:Nat}{fr:Nat×Nat},z.heap[c]? = some (Obj.cells cs T fr)→¬ aa3 T→z'.heap[c]? = some (Obj.cells cs T fr):=fun {c cs T fr} e hT=>by
  rcases hc c (ag7 e) with e2|⟨_,cs',T',fr',e2,e3⟩
  ·exact e2.trans e
  ·rw[e]at e2
   injection e2 with e2
   injection e2 with _ e2 _
   subst e2
   exact absurd e3 hT
 have old:∀ c,c<w0.heap.size→z'.heap[c]? = z.heap[c]? := fun c hc0=>by
  rcases hc c (nll hc0 hk.size) with e|⟨e,_⟩
  ·exact e
  ·omega
 refine⟨⟨⟨nv,same h1 (fun a=>a.2.1 rfl),css,n1,n2,?_,fun j cs x hj hx=>?_,n5⟩,?_,h4,h5,h6,fun b hb2=>nll (h7 b hb2) hbel.size,h8⟩,⟨nlt hk.size hbel.size,fun b cs T fr t1 t2 e=>(old b (ag7 e)).trans (hk.blk b cs T fr t1 t2 e)⟩,hb.trans hbel,fun b hb2=>(old b (hL b hb2)).trans (hh b hb2)⟩
 ·obtain⟨m1,m2⟩:=n3
  refine⟨m1,?_⟩
  rcases m2 with m2|⟨g',cap,cur,rfl,hb1,hg',r⟩
  ·exact .inl m2
  ·exact .inr ⟨g',cap,cur,rfl,hb1,same hg' (fun a=>a.1 rfl),r⟩
 ·obtain⟨kv,e',ao,c,e2,hc2⟩:=n4 j cs x hj hx
  refine⟨kv,e',ao,c,e2,?_⟩
  rcases hc2 with hc2|⟨b,o',cs',fr,e3,h0,hh2,hr⟩
  ·exact .inl hc2
  ·exact .inr ⟨b,o',cs',fr,e3,h0,same hh2 (fun a=>a.2.2.2 rfl),hr⟩
 ·obtain⟨m1,m2⟩:=h3
  refine⟨m1,?_⟩
  rcases m2 with m2|⟨g',cap,cur,rfl,hb1,hg',r⟩
  ·exact .inl m2
  ·exact .inr ⟨g',cap,cur,rfl,hb1,same hg' (fun a=>a.2.2.1 rfl),r⟩
theorem aa8.grow {L:Nat→Prop}{B g:Nat}{l:List Sg}{lv:Value}{s:Rd}{w0 z z':World}{e:TypeId}{k n:Nat}{v:Value}{xs:List Value}(h:aa8 L B g l lv s w0 z) (hL:∀ b,L b→b<w0.heap.size) (hB:B≤w0.heap.size) (he:aa3 e)
  (hv:z.ownsRow w0.heap.size e k v n xs) (hgr:z.grownBy z' v.ownBlock):aa8 L B g l lv s w0 z':=by
 have hs0:=h.keep.size
 refine h.change hL ((Below.refl B z).grown hgr (by omega) (fun j hj=>by have:=(hv.lt j hj).1;omega)) fun c hc=>?_
 by_cases hcv:v.ownBlock=some c
 ·rcases hv.2 with⟨rfl,_⟩|⟨g2,cap2,cur2,rfl,hg1,hg2,_⟩
  ·simp[Value.ownBlock]at hcv
  ·simp only[Value.ownBlock,Option.some.injEq]at hcv
   subst hcv
   exact .inr ⟨hg1,cur2,e,_,hg2,he⟩
 ·exact .inl (hgr.block c hc (fun e=>hcv e.symm))
theorem aa8.poke' {L:Nat→Prop}{B g:Nat}{l:List Sg}{lv:Value}{s:Rd}{w0 z:World}{b:Nat}{cs:Array Value}{T:TypeId}(h:aa8 L B g l lv s w0 z) (hL:∀ b,L b→b<w0.heap.size) (hB:B≤w0.heap.size) (hT:aa3 T) (hb:w0.heap.size≤b) (hx:Box z b cs T) (i:Nat) (u:Value):aa8 L B g l lv s w0 (z.setCell ⟨b,i,none⟩ u):=by
 refine h.change hL ((Below.refl B z).setCell (nlt hB hb) u) fun c hc=>?_
 by_cases hcb:c=b
 ·subst hcb
  exact .inr ⟨hb,cs,T,_,hx,hT⟩
 ·exact .inl (Below.heap_setCell z ⟨b,i,none⟩ u c hcb)
theorem aa4 {z z':World}{base:Nat}{e:TypeId}{k n:Nat}{v:Value}{xs:List Value}(h:z.ownsRow base e k v n xs) (hk:ak_ z z') (he:aa3 e):z'.ownsRow base e k v n xs:=by
 obtain⟨h1,h2⟩:=h
 refine⟨h1,?_⟩
 rcases h2 with h2|⟨g',cap,cur,rfl,hb1,hg',r⟩
 ·exact .inl h2
 ·exact .inr ⟨g',cap,cur,rfl,hb1,hk.blk g' cur e _ he.1 he.2.1 hg',r⟩
theorem Box.keep {z z':World}{b:Nat}{cs:Array Value}{T:TypeId}(h:Box z b cs T) (hk:ak_ z z') (he:aa3 T):Box z' b cs T:=hk.blk b cs T _ he.1 he.2.1 h
theorem aC5 {z z':World}{base b:Nat}{e:TypeId}{k n:Nat}{v:Value}{xs:List Value}(h:z.ownsRow base e k v n xs) (hc:∀ c,c<z.heap.size→c≠b→z'.heap[c]? = z.heap[c]?) (hv:v.ownBlock≠some b):z'.ownsRow base e k v n xs:=by
 obtain⟨h1,h2⟩:=h
 refine⟨h1,?_⟩
 rcases h2 with h2|⟨g',cap,cur,rfl,hb1,hg',r⟩
 ·exact .inl h2
 ·exact .inr ⟨g',cap,cur,rfl,hb1,(hc g' (ag7 hg') (fun e=>hv (by rw[e];rfl))).trans hg',r⟩
theorem al1 {z:World}{base b:Nat}{e T:TypeId}{k n:Nat}{v:Value}{xs:List Value}{cs:Array Value}{fr:Nat×Nat}(h:z.ownsRow base e k v n xs) (hb:z.heap[b]? = some (Obj.cells cs T fr)) (hT:e≠T):v.ownBlock≠some b:=fun hv=>by
 rcases h.2 with⟨rfl,_⟩|⟨g2,cap2,cur2,rfl,hg1,hg2,_⟩
 ·simp[Value.ownBlock]at hv
 ·simp only[Value.ownBlock,Option.some.injEq]at hv
  subst hv
  rw[hb]at hg2
  injection hg2 with hg2
  injection hg2 with _ hg2 _
  exact hT hg2.symm
theorem aa_ {z:World}{base b:Nat}{e T:TypeId}{k n:Nat}{v:Value}{xs:List Value}{cs:Array Value}(h:z.ownsRow base e k v n xs) (hb:Box z b cs T) (hT:e≠T) (i:Nat) (u:Value):(z.setCell ⟨b,i,none⟩ u).ownsRow base e k v n xs :=
 aC5 h (fun c _ hne=>Below.heap_setCell z ⟨b,i,none⟩ u c hne) (al1 h hb hT)
theorem Tryz.infoS:(Tryz.prog.info? 9).map (fun i=>(i.zero,i.size,i.bytes))=some (some (.string ⟨#[]⟩),1,16):=by kernel_rfl
theorem bg5 {w:World}{ops:Array Oper}{rest:List Oper}{o:Oper}{a:Act}{Q:Exit→Act→World→Prop}(hgd:o.guard=none) (sl x:Operand)
  (ho:o.op=.call { callee:=.builtin .append,args:=#[sl,x],argTypes:=#[38,38] })
  {L:Nat→Prop}{B g:Nat}{l:List Sg}{lv:Value}{w0:World}{s:Rd}{v:Value}{xs:List ByteArray}{k:ByteArray}{kb:Nat}(hkb:kb=w.heap.size) (h:aa8 L B g l lv s w0 w) (hL:∀ b,L b→b<w0.heap.size) (hv:w.ownsRow w0.heap.size 9 1 v xs.length (xs.map Value.string)) (hs:a.eval sl=v) (hx:a.eval x=.slice (some ⟨kb,0,none⟩) 1 1) (hB:B≤w0.heap.size) (hn:xs.length≤2000000)
  (hK:∀ v' w',aa8 L B g l lv s w0 w'→w'.ownsRow w0.heap.size 9 1 v' (xs++[k]).length ((xs++[k]).map Value.string)→wpList Tryz.prog ops Q rest (a.put o.dst v') w'):wpList Tryz.prog ops Q (o :: rest) a (w.alloc (.cells #[.string k] 9)):=by
 subst hkb
 obtain⟨i,hi,hz0,hz1,hz2⟩:=info_parts Tryz.infoS
 have hs0:=h.keep.size
 refine wpList_append_own_at _ hgd sl x 38 ho w0.heap.size 9 i (.string ⟨#[]⟩) 1 16 Tryz.underlying38 hi hz0 hz1 hz2 rfl (by decide) v _ _ hs (hv.alloc _) ⟨w.heap.size,0,none⟩ 1 1 [.string k] hx rfl (cell_one_new _ _ _) (by simp;rfl) (by simp[maxLen];omega) (by first|omega|(simp;omega)) (by first|omega|(simp;omega)) ?_
 intro v' w' hown hgr _ hob
 refine hK v' w' ((h.new _).grow hL hB aa3.s (hv.alloc _) hgr) ?_
 simpa using hown
end Go.Proofs.YtcpapceeekkacaaGreatDoor
