import Derived.Test.YtcpapceeekkacaaGreatDoorIrdB
import Derived.Test.YtcpapceeekkacaaGreatDoorIrdC
set_option maxRecDepth 100000
set_option maxHeartbeats 8000000
namespace Go.Proofs.YtcpapceeekkacaaGreatDoor
open Go.RowKit
def Rd.loopW (l:List Sg) (blk:Rd→Rd×Int) (s:Rd):Rd×Int :=
 (blk ((s.value l).1.must l (tx "do"))).1.put (ndK 13 0 [(s.value l).2,(blk ((s.value l).1.must l (tx "do"))).2])
def Rd.choiceW (l:List Sg) (blk:Rd→Rd×Int) (s:Rd):Rd×Int :=
 if (blk ((s.value l).1.must l (tx "then"))).1.isQ l (tx "else") then
  (blk (blk ((s.value l).1.must l (tx "then"))).1.on).1.put (ndK 12 0 [(s.value l).2,(blk ((s.value l).1.must l (tx "then"))).2,(blk (blk ((s.value l).1.must l (tx "then"))).1.on).2])
 else (blk ((s.value l).1.must l (tx "then"))).1.put (ndK 12 0 [(s.value l).2,(blk ((s.value l).1.must l (tx "then"))).2])
theorem wd0:ae9 ⟨#[100,111]⟩=true∧tx "do" = ⟨#[100,111]⟩:=by decide +kernel
theorem wd1:ae9 ⟨#[116,104,101,110]⟩=true∧tx "then" = ⟨#[116,104,101,110]⟩:=by decide +kernel
theorem wd2:ae9 ⟨#[101,108,115,101]⟩=true∧tx "else" = ⟨#[101,108,115,101]⟩:=by decide +kernel
theorem wd3:ae9 ⟨#[46]⟩=true∧tx "." = ⟨#[46]⟩:=by decide +kernel
theorem wd4:ae9 ⟨#[40]⟩=true∧tx "(" = ⟨#[40]⟩:=by decide +kernel
theorem wd5:ae9 ⟨#[41]⟩=true∧tx ")" = ⟨#[41]⟩:=by decide +kernel
theorem wd6:ae9 ⟨#[116,111]⟩=true∧tx "to" = ⟨#[116,111]⟩:=by decide +kernel
theorem wd7:ae9 ⟨#[58,61]⟩=true∧tx ":=" = ⟨#[58,61]⟩:=by decide +kernel
theorem wd8:ae9 ⟨#[105,102]⟩=true∧tx "if" = ⟨#[105,102]⟩:=by decide +kernel
theorem wd9:ae9 ⟨#[119,104,105,108,101]⟩=true∧tx "while" = ⟨#[119,104,105,108,101]⟩:=by decide +kernel
theorem wd10:ae9 ⟨#[99,97,108,108]⟩=true∧tx "call" = ⟨#[99,97,108,108]⟩:=by decide +kernel
theorem wd11:ae9 ⟨#[112,114,105,110,116]⟩=true∧tx "print" = ⟨#[112,114,105,110,116]⟩:=by decide +kernel
theorem wd12:ae9 ⟨#[114,101,97,100]⟩=true∧tx "read" = ⟨#[114,101,97,100]⟩:=by decide +kernel
theorem wd13:ae9 ⟨#[100,101,108,97,121]⟩=true∧tx "delay" = ⟨#[100,101,108,97,121]⟩:=by decide +kernel
theorem wd14:ae9 ⟨#[99,111,110,116,105,110,117,101]⟩=true∧tx "continue" = ⟨#[99,111,110,116,105,110,117,101]⟩:=by decide +kernel
theorem wd15:ae9 ⟨#[115,107,105,112]⟩=true∧tx "skip" = ⟨#[115,107,105,112]⟩:=by decide +kernel
theorem bi8 {L:Nat→Prop}{B g:Nat}{sz:Int}{l:List Sg}{lv:Value}{n:Nat}(blk:Rd→Rd×Int) (hb:∀ L,IWay L B g sz l lv 101 blk n) (hw:ag8 l) (hl:l.length≤1048576) (hx:∀ x∈l,x.text.size≤1048576) (hB:3<B) (s:Rd) (w:World) (hn:l.length-s.pos<n) (h:IAt L B g sz l lv s w) (hO:ak5 w) (hg:s.Good 1) :
  Calls Tryz.prog 132 #[.pointer (some ⟨g,0,none⟩)] w (IOut L B g sz l lv (Rd.loopW l blk s).1 (.int .i64 (Rd.loopW l blk s).2) w):=by
 have HO:=qb hO
 have HB:=qb hB
 have hfb:=h.fine
 have hgood:=h.good
 have K0:=qb (IEnd.refl h)
 have CQ:=fun (s:Rd) t (ht:ae9 t=true) w h=>qb (ah1 (L:=L) (B:=B) (g:=g) (sz:=sz) (l:=l) (lv:=lv) (s:=s) t w h hw hl ht)
 have CM:=fun (s:Rd) t (ht:ae9 t=true) w h=>qb (ag5 (L:=L) (B:=B) (g:=g) (sz:=sz) (l:=l) (lv:=lv) (s:=s) t w h hw hl ht)
 have CN:=fun (s:Rd) w h=>qb (ah7 (L:=L) (B:=B) (g:=g) (sz:=sz) (l:=l) (lv:=lv) (s:=s) w h hw hl hx)
 have CV:=fun (s:Rd) w h hO=>qb (am1 (L:=L) (B:=B) (g:=g) (sz:=sz) (l:=l) (lv:=lv) s w h hO hw hl hx hB)
 have CA:=fun s a b w h hg=>qb (bc6 (L:=L) (B:=B) (g:=g) (sz:=sz) (l:=l) (lv:=lv) (s:=s) a b w h hg hl)
 obtain⟨R,hR⟩:∃ R,R=Rd.loopW l blk s:=⟨_,rfl⟩
 rw[←hR]
 unfold Rd.loopW at hR
 have hg1:=Rd.Keeps.value l 1 _ hg
 have hp1:=Rd.value_pos l s
 have C1:=CV s
 obtain⟨v,hv⟩:∃ v,v=s.value l:=⟨_,rfl⟩
 rw[←hv]at C1 hR hg1 hp1
 have C2:=CM v.1 ⟨#[100,111]⟩ wd0.1
 have hp2:=Rd.must_pos l (tx "do") v.1
 have hg2:=hg1.must l (tx "do")
 have hm2:∀ p,v.1.At p→(v.1.must l (tx "do")).At p:=fun p h=>Rd.At.must l h _
 rw[wd0.2]at hR hp2 hg2 hm2
 obtain⟨m,hm⟩:∃ m,m=v.1.must l ⟨#[100,111]⟩:=⟨_,rfl⟩
 rw[←hm]at C2 hR hp2 hg2 hm2
 have C3:=fun w h hO=>qb ((hb L).run m w (by omega) h hO)
 have hg3:=(hb L).keeps 1 _ hg2
 have hs3:=(hb L).stays
 obtain⟨b,hbb⟩:∃ b,b=blk m:=⟨_,rfl⟩
 have hm3:∀ p,m.At p→b.1.At p:=fun p h=>by rw[hbb];exact hs3 p _ h
 rw[←hbb]at C3 hR hg3
 have C4:=fun w h=>CA b.1 v.2 b.2 w h hg3
 have hbp:b.1.bad=false→(b.1.put (ndK 13 0 [v.2,b.2])).1.bad=false:=fun hb=>by rw[Rd.put_ok hb];exact hb
 have HR:=qb hR
 clear CQ CM CN CV CA hR hv hm hbb hs3 hb h hO
 go_enter Tryz.func132,Tryz.ntmps132
 go_wp2_with fail
 cases hb0:v.1.bad
 rotate_left
 ·have C1n:=fun w h hO=>qb (IOut.no hb0 (qa (C1 w h hO)))
  have HA:=qb (show R.1.At v.1.pos from by rw[HR.out];exact Rd.At.put (hm3 _ (hm2 _ ⟨hb0,rfl⟩)) _)
  refine(qa (C1n _ K0.out.at' (HO.out.stays K0.out.bel HB.out))).mono ?_;rintro e w1⟨rfl,he⟩;have K1:=qb (K0.out.lost he);clear he C1n
  exact⟨rfl,IOut.lost K1.out HA.out⟩
 have C1y:=fun w h hO=>qb (IOut.yes hb0 (qa (C1 w h hO)))
 clear C1
 refine(qa (C1y _ K0.out.at' (HO.out.stays K0.out.bel HB.out))).mono ?_;rintro e w1⟨rfl,he⟩;have K1:=qb (K0.out.then' he);clear he C1y
 go_wp2_with fail
 cases hb1:m.bad
 rotate_left
 ·have C2n:=fun w h=>qb (IOut.no hb1 (qa (C2 w h)))
  have HA:=qb (show R.1.At m.pos from by rw[HR.out];exact Rd.At.put (hm3 _ ⟨hb1,rfl⟩) _)
  refine(qa (C2n _ K1.out.at')).mono ?_;rintro e w2⟨rfl,he⟩;have K2:=qb (K1.out.lost he);clear he C2n
  exact⟨rfl,IOut.lost K2.out HA.out⟩
 have C2y:=fun w h=>qb (IOut.yes hb1 (qa (C2 w h)))
 clear C2
 refine(qa (C2y _ K1.out.at')).mono ?_;rintro e w2⟨rfl,he⟩;have K2:=qb (K1.out.then' he);clear he C2y
 go_wp2_with fail
 cases hb2:b.1.bad
 rotate_left
 ·have C3n:=fun w h hO=>qb (IOut.no hb2 (qa (C3 w h hO)))
  have HA:=qb (show R.1.At b.1.pos from by rw[HR.out];exact Rd.At.put ⟨hb2,rfl⟩ _)
  refine(qa (C3n _ K2.out.at' (HO.out.stays K2.out.bel HB.out))).mono ?_;rintro e w3⟨rfl,he⟩;have K3:=qb (K2.out.lost he);clear he C3n
  exact⟨rfl,IOut.lost K3.out HA.out⟩
 have C3y:=fun w h hO=>qb (IOut.yes hb2 (qa (C3 w h hO)))
 clear C3
 refine(qa (C3y _ K2.out.at' (HO.out.stays K2.out.bel HB.out))).mono ?_;rintro e w3⟨rfl,he⟩;have K3:=qb (K2.out.then' he);clear he C3y
 go_wp2_with fail
 refine(qa (C4 _ K3.out.at')).mono ?_;rintro e w4⟨rfl,he⟩;have K4:=qb (K3.out.then' he);clear he C4
 go_wp2_with fail
 go_ret
 rw[HR.out]
 exact .inl ⟨hbp hb2,rfl,K4.out⟩
theorem aU3 {L:Nat→Prop}{B g:Nat}{sz:Int}{l:List Sg}{lv:Value}{n:Nat}(blk:Rd→Rd×Int) (hb:∀ L,IWay L B g sz l lv 101 blk n) (hw:ag8 l) (hl:l.length≤1048576) (hx:∀ x∈l,x.text.size≤1048576) (hB:3<B) (hnn:∀ s,0≤(blk s).2) (s:Rd) (w:World) (hn:l.length-s.pos<n) (h:IAt L B g sz l lv s w) (hO:ak5 w) (hg:s.Good 1) :
  Calls Tryz.prog 131 #[.pointer (some ⟨g,0,none⟩)] w (IOut L B g sz l lv (Rd.choiceW l blk s).1 (.int .i64 (Rd.choiceW l blk s).2) w):=by
 have HO:=qb hO
 have HB:=qb hB
 have hfb:=h.fine
 have hgood:=h.good
 have K0:=qb (IEnd.refl h)
 have CQ:=fun (s:Rd) t (ht:ae9 t=true) w h=>qb (ah1 (L:=L) (B:=B) (g:=g) (sz:=sz) (l:=l) (lv:=lv) (s:=s) t w h hw hl ht)
 have CM:=fun (s:Rd) t (ht:ae9 t=true) w h=>qb (ag5 (L:=L) (B:=B) (g:=g) (sz:=sz) (l:=l) (lv:=lv) (s:=s) t w h hw hl ht)
 have CN:=fun (s:Rd) w h=>qb (ah7 (L:=L) (B:=B) (g:=g) (sz:=sz) (l:=l) (lv:=lv) (s:=s) w h hw hl hx)
 have CV:=fun (s:Rd) w h hO=>qb (am1 (L:=L) (B:=B) (g:=g) (sz:=sz) (l:=l) (lv:=lv) s w h hO hw hl hx hB)
 have CA:=fun s a b c w h hg=>qb (iAdd_if (L:=L) (B:=B) (g:=g) (sz:=sz) (l:=l) (lv:=lv) (s:=s) a b c w h hg hl)
 obtain⟨R,hR⟩:∃ R,R=Rd.choiceW l blk s:=⟨_,rfl⟩
 rw[←hR]
 unfold Rd.choiceW at hR
 have hg1:=Rd.Keeps.value l 1 _ hg
 have hp1:=Rd.value_pos l s
 have C1:=CV s
 obtain⟨v,hv⟩:∃ v,v=s.value l:=⟨_,rfl⟩
 rw[←hv]at C1 hR hg1 hp1
 have C2:=CM v.1 ⟨#[116,104,101,110]⟩ wd1.1
 have hp2:=Rd.must_pos l (tx "then") v.1
 have hg2:=hg1.must l (tx "then")
 have hm2:∀ p,v.1.At p→(v.1.must l (tx "then")).At p:=fun p h=>Rd.At.must l h _
 rw[wd1.2]at hR hp2 hg2 hm2
 obtain⟨m,hm⟩:∃ m,m=v.1.must l ⟨#[116,104,101,110]⟩:=⟨_,rfl⟩
 rw[←hm]at C2 hR hp2 hg2 hm2
 have C3:=fun w h hO=>qb ((hb L).run m w (by omega) h hO)
 have hg3:=(hb L).keeps 1 _ hg2
 have hp3:=(hb L).pos m
 have hs3:=(hb L).stays
 obtain⟨b,hbb⟩:∃ b,b=blk m:=⟨_,rfl⟩
 have hm3:∀ p,m.At p→b.1.At p:=fun p h=>by rw[hbb];exact hs3 p _ h
 rw[←hbb]at C3 hR hg3 hp3
 have C4:=CQ b.1 ⟨#[101,108,115,101]⟩ wd2.1
 rw[wd2.2]at hR
 cases qe:b.1.isQ l ⟨#[101,108,115,101]⟩ with
 | true =>
  rw[qe,if_pos rfl]at hR
  have hlt:=Rd.isQ_lt qe
  have hon:b.1.on.pos=b.1.pos+1:=rfl
  rw[qe,show b.1.may l ⟨#[101,108,115,101]⟩=b.1.on from by simp[Rd.may,qe]]at C4
  have C5:=fun w h hO=>qb ((hb L).run b.1.on w (by omega) h hO)
  have hg5:=(hb L).keeps 2 _ hg3.on
  obtain⟨c,hc⟩:∃ c,c=blk b.1.on:=⟨_,rfl⟩
  have hm5:∀ p,b.1.At p→c.1.At p:=fun p h=>by have h2:=h.isQ l ⟨#[101,108,115,101]⟩;rw[qe]at h2;cases h2
  rw[←hc]at C5 hR hg5
  have hne:¬ c.2 = -1:=fun e=>by have:=hnn b.1.on;rw[←hc]at this;omega
  have HK:Hid (aj2 v.2 b.2 c.2=[v.2,b.2,c.2]):=if_neg hne
  have C6:=fun w h=>CA c.1 v.2 b.2 c.2 w h hg5.less
  rw[HK.out]at C6
  have hbp:c.1.bad=false→(c.1.put (ndK 12 0 [v.2,b.2,c.2])).1.bad=false:=fun hb=>by rw[Rd.put_ok hb];exact hb
  have HR:=qb hR
  clear CQ CM CN CV CA hR hv hm hbb hs3 hb h hO hc qe
  go_enter Tryz.func131,Tryz.ntmps131
  go_wp2_with fail
  cases hb0:v.1.bad
  rotate_left
  ·have C1n:=fun w h hO=>qb (IOut.no hb0 (qa (C1 w h hO)))
   have HA:=qb (show R.1.At v.1.pos from by rw[HR.out];exact Rd.At.put (hm5 _ (hm3 _ (hm2 _ ⟨hb0,rfl⟩))) _)
   refine(qa (C1n _ K0.out.at' (HO.out.stays K0.out.bel HB.out))).mono ?_;rintro e w1⟨rfl,he⟩;have K1:=qb (K0.out.lost he);clear he C1n
   exact⟨rfl,IOut.lost K1.out HA.out⟩
  have C1y:=fun w h hO=>qb (IOut.yes hb0 (qa (C1 w h hO)))
  clear C1
  refine(qa (C1y _ K0.out.at' (HO.out.stays K0.out.bel HB.out))).mono ?_;rintro e w1⟨rfl,he⟩;have K1:=qb (K0.out.then' he);clear he C1y
  go_wp2_with fail
  cases hb1:m.bad
  rotate_left
  ·have C2n:=fun w h=>qb (IOut.no hb1 (qa (C2 w h)))
   have HA:=qb (show R.1.At m.pos from by rw[HR.out];exact Rd.At.put (hm5 _ (hm3 _ ⟨hb1,rfl⟩)) _)
   refine(qa (C2n _ K1.out.at')).mono ?_;rintro e w2⟨rfl,he⟩;have K2:=qb (K1.out.lost he);clear he C2n
   exact⟨rfl,IOut.lost K2.out HA.out⟩
  have C2y:=fun w h=>qb (IOut.yes hb1 (qa (C2 w h)))
  clear C2
  refine(qa (C2y _ K1.out.at')).mono ?_;rintro e w2⟨rfl,he⟩;have K2:=qb (K1.out.then' he);clear he C2y
  go_wp2_with fail
  cases hb2:b.1.bad
  rotate_left
  ·have C3n:=fun w h hO=>qb (IOut.no hb2 (qa (C3 w h hO)))
   have HA:=qb (show R.1.At b.1.pos from by rw[HR.out];exact Rd.At.put (hm5 _ ⟨hb2,rfl⟩) _)
   refine(qa (C3n _ K2.out.at' (HO.out.stays K2.out.bel HB.out))).mono ?_;rintro e w3⟨rfl,he⟩;have K3:=qb (K2.out.lost he);clear he C3n
   exact⟨rfl,IOut.lost K3.out HA.out⟩
  have C3y:=fun w h hO=>qb (IOut.yes hb2 (qa (C3 w h hO)))
  clear C3
  refine(qa (C3y _ K2.out.at' (HO.out.stays K2.out.bel HB.out))).mono ?_;rintro e w3⟨rfl,he⟩;have K3:=qb (K2.out.then' he);clear he C3y
  go_wp2_with fail
  refine(qa (C4 _ K3.out.at')).mono ?_;rintro e w4⟨rfl,he⟩;have K4:=qb (K3.out.then' he);clear he C4
  go_wp2_with fail
  cases hb4:c.1.bad
  rotate_left
  ·have C5n:=fun w h hO=>qb (IOut.no hb4 (qa (C5 w h hO)))
   have HA:=qb (show R.1.At c.1.pos from by rw[HR.out];exact Rd.At.put ⟨hb4,rfl⟩ _)
   refine(qa (C5n _ K4.out.at' (HO.out.stays K4.out.bel HB.out))).mono ?_;rintro e w5⟨rfl,he⟩;have K5:=qb (K4.out.lost he);clear he C5n
   exact⟨rfl,IOut.lost K5.out HA.out⟩
  have C5y:=fun w h hO=>qb (IOut.yes hb4 (qa (C5 w h hO)))
  clear C5
  refine(qa (C5y _ K4.out.at' (HO.out.stays K4.out.bel HB.out))).mono ?_;rintro e w5⟨rfl,he⟩;have K5:=qb (K4.out.then' he);clear he C5y
  go_wp2_with fail
  refine(qa (C6 _ K5.out.at')).mono ?_;rintro e w6⟨rfl,he⟩;have K6:=qb (K5.out.then' he);clear he C6
  go_wp2_with fail
  go_ret
  rw[HR.out]
  exact .inl ⟨hbp hb4,rfl,K6.out⟩
 | false =>
  rw[qe,if_neg (by simp)]at hR
  rw[qe,show b.1.may l ⟨#[101,108,115,101]⟩=b.1 from by simp[Rd.may,qe]]at C4
  have HK:Hid (aj2 v.2 b.2 (-1)=[v.2,b.2]):=if_pos rfl
  have C6:=fun w h=>CA b.1 v.2 b.2 (-1) w h hg3
  rw[HK.out]at C6
  have hbp:b.1.bad=false→(b.1.put (ndK 12 0 [v.2,b.2])).1.bad=false:=fun hb=>by rw[Rd.put_ok hb];exact hb
  have HR:=qb hR
  clear CQ CM CN CV CA hR hv hm hbb hs3 hb h hO qe
  go_enter Tryz.func131,Tryz.ntmps131
  go_wp2_with fail
  cases hb0:v.1.bad
  rotate_left
  ·have C1n:=fun w h hO=>qb (IOut.no hb0 (qa (C1 w h hO)))
   have HA:=qb (show R.1.At v.1.pos from by rw[HR.out];exact Rd.At.put (hm3 _ (hm2 _ ⟨hb0,rfl⟩)) _)
   refine(qa (C1n _ K0.out.at' (HO.out.stays K0.out.bel HB.out))).mono ?_;rintro e w1⟨rfl,he⟩;have K1:=qb (K0.out.lost he);clear he C1n
   exact⟨rfl,IOut.lost K1.out HA.out⟩
  have C1y:=fun w h hO=>qb (IOut.yes hb0 (qa (C1 w h hO)))
  clear C1
  refine(qa (C1y _ K0.out.at' (HO.out.stays K0.out.bel HB.out))).mono ?_;rintro e w1⟨rfl,he⟩;have K1:=qb (K0.out.then' he);clear he C1y
  go_wp2_with fail
  cases hb1:m.bad
  rotate_left
  ·have C2n:=fun w h=>qb (IOut.no hb1 (qa (C2 w h)))
   have HA:=qb (show R.1.At m.pos from by rw[HR.out];exact Rd.At.put (hm3 _ ⟨hb1,rfl⟩) _)
   refine(qa (C2n _ K1.out.at')).mono ?_;rintro e w2⟨rfl,he⟩;have K2:=qb (K1.out.lost he);clear he C2n
   exact⟨rfl,IOut.lost K2.out HA.out⟩
  have C2y:=fun w h=>qb (IOut.yes hb1 (qa (C2 w h)))
  clear C2
  refine(qa (C2y _ K1.out.at')).mono ?_;rintro e w2⟨rfl,he⟩;have K2:=qb (K1.out.then' he);clear he C2y
  go_wp2_with fail
  cases hb2:b.1.bad
  rotate_left
  ·have C3n:=fun w h hO=>qb (IOut.no hb2 (qa (C3 w h hO)))
   have HA:=qb (show R.1.At b.1.pos from by rw[HR.out];exact Rd.At.put ⟨hb2,rfl⟩ _)
   refine(qa (C3n _ K2.out.at' (HO.out.stays K2.out.bel HB.out))).mono ?_;rintro e w3⟨rfl,he⟩;have K3:=qb (K2.out.lost he);clear he C3n
   exact⟨rfl,IOut.lost K3.out HA.out⟩
  have C3y:=fun w h hO=>qb (IOut.yes hb2 (qa (C3 w h hO)))
  clear C3
  refine(qa (C3y _ K2.out.at' (HO.out.stays K2.out.bel HB.out))).mono ?_;rintro e w3⟨rfl,he⟩;have K3:=qb (K2.out.then' he);clear he C3y
  go_wp2_with fail
  refine(qa (C4 _ K3.out.at')).mono ?_;rintro e w4⟨rfl,he⟩;have K4:=qb (K3.out.then' he);clear he C4
  go_wp2_with fail
  refine(qa (C6 _ K4.out.at')).mono ?_;rintro e w5⟨rfl,he⟩;have K5:=qb (K4.out.then' he);clear he C6
  go_wp2_with fail
  go_ret
  rw[HR.out]
  exact .inl ⟨hbp hb2,rfl,K5.out⟩
theorem aa0.call:aa0 149:=⟨by decide,by decide,by decide,by decide⟩
theorem Box.keepI {z z':World}{b:Nat}{cs:Array Value}{T:TypeId}(h:Box z b cs T) (hk:ar7 z z') (he:aa0 T):Box z' b cs T:=hk.blk b cs T _ he.1 he.2.1 h
theorem IEnd.poke {L:Nat→Prop}{B g:Nat}{sz:Int}{l:List Sg}{lv:Value}{s:Rd}{w0 z:World}{b:Nat}{cs:Array Value}{T:TypeId}(h:IEnd L B g sz l lv s w0 z) (hL:∀ b,L b→b<w0.heap.size) (hB:B≤w0.heap.size) (hT:aa0 T) (hb:w0.heap.size≤b) (hx:Box z b cs T) (i:Nat) (u:Value):IEnd L B g sz l lv s w0 (z.setCell ⟨b,i,none⟩ u):=by
 refine h.change hL L h.at' ((Below.refl B z).setCell (nlt hB hb) u) (fun c hc=>?_) (fun b hb=>hb)
 by_cases hcb:c=b
 ·subst hcb
  exact .inr ⟨hb,.inl ⟨cs,T,_,hx,hT⟩⟩
 ·exact .inl (Below.heap_setCell z ⟨b,i,none⟩ u c hcb)
theorem bi7 {L:Nat→Prop}{B g:Nat}{sz:Int}{l:List Sg}{lv:Value}(hw:ag8 l) (hl:l.length≤1048576) (hx:∀ x∈l,x.text.size≤1048576) (hB:3<B) (s:Rd) (w:World) (h:IAt L B g sz l lv s w) (hO:ak5 w) :
  Calls Tryz.prog 133 #[.pointer (some ⟨g,0,none⟩)] w (IOut L B g sz l lv (s.callW l).1 (.int .i64 (s.callW l).2) w):=by
 have HO:=qb hO
 have HB:=qb hB
 have hfb:=h.fine
 have hgood:=h.good
 have K0:=qb (IEnd.refl h)
 have CQ:=fun (s:Rd) t (ht:ae9 t=true) w h=>qb (ah1 (L:=L) (B:=B) (g:=g) (sz:=sz) (l:=l) (lv:=lv) (s:=s) t w h hw hl ht)
 have CM:=fun (s:Rd) t (ht:ae9 t=true) w h=>qb (ag5 (L:=L) (B:=B) (g:=g) (sz:=sz) (l:=l) (lv:=lv) (s:=s) t w h hw hl ht)
 have CN:=fun (s:Rd) w h=>qb (ah7 (L:=L) (B:=B) (g:=g) (sz:=sz) (l:=l) (lv:=lv) (s:=s) w h hw hl hx)
 have CV:=fun (s:Rd) w h hO=>qb (am1 (L:=L) (B:=B) (g:=g) (sz:=sz) (l:=l) (lv:=lv) s w h hO hw hl hx hB)
 have LO:=qb h.loose
 have HBL:=qb h.heap
 have CA:=fun s nm mo it a w h hg=>qb (bi3 (L:=L) (B:=B) (g:=g) (sz:=sz) (l:=l) (lv:=lv) (s:=s) nm mo it a w h hg hl)
 obtain⟨R,hR⟩:∃ R,R=s.callW l:=⟨_,rfl⟩
 rw[←hR]
 unfold Rd.callW at hR
 dsimp only at hR
 have C1:=CN s
 have hg1:=hgood.name l
 obtain⟨a,ha⟩:∃ a,a=s.name l:=⟨_,rfl⟩
 rw[←ha]at C1 hR hg1
 have C2:=CM a.1 ⟨#[46]⟩ wd3.1
 have hg2:=hg1.must l (tx ".")
 have hm2:∀ p,a.1.At p→(a.1.must l (tx ".")).At p:=fun p h=>Rd.At.must l h _
 rw[wd3.2]at hR hg2 hm2
 obtain⟨m,hm⟩:∃ m,m=a.1.must l ⟨#[46]⟩:=⟨_,rfl⟩
 rw[←hm]at C2 hR hg2 hm2
 have C3:=CN m
 have hg3:=hg2.name l
 have hm3:∀ p,m.At p→(m.name l).1.At p:=fun p h=>Rd.At.name l h
 obtain⟨b,hbb⟩:∃ b,b=m.name l:=⟨_,rfl⟩
 rw[←hbb]at C3 hR hg3 hm3
 have C4:=CM b.1 ⟨#[40]⟩ wd4.1
 have hg4:=hg3.must l (tx "(")
 have hm4:∀ p,b.1.At p→(b.1.must l (tx "(")).At p:=fun p h=>Rd.At.must l h _
 rw[wd4.2]at hR hg4 hm4
 obtain⟨m2,hm22⟩:∃ m2,m2=b.1.must l ⟨#[40]⟩:=⟨_,rfl⟩
 rw[←hm22]at C4 hR hg4 hm4
 have C5:=CV m2
 have hg5:=Rd.Keeps.value l 0 _ hg4
 have hm5:∀ p,m2.At p→(m2.value l).1.At p:=fun p h=>Rd.Stays.value p _ h
 obtain⟨v,hv⟩:∃ v,v=m2.value l:=⟨_,rfl⟩
 rw[←hv]at C5 hR hg5 hm5
 have C6:=CM v.1 ⟨#[41]⟩ wd5.1
 have hg6:=hg5.must l (tx ")")
 have hg61:=hg5.must1 l (tx ")")
 have hm6:∀ p,v.1.At p→(v.1.must l (tx ")")).At p:=fun p h=>Rd.At.must l h _
 rw[wd5.2]at hR hg6 hg61 hm6
 obtain⟨c,hc⟩:∃ c,c=v.1.must l ⟨#[41]⟩:=⟨_,rfl⟩
 rw[←hc]at C6 hR hg6 hg61 hm6
 have C7:=CQ c ⟨#[116,111]⟩ wd6.1
 have hqb:∀ p,c.At p→c.isQ l ⟨#[116,111]⟩=false:=fun p h=>h.isQ l _
 rw[wd6.2]at hR
 cases qe:c.isQ l ⟨#[116,111]⟩ with
 | true =>
  rw[qe,if_pos rfl]at hR
  rw[qe,show c.may l ⟨#[116,111]⟩=c.on from by simp[Rd.may,qe]]at C7
  have C8:=CN c.on
  have hg8:=hg6.on.name l
  have hm8:∀ p,c.At p→(c.on.name l).1.At p:=fun p h=>by have h2:=h.isQ l ⟨#[116,111]⟩;rw[qe]at h2;cases h2
  obtain⟨d,hd⟩:∃ d,d=c.on.name l:=⟨_,rfl⟩
  rw[←hd]at C8 hR hg8 hm8
  have C9:=fun w h=>CA d.1 a.2 b.2 d.2 v.2 w h hg8
  have hbp:d.1.bad=false→(d.1.put ⟨14,0,a.2,b.2,d.2,[v.2]⟩).1.bad=false:=fun hb=>by rw[Rd.put_ok hb];exact hb
  have HR:=qb hR
  clear CQ CM CN CV CA hR ha hm hbb hm22 hv hc hd h hO hqb qe
  go_enter Tryz.func133,Tryz.ntmps133
  go_wp2_with fail
  cases hb0:a.1.bad
  rotate_left
  ·have C1n:=fun w h=>qb (IOut.no hb0 (qa (C1 w h)))
   have HA:=qb (show R.1.At a.1.pos from by rw[HR.out];exact Rd.At.put (hm8 _ (hm6 _ (hm5 _ (hm4 _ (hm3 _ (hm2 _ ⟨hb0,rfl⟩)))))) _)
   refine(qa (C1n _ K0.out.at')).mono ?_;rintro e w1⟨rfl,he⟩;have K1:=qb (K0.out.lost he);clear he C1n
   exact⟨rfl,IOut.lost K1.out HA.out⟩
  have C1y:=fun w h=>qb (IOut.yes hb0 (qa (C1 w h)))
  clear C1
  refine(qa (C1y _ K0.out.at')).mono ?_;rintro e w1⟨rfl,he⟩;have K1:=qb ((K0.out.then' he).new (.cells #[.string a.2,.string ⟨#[]⟩,.string ⟨#[]⟩,.int .i64 0] 149));have X1:=qb (Box.made w1 #[.string a.2,.string ⟨#[]⟩,.string ⟨#[]⟩,.int .i64 0] 149);have HXB:=qb he.keep.size;clear he C1y
  go_wp2_with fail
  cases hb1:m.bad
  rotate_left
  ·have C2n:=fun w h=>qb (IOut.no hb1 (qa (C2 w h)))
   have HA:=qb (show R.1.At m.pos from by rw[HR.out];exact Rd.At.put (hm8 _ (hm6 _ (hm5 _ (hm4 _ (hm3 _ ⟨hb1,rfl⟩))))) _)
   refine(qa (C2n _ K1.out.at')).mono ?_;rintro e w2⟨rfl,he⟩;have K2:=qb (K1.out.lost he);clear he C2n
   exact⟨rfl,IOut.lost K2.out HA.out⟩
  have C2y:=fun w h=>qb (IOut.yes hb1 (qa (C2 w h)))
  clear C2
  refine(qa (C2y _ K1.out.at')).mono ?_;rintro e w2⟨rfl,he⟩;have K2:=qb (K1.out.then' he);have X2:=qb (X1.out.keepI he.keep aa0.call);clear he C2y
  go_wp2_with fail
  cases hb2:b.1.bad
  rotate_left
  ·have C3n:=fun w h=>qb (IOut.no hb2 (qa (C3 w h)))
   have HA:=qb (show R.1.At b.1.pos from by rw[HR.out];exact Rd.At.put (hm8 _ (hm6 _ (hm5 _ (hm4 _ ⟨hb2,rfl⟩)))) _)
   refine(qa (C3n _ K2.out.at')).mono ?_;rintro e w3⟨rfl,he⟩;have K3:=qb (K2.out.lost he);clear he C3n
   exact⟨rfl,IOut.lost K3.out HA.out⟩
  have C3y:=fun w h=>qb (IOut.yes hb2 (qa (C3 w h)))
  clear C3
  refine(qa (C3y _ K2.out.at')).mono ?_;rintro e w3⟨rfl,he⟩;have KS:=qb (K2.out.then' he);have XT:=qb (X2.out.keepI he.keep aa0.call);skip;have y0:=chp XT.out 0;have f0:=fhp XT.out 0;have y1:=chp XT.out 1;have f1:=fhp XT.out 1;have y2:=chp XT.out 2;have f2:=fhp XT.out 2;have y3:=chp XT.out 3;have f3:=fhp XT.out 3;simp at y0 y1 y2 y3;have K3:=qb (KS.out.poke LO.out HBL.out aa0.call HXB.out XT.out 1 (.string b.2));have X3:Hid (Box (w3.setCell ⟨w1.heap.size,1,none⟩ (.string b.2)) w1.heap.size #[.string a.2,.string b.2,.string ⟨#[]⟩,.int .i64 0] 149):=by { have hq:=XT.out.set 1 (.string b.2);simpa [Hid] using hq };clear KS XT;clear he C3y
  go_wp2_with fail
  cases hb3:m2.bad
  rotate_left
  ·have C4n:=fun w h=>qb (IOut.no hb3 (qa (C4 w h)))
   have HA:=qb (show R.1.At m2.pos from by rw[HR.out];exact Rd.At.put (hm8 _ (hm6 _ (hm5 _ ⟨hb3,rfl⟩))) _)
   refine(qa (C4n _ K3.out.at')).mono ?_;rintro e w4⟨rfl,he⟩;have K4:=qb (K3.out.lost he);clear he C4n
   exact⟨rfl,IOut.lost K4.out HA.out⟩
  have C4y:=fun w h=>qb (IOut.yes hb3 (qa (C4 w h)))
  clear C4
  refine(qa (C4y _ K3.out.at')).mono ?_;rintro e w4⟨rfl,he⟩;have K4:=qb (K3.out.then' he);have X4:=qb (X3.out.keepI he.keep aa0.call);clear he C4y
  go_wp2_with fail
  cases hb4:v.1.bad
  rotate_left
  ·have C5n:=fun w h hO=>qb (IOut.no hb4 (qa (C5 w h hO)))
   have HA:=qb (show R.1.At v.1.pos from by rw[HR.out];exact Rd.At.put (hm8 _ (hm6 _ ⟨hb4,rfl⟩)) _)
   refine(qa (C5n _ K4.out.at' (HO.out.stays K4.out.bel HB.out))).mono ?_;rintro e w5⟨rfl,he⟩;have K5:=qb (K4.out.lost he);clear he C5n
   exact⟨rfl,IOut.lost K5.out HA.out⟩
  have C5y:=fun w h hO=>qb (IOut.yes hb4 (qa (C5 w h hO)))
  clear C5
  refine(qa (C5y _ K4.out.at' (HO.out.stays K4.out.bel HB.out))).mono ?_;rintro e w5⟨rfl,he⟩;have KS:=qb (K4.out.then' he);have XT:=qb (X4.out.keepI he.keep aa0.call);clear y0 y1 y2 y3 f0 f1 f2 f3;have y0:=chp XT.out 0;have f0:=fhp XT.out 0;have y1:=chp XT.out 1;have f1:=fhp XT.out 1;have y2:=chp XT.out 2;have f2:=fhp XT.out 2;have y3:=chp XT.out 3;have f3:=fhp XT.out 3;simp at y0 y1 y2 y3;have K5:=qb (KS.out.poke LO.out HBL.out aa0.call HXB.out XT.out 3 (.int .i64 v.2));have X5:Hid (Box (w5.setCell ⟨w1.heap.size,3,none⟩ (.int .i64 v.2)) w1.heap.size #[.string a.2,.string b.2,.string ⟨#[]⟩,.int .i64 v.2] 149):=by { have hq:=XT.out.set 3 (.int .i64 v.2);simpa [Hid] using hq };clear KS XT;clear he C5y
  go_wp2_with fail
  cases hb5:c.bad
  rotate_left
  ·have C6n:=fun w h=>qb (IOut.no hb5 (qa (C6 w h)))
   have HA:=qb (show R.1.At c.pos from by rw[HR.out];exact Rd.At.put (hm8 _ ⟨hb5,rfl⟩) _)
   refine(qa (C6n _ K5.out.at')).mono ?_;rintro e w6⟨rfl,he⟩;have K6:=qb (K5.out.lost he);clear he C6n
   exact⟨rfl,IOut.lost K6.out HA.out⟩
  have C6y:=fun w h=>qb (IOut.yes hb5 (qa (C6 w h)))
  clear C6
  refine(qa (C6y _ K5.out.at')).mono ?_;rintro e w6⟨rfl,he⟩;have K6:=qb (K5.out.then' he);have X6:=qb (X5.out.keepI he.keep aa0.call);clear he C6y
  go_wp2_with fail
  refine(qa (C7 _ K6.out.at')).mono ?_;rintro e w7⟨rfl,he⟩;have K7:=qb (K6.out.then' he);have X7:=qb (X6.out.keepI he.keep aa0.call);clear he C7
  go_wp2_with fail
  cases hb7:d.1.bad
  rotate_left
  ·have C8n:=fun w h=>qb (IOut.no hb7 (qa (C8 w h)))
   have HA:=qb (show R.1.At d.1.pos from by rw[HR.out];exact Rd.At.put ⟨hb7,rfl⟩ _)
   refine(qa (C8n _ K7.out.at')).mono ?_;rintro e w8⟨rfl,he⟩;have K8:=qb (K7.out.lost he);clear he C8n
   exact⟨rfl,IOut.lost K8.out HA.out⟩
  have C8y:=fun w h=>qb (IOut.yes hb7 (qa (C8 w h)))
  clear C8
  refine(qa (C8y _ K7.out.at')).mono ?_;rintro e w8⟨rfl,he⟩;have KS:=qb (K7.out.then' he);have XT:=qb (X7.out.keepI he.keep aa0.call);clear y0 y1 y2 y3 f0 f1 f2 f3;have y0:=chp XT.out 0;have f0:=fhp XT.out 0;have y1:=chp XT.out 1;have f1:=fhp XT.out 1;have y2:=chp XT.out 2;have f2:=fhp XT.out 2;have y3:=chp XT.out 3;have f3:=fhp XT.out 3;simp at y0 y1 y2 y3;have K8:=qb (KS.out.poke LO.out HBL.out aa0.call HXB.out XT.out 2 (.string d.2));have X8:Hid (Box (w8.setCell ⟨w1.heap.size,2,none⟩ (.string d.2)) w1.heap.size #[.string a.2,.string b.2,.string d.2,.int .i64 v.2] 149):=by { have hq:=XT.out.set 2 (.string d.2);simpa [Hid] using hq };clear KS XT;clear he C8y
  go_wp2_with fail
  refine(qa (C9 _ K8.out.at')).mono ?_;rintro e w9⟨rfl,he⟩;have K9:=qb (K8.out.then' he);clear he C9
  go_wp2_with fail
  go_ret
  rw[HR.out]
  exact .inl ⟨hbp hb7,rfl,K9.out⟩
 | false =>
  rw[qe,if_neg (by simp)]at hR
  rw[qe,show c.may l ⟨#[116,111]⟩=c from by simp[Rd.may,qe]]at C7
  have C9:=fun w h hg=>CA c a.2 b.2 ⟨#[]⟩ v.2 w h hg
  have hbp:c.bad=false→(c.put ⟨14,0,a.2,b.2,ByteArray.empty,[v.2]⟩).1.bad=false:=fun hb=>by rw[Rd.put_ok hb];exact hb
  have HR:=qb hR
  clear CQ CM CN CV CA hR ha hm hbb hm22 hv hc h hO hqb qe
  go_enter Tryz.func133,Tryz.ntmps133
  go_wp2_with fail
  cases hb0:a.1.bad
  rotate_left
  ·have C1n:=fun w h=>qb (IOut.no hb0 (qa (C1 w h)))
   have HA:=qb (show R.1.At a.1.pos from by rw[HR.out];exact Rd.At.put (hm6 _ (hm5 _ (hm4 _ (hm3 _ (hm2 _ ⟨hb0,rfl⟩))))) _)
   refine(qa (C1n _ K0.out.at')).mono ?_;rintro e w1⟨rfl,he⟩;have K1:=qb (K0.out.lost he);clear he C1n
   exact⟨rfl,IOut.lost K1.out HA.out⟩
  have C1y:=fun w h=>qb (IOut.yes hb0 (qa (C1 w h)))
  clear C1
  refine(qa (C1y _ K0.out.at')).mono ?_;rintro e w1⟨rfl,he⟩;have K1:=qb ((K0.out.then' he).new (.cells #[.string a.2,.string ⟨#[]⟩,.string ⟨#[]⟩,.int .i64 0] 149));have X1:=qb (Box.made w1 #[.string a.2,.string ⟨#[]⟩,.string ⟨#[]⟩,.int .i64 0] 149);have HXB:=qb he.keep.size;clear he C1y
  go_wp2_with fail
  cases hb1:m.bad
  rotate_left
  ·have C2n:=fun w h=>qb (IOut.no hb1 (qa (C2 w h)))
   have HA:=qb (show R.1.At m.pos from by rw[HR.out];exact Rd.At.put (hm6 _ (hm5 _ (hm4 _ (hm3 _ ⟨hb1,rfl⟩)))) _)
   refine(qa (C2n _ K1.out.at')).mono ?_;rintro e w2⟨rfl,he⟩;have K2:=qb (K1.out.lost he);clear he C2n
   exact⟨rfl,IOut.lost K2.out HA.out⟩
  have C2y:=fun w h=>qb (IOut.yes hb1 (qa (C2 w h)))
  clear C2
  refine(qa (C2y _ K1.out.at')).mono ?_;rintro e w2⟨rfl,he⟩;have K2:=qb (K1.out.then' he);have X2:=qb (X1.out.keepI he.keep aa0.call);clear he C2y
  go_wp2_with fail
  cases hb2:b.1.bad
  rotate_left
  ·have C3n:=fun w h=>qb (IOut.no hb2 (qa (C3 w h)))
   have HA:=qb (show R.1.At b.1.pos from by rw[HR.out];exact Rd.At.put (hm6 _ (hm5 _ (hm4 _ ⟨hb2,rfl⟩))) _)
   refine(qa (C3n _ K2.out.at')).mono ?_;rintro e w3⟨rfl,he⟩;have K3:=qb (K2.out.lost he);clear he C3n
   exact⟨rfl,IOut.lost K3.out HA.out⟩
  have C3y:=fun w h=>qb (IOut.yes hb2 (qa (C3 w h)))
  clear C3
  refine(qa (C3y _ K2.out.at')).mono ?_;rintro e w3⟨rfl,he⟩;have KS:=qb (K2.out.then' he);have XT:=qb (X2.out.keepI he.keep aa0.call);skip;have y0:=chp XT.out 0;have f0:=fhp XT.out 0;have y1:=chp XT.out 1;have f1:=fhp XT.out 1;have y2:=chp XT.out 2;have f2:=fhp XT.out 2;have y3:=chp XT.out 3;have f3:=fhp XT.out 3;simp at y0 y1 y2 y3;have K3:=qb (KS.out.poke LO.out HBL.out aa0.call HXB.out XT.out 1 (.string b.2));have X3:Hid (Box (w3.setCell ⟨w1.heap.size,1,none⟩ (.string b.2)) w1.heap.size #[.string a.2,.string b.2,.string ⟨#[]⟩,.int .i64 0] 149):=by { have hq:=XT.out.set 1 (.string b.2);simpa [Hid] using hq };clear KS XT;clear he C3y
  go_wp2_with fail
  cases hb3:m2.bad
  rotate_left
  ·have C4n:=fun w h=>qb (IOut.no hb3 (qa (C4 w h)))
   have HA:=qb (show R.1.At m2.pos from by rw[HR.out];exact Rd.At.put (hm6 _ (hm5 _ ⟨hb3,rfl⟩)) _)
   refine(qa (C4n _ K3.out.at')).mono ?_;rintro e w4⟨rfl,he⟩;have K4:=qb (K3.out.lost he);clear he C4n
   exact⟨rfl,IOut.lost K4.out HA.out⟩
  have C4y:=fun w h=>qb (IOut.yes hb3 (qa (C4 w h)))
  clear C4
  refine(qa (C4y _ K3.out.at')).mono ?_;rintro e w4⟨rfl,he⟩;have K4:=qb (K3.out.then' he);have X4:=qb (X3.out.keepI he.keep aa0.call);clear he C4y
  go_wp2_with fail
  cases hb4:v.1.bad
  rotate_left
  ·have C5n:=fun w h hO=>qb (IOut.no hb4 (qa (C5 w h hO)))
   have HA:=qb (show R.1.At v.1.pos from by rw[HR.out];exact Rd.At.put (hm6 _ ⟨hb4,rfl⟩) _)
   refine(qa (C5n _ K4.out.at' (HO.out.stays K4.out.bel HB.out))).mono ?_;rintro e w5⟨rfl,he⟩;have K5:=qb (K4.out.lost he);clear he C5n
   exact⟨rfl,IOut.lost K5.out HA.out⟩
  have C5y:=fun w h hO=>qb (IOut.yes hb4 (qa (C5 w h hO)))
  clear C5
  refine(qa (C5y _ K4.out.at' (HO.out.stays K4.out.bel HB.out))).mono ?_;rintro e w5⟨rfl,he⟩;have KS:=qb (K4.out.then' he);have XT:=qb (X4.out.keepI he.keep aa0.call);clear y0 y1 y2 y3 f0 f1 f2 f3;have y0:=chp XT.out 0;have f0:=fhp XT.out 0;have y1:=chp XT.out 1;have f1:=fhp XT.out 1;have y2:=chp XT.out 2;have f2:=fhp XT.out 2;have y3:=chp XT.out 3;have f3:=fhp XT.out 3;simp at y0 y1 y2 y3;have K5:=qb (KS.out.poke LO.out HBL.out aa0.call HXB.out XT.out 3 (.int .i64 v.2));have X5:Hid (Box (w5.setCell ⟨w1.heap.size,3,none⟩ (.int .i64 v.2)) w1.heap.size #[.string a.2,.string b.2,.string ⟨#[]⟩,.int .i64 v.2] 149):=by { have hq:=XT.out.set 3 (.int .i64 v.2);simpa [Hid] using hq };clear KS XT;clear he C5y
  go_wp2_with fail
  cases hb5:c.bad
  rotate_left
  ·have C6n:=fun w h=>qb (IOut.no hb5 (qa (C6 w h)))
   have HA:=qb (show R.1.At c.pos from by rw[HR.out];exact Rd.At.put ⟨hb5,rfl⟩ _)
   refine(qa (C6n _ K5.out.at')).mono ?_;rintro e w6⟨rfl,he⟩;have K6:=qb (K5.out.lost he);clear he C6n
   exact⟨rfl,IOut.lost K6.out HA.out⟩
  have C6y:=fun w h=>qb (IOut.yes hb5 (qa (C6 w h)))
  clear C6
  refine(qa (C6y _ K5.out.at')).mono ?_;rintro e w6⟨rfl,he⟩;have K6:=qb (K5.out.then' he);have X6:=qb (X5.out.keepI he.keep aa0.call);clear he C6y
  go_wp2_with fail
  refine(qa (C7 _ K6.out.at')).mono ?_;rintro e w7⟨rfl,he⟩;have K7:=qb (K6.out.then' he);have X7:=qb (X6.out.keepI he.keep aa0.call);clear y0 y1 y2 y3 f0 f1 f2 f3;have y0:=chp X7.out 0;have f0:=fhp X7.out 0;have y1:=chp X7.out 1;have f1:=fhp X7.out 1;have y2:=chp X7.out 2;have f2:=fhp X7.out 2;have y3:=chp X7.out 3;have f3:=fhp X7.out 3;simp at y0 y1 y2 y3;clear he C7
  go_wp2_with fail
  refine(qa (C9 _ K7.out.at' (hg61 hb5))).mono ?_;rintro e w8⟨rfl,he⟩;have K8:=qb (K7.out.then' he);clear he C9
  go_wp2_with fail
  go_ret
  rw[HR.out]
  exact .inl ⟨hbp hb5,rfl,K8.out⟩
theorem iSt_if {L:Nat→Prop}{B g:Nat}{sz:Int}{l:List Sg}{lv:Value}{n:Nat}(blk:Rd→Rd×Int) (hb:∀ L,IWay L B g sz l lv 101 blk n) (hw:ag8 l) (hl:l.length≤1048576) (hx:∀ x∈l,x.text.size≤1048576) (hB:3<B) (hnn:∀ s,0≤(blk s).2) (s:Rd) (w:World) (hn:l.length-s.pos<n+1) (h:IAt L B g sz l lv s w) (hO:ak5 w) (q0:s.isQ l ⟨#[105,102]⟩=true) :
  Calls Tryz.prog 121 #[.pointer (some ⟨g,0,none⟩)] w (IOut L B g sz l lv (Rd.stmtW l blk s).1 (.int .i64 (Rd.stmtW l blk s).2) w):=by
 have HO:=qb hO
 have HB:=qb hB
 have hfb:=h.fine
 have hgood:=h.good
 have K0:=qb (IEnd.refl h)
 have CQ:=fun (s:Rd) t (ht:ae9 t=true) w h=>qb (ah1 (L:=L) (B:=B) (g:=g) (sz:=sz) (l:=l) (lv:=lv) (s:=s) t w h hw hl ht)
 have CM:=fun (s:Rd) t (ht:ae9 t=true) w h=>qb (ag5 (L:=L) (B:=B) (g:=g) (sz:=sz) (l:=l) (lv:=lv) (s:=s) t w h hw hl ht)
 have CN:=fun (s:Rd) w h=>qb (ah7 (L:=L) (B:=B) (g:=g) (sz:=sz) (l:=l) (lv:=lv) (s:=s) w h hw hl hx)
 have CV:=fun (s:Rd) w h hO=>qb (am1 (L:=L) (B:=B) (g:=g) (sz:=sz) (l:=l) (lv:=lv) s w h hO hw hl hx hB)
 obtain⟨R,hR⟩:∃ R,R=Rd.stmtW l blk s:=⟨_,rfl⟩
 rw[←hR]
 unfold Rd.stmtW at hR
 rw[wd8.2,wd9.2,wd10.2,wd11.2,wd12.2,wd13.2,wd14.2,wd15.2]at hR
 simp only[q0,if_true]at hR
 have hpo:s.on.pos=s.pos+1:=rfl
 have T0:=CQ s ⟨#[105,102]⟩ wd8.1
 rw[q0,show s.may l ⟨#[105,102]⟩=s.on from by simp[Rd.may,q0]]at T0
 have hlt:=Rd.isQ_lt q0
 have HR:Hid (R=Rd.choiceW l blk s.on):=hR
 have C1:=fun w h hO=>qb (aU3 (L:=L) blk hb hw hl hx hB hnn s.on w (by omega) h hO hgood.on)
 rw[←HR.out]at C1
 clear CQ CM CN CV hR h hO q0 hb
 go_enter Tryz.func121,Tryz.ntmps121
 go_wp2_with fail
 refine(qa (T0 _ K0.out.at')).mono ?_;rintro e w1⟨rfl,he⟩;have K1:=qb (K0.out.then' he);clear he T0
 go_wp2_with fail
 cases hb1:R.1.bad
 rotate_left
 ·have C1n:=fun w h hO=>qb (IOut.no hb1 (qa (C1 w h hO)))
  have HA:=qb (show R.1.At R.1.pos from ⟨hb1,rfl⟩)
  refine(qa (C1n _ K1.out.at' (HO.out.stays K1.out.bel HB.out))).mono ?_;rintro e w2⟨rfl,he⟩;have K2:=qb (K1.out.lost he);clear he C1n
  exact⟨rfl,IOut.lost K2.out HA.out⟩
 have C1y:=fun w h hO=>qb (IOut.yes hb1 (qa (C1 w h hO)))
 clear C1
 refine(qa (C1y _ K1.out.at' (HO.out.stays K1.out.bel HB.out))).mono ?_;rintro e w2⟨rfl,he⟩;have K2:=qb (K1.out.then' he);clear he C1y
 go_wp2_with fail
 go_ret
 exact .inl ⟨hb1,rfl,K2.out⟩
theorem bj1 {L:Nat→Prop}{B g:Nat}{sz:Int}{l:List Sg}{lv:Value}{n:Nat}(blk:Rd→Rd×Int) (hb:∀ L,IWay L B g sz l lv 101 blk n) (hw:ag8 l) (hl:l.length≤1048576) (hx:∀ x∈l,x.text.size≤1048576) (hB:3<B) (_hnn:∀ s,0≤(blk s).2) (s:Rd) (w:World) (hn:l.length-s.pos<n+1) (h:IAt L B g sz l lv s w) (hO:ak5 w) (q0:s.isQ l ⟨#[105,102]⟩=false) (q1:s.isQ l ⟨#[119,104,105,108,101]⟩=true) :
  Calls Tryz.prog 121 #[.pointer (some ⟨g,0,none⟩)] w (IOut L B g sz l lv (Rd.stmtW l blk s).1 (.int .i64 (Rd.stmtW l blk s).2) w):=by
 have HO:=qb hO
 have HB:=qb hB
 have hfb:=h.fine
 have hgood:=h.good
 have K0:=qb (IEnd.refl h)
 have CQ:=fun (s:Rd) t (ht:ae9 t=true) w h=>qb (ah1 (L:=L) (B:=B) (g:=g) (sz:=sz) (l:=l) (lv:=lv) (s:=s) t w h hw hl ht)
 have CM:=fun (s:Rd) t (ht:ae9 t=true) w h=>qb (ag5 (L:=L) (B:=B) (g:=g) (sz:=sz) (l:=l) (lv:=lv) (s:=s) t w h hw hl ht)
 have CN:=fun (s:Rd) w h=>qb (ah7 (L:=L) (B:=B) (g:=g) (sz:=sz) (l:=l) (lv:=lv) (s:=s) w h hw hl hx)
 have CV:=fun (s:Rd) w h hO=>qb (am1 (L:=L) (B:=B) (g:=g) (sz:=sz) (l:=l) (lv:=lv) s w h hO hw hl hx hB)
 obtain⟨R,hR⟩:∃ R,R=Rd.stmtW l blk s:=⟨_,rfl⟩
 rw[←hR]
 unfold Rd.stmtW at hR
 rw[wd8.2,wd9.2,wd10.2,wd11.2,wd12.2,wd13.2,wd14.2,wd15.2]at hR
 simp only[q0,q1,if_true,if_false,Bool.false_eq_true]at hR
 have hpo:s.on.pos=s.pos+1:=rfl
 have T0:=CQ s ⟨#[105,102]⟩ wd8.1
 rw[q0,show s.may l ⟨#[105,102]⟩=s from by simp[Rd.may,q0]]at T0
 have T1:=CQ s ⟨#[119,104,105,108,101]⟩ wd9.1
 rw[q1,show s.may l ⟨#[119,104,105,108,101]⟩=s.on from by simp[Rd.may,q1]]at T1
 have hlt:=Rd.isQ_lt q1
 have HR:Hid (R=Rd.loopW l blk s.on):=hR
 have C1:=fun w h hO=>qb (bi8 (L:=L) blk hb hw hl hx hB s.on w (by omega) h hO hgood.on)
 rw[←HR.out]at C1
 clear CQ CM CN CV hR h hO q0 q1 hb
 go_enter Tryz.func121,Tryz.ntmps121
 go_wp2_with fail
 refine(qa (T0 _ K0.out.at')).mono ?_;rintro e w1⟨rfl,he⟩;have K1:=qb (K0.out.then' he);clear he T0
 go_wp2_with fail
 refine(qa (T1 _ K1.out.at')).mono ?_;rintro e w2⟨rfl,he⟩;have K2:=qb (K1.out.then' he);clear he T1
 go_wp2_with fail
 cases hb2:R.1.bad
 rotate_left
 ·have C1n:=fun w h hO=>qb (IOut.no hb2 (qa (C1 w h hO)))
  have HA:=qb (show R.1.At R.1.pos from ⟨hb2,rfl⟩)
  refine(qa (C1n _ K2.out.at' (HO.out.stays K2.out.bel HB.out))).mono ?_;rintro e w3⟨rfl,he⟩;have K3:=qb (K2.out.lost he);clear he C1n
  exact⟨rfl,IOut.lost K3.out HA.out⟩
 have C1y:=fun w h hO=>qb (IOut.yes hb2 (qa (C1 w h hO)))
 clear C1
 refine(qa (C1y _ K2.out.at' (HO.out.stays K2.out.bel HB.out))).mono ?_;rintro e w3⟨rfl,he⟩;have K3:=qb (K2.out.then' he);clear he C1y
 go_wp2_with fail
 go_ret
 exact .inl ⟨hb2,rfl,K3.out⟩
theorem iSt_call {L:Nat→Prop}{B g:Nat}{sz:Int}{l:List Sg}{lv:Value}{n:Nat}(blk:Rd→Rd×Int) (_hb:∀ L,IWay L B g sz l lv 101 blk n) (hw:ag8 l) (hl:l.length≤1048576) (hx:∀ x∈l,x.text.size≤1048576) (hB:3<B) (_hnn:∀ s,0≤(blk s).2) (s:Rd) (w:World) (_hn:l.length-s.pos<n+1) (h:IAt L B g sz l lv s w) (hO:ak5 w) (q0:s.isQ l ⟨#[105,102]⟩=false) (q1:s.isQ l ⟨#[119,104,105,108,101]⟩=false) (q2:s.isQ l ⟨#[99,97,108,108]⟩=true) :
  Calls Tryz.prog 121 #[.pointer (some ⟨g,0,none⟩)] w (IOut L B g sz l lv (Rd.stmtW l blk s).1 (.int .i64 (Rd.stmtW l blk s).2) w):=by
 have HO:=qb hO
 have HB:=qb hB
 have hfb:=h.fine
 have hgood:=h.good
 have K0:=qb (IEnd.refl h)
 have CQ:=fun (s:Rd) t (ht:ae9 t=true) w h=>qb (ah1 (L:=L) (B:=B) (g:=g) (sz:=sz) (l:=l) (lv:=lv) (s:=s) t w h hw hl ht)
 have CM:=fun (s:Rd) t (ht:ae9 t=true) w h=>qb (ag5 (L:=L) (B:=B) (g:=g) (sz:=sz) (l:=l) (lv:=lv) (s:=s) t w h hw hl ht)
 have CN:=fun (s:Rd) w h=>qb (ah7 (L:=L) (B:=B) (g:=g) (sz:=sz) (l:=l) (lv:=lv) (s:=s) w h hw hl hx)
 have CV:=fun (s:Rd) w h hO=>qb (am1 (L:=L) (B:=B) (g:=g) (sz:=sz) (l:=l) (lv:=lv) s w h hO hw hl hx hB)
 obtain⟨R,hR⟩:∃ R,R=Rd.stmtW l blk s:=⟨_,rfl⟩
 rw[←hR]
 unfold Rd.stmtW at hR
 rw[wd8.2,wd9.2,wd10.2,wd11.2,wd12.2,wd13.2,wd14.2,wd15.2]at hR
 simp only[q0,q1,q2,if_true,if_false,Bool.false_eq_true]at hR
 have hpo:s.on.pos=s.pos+1:=rfl
 have T0:=CQ s ⟨#[105,102]⟩ wd8.1
 rw[q0,show s.may l ⟨#[105,102]⟩=s from by simp[Rd.may,q0]]at T0
 have T1:=CQ s ⟨#[119,104,105,108,101]⟩ wd9.1
 rw[q1,show s.may l ⟨#[119,104,105,108,101]⟩=s from by simp[Rd.may,q1]]at T1
 have T2:=CQ s ⟨#[99,97,108,108]⟩ wd10.1
 rw[q2,show s.may l ⟨#[99,97,108,108]⟩=s.on from by simp[Rd.may,q2]]at T2
 have hlt:=Rd.isQ_lt q2
 have C1:=fun w h hO=>qb (bi7 (L:=L) (B:=B) (g:=g) (sz:=sz) (l:=l) (lv:=lv) hw hl hx hB s.on w h hO)
 rw[←hR]at C1
 clear CQ CM CN CV hR h hO q0 q1 q2 _hb
 go_enter Tryz.func121,Tryz.ntmps121
 go_wp2_with fail
 refine(qa (T0 _ K0.out.at')).mono ?_;rintro e w1⟨rfl,he⟩;have K1:=qb (K0.out.then' he);clear he T0
 go_wp2_with fail
 refine(qa (T1 _ K1.out.at')).mono ?_;rintro e w2⟨rfl,he⟩;have K2:=qb (K1.out.then' he);clear he T1
 go_wp2_with fail
 refine(qa (T2 _ K2.out.at')).mono ?_;rintro e w3⟨rfl,he⟩;have K3:=qb (K2.out.then' he);clear he T2
 go_wp2_with fail
 cases hb3:R.1.bad
 rotate_left
 ·have C1n:=fun w h hO=>qb (IOut.no hb3 (qa (C1 w h hO)))
  have HA:=qb (show R.1.At R.1.pos from ⟨hb3,rfl⟩)
  refine(qa (C1n _ K3.out.at' (HO.out.stays K3.out.bel HB.out))).mono ?_;rintro e w4⟨rfl,he⟩;have K4:=qb (K3.out.lost he);clear he C1n
  exact⟨rfl,IOut.lost K4.out HA.out⟩
 have C1y:=fun w h hO=>qb (IOut.yes hb3 (qa (C1 w h hO)))
 clear C1
 refine(qa (C1y _ K3.out.at' (HO.out.stays K3.out.bel HB.out))).mono ?_;rintro e w4⟨rfl,he⟩;have K4:=qb (K3.out.then' he);clear he C1y
 go_wp2_with fail
 go_ret
 exact .inl ⟨hb3,rfl,K4.out⟩
theorem bj0 {L:Nat→Prop}{B g:Nat}{sz:Int}{l:List Sg}{lv:Value}{n:Nat}(blk:Rd→Rd×Int) (_hb:∀ L,IWay L B g sz l lv 101 blk n) (hw:ag8 l) (hl:l.length≤1048576) (hx:∀ x∈l,x.text.size≤1048576) (hB:3<B) (_hnn:∀ s,0≤(blk s).2) (s:Rd) (w:World) (_hn:l.length-s.pos<n+1) (h:IAt L B g sz l lv s w) (hO:ak5 w) (q0:s.isQ l ⟨#[105,102]⟩=false) (q1:s.isQ l ⟨#[119,104,105,108,101]⟩=false) (q2:s.isQ l ⟨#[99,97,108,108]⟩=false) (q3:s.isQ l ⟨#[112,114,105,110,116]⟩=true) :
  Calls Tryz.prog 121 #[.pointer (some ⟨g,0,none⟩)] w (IOut L B g sz l lv (Rd.stmtW l blk s).1 (.int .i64 (Rd.stmtW l blk s).2) w):=by
 have HO:=qb hO
 have HB:=qb hB
 have hfb:=h.fine
 have hgood:=h.good
 have K0:=qb (IEnd.refl h)
 have CQ:=fun (s:Rd) t (ht:ae9 t=true) w h=>qb (ah1 (L:=L) (B:=B) (g:=g) (sz:=sz) (l:=l) (lv:=lv) (s:=s) t w h hw hl ht)
 have CM:=fun (s:Rd) t (ht:ae9 t=true) w h=>qb (ag5 (L:=L) (B:=B) (g:=g) (sz:=sz) (l:=l) (lv:=lv) (s:=s) t w h hw hl ht)
 have CN:=fun (s:Rd) w h=>qb (ah7 (L:=L) (B:=B) (g:=g) (sz:=sz) (l:=l) (lv:=lv) (s:=s) w h hw hl hx)
 have CV:=fun (s:Rd) w h hO=>qb (am1 (L:=L) (B:=B) (g:=g) (sz:=sz) (l:=l) (lv:=lv) s w h hO hw hl hx hB)
 obtain⟨R,hR⟩:∃ R,R=Rd.stmtW l blk s:=⟨_,rfl⟩
 rw[←hR]
 unfold Rd.stmtW at hR
 rw[wd8.2,wd9.2,wd10.2,wd11.2,wd12.2,wd13.2,wd14.2,wd15.2]at hR
 simp only[q0,q1,q2,q3,if_true,if_false,Bool.false_eq_true]at hR
 have hpo:s.on.pos=s.pos+1:=rfl
 have T0:=CQ s ⟨#[105,102]⟩ wd8.1
 rw[q0,show s.may l ⟨#[105,102]⟩=s from by simp[Rd.may,q0]]at T0
 have T1:=CQ s ⟨#[119,104,105,108,101]⟩ wd9.1
 rw[q1,show s.may l ⟨#[119,104,105,108,101]⟩=s from by simp[Rd.may,q1]]at T1
 have T2:=CQ s ⟨#[99,97,108,108]⟩ wd10.1
 rw[q2,show s.may l ⟨#[99,97,108,108]⟩=s from by simp[Rd.may,q2]]at T2
 have T3:=CQ s ⟨#[112,114,105,110,116]⟩ wd11.1
 rw[q3,show s.may l ⟨#[112,114,105,110,116]⟩=s.on from by simp[Rd.may,q3]]at T3
 have hlt:=Rd.isQ_lt q3
 have CA:=fun s a w h hg=>qb (bc4 (L:=L) (B:=B) (g:=g) (sz:=sz) (l:=l) (lv:=lv) (s:=s) a w h hg hl)
 have C1:=CV s.on
 have hg1:=Rd.Keeps.value l 1 _ hgood.on
 obtain⟨v,hv⟩:∃ v,v=s.on.value l:=⟨_,rfl⟩
 rw[←hv]at C1 hR hg1
 have C2:=fun w h=>CA v.1 v.2 w h hg1
 have hbp:v.1.bad=false→(v.1.put (ndK 15 0 [v.2])).1.bad=false:=fun hb=>by rw[Rd.put_ok hb];exact hb
 have HR:=qb hR
 clear CQ CM CN CV hR h hO q0 q1 q2 q3 _hb hv CA
 go_enter Tryz.func121,Tryz.ntmps121
 go_wp2_with fail
 refine(qa (T0 _ K0.out.at')).mono ?_;rintro e w1⟨rfl,he⟩;have K1:=qb (K0.out.then' he);clear he T0
 go_wp2_with fail
 refine(qa (T1 _ K1.out.at')).mono ?_;rintro e w2⟨rfl,he⟩;have K2:=qb (K1.out.then' he);clear he T1
 go_wp2_with fail
 refine(qa (T2 _ K2.out.at')).mono ?_;rintro e w3⟨rfl,he⟩;have K3:=qb (K2.out.then' he);clear he T2
 go_wp2_with fail
 refine(qa (T3 _ K3.out.at')).mono ?_;rintro e w4⟨rfl,he⟩;have K4:=qb (K3.out.then' he);clear he T3
 go_wp2_with fail
 cases hb4:v.1.bad
 rotate_left
 ·have C1n:=fun w h hO=>qb (IOut.no hb4 (qa (C1 w h hO)))
  have HA:=qb (show R.1.At v.1.pos from by rw[HR.out];exact Rd.At.put ⟨hb4,rfl⟩ _)
  refine(qa (C1n _ K4.out.at' (HO.out.stays K4.out.bel HB.out))).mono ?_;rintro e w5⟨rfl,he⟩;have K5:=qb (K4.out.lost he);clear he C1n
  exact⟨rfl,IOut.lost K5.out HA.out⟩
 have C1y:=fun w h hO=>qb (IOut.yes hb4 (qa (C1 w h hO)))
 clear C1
 refine(qa (C1y _ K4.out.at' (HO.out.stays K4.out.bel HB.out))).mono ?_;rintro e w5⟨rfl,he⟩;have K5:=qb (K4.out.then' he);clear he C1y
 go_wp2_with fail
 refine(qa (C2 _ K5.out.at')).mono ?_;rintro e w6⟨rfl,he⟩;have K6:=qb (K5.out.then' he);clear he C2
 go_wp2_with fail
 go_ret
 rw[HR.out]
 exact .inl ⟨hbp hb4,rfl,K6.out⟩
theorem iSt_read {L:Nat→Prop}{B g:Nat}{sz:Int}{l:List Sg}{lv:Value}{n:Nat}(blk:Rd→Rd×Int) (_hb:∀ L,IWay L B g sz l lv 101 blk n) (hw:ag8 l) (hl:l.length≤1048576) (hx:∀ x∈l,x.text.size≤1048576) (hB:3<B) (_hnn:∀ s,0≤(blk s).2) (s:Rd) (w:World) (_hn:l.length-s.pos<n+1) (h:IAt L B g sz l lv s w) (hO:ak5 w) (q0:s.isQ l ⟨#[105,102]⟩=false) (q1:s.isQ l ⟨#[119,104,105,108,101]⟩=false) (q2:s.isQ l ⟨#[99,97,108,108]⟩=false) (q3:s.isQ l ⟨#[112,114,105,110,116]⟩=false) (q4:s.isQ l ⟨#[114,101,97,100]⟩=true) :
  Calls Tryz.prog 121 #[.pointer (some ⟨g,0,none⟩)] w (IOut L B g sz l lv (Rd.stmtW l blk s).1 (.int .i64 (Rd.stmtW l blk s).2) w):=by
 have HO:=qb hO
 have HB:=qb hB
 have hfb:=h.fine
 have hgood:=h.good
 have K0:=qb (IEnd.refl h)
 have CQ:=fun (s:Rd) t (ht:ae9 t=true) w h=>qb (ah1 (L:=L) (B:=B) (g:=g) (sz:=sz) (l:=l) (lv:=lv) (s:=s) t w h hw hl ht)
 have CM:=fun (s:Rd) t (ht:ae9 t=true) w h=>qb (ag5 (L:=L) (B:=B) (g:=g) (sz:=sz) (l:=l) (lv:=lv) (s:=s) t w h hw hl ht)
 have CN:=fun (s:Rd) w h=>qb (ah7 (L:=L) (B:=B) (g:=g) (sz:=sz) (l:=l) (lv:=lv) (s:=s) w h hw hl hx)
 have CV:=fun (s:Rd) w h hO=>qb (am1 (L:=L) (B:=B) (g:=g) (sz:=sz) (l:=l) (lv:=lv) s w h hO hw hl hx hB)
 obtain⟨R,hR⟩:∃ R,R=Rd.stmtW l blk s:=⟨_,rfl⟩
 rw[←hR]
 unfold Rd.stmtW at hR
 rw[wd8.2,wd9.2,wd10.2,wd11.2,wd12.2,wd13.2,wd14.2,wd15.2]at hR
 simp only[q0,q1,q2,q3,q4,if_true,if_false,Bool.false_eq_true]at hR
 have hpo:s.on.pos=s.pos+1:=rfl
 have T0:=CQ s ⟨#[105,102]⟩ wd8.1
 rw[q0,show s.may l ⟨#[105,102]⟩=s from by simp[Rd.may,q0]]at T0
 have T1:=CQ s ⟨#[119,104,105,108,101]⟩ wd9.1
 rw[q1,show s.may l ⟨#[119,104,105,108,101]⟩=s from by simp[Rd.may,q1]]at T1
 have T2:=CQ s ⟨#[99,97,108,108]⟩ wd10.1
 rw[q2,show s.may l ⟨#[99,97,108,108]⟩=s from by simp[Rd.may,q2]]at T2
 have T3:=CQ s ⟨#[112,114,105,110,116]⟩ wd11.1
 rw[q3,show s.may l ⟨#[112,114,105,110,116]⟩=s from by simp[Rd.may,q3]]at T3
 have T4:=CQ s ⟨#[114,101,97,100]⟩ wd12.1
 rw[q4,show s.may l ⟨#[114,101,97,100]⟩=s.on from by simp[Rd.may,q4]]at T4
 have hlt:=Rd.isQ_lt q4
 have CA:=fun s a w h hg=>qb (bi5 (L:=L) (B:=B) (g:=g) (sz:=sz) (l:=l) (lv:=lv) (s:=s) a w h hg hl)
 have C1:=CN s.on
 have hg1:=hgood.on.name l
 obtain⟨v,hv⟩:∃ v,v=s.on.name l:=⟨_,rfl⟩
 rw[←hv]at C1 hR hg1
 have C2:=fun w h=>CA v.1 v.2 w h hg1
 have hbp:v.1.bad=false→(v.1.put (ndN 16 v.2 [])).1.bad=false:=fun hb=>by rw[Rd.put_ok hb];exact hb
 have HR:=qb hR
 clear CQ CM CN CV hR h hO q0 q1 q2 q3 q4 _hb hv CA
 go_enter Tryz.func121,Tryz.ntmps121
 go_wp2_with fail
 refine(qa (T0 _ K0.out.at')).mono ?_;rintro e w1⟨rfl,he⟩;have K1:=qb (K0.out.then' he);clear he T0
 go_wp2_with fail
 refine(qa (T1 _ K1.out.at')).mono ?_;rintro e w2⟨rfl,he⟩;have K2:=qb (K1.out.then' he);clear he T1
 go_wp2_with fail
 refine(qa (T2 _ K2.out.at')).mono ?_;rintro e w3⟨rfl,he⟩;have K3:=qb (K2.out.then' he);clear he T2
 go_wp2_with fail
 refine(qa (T3 _ K3.out.at')).mono ?_;rintro e w4⟨rfl,he⟩;have K4:=qb (K3.out.then' he);clear he T3
 go_wp2_with fail
 refine(qa (T4 _ K4.out.at')).mono ?_;rintro e w5⟨rfl,he⟩;have K5:=qb (K4.out.then' he);clear he T4
 go_wp2_with fail
 cases hb5:v.1.bad
 rotate_left
 ·have C1n:=fun w h=>qb (IOut.no hb5 (qa (C1 w h)))
  have HA:=qb (show R.1.At v.1.pos from by rw[HR.out];exact Rd.At.put ⟨hb5,rfl⟩ _)
  refine(qa (C1n _ K5.out.at')).mono ?_;rintro e w6⟨rfl,he⟩;have K6:=qb (K5.out.lost he);clear he C1n
  exact⟨rfl,IOut.lost K6.out HA.out⟩
 have C1y:=fun w h=>qb (IOut.yes hb5 (qa (C1 w h)))
 clear C1
 refine(qa (C1y _ K5.out.at')).mono ?_;rintro e w6⟨rfl,he⟩;have K6:=qb (K5.out.then' he);clear he C1y
 go_wp2_with fail
 refine(qa (C2 _ K6.out.at')).mono ?_;rintro e w7⟨rfl,he⟩;have K7:=qb (K6.out.then' he);clear he C2
 go_wp2_with fail
 go_ret
 rw[HR.out]
 exact .inl ⟨hbp hb5,rfl,K7.out⟩
theorem bj_ {L:Nat→Prop}{B g:Nat}{sz:Int}{l:List Sg}{lv:Value}{n:Nat}(blk:Rd→Rd×Int) (_hb:∀ L,IWay L B g sz l lv 101 blk n) (hw:ag8 l) (hl:l.length≤1048576) (hx:∀ x∈l,x.text.size≤1048576) (hB:3<B) (_hnn:∀ s,0≤(blk s).2) (s:Rd) (w:World) (_hn:l.length-s.pos<n+1) (h:IAt L B g sz l lv s w) (hO:ak5 w) (q0:s.isQ l ⟨#[105,102]⟩=false) (q1:s.isQ l ⟨#[119,104,105,108,101]⟩=false) (q2:s.isQ l ⟨#[99,97,108,108]⟩=false) (q3:s.isQ l ⟨#[112,114,105,110,116]⟩=false) (q4:s.isQ l ⟨#[114,101,97,100]⟩=false) (q5:s.isQ l ⟨#[100,101,108,97,121]⟩=true) :
  Calls Tryz.prog 121 #[.pointer (some ⟨g,0,none⟩)] w (IOut L B g sz l lv (Rd.stmtW l blk s).1 (.int .i64 (Rd.stmtW l blk s).2) w):=by
 have HO:=qb hO
 have HB:=qb hB
 have hfb:=h.fine
 have hgood:=h.good
 have K0:=qb (IEnd.refl h)
 have CQ:=fun (s:Rd) t (ht:ae9 t=true) w h=>qb (ah1 (L:=L) (B:=B) (g:=g) (sz:=sz) (l:=l) (lv:=lv) (s:=s) t w h hw hl ht)
 have CM:=fun (s:Rd) t (ht:ae9 t=true) w h=>qb (ag5 (L:=L) (B:=B) (g:=g) (sz:=sz) (l:=l) (lv:=lv) (s:=s) t w h hw hl ht)
 have CN:=fun (s:Rd) w h=>qb (ah7 (L:=L) (B:=B) (g:=g) (sz:=sz) (l:=l) (lv:=lv) (s:=s) w h hw hl hx)
 have CV:=fun (s:Rd) w h hO=>qb (am1 (L:=L) (B:=B) (g:=g) (sz:=sz) (l:=l) (lv:=lv) s w h hO hw hl hx hB)
 obtain⟨R,hR⟩:∃ R,R=Rd.stmtW l blk s:=⟨_,rfl⟩
 rw[←hR]
 unfold Rd.stmtW at hR
 rw[wd8.2,wd9.2,wd10.2,wd11.2,wd12.2,wd13.2,wd14.2,wd15.2]at hR
 simp only[q0,q1,q2,q3,q4,q5,if_true,if_false,Bool.false_eq_true]at hR
 have hpo:s.on.pos=s.pos+1:=rfl
 have T0:=CQ s ⟨#[105,102]⟩ wd8.1
 rw[q0,show s.may l ⟨#[105,102]⟩=s from by simp[Rd.may,q0]]at T0
 have T1:=CQ s ⟨#[119,104,105,108,101]⟩ wd9.1
 rw[q1,show s.may l ⟨#[119,104,105,108,101]⟩=s from by simp[Rd.may,q1]]at T1
 have T2:=CQ s ⟨#[99,97,108,108]⟩ wd10.1
 rw[q2,show s.may l ⟨#[99,97,108,108]⟩=s from by simp[Rd.may,q2]]at T2
 have T3:=CQ s ⟨#[112,114,105,110,116]⟩ wd11.1
 rw[q3,show s.may l ⟨#[112,114,105,110,116]⟩=s from by simp[Rd.may,q3]]at T3
 have T4:=CQ s ⟨#[114,101,97,100]⟩ wd12.1
 rw[q4,show s.may l ⟨#[114,101,97,100]⟩=s from by simp[Rd.may,q4]]at T4
 have T5:=CQ s ⟨#[100,101,108,97,121]⟩ wd13.1
 rw[q5,show s.may l ⟨#[100,101,108,97,121]⟩=s.on from by simp[Rd.may,q5]]at T5
 have hlt:=Rd.isQ_lt q5
 have CA:=fun s a w h hg=>qb (bc_ (L:=L) (B:=B) (g:=g) (sz:=sz) (l:=l) (lv:=lv) (s:=s) a w h hg hl)
 have C1:=CN s.on
 have hg1:=hgood.on.name l
 obtain⟨v,hv⟩:∃ v,v=s.on.name l:=⟨_,rfl⟩
 rw[←hv]at C1 hR hg1
 have C2:=fun w h=>CA v.1 v.2 w h hg1
 have hbp:v.1.bad=false→(v.1.put (ndN 17 v.2 [])).1.bad=false:=fun hb=>by rw[Rd.put_ok hb];exact hb
 have HR:=qb hR
 clear CQ CM CN CV hR h hO q0 q1 q2 q3 q4 q5 _hb hv CA
 go_enter Tryz.func121,Tryz.ntmps121
 go_wp2_with fail
 refine(qa (T0 _ K0.out.at')).mono ?_;rintro e w1⟨rfl,he⟩;have K1:=qb (K0.out.then' he);clear he T0
 go_wp2_with fail
 refine(qa (T1 _ K1.out.at')).mono ?_;rintro e w2⟨rfl,he⟩;have K2:=qb (K1.out.then' he);clear he T1
 go_wp2_with fail
 refine(qa (T2 _ K2.out.at')).mono ?_;rintro e w3⟨rfl,he⟩;have K3:=qb (K2.out.then' he);clear he T2
 go_wp2_with fail
 refine(qa (T3 _ K3.out.at')).mono ?_;rintro e w4⟨rfl,he⟩;have K4:=qb (K3.out.then' he);clear he T3
 go_wp2_with fail
 refine(qa (T4 _ K4.out.at')).mono ?_;rintro e w5⟨rfl,he⟩;have K5:=qb (K4.out.then' he);clear he T4
 go_wp2_with fail
 refine(qa (T5 _ K5.out.at')).mono ?_;rintro e w6⟨rfl,he⟩;have K6:=qb (K5.out.then' he);clear he T5
 go_wp2_with fail
 cases hb6:v.1.bad
 rotate_left
 ·have C1n:=fun w h=>qb (IOut.no hb6 (qa (C1 w h)))
  have HA:=qb (show R.1.At v.1.pos from by rw[HR.out];exact Rd.At.put ⟨hb6,rfl⟩ _)
  refine(qa (C1n _ K6.out.at')).mono ?_;rintro e w7⟨rfl,he⟩;have K7:=qb (K6.out.lost he);clear he C1n
  exact⟨rfl,IOut.lost K7.out HA.out⟩
 have C1y:=fun w h=>qb (IOut.yes hb6 (qa (C1 w h)))
 clear C1
 refine(qa (C1y _ K6.out.at')).mono ?_;rintro e w7⟨rfl,he⟩;have K7:=qb (K6.out.then' he);clear he C1y
 go_wp2_with fail
 refine(qa (C2 _ K7.out.at')).mono ?_;rintro e w8⟨rfl,he⟩;have K8:=qb (K7.out.then' he);clear he C2
 go_wp2_with fail
 go_ret
 rw[HR.out]
 exact .inl ⟨hbp hb6,rfl,K8.out⟩
theorem aO8 {L:Nat→Prop}{B g:Nat}{sz:Int}{l:List Sg}{lv:Value}{n:Nat}(blk:Rd→Rd×Int) (_hb:∀ L,IWay L B g sz l lv 101 blk n) (hw:ag8 l) (hl:l.length≤1048576) (hx:∀ x∈l,x.text.size≤1048576) (hB:3<B) (_hnn:∀ s,0≤(blk s).2) (s:Rd) (w:World) (_hn:l.length-s.pos<n+1) (h:IAt L B g sz l lv s w) (hO:ak5 w) (q0:s.isQ l ⟨#[105,102]⟩=false) (q1:s.isQ l ⟨#[119,104,105,108,101]⟩=false) (q2:s.isQ l ⟨#[99,97,108,108]⟩=false) (q3:s.isQ l ⟨#[112,114,105,110,116]⟩=false) (q4:s.isQ l ⟨#[114,101,97,100]⟩=false) (q5:s.isQ l ⟨#[100,101,108,97,121]⟩=false) (q6:s.isQ l ⟨#[99,111,110,116,105,110,117,101]⟩=true) :
  Calls Tryz.prog 121 #[.pointer (some ⟨g,0,none⟩)] w (IOut L B g sz l lv (Rd.stmtW l blk s).1 (.int .i64 (Rd.stmtW l blk s).2) w):=by
 have HO:=qb hO
 have HB:=qb hB
 have hfb:=h.fine
 have hgood:=h.good
 have K0:=qb (IEnd.refl h)
 have CQ:=fun (s:Rd) t (ht:ae9 t=true) w h=>qb (ah1 (L:=L) (B:=B) (g:=g) (sz:=sz) (l:=l) (lv:=lv) (s:=s) t w h hw hl ht)
 have CM:=fun (s:Rd) t (ht:ae9 t=true) w h=>qb (ag5 (L:=L) (B:=B) (g:=g) (sz:=sz) (l:=l) (lv:=lv) (s:=s) t w h hw hl ht)
 have CN:=fun (s:Rd) w h=>qb (ah7 (L:=L) (B:=B) (g:=g) (sz:=sz) (l:=l) (lv:=lv) (s:=s) w h hw hl hx)
 have CV:=fun (s:Rd) w h hO=>qb (am1 (L:=L) (B:=B) (g:=g) (sz:=sz) (l:=l) (lv:=lv) s w h hO hw hl hx hB)
 obtain⟨R,hR⟩:∃ R,R=Rd.stmtW l blk s:=⟨_,rfl⟩
 rw[←hR]
 unfold Rd.stmtW at hR
 rw[wd8.2,wd9.2,wd10.2,wd11.2,wd12.2,wd13.2,wd14.2,wd15.2]at hR
 simp only[q0,q1,q2,q3,q4,q5,q6,if_true,if_false,Bool.false_eq_true]at hR
 have hpo:s.on.pos=s.pos+1:=rfl
 have T0:=CQ s ⟨#[105,102]⟩ wd8.1
 rw[q0,show s.may l ⟨#[105,102]⟩=s from by simp[Rd.may,q0]]at T0
 have T1:=CQ s ⟨#[119,104,105,108,101]⟩ wd9.1
 rw[q1,show s.may l ⟨#[119,104,105,108,101]⟩=s from by simp[Rd.may,q1]]at T1
 have T2:=CQ s ⟨#[99,97,108,108]⟩ wd10.1
 rw[q2,show s.may l ⟨#[99,97,108,108]⟩=s from by simp[Rd.may,q2]]at T2
 have T3:=CQ s ⟨#[112,114,105,110,116]⟩ wd11.1
 rw[q3,show s.may l ⟨#[112,114,105,110,116]⟩=s from by simp[Rd.may,q3]]at T3
 have T4:=CQ s ⟨#[114,101,97,100]⟩ wd12.1
 rw[q4,show s.may l ⟨#[114,101,97,100]⟩=s from by simp[Rd.may,q4]]at T4
 have T5:=CQ s ⟨#[100,101,108,97,121]⟩ wd13.1
 rw[q5,show s.may l ⟨#[100,101,108,97,121]⟩=s from by simp[Rd.may,q5]]at T5
 have T6:=CQ s ⟨#[99,111,110,116,105,110,117,101]⟩ wd14.1
 rw[q6,show s.may l ⟨#[99,111,110,116,105,110,117,101]⟩=s.on from by simp[Rd.may,q6]]at T6
 have hlt:=Rd.isQ_lt q6
 have CA:=fun s a w h hg=>qb (bi4 (L:=L) (B:=B) (g:=g) (sz:=sz) (l:=l) (lv:=lv) (s:=s) a w h hg hl)
 have C1:=CN s.on
 have hg1:=hgood.on.name l
 obtain⟨v,hv⟩:∃ v,v=s.on.name l:=⟨_,rfl⟩
 rw[←hv]at C1 hR hg1
 have C2:=fun w h=>CA v.1 v.2 w h hg1
 have hbp:v.1.bad=false→(v.1.put (ndN 18 v.2 [])).1.bad=false:=fun hb=>by rw[Rd.put_ok hb];exact hb
 have HR:=qb hR
 clear CQ CM CN CV hR h hO q0 q1 q2 q3 q4 q5 q6 _hb hv CA
 go_enter Tryz.func121,Tryz.ntmps121
 go_wp2_with fail
 refine(qa (T0 _ K0.out.at')).mono ?_;rintro e w1⟨rfl,he⟩;have K1:=qb (K0.out.then' he);clear he T0
 go_wp2_with fail
 refine(qa (T1 _ K1.out.at')).mono ?_;rintro e w2⟨rfl,he⟩;have K2:=qb (K1.out.then' he);clear he T1
 go_wp2_with fail
 refine(qa (T2 _ K2.out.at')).mono ?_;rintro e w3⟨rfl,he⟩;have K3:=qb (K2.out.then' he);clear he T2
 go_wp2_with fail
 refine(qa (T3 _ K3.out.at')).mono ?_;rintro e w4⟨rfl,he⟩;have K4:=qb (K3.out.then' he);clear he T3
 go_wp2_with fail
 refine(qa (T4 _ K4.out.at')).mono ?_;rintro e w5⟨rfl,he⟩;have K5:=qb (K4.out.then' he);clear he T4
 go_wp2_with fail
 refine(qa (T5 _ K5.out.at')).mono ?_;rintro e w6⟨rfl,he⟩;have K6:=qb (K5.out.then' he);clear he T5
 go_wp2_with fail
 refine(qa (T6 _ K6.out.at')).mono ?_;rintro e w7⟨rfl,he⟩;have K7:=qb (K6.out.then' he);clear he T6
 go_wp2_with fail
 cases hb7:v.1.bad
 rotate_left
 ·have C1n:=fun w h=>qb (IOut.no hb7 (qa (C1 w h)))
  have HA:=qb (show R.1.At v.1.pos from by rw[HR.out];exact Rd.At.put ⟨hb7,rfl⟩ _)
  refine(qa (C1n _ K7.out.at')).mono ?_;rintro e w8⟨rfl,he⟩;have K8:=qb (K7.out.lost he);clear he C1n
  exact⟨rfl,IOut.lost K8.out HA.out⟩
 have C1y:=fun w h=>qb (IOut.yes hb7 (qa (C1 w h)))
 clear C1
 refine(qa (C1y _ K7.out.at')).mono ?_;rintro e w8⟨rfl,he⟩;have K8:=qb (K7.out.then' he);clear he C1y
 go_wp2_with fail
 refine(qa (C2 _ K8.out.at')).mono ?_;rintro e w9⟨rfl,he⟩;have K9:=qb (K8.out.then' he);clear he C2
 go_wp2_with fail
 go_ret
 rw[HR.out]
 exact .inl ⟨hbp hb7,rfl,K9.out⟩
theorem iSt_skip {L:Nat→Prop}{B g:Nat}{sz:Int}{l:List Sg}{lv:Value}{n:Nat}(blk:Rd→Rd×Int) (_hb:∀ L,IWay L B g sz l lv 101 blk n) (hw:ag8 l) (hl:l.length≤1048576) (hx:∀ x∈l,x.text.size≤1048576) (hB:3<B) (_hnn:∀ s,0≤(blk s).2) (s:Rd) (w:World) (_hn:l.length-s.pos<n+1) (h:IAt L B g sz l lv s w) (hO:ak5 w) (q0:s.isQ l ⟨#[105,102]⟩=false) (q1:s.isQ l ⟨#[119,104,105,108,101]⟩=false) (q2:s.isQ l ⟨#[99,97,108,108]⟩=false) (q3:s.isQ l ⟨#[112,114,105,110,116]⟩=false) (q4:s.isQ l ⟨#[114,101,97,100]⟩=false) (q5:s.isQ l ⟨#[100,101,108,97,121]⟩=false) (q6:s.isQ l ⟨#[99,111,110,116,105,110,117,101]⟩=false) (q7:s.isQ l ⟨#[115,107,105,112]⟩=true) :
  Calls Tryz.prog 121 #[.pointer (some ⟨g,0,none⟩)] w (IOut L B g sz l lv (Rd.stmtW l blk s).1 (.int .i64 (Rd.stmtW l blk s).2) w):=by
 have HO:=qb hO
 have HB:=qb hB
 have hfb:=h.fine
 have hgood:=h.good
 have K0:=qb (IEnd.refl h)
 have CQ:=fun (s:Rd) t (ht:ae9 t=true) w h=>qb (ah1 (L:=L) (B:=B) (g:=g) (sz:=sz) (l:=l) (lv:=lv) (s:=s) t w h hw hl ht)
 have CM:=fun (s:Rd) t (ht:ae9 t=true) w h=>qb (ag5 (L:=L) (B:=B) (g:=g) (sz:=sz) (l:=l) (lv:=lv) (s:=s) t w h hw hl ht)
 have CN:=fun (s:Rd) w h=>qb (ah7 (L:=L) (B:=B) (g:=g) (sz:=sz) (l:=l) (lv:=lv) (s:=s) w h hw hl hx)
 have CV:=fun (s:Rd) w h hO=>qb (am1 (L:=L) (B:=B) (g:=g) (sz:=sz) (l:=l) (lv:=lv) s w h hO hw hl hx hB)
 obtain⟨R,hR⟩:∃ R,R=Rd.stmtW l blk s:=⟨_,rfl⟩
 rw[←hR]
 unfold Rd.stmtW at hR
 rw[wd8.2,wd9.2,wd10.2,wd11.2,wd12.2,wd13.2,wd14.2,wd15.2]at hR
 simp only[q0,q1,q2,q3,q4,q5,q6,q7,if_true,if_false,Bool.false_eq_true]at hR
 have hpo:s.on.pos=s.pos+1:=rfl
 have T0:=CQ s ⟨#[105,102]⟩ wd8.1
 rw[q0,show s.may l ⟨#[105,102]⟩=s from by simp[Rd.may,q0]]at T0
 have T1:=CQ s ⟨#[119,104,105,108,101]⟩ wd9.1
 rw[q1,show s.may l ⟨#[119,104,105,108,101]⟩=s from by simp[Rd.may,q1]]at T1
 have T2:=CQ s ⟨#[99,97,108,108]⟩ wd10.1
 rw[q2,show s.may l ⟨#[99,97,108,108]⟩=s from by simp[Rd.may,q2]]at T2
 have T3:=CQ s ⟨#[112,114,105,110,116]⟩ wd11.1
 rw[q3,show s.may l ⟨#[112,114,105,110,116]⟩=s from by simp[Rd.may,q3]]at T3
 have T4:=CQ s ⟨#[114,101,97,100]⟩ wd12.1
 rw[q4,show s.may l ⟨#[114,101,97,100]⟩=s from by simp[Rd.may,q4]]at T4
 have T5:=CQ s ⟨#[100,101,108,97,121]⟩ wd13.1
 rw[q5,show s.may l ⟨#[100,101,108,97,121]⟩=s from by simp[Rd.may,q5]]at T5
 have T6:=CQ s ⟨#[99,111,110,116,105,110,117,101]⟩ wd14.1
 rw[q6,show s.may l ⟨#[99,111,110,116,105,110,117,101]⟩=s from by simp[Rd.may,q6]]at T6
 have T7:=CQ s ⟨#[115,107,105,112]⟩ wd15.1
 rw[q7,show s.may l ⟨#[115,107,105,112]⟩=s.on from by simp[Rd.may,q7]]at T7
 have hlt:=Rd.isQ_lt q7
 have C2:=fun w h=>qb (bi6 (L:=L) (B:=B) (g:=g) (sz:=sz) (l:=l) (lv:=lv) (s:=s.on) w h hgood.on hl)
 have hbp:(s.on.put (ndK 19 0 [])).1.bad=false:=by rw[Rd.put_ok (show s.on.bad=false from hfb)];exact hfb
 have HR:=qb hR
 clear CQ CM CN CV hR h hO q0 q1 q2 q3 q4 q5 q6 q7 _hb
 go_enter Tryz.func121,Tryz.ntmps121
 go_wp2_with (first
  | (go_at_call 74;refine(qa (T0 _ K0.out.at')).mono ?_;rintro e w1⟨rfl,he⟩;have K1:=qb (K0.out.then' he);clear he T0)
  | (go_at_call 74;refine(qa (T1 _ K1.out.at')).mono ?_;rintro e w2⟨rfl,he⟩;have K2:=qb (K1.out.then' he);clear he T1)
  | (go_at_call 74;refine(qa (T2 _ K2.out.at')).mono ?_;rintro e w3⟨rfl,he⟩;have K3:=qb (K2.out.then' he);clear he T2)
  | (go_at_call 74;refine(qa (T3 _ K3.out.at')).mono ?_;rintro e w4⟨rfl,he⟩;have K4:=qb (K3.out.then' he);clear he T3)
  | (go_at_call 74;refine(qa (T4 _ K4.out.at')).mono ?_;rintro e w5⟨rfl,he⟩;have K5:=qb (K4.out.then' he);clear he T4)
  | (go_at_call 74;refine(qa (T5 _ K5.out.at')).mono ?_;rintro e w6⟨rfl,he⟩;have K6:=qb (K5.out.then' he);clear he T5)
  | (go_at_call 74;refine(qa (T6 _ K6.out.at')).mono ?_;rintro e w7⟨rfl,he⟩;have K7:=qb (K6.out.then' he);clear he T6)
  | (go_at_call 74;refine(qa (T7 _ K7.out.at')).mono ?_;rintro e w8⟨rfl,he⟩;have K8:=qb (K7.out.then' he);clear he T7)
  | (go_at_call 122;refine(qa (C2 _ K8.out.at')).mono ?_;rintro e w9⟨rfl,he⟩;have K9:=qb (K8.out.then' he);clear he C2))
 go_ret
 rw[HR.out]
 exact .inl ⟨hbp,rfl,K9.out⟩
theorem iSt_set {L:Nat→Prop}{B g:Nat}{sz:Int}{l:List Sg}{lv:Value}{n:Nat}(blk:Rd→Rd×Int) (_hb:∀ L,IWay L B g sz l lv 101 blk n) (hw:ag8 l) (hl:l.length≤1048576) (hx:∀ x∈l,x.text.size≤1048576) (hB:3<B) (_hnn:∀ s,0≤(blk s).2) (s:Rd) (w:World) (_hn:l.length-s.pos<n+1) (h:IAt L B g sz l lv s w) (hO:ak5 w) (q0:s.isQ l ⟨#[105,102]⟩=false) (q1:s.isQ l ⟨#[119,104,105,108,101]⟩=false) (q2:s.isQ l ⟨#[99,97,108,108]⟩=false) (q3:s.isQ l ⟨#[112,114,105,110,116]⟩=false) (q4:s.isQ l ⟨#[114,101,97,100]⟩=false) (q5:s.isQ l ⟨#[100,101,108,97,121]⟩=false) (q6:s.isQ l ⟨#[99,111,110,116,105,110,117,101]⟩=false) (q7:s.isQ l ⟨#[115,107,105,112]⟩=false) :
  Calls Tryz.prog 121 #[.pointer (some ⟨g,0,none⟩)] w (IOut L B g sz l lv (Rd.stmtW l blk s).1 (.int .i64 (Rd.stmtW l blk s).2) w):=by
 have HO:=qb hO
 have HB:=qb hB
 have hfb:=h.fine
 have hgood:=h.good
 have K0:=qb (IEnd.refl h)
 have CQ:=fun (s:Rd) t (ht:ae9 t=true) w h=>qb (ah1 (L:=L) (B:=B) (g:=g) (sz:=sz) (l:=l) (lv:=lv) (s:=s) t w h hw hl ht)
 have CM:=fun (s:Rd) t (ht:ae9 t=true) w h=>qb (ag5 (L:=L) (B:=B) (g:=g) (sz:=sz) (l:=l) (lv:=lv) (s:=s) t w h hw hl ht)
 have CN:=fun (s:Rd) w h=>qb (ah7 (L:=L) (B:=B) (g:=g) (sz:=sz) (l:=l) (lv:=lv) (s:=s) w h hw hl hx)
 have CV:=fun (s:Rd) w h hO=>qb (am1 (L:=L) (B:=B) (g:=g) (sz:=sz) (l:=l) (lv:=lv) s w h hO hw hl hx hB)
 obtain⟨R,hR⟩:∃ R,R=Rd.stmtW l blk s:=⟨_,rfl⟩
 rw[←hR]
 unfold Rd.stmtW at hR
 rw[wd8.2,wd9.2,wd10.2,wd11.2,wd12.2,wd13.2,wd14.2,wd15.2,wd7.2]at hR
 simp only[q0,q1,q2,q3,q4,q5,q6,q7,if_false,Bool.false_eq_true]at hR
 have hpo:s.on.pos=s.pos+1:=rfl
 have T0:=CQ s ⟨#[105,102]⟩ wd8.1
 rw[q0,show s.may l ⟨#[105,102]⟩=s from by simp[Rd.may,q0]]at T0
 have T1:=CQ s ⟨#[119,104,105,108,101]⟩ wd9.1
 rw[q1,show s.may l ⟨#[119,104,105,108,101]⟩=s from by simp[Rd.may,q1]]at T1
 have T2:=CQ s ⟨#[99,97,108,108]⟩ wd10.1
 rw[q2,show s.may l ⟨#[99,97,108,108]⟩=s from by simp[Rd.may,q2]]at T2
 have T3:=CQ s ⟨#[112,114,105,110,116]⟩ wd11.1
 rw[q3,show s.may l ⟨#[112,114,105,110,116]⟩=s from by simp[Rd.may,q3]]at T3
 have T4:=CQ s ⟨#[114,101,97,100]⟩ wd12.1
 rw[q4,show s.may l ⟨#[114,101,97,100]⟩=s from by simp[Rd.may,q4]]at T4
 have T5:=CQ s ⟨#[100,101,108,97,121]⟩ wd13.1
 rw[q5,show s.may l ⟨#[100,101,108,97,121]⟩=s from by simp[Rd.may,q5]]at T5
 have T6:=CQ s ⟨#[99,111,110,116,105,110,117,101]⟩ wd14.1
 rw[q6,show s.may l ⟨#[99,111,110,116,105,110,117,101]⟩=s from by simp[Rd.may,q6]]at T6
 have T7:=CQ s ⟨#[115,107,105,112]⟩ wd15.1
 rw[q7,show s.may l ⟨#[115,107,105,112]⟩=s from by simp[Rd.may,q7]]at T7
 have CA:=fun s nm a w h hg=>qb (iAdd_set (L:=L) (B:=B) (g:=g) (sz:=sz) (l:=l) (lv:=lv) (s:=s) nm a w h hg hl)
 have C1:=CN s
 have hg1:=hgood.name l
 obtain⟨a,ha⟩:∃ a,a=s.name l:=⟨_,rfl⟩
 rw[←ha]at C1 hR hg1
 have C2:=CM a.1 ⟨#[58,61]⟩ wd7.1
 have hg2:=hg1.must1 l ⟨#[58,61]⟩
 have hm2:∀ p,a.1.At p→(a.1.must l ⟨#[58,61]⟩).At p:=fun p h=>Rd.At.must l h _
 obtain⟨m,hm⟩:∃ m,m=a.1.must l ⟨#[58,61]⟩:=⟨_,rfl⟩
 rw[←hm]at C2 hR hg2 hm2
 have C3:=CV m
 have hg3:m.bad=false→(m.value l).1.Good 1:=fun hbad=>Rd.Keeps.value l 1 _ (hg2 hbad)
 have hm3:∀ p,m.At p→(m.value l).1.At p:=fun p h=>Rd.Stays.value p _ h
 obtain⟨v,hv⟩:∃ v,v=m.value l:=⟨_,rfl⟩
 rw[←hv]at C3 hR hg3 hm3
 have C4:=fun hmb w h=>CA v.1 a.2 v.2 w h (hg3 hmb)
 have hbp:v.1.bad=false→(v.1.put (ndN 11 a.2 [v.2])).1.bad=false:=fun hb=>by rw[Rd.put_ok hb];exact hb
 have HR:=qb hR
 clear CQ CM CN CV hR h hO q0 q1 q2 q3 q4 q5 q6 q7 _hb ha hm hv CA
 go_enter Tryz.func121,Tryz.ntmps121
 go_wp2_with fail
 refine(qa (T0 _ K0.out.at')).mono ?_;rintro e w1⟨rfl,he⟩;have K1:=qb (K0.out.then' he);clear he T0
 go_wp2_with fail
 refine(qa (T1 _ K1.out.at')).mono ?_;rintro e w2⟨rfl,he⟩;have K2:=qb (K1.out.then' he);clear he T1
 go_wp2_with fail
 refine(qa (T2 _ K2.out.at')).mono ?_;rintro e w3⟨rfl,he⟩;have K3:=qb (K2.out.then' he);clear he T2
 go_wp2_with fail
 refine(qa (T3 _ K3.out.at')).mono ?_;rintro e w4⟨rfl,he⟩;have K4:=qb (K3.out.then' he);clear he T3
 go_wp2_with fail
 refine(qa (T4 _ K4.out.at')).mono ?_;rintro e w5⟨rfl,he⟩;have K5:=qb (K4.out.then' he);clear he T4
 go_wp2_with fail
 refine(qa (T5 _ K5.out.at')).mono ?_;rintro e w6⟨rfl,he⟩;have K6:=qb (K5.out.then' he);clear he T5
 go_wp2_with fail
 refine(qa (T6 _ K6.out.at')).mono ?_;rintro e w7⟨rfl,he⟩;have K7:=qb (K6.out.then' he);clear he T6
 go_wp2_with fail
 refine(qa (T7 _ K7.out.at')).mono ?_;rintro e w8⟨rfl,he⟩;have K8:=qb (K7.out.then' he);clear he T7
 go_wp2_with fail
 cases hb8:a.1.bad
 rotate_left
 ·have C1n:=fun w h=>qb (IOut.no hb8 (qa (C1 w h)))
  have HA:=qb (show R.1.At a.1.pos from by rw[HR.out];exact Rd.At.put (hm3 _ (hm2 _ ⟨hb8,rfl⟩)) _)
  refine(qa (C1n _ K8.out.at')).mono ?_;rintro e w9⟨rfl,he⟩;have K9:=qb (K8.out.lost he);clear he C1n
  exact⟨rfl,IOut.lost K9.out HA.out⟩
 have C1y:=fun w h=>qb (IOut.yes hb8 (qa (C1 w h)))
 clear C1
 refine(qa (C1y _ K8.out.at')).mono ?_;rintro e w9⟨rfl,he⟩;have K9:=qb (K8.out.then' he);clear he C1y
 go_wp2_with fail
 cases hb9:m.bad
 rotate_left
 ·have C2n:=fun w h=>qb (IOut.no hb9 (qa (C2 w h)))
  have HA:=qb (show R.1.At m.pos from by rw[HR.out];exact Rd.At.put (hm3 _ ⟨hb9,rfl⟩) _)
  refine(qa (C2n _ K9.out.at')).mono ?_;rintro e w10⟨rfl,he⟩;have K10:=qb (K9.out.lost he);clear he C2n
  exact⟨rfl,IOut.lost K10.out HA.out⟩
 have C2y:=fun w h=>qb (IOut.yes hb9 (qa (C2 w h)))
 clear C2
 refine(qa (C2y _ K9.out.at')).mono ?_;rintro e w10⟨rfl,he⟩;have K10:=qb (K9.out.then' he);clear he C2y
 go_wp2_with fail
 cases hb10:v.1.bad
 rotate_left
 ·have C3n:=fun w h hO=>qb (IOut.no hb10 (qa (C3 w h hO)))
  have HA:=qb (show R.1.At v.1.pos from by rw[HR.out];exact Rd.At.put ⟨hb10,rfl⟩ _)
  refine(qa (C3n _ K10.out.at' (HO.out.stays K10.out.bel HB.out))).mono ?_;rintro e w11⟨rfl,he⟩;have K11:=qb (K10.out.lost he);clear he C3n
  exact⟨rfl,IOut.lost K11.out HA.out⟩
 have C3y:=fun w h hO=>qb (IOut.yes hb10 (qa (C3 w h hO)))
 clear C3
 refine(qa (C3y _ K10.out.at' (HO.out.stays K10.out.bel HB.out))).mono ?_;rintro e w11⟨rfl,he⟩;have K11:=qb (K10.out.then' he);clear he C3y
 go_wp2_with fail
 refine(qa (C4 hb9 _ K11.out.at')).mono ?_;rintro e w12⟨rfl,he⟩;have K12:=qb (K11.out.then' he);clear he C4
 go_wp2_with fail
 go_ret
 rw[HR.out]
 exact .inl ⟨hbp hb10,rfl,K12.out⟩
theorem bj2 {L:Nat→Prop}{B g:Nat}{sz:Int}{l:List Sg}{lv:Value}{n:Nat}(blk:Rd→Rd×Int) (hb:∀ L,IWay L B g sz l lv 101 blk n) (hw:ag8 l) (hl:l.length≤1048576) (hx:∀ x∈l,x.text.size≤1048576) (hB:3<B) (hnn:∀ s,0≤(blk s).2) (s:Rd) (w:World) (hn:l.length-s.pos<n+1) (h:IAt L B g sz l lv s w) (hO:ak5 w) :
  Calls Tryz.prog 121 #[.pointer (some ⟨g,0,none⟩)] w (IOut L B g sz l lv (Rd.stmtW l blk s).1 (.int .i64 (Rd.stmtW l blk s).2) w):=by
 cases q0:s.isQ l ⟨#[105,102]⟩ with
 | true=>exact iSt_if blk hb hw hl hx hB hnn s w hn h hO q0
 | false =>
  cases q1:s.isQ l ⟨#[119,104,105,108,101]⟩ with
  | true=>exact bj1 blk hb hw hl hx hB hnn s w hn h hO q0 q1
  | false =>
   cases q2:s.isQ l ⟨#[99,97,108,108]⟩ with
   | true=>exact iSt_call blk hb hw hl hx hB hnn s w hn h hO q0 q1 q2
   | false =>
    cases q3:s.isQ l ⟨#[112,114,105,110,116]⟩ with
    | true=>exact bj0 blk hb hw hl hx hB hnn s w hn h hO q0 q1 q2 q3
    | false =>
     cases q4:s.isQ l ⟨#[114,101,97,100]⟩ with
     | true=>exact iSt_read blk hb hw hl hx hB hnn s w hn h hO q0 q1 q2 q3 q4
     | false =>
      cases q5:s.isQ l ⟨#[100,101,108,97,121]⟩ with
      | true=>exact bj_ blk hb hw hl hx hB hnn s w hn h hO q0 q1 q2 q3 q4 q5
      | false =>
       cases q6:s.isQ l ⟨#[99,111,110,116,105,110,117,101]⟩ with
       | true=>exact aO8 blk hb hw hl hx hB hnn s w hn h hO q0 q1 q2 q3 q4 q5 q6
       | false =>
        cases q7:s.isQ l ⟨#[115,107,105,112]⟩ with
        | true=>exact iSt_skip blk hb hw hl hx hB hnn s w hn h hO q0 q1 q2 q3 q4 q5 q6 q7
        | false =>
         exact iSt_set blk hb hw hl hx hB hnn s w hn h hO q0 q1 q2 q3 q4 q5 q6 q7
end Go.Proofs.YtcpapceeekkacaaGreatDoor
