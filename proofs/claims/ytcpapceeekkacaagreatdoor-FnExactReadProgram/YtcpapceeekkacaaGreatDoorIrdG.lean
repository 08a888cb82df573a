import Derived.Test.YtcpapceeekkacaaGreatDoorIrdV
set_option maxRecDepth 100000
set_option maxHeartbeats 8000000
namespace Go.Proofs.YtcpapceeekkacaaGreatDoor
open Go.RowKit
theorem IEnd.less {L L':Nat→Prop}{B g:Nat}{sz:Int}{l:List Sg}{lv:Value}{s:Rd}{w w':World}(h:IEnd L' B g sz l lv s w w') (hL:∀ b,L b→L' b):IEnd L B g sz l lv s w w' :=
 ⟨h.at'.change (fun b hb=>.inl (hL b hb)) (fun b hb=>h.at'.loose b (hL b hb)) (fun _ _=>.inl rfl),h.keep,h.bel,fun b hb=>h.held b (hL b hb)⟩
structure KidI (L:Nat→Prop) (B g:Nat) (sz:Int) (l:List Sg) (lv:Value) (w0:World) (s:Rd) (v:Value) (xs:List Int) (w:World):Prop where
 at':IAt (fun b=>L b∨v.ownBlock=some b) B g sz l lv s w
 own:w.ownsRow w0.heap.size 3 1 v xs.length (xs.map I64)
 fin:IEnd L B g sz l lv s w0 w
 loose:∀ b,L b→b<w0.heap.size
theorem KidI.made {L:Nat→Prop}{B g:Nat}{sz:Int}{l:List Sg}{lv:Value}{w0 w:World}{s:Rd}(h:IEnd L B g sz l lv s w0 w) (h0:∀ b,L b→b<w0.heap.size) (x:Int):KidI L B g sz l lv w0 s (.slice (some ⟨w.heap.size,0,none⟩) 1 1) [x] (w.alloc (.cells #[.int .i64 x] 3)):=by
 refine⟨h.at'.change (fun b hb=>?_) (fun b hb=>?_) (fun c hc=>.inl (Below.heap_alloc w _ c hc)),am_ rfl h.keep.size [x] 1 rfl (by decide),h.new _,h0⟩
 ·rcases hb with hb|hb
  ·exact .inl hb
  ·injection hb with hb;exact .inr (Nat.le_of_eq hb)
 ·rw[show (w.alloc (.cells #[.int .i64 x] 3)).heap.size=w.heap.size+1 by simp]
  rcases hb with hb|hb
  ·have:=h.at'.loose b hb;omega
  ·injection hb with hb;have hb:w.heap.size=b:=hb;omega
theorem KidI.call {L:Nat→Prop}{B g:Nat}{sz:Int}{l:List Sg}{lv:Value}{w0 w w':World}{s s':Rd}{v:Value}{xs:List Int}(h:KidI L B g sz l lv w0 s v xs w) (he:IEnd (fun b=>L b∨v.ownBlock=some b) B g sz l lv s' w w'):KidI L B g sz l lv w0 s' v xs w' :=
 ⟨he.at',aj7 h.own (fun c _ _ hv _=>he.held c (.inr hv)),h.fin.then' (he.less fun _b hb=>.inl hb),h.loose⟩
theorem aY9 {w:World}{ops:Array Oper}{rest:List Oper}{o:Oper}{a:Act}{Q:Exit→Act→World→Prop}(hgd:o.guard=none) (sl x:Operand)
  (ho:o.op=.call { callee:=.builtin .append,args:=#[sl,x],argTypes:=#[70,70] })
  {L:Nat→Prop}{B g:Nat}{sz:Int}{l:List Sg}{lv:Value}{w0:World}{s:Rd}{v:Value}{xs:List Int}{k:Int}{kb:Nat}(hkb:kb=w.heap.size) (h:KidI L B g sz l lv w0 s v xs w) (hs:a.eval sl=v) (hx:a.eval x=.slice (some ⟨kb,0,none⟩) 1 1) (hB:B≤w0.heap.size) (hn:xs.length≤2000000)
  (hK:∀ v' w',KidI L B g sz l lv w0 s v' (xs++[k]) w'→wpList Tryz.prog ops Q rest (a.put o.dst v') w'):wpList Tryz.prog ops Q (o :: rest) a (w.alloc (.cells #[.int .i64 k] 3)):=by
 subst hkb
 obtain⟨i,hi,hz0,hz1,hz2⟩:=info_parts Tryz.infoI
 have hs0:=h.fin.keep.size
 refine wpList_append_own_at _ hgd sl x 70 ho w0.heap.size 3 i (.int .i64 0) 1 8 Tryz.underlying70 hi hz0 hz1 hz2 rfl (by decide) v _ _ hs (h.own.alloc _) ⟨w.heap.size,0,none⟩ 1 1 [.int .i64 k] hx rfl (cell_one_new _ _ _) (by simp;rfl) (by simp[maxLen];omega) (by omega) (by simp;omega) ?_
 intro v' w' hown hgr _ hob
 have hsz1:(w.alloc (.cells #[.int .i64 k] 3)).heap.size=w.heap.size+1:=by simp
 have hsz2:=hgr.size
 rw[hsz1]at hsz2
 have same:∀ c,c<w.heap.size→v.ownBlock≠some c→w'.heap[c]? = w.heap[c]? := fun c hc hne=>(hgr.block c (by rw[hsz1];omega) (fun e=>hne e.symm)).trans (Below.heap_alloc w _ c hc)
 have hbel:Below B w w':=((Below.refl B w).alloc (nlt hB hs0) _).grown hgr (by rw[hsz1];omega) (fun j hj=>by have:=(h.own.lt j hj).1;omega)
 refine hK v' w' ⟨h.at'.change (fun b hb=>?_) (fun b hb=>?_) (fun c hc=>?_),by simpa using hown,h.fin.change h.loose _ h.at' hbel (fun c hc=>?_) (fun b hb=>.inl hb),h.loose⟩
 ·rcases hb with hb|hb
  ·exact .inl (.inl hb)
  ·rcases hob with e|e
   ·exact .inl (.inr (e.symm.trans hb))
   ·rw[e]at hb;injection hb with hb;rw[hsz1]at hb;exact .inr (by omega)
 ·rcases hb with hb|hb
  ·have:=h.loose b hb;omega
  ·exact(hown.lt b hb).2
 ·by_cases hv:v.ownBlock=some c
  ·exact .inr (.inr (.inr hv))
  ·exact .inl (same c hc hv)
 ·by_cases hv:v.ownBlock=some c
  ·exact .inr ⟨(h.own.lt c hv).1,.inr (.inr hv)⟩
  ·exact .inl (same c hc hv)
def IMore (L:Nat→Prop) (B g:Nat) (sz:Int) (l:List Sg) (lv:Value) (stmt:Rd→Rd×Int) (n:Nat) (R:Rd×List Int) (w:World) (kv:Value) (wr:World):Prop :=
 ∃ (s:Rd) (ks:List Int) (m:Nat),Hid (Rd.more l stmt (m+1) s ks=R)∧Hid (l.length-s.pos<m+1∧l.length-s.pos<n∧ks.length≤s.pos+1)∧Hid (KidI L B g sz l lv w s kv ks wr)
theorem bc7 {L:Nat→Prop}{B g:Nat}{sz:Int}{l:List Sg}{lv:Value}{n:Nat}(stmt:Rd→Rd×Int) (hs:∀ L,IWay L B g sz l lv 121 stmt n) (hw:ag8 l) (h500:l.length≤500) (hB:3<B) (s:Rd) (w:World) (hn:l.length-s.pos<n) (h:IAt L B g sz l lv s w) (hO:ak5 w) :
  Calls Tryz.prog 101 #[.pointer (some ⟨g,0,none⟩)] w (IOut L B g sz l lv (Rd.blockW l stmt s).1 (.int .i64 (Rd.blockW l stmt s).2) w):=by
 have hl:l.length≤1048576:=by omega
 have HS:=qb hs
 have HO:=qb hO
 have HB:=qb hB
 have HBL:=qb h.heap
 have LO:=qb h.loose
 have CQ:=fun (L:Nat→Prop) (s:Rd) w h=>qb (ah1 (L:=L) (B:=B) (g:=g) (sz:=sz) (l:=l) (lv:=lv) (s:=s) ⟨#[59]⟩ w h hw hl (by decide +kernel))
 have C1:=qb (ag5 (L:=L) (B:=B) (g:=g) (sz:=sz) (l:=l) (lv:=lv) (s:=s) ⟨#[98,101,103,105,110]⟩ w h hw hl (by decide +kernel))
 obtain⟨R,hR⟩:∃ R,R=Rd.blockW l stmt s:=⟨_,rfl⟩
 rw[←hR]
 unfold Rd.blockW at hR
 dsimp only at hR
 rw[tx4.1,tx4.2.2]at hR
 have hp0:=Rd.must_pos l ⟨#[98,101,103,105,110]⟩ s
 obtain⟨s0,hs0⟩:∃ s0,s0=s.must l ⟨#[98,101,103,105,110]⟩:=⟨_,rfl⟩
 rw[←hs0]at C1 hR hp0
 have C2:=fun w h hO=>qb ((hs L).run s0 w (by omega) h hO)
 have hp1:=(hs L).pos s0
 have hst:=(hs L).stays
 obtain⟨a,ha⟩:∃ a,a=stmt s0:=⟨_,rfl⟩
 have hm1:∀ p,s0.At p→a.1.At p:=fun p h=>by rw[ha];exact hst p _ h
 rw[←ha]at C2 hR hp1
 obtain⟨M,hM⟩:∃ M,M=Rd.more l stmt (l.length+1) a.1 [a.2]:=⟨_,rfl⟩
 have hm2:∀ p,a.1.At p→M.1.At p:=fun p h=>by rw[hM];exact Rd.At.more h _ _
 rw[←hM]at hR
 have C5:=fun w h=>qb (ag5 (L:=L) (B:=B) (g:=g) (sz:=sz) (l:=l) (lv:=lv) (s:=M.1) ⟨#[101,110,100]⟩ w h hw hl (by decide +kernel))
 have CA:=fun s kv ks w h hK hkl hg=>qb (bb9 (L:=L) (B:=B) (g:=g) (sz:=sz) (l:=l) (lv:=lv) (s:=s) ks kv w h hK hkl hg hl)
 have HR:=qb hR
 have HM:=qb hM.symm
 have HN:Hid (l.length-a.1.pos<l.length+1∧l.length-a.1.pos<n∧1≤a.1.pos+1):=⟨by omega,by omega,by omega⟩
 clear hs hR hs0 ha hM hp0 hp1 h hn hO hst
 cases hb0:s0.bad with
 | true =>
  have C1n:=qb (IOut.no hb0 (qa C1))
  have HA:=qb (show R.1.At s0.pos from by rw[HR.out];exact Rd.At.put (Rd.At.must l (hm2 _ (hm1 _ ⟨hb0,rfl⟩)) _) _)
  clear C1 C2 C5 CA CQ
  go_enter Tryz.func101,Tryz.ntmps101
  go_wp2_with (go_at_call 77;refine(qa C1n).mono ?_;rintro e w1⟨rfl,he⟩;have K1:=qb he;clear he)
  exact⟨rfl,IOut.lost K1.out HA.out⟩
 | false =>
  have C1y:=qb (IOut.yes hb0 (qa C1))
  clear C1
  cases hb1:a.1.bad with
  | true =>
   have C2n:=fun w h hO=>qb (IOut.no hb1 (qa (C2 w h hO)))
   have HA:=qb (show R.1.At a.1.pos from by rw[HR.out];exact Rd.At.put (Rd.At.must l (hm2 _ ⟨hb1,rfl⟩) _) _)
   clear C2 C5 CA CQ
   go_enter Tryz.func101,Tryz.ntmps101
   go_wp2_with (first
    | (go_at_call 77;refine(qa C1y).mono ?_;rintro e w1⟨rfl,he⟩;have K1:=qb he;clear he)
    | (go_at_call 121;refine(qa (C2n _ K1.out.at' (HO.out.stays K1.out.bel HB.out))).mono ?_;rintro e w2⟨rfl,he⟩;have K2:=qb (K1.out.lost he);clear he))
   exact⟨rfl,IOut.lost K2.out HA.out⟩
  | false =>
   have C2y:=fun w h hO=>qb (IOut.yes hb1 (qa (C2 w h hO)))
   clear C2
   go_enter Tryz.func101,Tryz.ntmps101
   go_wp2_with (first
    | (go_at_call 77;refine(qa C1y).mono ?_;rintro e w1⟨rfl,he⟩;have K1:=qb he;clear he)
    | (go_at_call 121;refine(qa (C2y _ K1.out.at' (HO.out.stays K1.out.bel HB.out))).mono ?_;rintro e w2⟨rfl,he⟩;have K2:=qb (K1.out.then' he);clear he))
   go_loopw [3] (fun kv wr=>IMore L B g sz l lv stmt n M w kv wr) (fun _ wr=>l.length-(intOf ((wr.cell? ⟨g,1,none⟩).getD undef)).toNat)
   case atStart=>exact⟨a.1,[a.2],l.length,HM,HN,KidI.made K2.out LO.out a.2⟩
   case round =>
    obtain⟨s',ks,m,HX,HP,HK⟩:=hrel
    obtain⟨ao,cp,hkv⟩:=ab_ HK.out.own
    subst hkv
    have CQ1:=CQ _ s' _ HK.out.at'
    have hpl0:=HK.out.at'.pos
    cases hq:s'.isQ l ⟨#[59]⟩ with
    | true =>
     have hlt:=Rd.isQ_lt hq
     rw[hq,show s'.may l ⟨#[59]⟩=s'.on from by simp[Rd.may,hq]]at CQ1
     have hpo:s'.on.pos=s'.pos+1:=rfl
     have CS:=fun L w h hO=>qb ((HS.out L).run s'.on w (by have:=HP.out;omega) h hO)
     have hpb:=(HS.out L).pos s'.on
     obtain⟨b,hb⟩:∃ b,b=stmt s'.on:=⟨_,rfl⟩
     rw[←hb]at CS hpb
     have HX2:Hid (Rd.more l stmt m b.1 (ks++[b.2])=M):=by
      have:=HX.out
      rw[Rd.more,tx4.2.1,hq,if_pos rfl,←hb]at this
      exact this
     have HPO:=qb (show s'.pos+1≤b.1.pos by omega)
     have HKN:Hid (ks.length≤2000000):=by have:=HP.out;show _≤_;omega
     clear hb hpb hpo hq C5 CA CQ C2y C1y
     cases hb2:b.1.bad with
     | true =>
      have CSn:=fun L w h hO=>qb (IOut.no hb2 (qa (CS L w h hO)))
      have HA:=qb (show R.1.At b.1.pos from by rw[HR.out,←HX2.out];exact Rd.At.put (Rd.At.must l (Rd.At.more ⟨hb2,rfl⟩ _ _) _) _)
      clear CS
      go_wp2_with (first
       | (go_at_call 74;refine(qa CQ1).mono ?_;rintro e w3⟨rfl,he⟩;have K3:=qb (HK.out.call he);clear he)
       | (go_at_call 121;refine(qa (CSn _ _ K3.out.at' (HO.out.stays K3.out.fin.bel HB.out))).mono ?_;rintro e w4⟨rfl,he⟩;have K4:=qb (K3.out.fin.lost he);clear he))
      exact⟨rfl,IOut.lost K4.out HA.out⟩
     | false =>
      have CSy:=fun L w h hO=>qb (IOut.yes hb2 (qa (CS L w h hO)))
      clear CS
      go_wp2_with (first
       | (go_at_call 74;refine(qa CQ1).mono ?_;rintro e w3⟨rfl,he⟩;have K3:=qb (HK.out.call he);clear he)
       | (go_at_call 121;refine(qa (CSy _ _ K3.out.at' (HO.out.stays K3.out.fin.bel HB.out))).mono ?_;rintro e w4⟨rfl,he⟩;have K4:=qb (K3.out.call he);clear he)
       | (at_builtin;refine aY9 rfl (.tmp 11) (.tmp 14) rfl (kb:=w4.heap.size) rfl K4.out rfl rfl HBL.out HKN.out ?_;intro v5 w5 hk5;have K5:=qb hk5;clear hk5))
      have hpl:=K5.out.at'.pos
      have h5:=HPO.out
      have h6:=HP.out
      have hm:∃ m',m=m'+1:=⟨m-1,by omega⟩
      obtain⟨m',rfl⟩:=hm
      go_roundw
      case rel=>exact⟨b.1,ks++[b.2],m',HX2,⟨by omega,by omega,by simp;omega⟩,K5⟩
      case measure =>
       rw[K5.out.at'.posCell,HK.out.at'.posCell]
       omega
    | false =>
     rw[hq,show s'.may l ⟨#[59]⟩=s' from by simp[Rd.may,hq]]at CQ1
     have HX2:Hid (M=(s',ks)):=by
      have:=HX.out
      rw[Rd.more,tx4.2.1,hq,if_neg (by simp)]at this
      exact this.symm
     have e1:M.1=s':=by rw[HX2.out]
     have e2:M.2=ks:=by rw[HX2.out]
     rw[e1]at C5
     have HR2:Hid (R=(s'.must l ⟨#[101,110,100]⟩).put (ndK 20 0 ks)):=by show _=_;rw[HR.out,e1,e2]
     have hg1:=HK.out.fin.at'.good.must1 l ⟨#[101,110,100]⟩
     obtain⟨c,hc⟩:∃ c,c=s'.must l ⟨#[101,110,100]⟩:=⟨_,rfl⟩
     rw[←hc]at C5 HR2 hg1
     have HKN:Hid (ks.length≤1048576):=by have h1:=HP.out;show _≤_;omega
     clear hq CQ e1 e2 HX2 hc C2y C1y
     cases hb2:c.bad with
     | true =>
      have C5n:=fun w h=>qb (IOut.no hb2 (qa (C5 w h)))
      have HA:=qb (show R.1.At c.pos from by rw[HR2.out];exact Rd.At.put ⟨hb2,rfl⟩ _)
      clear C5 CA
      go_wp2_with (first
       | (go_at_call 74;refine(qa CQ1).mono ?_;rintro e w3⟨rfl,he⟩;have K3:=qb (HK.out.call he);clear he)
       | (go_at_call 77;refine(qa (C5n _ K3.out.fin.at')).mono ?_;rintro e w4⟨rfl,he⟩;have K4:=qb (K3.out.fin.lost he);clear he))
      exact⟨rfl,IOut.lost K4.out HA.out⟩
     | false =>
      have C5y:=fun w h=>qb (IOut.yes hb2 (qa (C5 w h)))
      have hbp:(c.put (ndK 20 0 ks)).1.bad=false:=by rw[Rd.put_ok hb2];exact hb2
      have C6:=fun kv w h hK=>CA c kv ks w h hK HKN.out (hg1 hb2)
      clear C5 CA
      go_wp2_with (first
       | (go_at_call 74;refine(qa CQ1).mono ?_;rintro e w3⟨rfl,he⟩;have K3:=qb (HK.out.call he);clear he)
       | (go_at_call 77;refine(qa (C5y _ K3.out.fin.at')).mono ?_;rintro e w4⟨rfl,he⟩;have K4:=qb (K3.out.fin.then' he);have I4:=qb (aa6.owned (aj7 K3.out.own (fun c cs fr _ e=>he.keep.blk c cs 3 fr (by decide) (by decide) e▸e.symm)));clear he)
       | (go_at_call 122;refine(qa (C6 _ _ K4.out.at' I4.out)).mono ?_;rintro e w5⟨rfl,he⟩;have K5:=qb (K4.out.then' he);clear he))
      go_ret
      rw[HR2.out]
      exact .inl ⟨hbp,rfl,K5.out⟩
theorem Rd.put_nn (s:Rd) (x:Nd):0≤(s.put x).2:=by
 unfold Rd.put
 split
 ·exact Int.le_refl _
 ·exact Int.natCast_nonneg _
theorem deepB_nn {l:List Sg}:∀ n s,0≤((Rd.deepB l n).1 s).2
 | 0,_=>Int.le_refl _
 | _+1,_=>Rd.put_nn _ _
theorem aI5 {B g:Nat}{sz:Int}{l:List Sg}{lv:Value}(hw:ag8 l) (h500:l.length≤500) (hx:∀ x∈l,x.text.size≤1048576) (hB:3<B):∀ n L,IWay L B g sz l lv 101 (Rd.deepB l n).1 n∧IWay L B g sz l lv 121 (Rd.deepB l n).2 n
 | 0,L=>⟨⟨fun _ _ h=>absurd h (Nat.not_lt_zero _),(Rd.deepB_pos l 0).1,(Rd.Keeps.deepB l 0).1,(Rd.Stays.deepB 0).1⟩,⟨fun _ _ h=>absurd h (Nat.not_lt_zero _),(Rd.deepB_pos l 0).2,(Rd.Keeps.deepB l 0).2,(Rd.Stays.deepB 0).2⟩⟩
 | n+1,L=>by
  have ih:=fun L=>aI5 (B:=B) (g:=g) (sz:=sz) (lv:=lv) hw h500 hx hB n L
  have hs:∀ L,IWay L B g sz l lv 121 (Rd.deepB l (n+1)).2 (n+1):=fun L=>⟨fun s w hn h hO=>bj2 _ (fun L=>(ih L).1) hw (by omega) hx hB (deepB_nn n) s w hn h hO,(Rd.deepB_pos l (n+1)).2,(Rd.Keeps.deepB l (n+1)).2,(Rd.Stays.deepB (n+1)).2⟩
  exact⟨⟨fun s w hn h hO=>bc7 _ hs hw h500 hB s w hn h hO,(Rd.deepB_pos l (n+1)).1,(Rd.Keeps.deepB l (n+1)).1,(Rd.Stays.deepB (n+1)).1⟩,hs L⟩
theorem aK8 {L:Nat→Prop}{B g:Nat}{sz:Int}{l:List Sg}{lv:Value}(s:Rd) (w:World) (h:IAt L B g sz l lv s w) (hO:ak5 w) (hw:ag8 l) (h500:l.length≤500) (hx:∀ x∈l,x.text.size≤1048576) (hB:3<B) :
  Calls Tryz.prog 101 #[.pointer (some ⟨g,0,none⟩)] w (IOut L B g sz l lv (s.block l).1 (.int .i64 (s.block l).2) w) :=
 (aI5 hw h500 hx hB (l.length+1) L).1.run s w (by omega) h hO
theorem aa0.s:aa0 9:=⟨by decide,by decide,by decide,by decide⟩
theorem aa0.e:aa0 67:=⟨by decide,by decide,by decide,by decide⟩
theorem aa0.m:aa0 41:=⟨by decide,by decide,by decide,by decide⟩
theorem aa0.p:aa0 44:=⟨by decide,by decide,by decide,by decide⟩
theorem aa0.g:aa0 26:=⟨by decide,by decide,by decide,by decide⟩
theorem ab5 {z z':World}{base:Nat}{e:TypeId}{k n:Nat}{v:Value}{xs:List Value}(h:z.ownsRow base e k v n xs) (hk:ar7 z z') (he:aa0 e):z'.ownsRow base e k v n xs:=by
 obtain⟨h1,h2⟩:=h
 refine⟨h1,?_⟩
 rcases h2 with h2|⟨g',cap,cur,rfl,hb1,hg',r⟩
 ·exact .inl h2
 ·exact .inr ⟨g',cap,cur,rfl,hb1,hk.blk g' cur e _ he.1 he.2.1 hg',r⟩
theorem IEnd.grow {L:Nat→Prop}{B g:Nat}{sz:Int}{l:List Sg}{lv:Value}{s:Rd}{w0 z z':World}{e:TypeId}{k n:Nat}{v:Value}{xs:List Value}(h:IEnd L B g sz l lv s w0 z) (hL:∀ b,L b→b<w0.heap.size) (hB:B≤w0.heap.size) (he:aa0 e)
  (hv:z.ownsRow w0.heap.size e k v n xs) (hgr:z.grownBy z' v.ownBlock):IEnd L B g sz l lv s w0 z':=by
 have hs0:=h.keep.size
 refine h.change hL L h.at' ((Below.refl B z).grown hgr (by omega) (fun j hj=>by have:=(hv.lt j hj).1;omega)) (fun c hc=>?_) (fun b hb=>hb)
 by_cases hcv:v.ownBlock=some c
 ·rcases hv.2 with⟨rfl,_⟩|⟨g2,cap2,cur2,rfl,hg1,hg2,_⟩
  ·simp[Value.ownBlock]at hcv
  ·simp only[Value.ownBlock,Option.some.injEq]at hcv
   subst hcv
   exact .inr ⟨hg1,.inl ⟨cur2,e,_,hg2,he⟩⟩
 ·exact .inl (hgr.block c hc (fun e=>hcv e.symm))
theorem aZ_ {w:World}{ops:Array Oper}{rest:List Oper}{o:Oper}{a:Act}{Q:Exit→Act→World→Prop}(st e:TypeId) (k bytes:Nat) (zero:Value) (he:aa0 e) (hu:Tryz.prog.underlying st=some (.slice e)) (hinf:(Tryz.prog.info? e).map (fun i=>(i.zero,i.size,i.bytes))=some (some zero,k,bytes)) (hzs:zero.cells.size=k) (hk0:0<k) (hby:bytes≤1000) (hgd:o.guard=none) (sl x:Operand)
  (ho:o.op=.call { callee:=.builtin .append,args:=#[sl,x],argTypes:=#[st,st] })
  {L:Nat→Prop}{B g:Nat}{sz:Int}{l:List Sg}{lv:Value}{w0:World}{s:Rd}{v:Value}{n:Nat}{xs:List Value}{cs:Array Value}{kb:Nat}(hkb:kb=w.heap.size) (h:IEnd L B g sz l lv s w0 w) (hL:∀ b,L b→b<w0.heap.size) (hB:B≤w0.heap.size) (hv:w.ownsRow w0.heap.size e k v n xs) (hs:a.eval sl=v) (hx:a.eval x=.slice (some ⟨kb,0,none⟩) 1 1) (hn:n≤2000000) (hcs:cs.size=k) (h1:∀ u∈cs.toList,u.oneCell'=true)
  (hK:∀ v' w',IEnd L B g sz l lv s w0 w'→w'.ownsRow w0.heap.size e k v' (n+1) (xs++cs.toList)→(∀ c,c<w.heap.size→v.ownBlock≠some c→w'.heap[c]? = w.heap[c]?)→w.heap.size≤w'.heap.size→wpList Tryz.prog ops Q rest (a.put o.dst v') w'):wpList Tryz.prog ops Q (o :: rest) a (w.alloc (.cells cs e)):=by
 subst hkb
 obtain⟨i,hi,hz0,hz1,hz2⟩:=info_parts hinf
 have hs0:=h.keep.size
 refine wpList_append_own_at _ hgd sl x st ho w0.heap.size e i zero k bytes hu hi hz0 hz1 hz2 hzs hk0 v _ _ hs (hv.alloc _) ⟨w.heap.size,0,none⟩ 1 1 cs.toList hx (by simp[hcs]) (fun j u hj=>ag4 w cs e j u hj) h1 (by simp[maxLen];omega) ?_ (by simp;omega) ?_
 ·have:(n+1)*bytes≤2000001*1000:=Nat.mul_le_mul (by omega) hby
  omega
 intro v' w' hown hgr _ hob
 have hsz:w.heap.size≤w'.heap.size:=by have:=hgr.size;simp at this;omega
 exact hK v' w' ((h.new _).grow hL hB he (hv.alloc _) hgr) hown (fun c hc hne=>(hgr.block c (by simp;omega) (fun e=>hne e.symm)).trans (Below.heap_alloc w _ c hc)) hsz
def ag0 (L:Nat→Prop) (B g:Nat) (sz:Int) (l:List Sg) (lv:Value) (s':Rd) (V:Value→World→Prop) (w:World) (e:Ending) (w':World):Prop :=
 (s'.bad=false∧∃ v,e=.returned v∧IEnd L B g sz l lv s' w w'∧V v w')∨(s'.bad=true∧e=.panicked (aG5 (sgAt sz l s').place)∧aG6 B w w')
theorem ag0.yes {L:Nat→Prop}{B g:Nat}{sz:Int}{l:List Sg}{lv:Value}{s':Rd}{V:Value→World→Prop}{w:World}{f:FuncId}{args:Array Value}(hb:s'.bad=false) (h:Calls Tryz.prog f args w (ag0 L B g sz l lv s' V w)):Calls Tryz.prog f args w fun e w'=>∃ v,e=.returned v∧IEnd L B g sz l lv s' w w'∧V v w' :=
 h.mono fun e w' ho=>by
  rcases ho with ho|ho
  ·exact ho.2
  ·rw[hb]at ho;cases ho.1
theorem ag0.no {L:Nat→Prop}{B g:Nat}{sz:Int}{l:List Sg}{lv:Value}{s':Rd}{V:Value→World→Prop}{w:World}{f:FuncId}{args:Array Value}(hb:s'.bad=true) (h:Calls Tryz.prog f args w (ag0 L B g sz l lv s' V w)):Calls Tryz.prog f args w fun e w'=>e=.panicked (aG5 (sgAt sz l s').place)∧aG6 B w w' :=
 h.mono fun e w' ho=>by
  rcases ho with ho|ho
  ·rw[hb]at ho;cases ho.1
  ·exact ho.2
theorem ag0.lost {L:Nat→Prop}{B g:Nat}{sz:Int}{l:List Sg}{lv:Value}{s s':Rd}{V:Value→World→Prop}{w w':World}(K:aG6 B w w') (h:s'.At s.pos):ag0 L B g sz l lv s' V w (.panicked (aG5 (sgAt sz l s).place)) w' :=
 .inr ⟨h.1,by rw[ba7 (s:=s) (s':=s') h.2.symm],K⟩
def at2 (v u:Value):Prop:=∀ b,v.ownBlock=some b→u.ownBlock≠some b
theorem at2.none (u:Value) (n c:Nat):at2 (.slice none n c) u:=fun _ h=>by simp[Value.ownBlock]at h
theorem aN3 {z z':World}{base n n2 e k e2 k2:Nat}{v v2:Value}{xs xs2:List Value}(h:z.ownsRow base e k v n xs) (h2:z'.ownsRow z.heap.size e2 k2 v2 n2 xs2):at2 v v2:=fun b hb hb2=>by
 have h3:=(h.lt b hb).2
 have h4:=(h2.lt b hb2).1
 omega
def Ap12 (cs:Array Value):Prop:=at2 (cs.getD 1 undef) (cs.getD 2 undef)
def StrsV (base:Nat) (xs:List ByteArray) (v:Value) (z:World):Prop:=∃ ao c,v=.slice ao xs.length c∧z.ownsRow base 9 1 (.slice ao xs.length c) xs.length (xs.map Value.string)
def IComma (L:Nat→Prop) (B g:Nat) (sz:Int) (l:List Sg) (lv:Value) (R:Rd×List ByteArray) (w:World) (kv:Value) (wr:World):Prop :=
 ∃ (s:Rd) (ns:List ByteArray) (m:Nat),Hid (Rd.comma l (m+1) s ns=R)∧Hid (l.length-s.pos<m+1∧ns.length≤s.pos+1)∧Hid (IEnd L B g sz l lv s w wr)∧Hid (wr.ownsRow w.heap.size 9 1 kv ns.length (ns.map Value.string))
theorem av2 {L:Nat→Prop}{B g:Nat}{sz:Int}{l:List Sg}{lv:Value}(s:Rd) (w:World) (h:IAt L B g sz l lv s w) (hw:ag8 l) (h500:l.length≤500) (hx:∀ x∈l,x.text.size≤1048576) :
  Calls Tryz.prog 100 #[.pointer (some ⟨g,0,none⟩)] w (ag0 L B g sz l lv (s.names l).1 (StrsV w.heap.size (s.names l).2) w):=by
 have hl:l.length≤1048576:=by omega
 have CN:=fun (s:Rd) w h=>qb (ah7 (L:=L) (B:=B) (g:=g) (sz:=sz) (l:=l) (lv:=lv) (s:=s) w h hw hl hx)
 have CQ:=fun (s:Rd) w h=>qb (ah1 (L:=L) (B:=B) (g:=g) (sz:=sz) (l:=l) (lv:=lv) (s:=s) ⟨#[44]⟩ w h hw hl (by decide +kernel))
 have C1:=CN s w h
 obtain⟨R,hR⟩:∃ R,R=s.names l:=⟨_,rfl⟩
 rw[←hR]
 unfold Rd.names at hR
 have hp1:=Rd.name_pos l s
 obtain⟨a,ha⟩:∃ a,a=s.name l:=⟨_,rfl⟩
 rw[←ha]at C1 hR hp1
 have HR:=qb hR.symm
 have HN:Hid (l.length-a.1.pos<l.length+1∧1≤a.1.pos+1):=⟨by omega,by omega⟩
 have HBL:=qb h.heap
 have LO:=qb h.loose
 clear ha hR hp1 h hl
 cases hb:a.1.bad with
 | true =>
  have C2:=qb (IOut.no hb (qa C1))
  have HA:=qb (show R.1.At a.1.pos from by rw[←HR.out];exact Rd.At.comma ⟨hb,rfl⟩ _ _)
  clear C1 CN CQ
  go_enter Tryz.func100,Tryz.ntmps100
  go_wp2_with (go_at_call 97;refine(qa C2).mono ?_;rintro e w1⟨rfl,he⟩;have K1:=qb he;clear he)
  exact⟨rfl,ag0.lost K1.out HA.out⟩
 | false =>
  have C2:=qb (IOut.yes hb (qa C1))
  clear C1
  go_enter Tryz.func100,Tryz.ntmps100
  go_wp2_with (go_at_call 97;refine(qa C2).mono ?_;rintro e w1⟨rfl,he⟩;have K1:=qb he;clear he)
  go_loopw [3] (fun kv wr=>IComma L B g sz l lv R w kv wr) (fun _ wr=>l.length-(intOf ((wr.cell? ⟨g,1,none⟩).getD undef)).toNat)
  case atStart=>exact⟨a.1,[a.2],l.length,HR,HN,K1.out.new _,aS6 K1.out.keep.size a.2⟩
  case round =>
   obtain⟨s',ns,m,HX,HP,HK,HO⟩:=hrel
   obtain⟨ao,cp,hkv⟩:=ab_ HO.out
   subst hkv
   have CQ1:=CQ s' _ HK.out.at'
   cases hq:s'.isQ l ⟨#[44]⟩ with
   | true =>
    have hlt:=Rd.isQ_lt hq
    rw[hq,show s'.may l ⟨#[44]⟩=s'.on from by simp[Rd.may,hq]]at CQ1
    have hpo:s'.on.pos=s'.pos+1:=rfl
    have CS:=CN s'.on
    have hpb:=Rd.name_pos l s'.on
    obtain⟨b,hbb⟩:∃ b,b=s'.on.name l:=⟨_,rfl⟩
    rw[←hbb]at CS hpb
    have HX2:Hid (Rd.comma l m b.1 (ns++[b.2])=R):=by
     have:=HX.out
     rw[Rd.comma,tx5.1,hq,if_pos rfl,←hbb]at this
     exact this
    have HPO:=qb (show s'.pos+1≤b.1.pos by omega)
    have HKN:Hid (ns.length≤2000000):=by have:=HP.out;show _≤_;omega
    clear hbb hpb hpo hq CQ CN C2
    cases hb2:b.1.bad with
    | true =>
     have CSn:=fun w h=>qb (IOut.no hb2 (qa (CS w h)))
     have HA:=qb (show R.1.At b.1.pos from by rw[←HX2.out];exact Rd.At.comma ⟨hb2,rfl⟩ _ _)
     clear CS
     go_wp2_with (first
      | (go_at_call 74;refine(qa CQ1).mono ?_;rintro e w3⟨rfl,he⟩;have K3:=qb (HK.out.then' he);clear he)
      | (go_at_call 97;refine(qa (CSn _ K3.out.at')).mono ?_;rintro e w4⟨rfl,he⟩;have K4:=qb (K3.out.lost he);clear he))
     exact⟨rfl,ag0.lost K4.out HA.out⟩
    | false =>
     have CSy:=fun w h=>qb (IOut.yes hb2 (qa (CS w h)))
     clear CS
     go_wp2_with (first
      | (go_at_call 74;refine(qa CQ1).mono ?_;rintro e w3⟨rfl,he⟩;have K3:=qb (HK.out.then' he);have O3:=qb (ab5 HO.out he.keep aa0.s);clear he)
      | (go_at_call 97;refine(qa (CSy _ K3.out.at')).mono ?_;rintro e w4⟨rfl,he⟩;have K4:=qb (K3.out.then' he);have O4:=qb (ab5 O3.out he.keep aa0.s);clear he)
      | (at_builtin;refine aZ_ 38 9 1 16 (.string ⟨#[]⟩) aa0.s Tryz.underlying38 Tryz.infoS rfl (by decide) (by decide) rfl (.tmp 9) (.tmp 12) rfl (kb:=w4.heap.size) rfl K4.out LO.out HBL.out O4.out rfl rfl HKN.out rfl (by simp[Value.oneCell']) ?_;intro v5 w5 hk5 ho5 _ _;have K5:=qb hk5;have O5:Hid (w5.ownsRow w.heap.size 9 1 v5 (ns++[b.2]).length ((ns++[b.2]).map Value.string)):=by { simpa [Hid] using ho5 };clear hk5 ho5))
     have hpl:=K5.out.at'.pos
     have h5:=HPO.out
     have h6:=HP.out
     have hm:∃ m',m=m'+1:=⟨m-1,by omega⟩
     obtain⟨m',rfl⟩:=hm
     go_roundw
     case rel=>exact⟨b.1,ns++[b.2],m',HX2,⟨by omega,by simp;omega⟩,K5,O5⟩
     case measure =>
      rw[K5.out.at'.posCell,HK.out.at'.posCell]
      omega
   | false =>
    rw[hq,show s'.may l ⟨#[44]⟩=s' from by simp[Rd.may,hq]]at CQ1
    have HX2:Hid (R=(s',ns)):=by
     have:=HX.out
     rw[Rd.comma,tx5.1,hq,if_neg (by simp)]at this
     exact this.symm
    clear CQ CN hq C2
    go_wp2_with (go_at_call 74;refine(qa CQ1).mono ?_;rintro e w3⟨rfl,he⟩;have K3:=qb (HK.out.then' he);have O3:=qb (ab5 HO.out he.keep aa0.s);clear he)
    go_ret
    rw[HX2.out]
    exact .inl ⟨K3.out.at'.fine,_,rfl,K3.out,ao,cp,rfl,O3.out⟩
theorem as7 {L:Nat→Prop}{B g:Nat}{sz:Int}{l:List Sg}{lv:Value}(t:ByteArray) (ht:ae9 t=true) (s:Rd) (w:World) (h:IAt L B g sz l lv s w) (hw:ag8 l) (h500:l.length≤500) (hx:∀ x∈l,x.text.size≤1048576) :
  Calls Tryz.prog 98 #[.pointer (some ⟨g,0,none⟩),.string t] w (ag0 L B g sz l lv (s.listed l t).1 (StrsV w.heap.size (s.listed l t).2) w):=by
 have hl:l.length≤1048576:=by omega
 have C1:=qb (ah1 (L:=L) (B:=B) (g:=g) (sz:=sz) (l:=l) (lv:=lv) (s:=s) t w h hw hl ht)
 have CS:=fun s w h=>qb (av2 (L:=L) (B:=B) (g:=g) (sz:=sz) (l:=l) (lv:=lv) s w h hw h500 hx)
 have CM:=fun (s:Rd) w h=>qb (ag5 (L:=L) (B:=B) (g:=g) (sz:=sz) (l:=l) (lv:=lv) (s:=s) ⟨#[59]⟩ w h hw hl (by decide +kernel))
 have hfb:=h.fine
 clear h ht hl
 cases hq:s.isQ l t with
 | false =>
  rw[hq,show s.may l t=s from by simp[Rd.may,hq]]at C1
  rw[show s.listed l t=(s,[]) from by simp[Rd.listed,hq]]
  clear hq CS CM
  go_enter Tryz.func98,Tryz.ntmps98
  go_wp2_with (go_at_call 74;refine(qa C1).mono ?_;rintro e w1⟨rfl,he⟩;have K1:=qb he;clear he)
  go_ret
  exact .inl ⟨hfb,_,rfl,K1.out,none,0,rfl,World.ownsRow_nil _ _ _ _⟩
 | true =>
  rw[hq,show s.may l t=s.on from by simp[Rd.may,hq]]at C1
  rw[show s.listed l t=((s.on.names l).1.must l (tx ";"),(s.on.names l).2) from by simp[Rd.listed,hq],tx5.2]
  have C2:=CS s.on
  obtain⟨a,ha⟩:∃ a,a=s.on.names l:=⟨_,rfl⟩
  rw[←ha]at C2 ⊢
  have C3:=CM a.1
  obtain⟨m,hm⟩:∃ m,m=a.1.must l ⟨#[59]⟩:=⟨_,rfl⟩
  have hm2:∀ p,a.1.At p→m.At p:=fun p h=>by rw[hm];exact Rd.At.must l h _
  rw[←hm]at C3 ⊢
  clear ha hm hq CS CM
  dsimp only
  go_enter Tryz.func98,Tryz.ntmps98
  go_wp2_with fail
  refine(qa C1).mono ?_;rintro e w1⟨rfl,he⟩;have K1:=qb he;clear he
  go_wp2_with fail
  cases hb:a.1.bad
  rotate_left
  ·have C2n:=fun w h=>qb (ag0.no hb (qa (C2 w h)))
   have HA:=qb (hm2 _ ⟨hb,rfl⟩)
   refine(qa (C2n _ K1.out.at')).mono ?_;rintro e w2⟨rfl,he⟩;have K2:=qb (K1.out.lost he);clear he
   exact⟨rfl,ag0.lost K2.out HA.out⟩
  have C2y:=fun w h=>qb (ag0.yes hb (qa (C2 w h)))
  clear C2
  refine(qa (C2y _ K1.out.at')).mono ?_;rintro e w2⟨v,rfl,he,ao,c,e2,ho⟩;subst e2;have K2:=qb (K1.out.then' he);have O2:=qb (ad1 ho K1.out.keep.size);clear he ho
  go_wp2_with fail
  cases hb2:m.bad
  rotate_left
  ·have C3n:=fun w h=>qb (IOut.no hb2 (qa (C3 w h)))
   refine(qa (C3n _ K2.out.at')).mono ?_;rintro e w3⟨rfl,he⟩;have K3:=qb (K2.out.lost he);clear he
   exact⟨rfl,.inr ⟨hb2,rfl,K3.out⟩⟩
  have C3y:=fun w h=>qb (IOut.yes hb2 (qa (C3 w h)))
  clear C3
  refine(qa (C3y _ K2.out.at')).mono ?_;rintro e w3⟨rfl,he⟩;have K3:=qb (K2.out.then' he);have O3:=qb (ab5 O2.out he.keep aa0.s);clear he
  go_wp2_with fail
  go_ret
  exact .inl ⟨hb2,_,rfl,K3.out,ao,c,rfl,O3.out⟩
end Go.Proofs.YtcpapceeekkacaaGreatDoor
