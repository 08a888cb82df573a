import Derived.Test.YtcpapceeekkacaaGreatDoorImpA
import Derived.Test.YtcpapceeekkacaaGreatDoorIrdA
set_option maxRecDepth 100000
set_option maxHeartbeats 8000000
namespace Go.Proofs.YtcpapceeekkacaaGreatDoor
open Go.RowKit
structure IWay (L:Nat→Prop) (B g:Nat) (sz:Int) (l:List Sg) (lv:Value) (f:FuncId) (F:Rd→Rd×Int) (n:Nat):Prop where
 run:∀ (s:Rd) (w:World),l.length-s.pos<n→IAt L B g sz l lv s w→ak5 w→Calls Tryz.prog f #[.pointer (some ⟨g,0,none⟩)] w (IOut L B g sz l lv (F s).1 (.int .i64 (F s).2) w)
 pos:∀ s,s.pos≤(F s).1.pos
 keeps:Rd.Keeps F
 stays:Rd.Stays F
theorem IOut.lost {L:Nat→Prop}{B g:Nat}{sz:Int}{l:List Sg}{lv:Value}{s s':Rd}{v:Value}{w w':World}(K:aG6 B w w') (h:s'.At s.pos):IOut L B g sz l lv s' v w (.panicked (aG5 (sgAt sz l s).place)) w' :=
 .inr ⟨h.1,by rw[ba7 (s:=s) (s':=s') h.2.symm],K⟩
theorem IAt.posCell {L:Nat→Prop}{B g:Nat}{sz:Int}{l:List Sg}{lv:Value}{s:Rd}{w:World}(h:IAt L B g sz l lv s w):(intOf ((w.cell? ⟨g,1,none⟩).getD undef)).toNat=s.pos:=by
 obtain⟨nv,_,c1,_⟩:=h.cells
 rw[c1]
 simp[intOf]
theorem aF0 {l:List Sg}:∀ (ops:List ByteArray) (k:Int) {s:Rd},s.bad=false→(Rd.op l ops k s).1.bad=false
 | [],_,_,h=>h
 | t :: ts,k,s,h=>by
  unfold Rd.op
  split
  ·exact h
  ·exact aF0 ts (k+1) h
def IMany (L:Nat→Prop) (B g:Nat) (sz:Int) (l:List Sg) (lv:Value) (ops:List ByteArray) (k0:Int) (sub:Rd→Rd×Int) (n:Nat) (R:Rd×Int) (w:World) (kv:Value) (wr:World):Prop :=
 ∃ (s:Rd) (k:Int) (m:Nat),kv=.int .i64 k∧Hid (Rd.many l ops k0 sub (m+1) s k=R)∧Hid (l.length-s.pos<m+1∧l.length-s.pos<n)∧Hid (IEnd L B g sz l lv s w wr)
theorem iRowTerm {L:Nat→Prop}{B g:Nat}{sz:Int}{l:List Sg}{lv:Value}{sub:Rd→Rd×Int}{n:Nat}(hs:IWay L B g sz l lv 144 sub n) (first last:Nat) (h1:1≤first) (h2:first≤last) (h3:last≤9) (s:Rd) (w:World) (hn:l.length-s.pos<n) (h:IAt L B g sz l lv s w) (hw:ag8 l) (hl:l.length≤1048576) (hO:ak5 w) (hB:3<B) :
  Calls Tryz.prog 138 #[.pointer (some ⟨g,0,none⟩),.func (.func 144) #[] #[],.int .i64 (first:Int),.int .i64 (last:Int)] w (IOut L B g sz l lv (Rd.many l ((opTx.take (last+1)).drop first) (first:Int) sub (l.length+1) (sub s).1 (sub s).2).1 (.int .i64 (Rd.many l ((opTx.take (last+1)).drop first) (first:Int) sub (l.length+1) (sub s).1 (sub s).2).2) w):=by
 obtain⟨ops,hops⟩:∃ ops,ops=(opTx.take (last+1)).drop first:=⟨_,rfl⟩
 have CO:=fun s w h hO=>qb (aK9 (L:=L) (B:=B) (g:=g) (sz:=sz) (l:=l) (lv:=lv) (s:=s) first last h1 h2 h3 w h hw hl hO hB)
 have CA:=fun s nu a b w h hg=>qb (ay2 (L:=L) (B:=B) (g:=g) (sz:=sz) (l:=l) (lv:=lv) (s:=s) nu a b w h hg hl)
 rw[←hops]at CO ⊢
 have C1:=qb (hs.run s w hn h hO)
 have HO:=qb hO
 have HS:=qb hs
 have hpa:=hs.pos s
 obtain⟨R,hR⟩:∃ R,R=Rd.many l ops (first:Int) sub (l.length+1) (sub s).1 (sub s).2:=⟨_,rfl⟩
 rw[←hR]
 obtain⟨a,ha⟩:∃ a,a=sub s:=⟨_,rfl⟩
 rw[←ha]at C1 hR hpa
 have HR:=qb hR.symm
 have HB:=qb hB
 have HN:Hid (l.length-a.1.pos<l.length+1∧l.length-a.1.pos<n):=⟨by omega,by omega⟩
 clear ha hR hops h hO hs hn hpa
 cases hb:a.1.bad with
 | true =>
  have C2:=qb (IOut.no hb (qa C1))
  have HF:=qb (show R.1.At a.1.pos from by rw[←HR.out];exact Rd.At.many l ⟨hb,rfl⟩ _ _)
  clear C1 CO
  go_enter Tryz.func138,Tryz.ntmps138
  go_wp2_with (go_at_call 144;refine(qa C2).mono ?_;rintro e w1⟨rfl,he⟩;have K1:=qb he;clear he)
  exact⟨rfl,IOut.lost K1.out HF.out⟩
 | false =>
  have C2:=qb (IOut.yes hb (qa C1))
  clear C1
  go_enter Tryz.func138,Tryz.ntmps138
  go_wp2_with (go_at_call 144;refine(qa C2).mono ?_;rintro e w1⟨rfl,he⟩;have K1:=qb he;clear he)
  go_loopw [9] (fun kv wr=>IMany L B g sz l lv ops (first:Int) sub n R w kv wr) (fun _ wr=>l.length-(intOf ((wr.cell? ⟨g,1,none⟩).getD undef)).toNat)
  case atStart=>exact⟨a.1,a.2,l.length,rfl,HR,HN,K1⟩
  case round =>
   obtain⟨s',k,m,rfl,HM,HP,HE⟩:=hrel
   have hfb:=HE.out.at'.fine
   have C3:=CO s' _ HE.out.at' (HO.out.stays HE.out.bel HB.out)
   obtain⟨o,ho⟩:∃ o,o=Rd.op l ops (first:Int) s':=⟨_,rfl⟩
   rw[←ho]at C3
   by_cases h0:o.2=0
   ·have HX:Hid (R=(o.1,k)):=by show _=_;rw[←HM.out,Rd.many,hfb,←ho,if_neg (by simp),if_pos h0]
    have hbo:o.1.bad=false:=by rw[ho];exact aF0 ops _ hfb
    rw[h0]at C3
    clear ho CO CA
    go_wp2_with (go_at_call 141;refine(qa C3).mono ?_;rintro e w2⟨rfl,he⟩;have H2:=qb (HE.out.then' he);clear he)
    go_ret
    rw[HX.out]
    exact .inl ⟨hbo,rfl,H2.out⟩
   ·have hpo:s'.pos+1≤o.1.pos:=by rw[ho];exact Rd.op_more _ _ _ (by rw[←ho];exact h0)
    have hd:decide (o.2≠0)=true:=by simp[h0]
    obtain⟨b,hbb⟩:∃ b,b=sub o.1:=⟨_,rfl⟩
    have hpb:o.1.pos≤b.1.pos:=by rw[hbb];exact HS.out.pos _
    have HG:Hid (b.1.Good 1):=by rw[hbb];exact HS.out.keeps 1 _ (by rw[ho];exact Rd.Good.op1 l ops _ _ HE.out.at'.good (by rw[←ho];exact h0))
    have HX:Hid (Rd.many l ops (first:Int) sub m (b.1.put (ndK 3 o.2 [k,b.2])).1 (b.1.put (ndK 3 o.2 [k,b.2])).2=R):=by
     show _=_
     have:=HM.out
     rw[Rd.many,hfb,←ho,if_neg (by simp),if_neg h0]at this
     dsimp only at this
     rw[←hbb]at this
     exact this
    have C4:=fun w' h hO=>qb (HS.out.run o.1 w' (by have:=HP.out.2;omega) h hO)
    rw[←hbb]at C4
    rw[hd]at C3
    have HPO:=qb (show s'.pos+1≤b.1.pos by omega)
    clear ho hbb hpo hpb CO hd
    cases hbd:b.1.bad with
    | true =>
     have C5:=fun w' h hO=>qb (IOut.no hbd (qa (C4 w' h hO)))
     have HF:=qb (show R.1.At b.1.pos from by rw[←HX.out];exact Rd.At.many l (Rd.At.put ⟨hbd,rfl⟩ _) _ _)
     clear C4 CA
     go_wp2_with (first
      | (go_at_call 141;refine(qa C3).mono ?_;rintro e w2⟨rfl,he⟩;have H2:=qb (HE.out.then' he);clear he)
      | (go_at_call 144;refine(qa (C5 _ H2.out.at' (HO.out.stays H2.out.bel HB.out))).mono ?_;rintro e w3⟨rfl,he⟩;have H3:=qb (H2.out.lost he);clear he))
     exact⟨rfl,IOut.lost H3.out HF.out⟩
    | false =>
     have C5:=fun w' h hO=>qb (IOut.yes hbd (qa (C4 w' h hO)))
     have C6:=fun w' h=>CA b.1 o.2 k b.2 w' h HG.out
     clear C4 CA
     go_wp2_with (first
      | (go_at_call 141;refine(qa C3).mono ?_;rintro e w2⟨rfl,he⟩;have H2:=qb (HE.out.then' he);clear he)
      | (go_at_call 144;refine(qa (C5 _ H2.out.at' (HO.out.stays H2.out.bel HB.out))).mono ?_;rintro e w3⟨rfl,he⟩;have H3:=qb (H2.out.then' he);clear he)
      | (go_at_call 122;refine(qa (C6 _ H3.out.at')).mono ?_;rintro e w4⟨rfl,he⟩;have H4:=qb (H3.out.then' he);clear he))
     have hpp:(b.1.put (ndK 3 o.2 [k,b.2])).1.pos=b.1.pos:=Rd.put_pos _ _
     have hpl:=H4.out.at'.pos
     have h5:=HPO.out
     have h6:=HP.out
     have hpp2:(b.1.put ⟨3,o.2,ByteArray.empty,ByteArray.empty,ByteArray.empty,[k,b.2]⟩).1.pos=b.1.pos:=hpp
     have hm:∃ m',m=m'+1:=⟨m-1,by omega⟩
     obtain⟨m',rfl⟩:=hm
     go_roundw
     case rel=>exact⟨_,_,m',rfl,HX,⟨by omega,by omega⟩,H4⟩
     case measure =>
      rw[H4.out.at'.posCell,HE.out.at'.posCell]
      omega
theorem iRowSum {L:Nat→Prop}{B g:Nat}{sz:Int}{l:List Sg}{lv:Value}{sub:Rd→Rd×Int}{n:Nat}(hs:IWay L B g sz l lv 143 sub n) (first last:Nat) (h1:1≤first) (h2:first≤last) (h3:last≤9) (s:Rd) (w:World) (hn:l.length-s.pos<n) (h:IAt L B g sz l lv s w) (hw:ag8 l) (hl:l.length≤1048576) (hO:ak5 w) (hB:3<B) :
  Calls Tryz.prog 138 #[.pointer (some ⟨g,0,none⟩),.func (.func 143) #[] #[],.int .i64 (first:Int),.int .i64 (last:Int)] w (IOut L B g sz l lv (Rd.many l ((opTx.take (last+1)).drop first) (first:Int) sub (l.length+1) (sub s).1 (sub s).2).1 (.int .i64 (Rd.many l ((opTx.take (last+1)).drop first) (first:Int) sub (l.length+1) (sub s).1 (sub s).2).2) w):=by
 obtain⟨ops,hops⟩:∃ ops,ops=(opTx.take (last+1)).drop first:=⟨_,rfl⟩
 have CO:=fun s w h hO=>qb (aK9 (L:=L) (B:=B) (g:=g) (sz:=sz) (l:=l) (lv:=lv) (s:=s) first last h1 h2 h3 w h hw hl hO hB)
 have CA:=fun s nu a b w h hg=>qb (ay2 (L:=L) (B:=B) (g:=g) (sz:=sz) (l:=l) (lv:=lv) (s:=s) nu a b w h hg hl)
 rw[←hops]at CO ⊢
 have C1:=qb (hs.run s w hn h hO)
 have HO:=qb hO
 have HS:=qb hs
 have hpa:=hs.pos s
 obtain⟨R,hR⟩:∃ R,R=Rd.many l ops (first:Int) sub (l.length+1) (sub s).1 (sub s).2:=⟨_,rfl⟩
 rw[←hR]
 obtain⟨a,ha⟩:∃ a,a=sub s:=⟨_,rfl⟩
 rw[←ha]at C1 hR hpa
 have HR:=qb hR.symm
 have HB:=qb hB
 have HN:Hid (l.length-a.1.pos<l.length+1∧l.length-a.1.pos<n):=⟨by omega,by omega⟩
 clear ha hR hops h hO hs hn hpa
 cases hb:a.1.bad with
 | true =>
  have C2:=qb (IOut.no hb (qa C1))
  have HF:=qb (show R.1.At a.1.pos from by rw[←HR.out];exact Rd.At.many l ⟨hb,rfl⟩ _ _)
  clear C1 CO
  go_enter Tryz.func138,Tryz.ntmps138
  go_wp2_with (go_at_call 143;refine(qa C2).mono ?_;rintro e w1⟨rfl,he⟩;have K1:=qb he;clear he)
  exact⟨rfl,IOut.lost K1.out HF.out⟩
 | false =>
  have C2:=qb (IOut.yes hb (qa C1))
  clear C1
  go_enter Tryz.func138,Tryz.ntmps138
  go_wp2_with (go_at_call 143;refine(qa C2).mono ?_;rintro e w1⟨rfl,he⟩;have K1:=qb he;clear he)
  go_loopw [9] (fun kv wr=>IMany L B g sz l lv ops (first:Int) sub n R w kv wr) (fun _ wr=>l.length-(intOf ((wr.cell? ⟨g,1,none⟩).getD undef)).toNat)
  case atStart=>exact⟨a.1,a.2,l.length,rfl,HR,HN,K1⟩
  case round =>
   obtain⟨s',k,m,rfl,HM,HP,HE⟩:=hrel
   have hfb:=HE.out.at'.fine
   have C3:=CO s' _ HE.out.at' (HO.out.stays HE.out.bel HB.out)
   obtain⟨o,ho⟩:∃ o,o=Rd.op l ops (first:Int) s':=⟨_,rfl⟩
   rw[←ho]at C3
   by_cases h0:o.2=0
   ·have HX:Hid (R=(o.1,k)):=by show _=_;rw[←HM.out,Rd.many,hfb,←ho,if_neg (by simp),if_pos h0]
    have hbo:o.1.bad=false:=by rw[ho];exact aF0 ops _ hfb
    rw[h0]at C3
    clear ho CO CA
    go_wp2_with (go_at_call 141;refine(qa C3).mono ?_;rintro e w2⟨rfl,he⟩;have H2:=qb (HE.out.then' he);clear he)
    go_ret
    rw[HX.out]
    exact .inl ⟨hbo,rfl,H2.out⟩
   ·have hpo:s'.pos+1≤o.1.pos:=by rw[ho];exact Rd.op_more _ _ _ (by rw[←ho];exact h0)
    have hd:decide (o.2≠0)=true:=by simp[h0]
    obtain⟨b,hbb⟩:∃ b,b=sub o.1:=⟨_,rfl⟩
    have hpb:o.1.pos≤b.1.pos:=by rw[hbb];exact HS.out.pos _
    have HG:Hid (b.1.Good 1):=by rw[hbb];exact HS.out.keeps 1 _ (by rw[ho];exact Rd.Good.op1 l ops _ _ HE.out.at'.good (by rw[←ho];exact h0))
    have HX:Hid (Rd.many l ops (first:Int) sub m (b.1.put (ndK 3 o.2 [k,b.2])).1 (b.1.put (ndK 3 o.2 [k,b.2])).2=R):=by
     show _=_
     have:=HM.out
     rw[Rd.many,hfb,←ho,if_neg (by simp),if_neg h0]at this
     dsimp only at this
     rw[←hbb]at this
     exact this
    have C4:=fun w' h hO=>qb (HS.out.run o.1 w' (by have:=HP.out.2;omega) h hO)
    rw[←hbb]at C4
    rw[hd]at C3
    have HPO:=qb (show s'.pos+1≤b.1.pos by omega)
    clear ho hbb hpo hpb CO hd
    cases hbd:b.1.bad with
    | true =>
     have C5:=fun w' h hO=>qb (IOut.no hbd (qa (C4 w' h hO)))
     have HF:=qb (show R.1.At b.1.pos from by rw[←HX.out];exact Rd.At.many l (Rd.At.put ⟨hbd,rfl⟩ _) _ _)
     clear C4 CA
     go_wp2_with (first
      | (go_at_call 141;refine(qa C3).mono ?_;rintro e w2⟨rfl,he⟩;have H2:=qb (HE.out.then' he);clear he)
      | (go_at_call 143;refine(qa (C5 _ H2.out.at' (HO.out.stays H2.out.bel HB.out))).mono ?_;rintro e w3⟨rfl,he⟩;have H3:=qb (H2.out.lost he);clear he))
     exact⟨rfl,IOut.lost H3.out HF.out⟩
    | false =>
     have C5:=fun w' h hO=>qb (IOut.yes hbd (qa (C4 w' h hO)))
     have C6:=fun w' h=>CA b.1 o.2 k b.2 w' h HG.out
     clear C4 CA
     go_wp2_with (first
      | (go_at_call 141;refine(qa C3).mono ?_;rintro e w2⟨rfl,he⟩;have H2:=qb (HE.out.then' he);clear he)
      | (go_at_call 143;refine(qa (C5 _ H2.out.at' (HO.out.stays H2.out.bel HB.out))).mono ?_;rintro e w3⟨rfl,he⟩;have H3:=qb (H2.out.then' he);clear he)
      | (go_at_call 122;refine(qa (C6 _ H3.out.at')).mono ?_;rintro e w4⟨rfl,he⟩;have H4:=qb (H3.out.then' he);clear he))
     have hpp:(b.1.put (ndK 3 o.2 [k,b.2])).1.pos=b.1.pos:=Rd.put_pos _ _
     have hpl:=H4.out.at'.pos
     have h5:=HPO.out
     have h6:=HP.out
     have hpp2:(b.1.put ⟨3,o.2,ByteArray.empty,ByteArray.empty,ByteArray.empty,[k,b.2]⟩).1.pos=b.1.pos:=hpp
     have hm:∃ m',m=m'+1:=⟨m-1,by omega⟩
     obtain⟨m',rfl⟩:=hm
     go_roundw
     case rel=>exact⟨_,_,m',rfl,HX,⟨by omega,by omega⟩,H4⟩
     case measure =>
      rw[H4.out.at'.posCell,HE.out.at'.posCell]
      omega
theorem bi9 {L:Nat→Prop}{B g:Nat}{sz:Int}{l:List Sg}{lv:Value}{sub:Rd→Rd×Int}{n:Nat}(hs:IWay L B g sz l lv 139 sub n) (first last:Nat) (h1:1≤first) (h2:first≤last) (h3:last≤9) (s:Rd) (w:World) (hn:l.length-s.pos<n) (h:IAt L B g sz l lv s w) (hw:ag8 l) (hl:l.length≤1048576) (hO:ak5 w) (hB:3<B) :
  Calls Tryz.prog 138 #[.pointer (some ⟨g,0,none⟩),.func (.func 139) #[] #[],.int .i64 (first:Int),.int .i64 (last:Int)] w (IOut L B g sz l lv (Rd.many l ((opTx.take (last+1)).drop first) (first:Int) sub (l.length+1) (sub s).1 (sub s).2).1 (.int .i64 (Rd.many l ((opTx.take (last+1)).drop first) (first:Int) sub (l.length+1) (sub s).1 (sub s).2).2) w):=by
 obtain⟨ops,hops⟩:∃ ops,ops=(opTx.take (last+1)).drop first:=⟨_,rfl⟩
 have CO:=fun s w h hO=>qb (aK9 (L:=L) (B:=B) (g:=g) (sz:=sz) (l:=l) (lv:=lv) (s:=s) first last h1 h2 h3 w h hw hl hO hB)
 have CA:=fun s nu a b w h hg=>qb (ay2 (L:=L) (B:=B) (g:=g) (sz:=sz) (l:=l) (lv:=lv) (s:=s) nu a b w h hg hl)
 rw[←hops]at CO ⊢
 have C1:=qb (hs.run s w hn h hO)
 have HO:=qb hO
 have HS:=qb hs
 have hpa:=hs.pos s
 obtain⟨R,hR⟩:∃ R,R=Rd.many l ops (first:Int) sub (l.length+1) (sub s).1 (sub s).2:=⟨_,rfl⟩
 rw[←hR]
 obtain⟨a,ha⟩:∃ a,a=sub s:=⟨_,rfl⟩
 rw[←ha]at C1 hR hpa
 have HR:=qb hR.symm
 have HB:=qb hB
 have HN:Hid (l.length-a.1.pos<l.length+1∧l.length-a.1.pos<n):=⟨by omega,by omega⟩
 clear ha hR hops h hO hs hn hpa
 cases hb:a.1.bad with
 | true =>
  have C2:=qb (IOut.no hb (qa C1))
  have HF:=qb (show R.1.At a.1.pos from by rw[←HR.out];exact Rd.At.many l ⟨hb,rfl⟩ _ _)
  clear C1 CO
  go_enter Tryz.func138,Tryz.ntmps138
  go_wp2_with (go_at_call 139;refine(qa C2).mono ?_;rintro e w1⟨rfl,he⟩;have K1:=qb he;clear he)
  exact⟨rfl,IOut.lost K1.out HF.out⟩
 | false =>
  have C2:=qb (IOut.yes hb (qa C1))
  clear C1
  go_enter Tryz.func138,Tryz.ntmps138
  go_wp2_with (go_at_call 139;refine(qa C2).mono ?_;rintro e w1⟨rfl,he⟩;have K1:=qb he;clear he)
  go_loopw [9] (fun kv wr=>IMany L B g sz l lv ops (first:Int) sub n R w kv wr) (fun _ wr=>l.length-(intOf ((wr.cell? ⟨g,1,none⟩).getD undef)).toNat)
  case atStart=>exact⟨a.1,a.2,l.length,rfl,HR,HN,K1⟩
  case round =>
   obtain⟨s',k,m,rfl,HM,HP,HE⟩:=hrel
   have hfb:=HE.out.at'.fine
   have C3:=CO s' _ HE.out.at' (HO.out.stays HE.out.bel HB.out)
   obtain⟨o,ho⟩:∃ o,o=Rd.op l ops (first:Int) s':=⟨_,rfl⟩
   rw[←ho]at C3
   by_cases h0:o.2=0
   ·have HX:Hid (R=(o.1,k)):=by show _=_;rw[←HM.out,Rd.many,hfb,←ho,if_neg (by simp),if_pos h0]
    have hbo:o.1.bad=false:=by rw[ho];exact aF0 ops _ hfb
    rw[h0]at C3
    clear ho CO CA
    go_wp2_with (go_at_call 141;refine(qa C3).mono ?_;rintro e w2⟨rfl,he⟩;have H2:=qb (HE.out.then' he);clear he)
    go_ret
    rw[HX.out]
    exact .inl ⟨hbo,rfl,H2.out⟩
   ·have hpo:s'.pos+1≤o.1.pos:=by rw[ho];exact Rd.op_more _ _ _ (by rw[←ho];exact h0)
    have hd:decide (o.2≠0)=true:=by simp[h0]
    obtain⟨b,hbb⟩:∃ b,b=sub o.1:=⟨_,rfl⟩
    have hpb:o.1.pos≤b.1.pos:=by rw[hbb];exact HS.out.pos _
    have HG:Hid (b.1.Good 1):=by rw[hbb];exact HS.out.keeps 1 _ (by rw[ho];exact Rd.Good.op1 l ops _ _ HE.out.at'.good (by rw[←ho];exact h0))
    have HX:Hid (Rd.many l ops (first:Int) sub m (b.1.put (ndK 3 o.2 [k,b.2])).1 (b.1.put (ndK 3 o.2 [k,b.2])).2=R):=by
     show _=_
     have:=HM.out
     rw[Rd.many,hfb,←ho,if_neg (by simp),if_neg h0]at this
     dsimp only at this
     rw[←hbb]at this
     exact this
    have C4:=fun w' h hO=>qb (HS.out.run o.1 w' (by have:=HP.out.2;omega) h hO)
    rw[←hbb]at C4
    rw[hd]at C3
    have HPO:=qb (show s'.pos+1≤b.1.pos by omega)
    clear ho hbb hpo hpb CO hd
    cases hbd:b.1.bad with
    | true =>
     have C5:=fun w' h hO=>qb (IOut.no hbd (qa (C4 w' h hO)))
     have HF:=qb (show R.1.At b.1.pos from by rw[←HX.out];exact Rd.At.many l (Rd.At.put ⟨hbd,rfl⟩ _) _ _)
     clear C4 CA
     go_wp2_with (first
      | (go_at_call 141;refine(qa C3).mono ?_;rintro e w2⟨rfl,he⟩;have H2:=qb (HE.out.then' he);clear he)
      | (go_at_call 139;refine(qa (C5 _ H2.out.at' (HO.out.stays H2.out.bel HB.out))).mono ?_;rintro e w3⟨rfl,he⟩;have H3:=qb (H2.out.lost he);clear he))
     exact⟨rfl,IOut.lost H3.out HF.out⟩
    | false =>
     have C5:=fun w' h hO=>qb (IOut.yes hbd (qa (C4 w' h hO)))
     have C6:=fun w' h=>CA b.1 o.2 k b.2 w' h HG.out
     clear C4 CA
     go_wp2_with (first
      | (go_at_call 141;refine(qa C3).mono ?_;rintro e w2⟨rfl,he⟩;have H2:=qb (HE.out.then' he);clear he)
      | (go_at_call 139;refine(qa (C5 _ H2.out.at' (HO.out.stays H2.out.bel HB.out))).mono ?_;rintro e w3⟨rfl,he⟩;have H3:=qb (H2.out.then' he);clear he)
      | (go_at_call 122;refine(qa (C6 _ H3.out.at')).mono ?_;rintro e w4⟨rfl,he⟩;have H4:=qb (H3.out.then' he);clear he))
     have hpp:(b.1.put (ndK 3 o.2 [k,b.2])).1.pos=b.1.pos:=Rd.put_pos _ _
     have hpl:=H4.out.at'.pos
     have h5:=HPO.out
     have h6:=HP.out
     have hpp2:(b.1.put ⟨3,o.2,ByteArray.empty,ByteArray.empty,ByteArray.empty,[k,b.2]⟩).1.pos=b.1.pos:=hpp
     have hm:∃ m',m=m'+1:=⟨m-1,by omega⟩
     obtain⟨m',rfl⟩:=hm
     go_roundw
     case rel=>exact⟨_,_,m',rfl,HX,⟨by omega,by omega⟩,H4⟩
     case measure =>
      rw[H4.out.at'.posCell,HE.out.at'.posCell]
      omega
theorem IWay.term {L:Nat→Prop}{B g:Nat}{sz:Int}{l:List Sg}{lv:Value}{fac:Rd→Rd×Int}{n:Nat}(hs:IWay L B g sz l lv 144 fac n) (hw:ag8 l) (hl:l.length≤1048576) (hB:3<B):IWay L B g sz l lv 143 (Rd.termW l fac) n:=by
 refine⟨fun s w hn h hO=>?_,Rd.termW_pos l hs.pos,Rd.Keeps.termW l hs.keeps,Rd.Stays.termW hs.stays⟩
 have C:Hid (Calls Tryz.prog 138 #[.pointer (some ⟨g,0,none⟩),.func (.func 144) #[] #[],.int .i64 3,.int .i64 5] w (IOut L B g sz l lv (Rd.termW l fac s).1 (.int .i64 (Rd.termW l fac s).2) w)):=iRowTerm hs 3 5 (by decide) (by decide) (by decide) s w hn h hw hl hO hB
 obtain⟨R,hR⟩:∃ R,R=Rd.termW l fac s:=⟨_,rfl⟩
 rw[←hR]at C ⊢
 clear hR hs h hO hn
 cases hb:R.1.bad with
 | true =>
  have C2:=qb (IOut.no hb (qa C))
  clear C
  go_enter Tryz.func143,Tryz.ntmps143
  go_wp2_with (go_at_call 138;refine(qa C2).mono ?_;rintro e w1⟨rfl,he⟩;have K1:=qb he;clear he)
  exact⟨rfl,.inr ⟨hb,rfl,K1.out⟩⟩
 | false =>
  have C2:=qb (IOut.yes hb (qa C))
  clear C
  go_enter Tryz.func143,Tryz.ntmps143
  go_wp2_with (go_at_call 138;refine(qa C2).mono ?_;rintro e w1⟨rfl,he⟩;have K1:=qb he;clear he)
  go_ret
  exact .inl ⟨hb,rfl,K1.out⟩
theorem IWay.sum {L:Nat→Prop}{B g:Nat}{sz:Int}{l:List Sg}{lv:Value}{fac:Rd→Rd×Int}{n:Nat}(hf:IWay L B g sz l lv 144 fac n) (hw:ag8 l) (hl:l.length≤1048576) (hB:3<B):IWay L B g sz l lv 142 (Rd.sumW l fac) n:=by
 have hs:=hf.term hw hl hB
 refine⟨fun s w hn h hO=>?_,Rd.sumW_pos l hf.pos,Rd.Keeps.sumW l hf.keeps,Rd.Stays.sumW hf.stays⟩
 have C:Hid (Calls Tryz.prog 138 #[.pointer (some ⟨g,0,none⟩),.func (.func 143) #[] #[],.int .i64 1,.int .i64 2] w (IOut L B g sz l lv (Rd.sumW l fac s).1 (.int .i64 (Rd.sumW l fac s).2) w)):=iRowSum hs 1 2 (by decide) (by decide) (by decide) s w hn h hw hl hO hB
 obtain⟨R,hR⟩:∃ R,R=Rd.sumW l fac s:=⟨_,rfl⟩
 rw[←hR]at C ⊢
 clear hR hs h hO hn
 cases hb:R.1.bad with
 | true =>
  have C2:=qb (IOut.no hb (qa C))
  clear C
  go_enter Tryz.func142,Tryz.ntmps142
  go_wp2_with (go_at_call 138;refine(qa C2).mono ?_;rintro e w1⟨rfl,he⟩;have K1:=qb he;clear he)
  exact⟨rfl,.inr ⟨hb,rfl,K1.out⟩⟩
 | false =>
  have C2:=qb (IOut.yes hb (qa C))
  clear C
  go_enter Tryz.func142,Tryz.ntmps142
  go_wp2_with (go_at_call 138;refine(qa C2).mono ?_;rintro e w1⟨rfl,he⟩;have K1:=qb he;clear he)
  go_ret
  exact .inl ⟨hb,rfl,K1.out⟩
theorem IWay.part {L:Nat→Prop}{B g:Nat}{sz:Int}{l:List Sg}{lv:Value}{fac:Rd→Rd×Int}{n:Nat}(hf:IWay L B g sz l lv 144 fac n) (hw:ag8 l) (hl:l.length≤1048576) (hB:3<B):IWay L B g sz l lv 139 (Rd.partW l fac) n:=by
 have hs:=hf.sum hw hl hB
 refine⟨fun s w hn h hO=>?_,Rd.partW_pos l hf.pos,Rd.Keeps.partW l hf.keeps,Rd.Stays.partW hf.stays⟩
 have HS:=qb hs
 have HO:=qb hO
 have HB:=qb hB
 have CO:∀ (s:Rd) w,IAt L B g sz l lv s w→ak5 w→Hid (Calls Tryz.prog 141 #[.pointer (some ⟨g,0,none⟩),.int .i64 6,.int .i64 7] w fun e w'=>e=.returned (.tuple #[.int .i64 (Rd.op l [tx "<", tx "="] 6 s).2,.bool (decide ((Rd.op l [tx "<", tx "="] 6 s).2≠0))])∧IEnd L B g sz l lv (Rd.op l [tx "<", tx "="] 6 s).1 w w') :=
  fun s w h hO=>aK9 (s:=s) 6 7 (by decide) (by decide) (by decide) w h hw hl hO hB
 have CA:=fun s nu a b w h hg=>qb (ay2 (L:=L) (B:=B) (g:=g) (sz:=sz) (l:=l) (lv:=lv) (s:=s) nu a b w h hg hl)
 have C1:=qb (hs.run s w hn h hO)
 have hpa:=hs.pos s
 have hga:=hs.keeps 0 s h.good
 obtain⟨R,hR⟩:∃ R,R=Rd.partW l fac s:=⟨_,rfl⟩
 rw[←hR]
 unfold Rd.partW at hR
 dsimp only at hR
 obtain⟨a,ha⟩:∃ a,a=Rd.sumW l fac s:=⟨_,rfl⟩
 rw[←ha]at C1 hR hpa hga
 have C2:=CO a.1
 have hbo:=aF0 (l:=l) [tx "<", tx "="] 6 (s:=a.1)
 have hpo:=Rd.op_pos l [tx "<", tx "="] 6 a.1
 have hgo:=Rd.Good.op1 l [tx "<", tx "="] 6 a.1 hga
 have hop:=Rd.op_bad l (s:=a.1)
 obtain⟨o,ho⟩:∃ o,o=Rd.op l [tx "<", tx "="] 6 a.1:=⟨_,rfl⟩
 rw[←ho]at C2 hR hbo hpo hgo
 clear ha h hO CO hs hf
 cases hb:a.1.bad with
 | true =>
  have C3:=qb (IOut.no hb (qa C1))
  have HF:=qb (show R.1.At a.1.pos from by
   rw[hR,ho,hop hb]
   exact⟨hb,rfl⟩)
  clear C1 C2 CA hR ho hbo hpo hgo hop
  go_enter Tryz.func139,Tryz.ntmps139
  go_wp2_with (go_at_call 142;refine(qa C3).mono ?_;rintro e w1⟨rfl,he⟩;have K1:=qb he;clear he)
  exact⟨rfl,IOut.lost K1.out HF.out⟩
 | false =>
  have C3:=qb (IOut.yes hb (qa C1))
  have hbo:=hbo hb
  clear C1 ho hop
  by_cases h0:o.2=0
  ·rw[if_pos h0]at hR
   rw[h0]at C2
   have HR:=qb hR
   clear hR CA hpo hgo
   go_enter Tryz.func139,Tryz.ntmps139
   go_wp2_with (first
    | (go_at_call 142;refine(qa C3).mono ?_;rintro e w1⟨rfl,he⟩;have K1:=qb he;clear he)
    | (go_at_call 141;refine(qa (C2 _ K1.out.at' (HO.out.stays K1.out.bel HB.out))).mono ?_;rintro e w2⟨rfl,he⟩;have K2:=qb (K1.out.then' he);clear he))
   go_ret
   rw[HR.out]
   exact .inl ⟨hbo,rfl,K2.out⟩
  ·rw[if_neg h0]at hR
   have hd:decide (o.2≠0)=true:=by simp[h0]
   rw[hd]at C2
   have C4:=fun w h hO=>qb (HS.out.run o.1 w (by omega) h hO)
   have hg4:=HS.out.keeps 1 _ (hgo h0)
   obtain⟨b,hbb⟩:∃ b,b=Rd.sumW l fac o.1:=⟨_,rfl⟩
   rw[←hbb]at C4 hR hg4
   have HR:=qb hR
   clear hR hbb hd hpo hgo
   cases hbd:b.1.bad with
   | true =>
    have C5:=fun w h hO=>qb (IOut.no hbd (qa (C4 w h hO)))
    have HF:=qb (show R.1.At b.1.pos from by rw[HR.out];exact Rd.At.put ⟨hbd,rfl⟩ _)
    clear C4 CA
    go_enter Tryz.func139,Tryz.ntmps139
    go_wp2_with (first
     | (go_at_call 142;refine(qa C3).mono ?_;rintro e w1⟨rfl,he⟩;have K1:=qb he;clear he C3)
     | (go_at_call 141;refine(qa (C2 _ K1.out.at' (HO.out.stays K1.out.bel HB.out))).mono ?_;rintro e w2⟨rfl,he⟩;have K2:=qb (K1.out.then' he);clear he)
     | (go_at_call 142;refine(qa (C5 _ K2.out.at' (HO.out.stays K2.out.bel HB.out))).mono ?_;rintro e w3⟨rfl,he⟩;have K3:=qb (K2.out.lost he);clear he))
    exact⟨rfl,IOut.lost K3.out HF.out⟩
   | false =>
    have C5:=fun w h hO=>qb (IOut.yes hbd (qa (C4 w h hO)))
    have C6:=fun w h=>CA b.1 o.2 a.2 b.2 w h hg4
    have hbp:(b.1.put (ndK 3 o.2 [a.2,b.2])).1.bad=false:=by rw[Rd.put_ok hbd];exact hbd
    clear C4 CA
    go_enter Tryz.func139,Tryz.ntmps139
    go_wp2_with (first
     | (go_at_call 142;refine(qa C3).mono ?_;rintro e w1⟨rfl,he⟩;have K1:=qb he;clear he C3)
     | (go_at_call 141;refine(qa (C2 _ K1.out.at' (HO.out.stays K1.out.bel HB.out))).mono ?_;rintro e w2⟨rfl,he⟩;have K2:=qb (K1.out.then' he);clear he)
     | (go_at_call 142;refine(qa (C5 _ K2.out.at' (HO.out.stays K2.out.bel HB.out))).mono ?_;rintro e w3⟨rfl,he⟩;have K3:=qb (K2.out.then' he);clear he)
     | (go_at_call 122;refine(qa (C6 _ K3.out.at')).mono ?_;rintro e w4⟨rfl,he⟩;have K4:=qb (K3.out.then' he);clear he))
    go_ret
    rw[HR.out]
    exact .inl ⟨hbp,rfl,K4.out⟩
theorem IWay.value {L:Nat→Prop}{B g:Nat}{sz:Int}{l:List Sg}{lv:Value}{fac:Rd→Rd×Int}{n:Nat}(hf:IWay L B g sz l lv 144 fac n) (hw:ag8 l) (hl:l.length≤1048576) (hB:3<B):IWay L B g sz l lv 134 (Rd.valueW l fac) n:=by
 have hs:=hf.part hw hl hB
 refine⟨fun s w hn h hO=>?_,Rd.valueW_pos l hf.pos,Rd.Keeps.valueW l hf.keeps,Rd.Stays.valueW hf.stays⟩
 have C:Hid (Calls Tryz.prog 138 #[.pointer (some ⟨g,0,none⟩),.func (.func 139) #[] #[],.int .i64 8,.int .i64 9] w (IOut L B g sz l lv (Rd.valueW l fac s).1 (.int .i64 (Rd.valueW l fac s).2) w)):=bi9 hs 8 9 (by decide) (by decide) (by decide) s w hn h hw hl hO hB
 obtain⟨R,hR⟩:∃ R,R=Rd.valueW l fac s:=⟨_,rfl⟩
 rw[←hR]at C ⊢
 clear hR hs h hO hn
 cases hb:R.1.bad with
 | true =>
  have C2:=qb (IOut.no hb (qa C))
  clear C
  go_enter Tryz.func134,Tryz.ntmps134
  go_wp2_with (go_at_call 138;refine(qa C2).mono ?_;rintro e w1⟨rfl,he⟩;have K1:=qb he;clear he)
  exact⟨rfl,.inr ⟨hb,rfl,K1.out⟩⟩
 | false =>
  have C2:=qb (IOut.yes hb (qa C))
  clear C
  go_enter Tryz.func134,Tryz.ntmps134
  go_wp2_with (go_at_call 138;refine(qa C2).mono ?_;rintro e w1⟨rfl,he⟩;have K1:=qb he;clear he)
  go_ret
  exact .inl ⟨hb,rfl,K1.out⟩
end Go.Proofs.YtcpapceeekkacaaGreatDoor
