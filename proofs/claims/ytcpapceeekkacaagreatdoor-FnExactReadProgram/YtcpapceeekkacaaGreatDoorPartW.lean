import Derived.Test.YtcpapceeekkacaaGreatDoorOpW
set_option maxRecDepth 100000
set_option maxHeartbeats 8000000
namespace Go.Proofs.YtcpapceeekkacaaGreatDoor
open Go.RowKit
theorem tx1:tx "*" = ⟨#[42]⟩∧tx "/" = ⟨#[47]⟩∧tx "%" = ⟨#[37]⟩∧tx "+" = ⟨#[43]⟩∧tx "-" = ⟨#[45]⟩∧tx "<" = ⟨#[60]⟩∧tx "=" = ⟨#[61]⟩∧tx "and" = ⟨#[97,110,100]⟩∧tx "or" = ⟨#[111,114]⟩:=by decide +kernel
theorem Rd.op_more {l:List Sg}:∀ (ts:List ByteArray) (k:Int) (s:Rd),(Rd.op l ts k s).2≠0→s.pos+1≤(Rd.op l ts k s).1.pos
 | [],_,_=>fun h=>absurd rfl h
 | t :: ts,k,s=>by
  unfold Rd.op
  split
  ·exact fun _=>nlr _
  ·exact Rd.op_more ts (k+1) s
structure Way (L:Nat→Prop) (B g:Nat) (l:List Sg) (lv:Value) (f:FuncId) (F:Rd→Rd×Int) (n:Nat):Prop where
 run:∀ (s:Rd) (w:World),l.length-s.pos<n→RdAt L B g l lv s w→Calls Tryz.prog f #[.pointer (some ⟨g,0,none⟩)] w fun e w'=>e=.returned (.int .i64 (F s).2)∧aa8 L B g l lv (F s).1 w w'
 pos:∀ s,s.pos≤(F s).1.pos
 keeps:Rd.Keeps F
def aT2 (L:Nat→Prop) (B g:Nat) (l:List Sg) (lv:Value) (ops:List ByteArray) (k0:Int) (sub:Rd→Rd×Int) (n:Nat) (R:Rd×Int) (w:World) (kv:Value) (wr:World):Prop :=
 ∃ (s:Rd) (k:Int) (m:Nat),kv=.int .i64 k∧Hid (Rd.many l ops k0 sub (m+1) s k=R)∧Hid (l.length-s.pos<m+1∧l.length-s.pos<n)∧Hid (aa8 L B g l lv s w wr)
theorem RdAt.posCell {L:Nat→Prop}{B g:Nat}{l:List Sg}{lv:Value}{s:Rd}{w:World}(h:RdAt L B g l lv s w):(intOf ((w.cell? ⟨g,1,none⟩).getD undef)).toNat=s.pos:=by
 obtain⟨nv,_,c1,_⟩:=h.cells
 rw[c1]
 simp[intOf]
theorem RdAt.good1 {L:Nat→Prop}{B g:Nat}{l:List Sg}{lv:Value}{s:Rd}{w:World}(h:RdAt L B g l lv s w) (ops:List ByteArray) (k0:Int) {sub:Rd→Rd×Int}(hs:Rd.Keeps sub) (ho:(Rd.op l ops k0 s).2≠0):(sub (Rd.op l ops k0 s).1).1.Good 1:=hs 1 _ (Rd.Good.op1 l ops k0 s h.good ho)
theorem bf0 {L:Nat→Prop}{B g:Nat}{l:List Sg}{lv:Value}{n:Nat}(sub:Rd→Rd×Int) (hs:Way L B g l lv 140 sub n) (hl:l.length≤1048576) (s:Rd) (w:World) (hn:l.length-s.pos<n) (h:RdAt L B g l lv s w) :
  Calls Tryz.prog 136 #[.pointer (some ⟨g,0,none⟩)] w fun e w'=>e=.returned (.int .i64 (Rd.many l [tx "*", tx "/", tx "%"] 3 sub (l.length+1) (sub s).1 (sub s).2).2)∧aa8 L B g l lv (Rd.many l [tx "*", tx "/", tx "%"] 3 sub (l.length+1) (sub s).1 (sub s).2).1 w w':=by
 have CS:=qb hs.run
 have C0:=qb (hs.run s w hn h)
 have HS:=qb hs
 have CO:=fun (s:Rd) w' (h:RdAt L B g l lv s w')=>qb (aC6 (v:=.slice (some ⟨w'.heap.size,0,none⟩) 3 3) [tx "*", tx "/", tx "%"] 3 (w'.alloc (.cells #[.string ⟨#[42]⟩,.string ⟨#[47]⟩,.string ⟨#[37]⟩] 9)) (h.below (bal _ _)) (by have:=aB8.made (w:=w') rfl [tx "*", tx "/", tx "%"] 3 3 rfl;simpa [tx1] using this) (by simp) (by decide) (by decide) hl)
 have CC:=fun (s:Rd) o a b w' h hg=>qb (av4 (L:=L) (B:=B) (g:=g) (l:=l) (lv:=lv) (s:=s) o a b w' h hg hl)
 clear hs
 obtain⟨R,hR⟩:∃ R,R=Rd.many l [tx "*", tx "/", tx "%"] 3 sub (l.length+1) (sub s).1 (sub s).2:=⟨_,rfl⟩
 rw[←hR]
 have HRR:=qb hR.symm
 have hps:=HS.out.pos s
 obtain⟨s1,hs1⟩:∃ s1,s1=sub s:=⟨_,rfl⟩
 rw[←hs1]at C0 HRR hps
 have HN:Hid (l.length-s1.1.pos<l.length+1∧l.length-s1.1.pos<n):=⟨by omega,by omega⟩
 clear hs1 hR hps hn h
 go_enter Tryz.func136,Tryz.ntmps136
 go_wp2_with (go_at_call 140;refine(qa C0).mono ?_;rintro e w1⟨rfl,he⟩;have H1:=qb he;clear he)
 go_loopw [3,4,5] (fun kv _ _ wr=>aT2 L B g l lv [tx "*", tx "/", tx "%"] 3 sub n R w kv wr) (fun _ _ _ wr=>l.length-(intOf ((wr.cell? ⟨g,1,none⟩).getD undef)).toNat)
 case atStart=>exact⟨s1.1,s1.2,l.length,rfl,HRR,HN,H1⟩
 case round =>
  obtain⟨s',k,m,rfl,HM,HP,HE⟩:=hrel
  obtain⟨nv,c0,c1,c2,c3,_⟩:=HE.out.at'.cells
  cases hb:s'.bad with
  | true =>
   rw[hb]at c2
   have HX:Hid (R=(s',k)):=by show _=_;rw[←HM.out,Rd.many,hb];rfl
   go_wp2
   go_ret
   rw[HX.out]
   exact⟨rfl,HE.out⟩
  | false =>
   rw[hb]at c2
   have C1:=CO s' _ HE.out.at'
   have HA:=qb (aa8.below HE.out.at' (bal _ (.cells #[.string ⟨#[42]⟩,.string ⟨#[47]⟩,.string ⟨#[37]⟩] 9)) HE.out.at'.heap)
   obtain⟨o,ho⟩:∃ o,o=Rd.op l [tx "*", tx "/", tx "%"] 3 s':=⟨_,rfl⟩
   rw[←ho]at C1
   by_cases h0:o.2=0
   ·have HX:Hid (R=(o.1,k)):=by show _=_;rw[←HM.out,Rd.many,hb,←ho,if_neg (by simp),if_pos h0]
    rw[h0]at C1
    clear ho
    go_wp2_with (go_at_call 112;refine(qa C1).mono ?_;rintro e w2⟨rfl,he⟩;have H2:=qb he;clear he)
    go_ret
    rw[HX.out]
    exact⟨rfl,(HE.out.then' HA.out).then' H2.out⟩
   ·have hpo:s'.pos+1≤o.1.pos:=by rw[ho];exact Rd.op_more _ _ _ (by rw[←ho];exact h0)
    obtain⟨b,hbb⟩:∃ b,b=sub o.1:=⟨_,rfl⟩
    have hpb:o.1.pos≤b.1.pos:=by rw[hbb];exact HS.out.pos _
    have HG:Hid (b.1.Good 1):=by have:=HE.out.at'.good1 [tx "*", tx "/", tx "%"] 3 HS.out.keeps (by rw[←ho];exact h0);rw[←ho,←hbb]at this;exact this
    have HX:Hid (Rd.many l [tx "*", tx "/", tx "%"] 3 sub m (b.1.put (ndK 3 o.2 [k,b.2])).1 (b.1.put (ndK 3 o.2 [k,b.2])).2=R):=by
     show _=_
     have:=HM.out
     rw[Rd.many,hb,←ho,if_neg (by simp),if_neg h0]at this
     dsimp only at this
     rw[←hbb]at this
     exact this
    have CS1:=fun w' h=>qb (CS.out o.1 w' (by have:=HP.out.2;omega) h)
    rw[←hbb]at CS1
    have CC1:=fun w' h=>qb ((CC b.1 o.2 k b.2 w' h (fun _=>HG.out)).out)
    have HPO:=qb (show s'.pos+1≤b.1.pos by omega)
    clear ho hbb hpo hpb CO
    go_wp2_with (first
     | (go_at_call 112;refine(qa C1).mono ?_;rintro e w2⟨rfl,he⟩;have H2:=qb he;clear he)
     | (go_at_call 140;refine(qa (CS1 _ H2.out.at')).mono ?_;rintro e w3⟨rfl,he⟩;have H3:=qb he;clear he)
     | (go_at_call 113;refine(qa (CC1 _ H3.out.at')).mono ?_;rintro e w4⟨rfl,he⟩;have H4:=qb he;clear he))
    have hpp:(b.1.put (ndK 3 o.2 [k,b.2])).1.pos=b.1.pos:=Rd.put_pos _ _
    have hpl:=H4.out.at'.pos
    have h5:=HPO.out
    have h6:=HP.out
    have hm:∃ m',m=m'+1:=⟨m-1,by omega⟩
    obtain⟨m',rfl⟩:=hm
    go_roundw
    case rel=>exact⟨_,_,m',rfl,HX,⟨by omega,by omega⟩,(((HE.out.then' HA.out).then' H2.out).then' H3.out).then' H4.out⟩
    case measure =>
     rw[H4.out.at'.posCell,HE.out.at'.posCell]
     omega
theorem bl1 {L:Nat→Prop}{B g:Nat}{l:List Sg}{lv:Value}{n:Nat}(sub:Rd→Rd×Int) (hs:Way L B g l lv 136 sub n) (hl:l.length≤1048576) (s:Rd) (w:World) (hn:l.length-s.pos<n) (h:RdAt L B g l lv s w) :
  Calls Tryz.prog 129 #[.pointer (some ⟨g,0,none⟩)] w fun e w'=>e=.returned (.int .i64 (Rd.many l [tx "+", tx "-"] 1 sub (l.length+1) (sub s).1 (sub s).2).2)∧aa8 L B g l lv (Rd.many l [tx "+", tx "-"] 1 sub (l.length+1) (sub s).1 (sub s).2).1 w w':=by
 have CS:=qb hs.run
 have C0:=qb (hs.run s w hn h)
 have HS:=qb hs
 have CO:=fun (s:Rd) w' (h:RdAt L B g l lv s w')=>qb (aC6 (v:=.slice (some ⟨w'.heap.size,0,none⟩) 2 2) [tx "+", tx "-"] 1 (w'.alloc (.cells #[.string ⟨#[43]⟩,.string ⟨#[45]⟩] 9)) (h.below (bal _ _)) (by have:=aB8.made (w:=w') rfl [tx "+", tx "-"] 2 2 rfl;simpa [tx1] using this) (by simp) (by decide) (by decide) hl)
 have CC:=fun (s:Rd) o a b w' h hg=>qb (av4 (L:=L) (B:=B) (g:=g) (l:=l) (lv:=lv) (s:=s) o a b w' h hg hl)
 clear hs
 obtain⟨R,hR⟩:∃ R,R=Rd.many l [tx "+", tx "-"] 1 sub (l.length+1) (sub s).1 (sub s).2:=⟨_,rfl⟩
 rw[←hR]
 have HRR:=qb hR.symm
 have hps:=HS.out.pos s
 obtain⟨s1,hs1⟩:∃ s1,s1=sub s:=⟨_,rfl⟩
 rw[←hs1]at C0 HRR hps
 have HN:Hid (l.length-s1.1.pos<l.length+1∧l.length-s1.1.pos<n):=⟨by omega,by omega⟩
 clear hs1 hR hps hn h
 go_enter Tryz.func129,Tryz.ntmps129
 go_wp2_with (go_at_call 136;refine(qa C0).mono ?_;rintro e w1⟨rfl,he⟩;have H1:=qb he;clear he)
 go_loopw [3,4,5] (fun kv _ _ wr=>aT2 L B g l lv [tx "+", tx "-"] 1 sub n R w kv wr) (fun _ _ _ wr=>l.length-(intOf ((wr.cell? ⟨g,1,none⟩).getD undef)).toNat)
 case atStart=>exact⟨s1.1,s1.2,l.length,rfl,HRR,HN,H1⟩
 case round =>
  obtain⟨s',k,m,rfl,HM,HP,HE⟩:=hrel
  obtain⟨nv,c0,c1,c2,c3,_⟩:=HE.out.at'.cells
  cases hb:s'.bad with
  | true =>
   rw[hb]at c2
   have HX:Hid (R=(s',k)):=by show _=_;rw[←HM.out,Rd.many,hb];rfl
   go_wp2
   go_ret
   rw[HX.out]
   exact⟨rfl,HE.out⟩
  | false =>
   rw[hb]at c2
   have C1:=CO s' _ HE.out.at'
   have HA:=qb (aa8.below HE.out.at' (bal _ (.cells #[.string ⟨#[43]⟩,.string ⟨#[45]⟩] 9)) HE.out.at'.heap)
   obtain⟨o,ho⟩:∃ o,o=Rd.op l [tx "+", tx "-"] 1 s':=⟨_,rfl⟩
   rw[←ho]at C1
   by_cases h0:o.2=0
   ·have HX:Hid (R=(o.1,k)):=by show _=_;rw[←HM.out,Rd.many,hb,←ho,if_neg (by simp),if_pos h0]
    rw[h0]at C1
    clear ho
    go_wp2_with (go_at_call 112;refine(qa C1).mono ?_;rintro e w2⟨rfl,he⟩;have H2:=qb he;clear he)
    go_ret
    rw[HX.out]
    exact⟨rfl,(HE.out.then' HA.out).then' H2.out⟩
   ·have hpo:s'.pos+1≤o.1.pos:=by rw[ho];exact Rd.op_more _ _ _ (by rw[←ho];exact h0)
    obtain⟨b,hbb⟩:∃ b,b=sub o.1:=⟨_,rfl⟩
    have hpb:o.1.pos≤b.1.pos:=by rw[hbb];exact HS.out.pos _
    have HG:Hid (b.1.Good 1):=by have:=HE.out.at'.good1 [tx "+", tx "-"] 1 HS.out.keeps (by rw[←ho];exact h0);rw[←ho,←hbb]at this;exact this
    have HX:Hid (Rd.many l [tx "+", tx "-"] 1 sub m (b.1.put (ndK 3 o.2 [k,b.2])).1 (b.1.put (ndK 3 o.2 [k,b.2])).2=R):=by
     show _=_
     have:=HM.out
     rw[Rd.many,hb,←ho,if_neg (by simp),if_neg h0]at this
     dsimp only at this
     rw[←hbb]at this
     exact this
    have CS1:=fun w' h=>qb (CS.out o.1 w' (by have:=HP.out.2;omega) h)
    rw[←hbb]at CS1
    have CC1:=fun w' h=>qb ((CC b.1 o.2 k b.2 w' h (fun _=>HG.out)).out)
    have HPO:=qb (show s'.pos+1≤b.1.pos by omega)
    clear ho hbb hpo hpb CO
    go_wp2_with (first
     | (go_at_call 112;refine(qa C1).mono ?_;rintro e w2⟨rfl,he⟩;have H2:=qb he;clear he)
     | (go_at_call 136;refine(qa (CS1 _ H2.out.at')).mono ?_;rintro e w3⟨rfl,he⟩;have H3:=qb he;clear he)
     | (go_at_call 113;refine(qa (CC1 _ H3.out.at')).mono ?_;rintro e w4⟨rfl,he⟩;have H4:=qb he;clear he))
    have hpp:(b.1.put (ndK 3 o.2 [k,b.2])).1.pos=b.1.pos:=Rd.put_pos _ _
    have hpl:=H4.out.at'.pos
    have h5:=HPO.out
    have h6:=HP.out
    have hm:∃ m',m=m'+1:=⟨m-1,by omega⟩
    obtain⟨m',rfl⟩:=hm
    go_roundw
    case rel=>exact⟨_,_,m',rfl,HX,⟨by omega,by omega⟩,(((HE.out.then' HA.out).then' H2.out).then' H3.out).then' H4.out⟩
    case measure =>
     rw[H4.out.at'.posCell,HE.out.at'.posCell]
     omega
theorem aX2 {L:Nat→Prop}{B g:Nat}{l:List Sg}{lv:Value}{n:Nat}(sub:Rd→Rd×Int) (hs:Way L B g l lv 111 sub n) (hl:l.length≤1048576) (s:Rd) (w:World) (hn:l.length-s.pos<n) (h:RdAt L B g l lv s w) :
  Calls Tryz.prog 88 #[.pointer (some ⟨g,0,none⟩)] w fun e w'=>e=.returned (.int .i64 (Rd.many l [tx "and", tx "or"] 8 sub (l.length+1) (sub s).1 (sub s).2).2)∧aa8 L B g l lv (Rd.many l [tx "and", tx "or"] 8 sub (l.length+1) (sub s).1 (sub s).2).1 w w':=by
 have CS:=qb hs.run
 have C0:=qb (hs.run s w hn h)
 have HS:=qb hs
 have CO:=fun (s:Rd) w' (h:RdAt L B g l lv s w')=>qb (aC6 (v:=.slice (some ⟨w'.heap.size,0,none⟩) 2 2) [tx "and", tx "or"] 8 (w'.alloc (.cells #[.string ⟨#[97,110,100]⟩,.string ⟨#[111,114]⟩] 9)) (h.below (bal _ _)) (by have:=aB8.made (w:=w') rfl [tx "and", tx "or"] 2 2 rfl;simpa [tx1] using this) (by simp) (by decide) (by decide) hl)
 have CC:=fun (s:Rd) o a b w' h hg=>qb (av4 (L:=L) (B:=B) (g:=g) (l:=l) (lv:=lv) (s:=s) o a b w' h hg hl)
 clear hs
 obtain⟨R,hR⟩:∃ R,R=Rd.many l [tx "and", tx "or"] 8 sub (l.length+1) (sub s).1 (sub s).2:=⟨_,rfl⟩
 rw[←hR]
 have HRR:=qb hR.symm
 have hps:=HS.out.pos s
 obtain⟨s1,hs1⟩:∃ s1,s1=sub s:=⟨_,rfl⟩
 rw[←hs1]at C0 HRR hps
 have HN:Hid (l.length-s1.1.pos<l.length+1∧l.length-s1.1.pos<n):=⟨by omega,by omega⟩
 clear hs1 hR hps hn h
 go_enter Tryz.func88,Tryz.ntmps88
 go_wp2_with (go_at_call 111;refine(qa C0).mono ?_;rintro e w1⟨rfl,he⟩;have H1:=qb he;clear he)
 go_loopw [3,4,5] (fun kv _ _ wr=>aT2 L B g l lv [tx "and", tx "or"] 8 sub n R w kv wr) (fun _ _ _ wr=>l.length-(intOf ((wr.cell? ⟨g,1,none⟩).getD undef)).toNat)
 case atStart=>exact⟨s1.1,s1.2,l.length,rfl,HRR,HN,H1⟩
 case round =>
  obtain⟨s',k,m,rfl,HM,HP,HE⟩:=hrel
  obtain⟨nv,c0,c1,c2,c3,_⟩:=HE.out.at'.cells
  cases hb:s'.bad with
  | true =>
   rw[hb]at c2
   have HX:Hid (R=(s',k)):=by show _=_;rw[←HM.out,Rd.many,hb];rfl
   go_wp2
   go_ret
   rw[HX.out]
   exact⟨rfl,HE.out⟩
  | false =>
   rw[hb]at c2
   have C1:=CO s' _ HE.out.at'
   have HA:=qb (aa8.below HE.out.at' (bal _ (.cells #[.string ⟨#[97,110,100]⟩,.string ⟨#[111,114]⟩] 9)) HE.out.at'.heap)
   obtain⟨o,ho⟩:∃ o,o=Rd.op l [tx "and", tx "or"] 8 s':=⟨_,rfl⟩
   rw[←ho]at C1
   by_cases h0:o.2=0
   ·have HX:Hid (R=(o.1,k)):=by show _=_;rw[←HM.out,Rd.many,hb,←ho,if_neg (by simp),if_pos h0]
    rw[h0]at C1
    clear ho
    go_wp2_with (go_at_call 112;refine(qa C1).mono ?_;rintro e w2⟨rfl,he⟩;have H2:=qb he;clear he)
    go_ret
    rw[HX.out]
    exact⟨rfl,(HE.out.then' HA.out).then' H2.out⟩
   ·have hpo:s'.pos+1≤o.1.pos:=by rw[ho];exact Rd.op_more _ _ _ (by rw[←ho];exact h0)
    obtain⟨b,hbb⟩:∃ b,b=sub o.1:=⟨_,rfl⟩
    have hpb:o.1.pos≤b.1.pos:=by rw[hbb];exact HS.out.pos _
    have HG:Hid (b.1.Good 1):=by have:=HE.out.at'.good1 [tx "and", tx "or"] 8 HS.out.keeps (by rw[←ho];exact h0);rw[←ho,←hbb]at this;exact this
    have HX:Hid (Rd.many l [tx "and", tx "or"] 8 sub m (b.1.put (ndK 3 o.2 [k,b.2])).1 (b.1.put (ndK 3 o.2 [k,b.2])).2=R):=by
     show _=_
     have:=HM.out
     rw[Rd.many,hb,←ho,if_neg (by simp),if_neg h0]at this
     dsimp only at this
     rw[←hbb]at this
     exact this
    have CS1:=fun w' h=>qb (CS.out o.1 w' (by have:=HP.out.2;omega) h)
    rw[←hbb]at CS1
    have CC1:=fun w' h=>qb ((CC b.1 o.2 k b.2 w' h (fun _=>HG.out)).out)
    have HPO:=qb (show s'.pos+1≤b.1.pos by omega)
    clear ho hbb hpo hpb CO
    go_wp2_with (first
     | (go_at_call 112;refine(qa C1).mono ?_;rintro e w2⟨rfl,he⟩;have H2:=qb he;clear he)
     | (go_at_call 111;refine(qa (CS1 _ H2.out.at')).mono ?_;rintro e w3⟨rfl,he⟩;have H3:=qb he;clear he)
     | (go_at_call 113;refine(qa (CC1 _ H3.out.at')).mono ?_;rintro e w4⟨rfl,he⟩;have H4:=qb he;clear he))
    have hpp:(b.1.put (ndK 3 o.2 [k,b.2])).1.pos=b.1.pos:=Rd.put_pos _ _
    have hpl:=H4.out.at'.pos
    have h5:=HPO.out
    have h6:=HP.out
    have hm:∃ m',m=m'+1:=⟨m-1,by omega⟩
    obtain⟨m',rfl⟩:=hm
    go_roundw
    case rel=>exact⟨_,_,m',rfl,HX,⟨by omega,by omega⟩,(((HE.out.then' HA.out).then' H2.out).then' H3.out).then' H4.out⟩
    case measure =>
     rw[H4.out.at'.posCell,HE.out.at'.posCell]
     omega
theorem be9 {L:Nat→Prop}{B g:Nat}{l:List Sg}{lv:Value}{n:Nat}(fac:Rd→Rd×Int) (hs:Way L B g l lv 129 (Rd.sumW l fac) n) (hl:l.length≤1048576) (s:Rd) (w:World) (hn:l.length-s.pos<n) (h:RdAt L B g l lv s w) :
  Calls Tryz.prog 111 #[.pointer (some ⟨g,0,none⟩)] w fun e w'=>e=.returned (.int .i64 (Rd.partW l fac s).2)∧aa8 L B g l lv (Rd.partW l fac s).1 w w':=by
 have C0:=qb (hs.run s w hn h)
 have HS:=qb hs
 have CO:=fun (s:Rd) w' (h:RdAt L B g l lv s w')=>qb (aC6 (v:=.slice (some ⟨w'.heap.size,0,none⟩) 2 2) [tx "<", tx "="] 6 (w'.alloc (.cells #[.string ⟨#[60]⟩,.string ⟨#[61]⟩] 9)) (h.below (bal _ _)) (by have:=aB8.made (w:=w') rfl [tx "<", tx "="] 2 2 rfl;simpa [tx1] using this) (by simp) (by decide) (by decide) hl)
 have CC:=fun (s:Rd) o a b w' h hg=>qb (av4 (L:=L) (B:=B) (g:=g) (l:=l) (lv:=lv) (s:=s) o a b w' h hg hl)
 have hps:=hs.pos s
 obtain⟨R,hR⟩:∃ R,R=Rd.partW l fac s:=⟨_,rfl⟩
 rw[←hR]
 have hR2:=hR
 unfold Rd.partW at hR2
 dsimp only at hR2
 obtain⟨a,ha⟩:∃ a,a=Rd.sumW l fac s:=⟨_,rfl⟩
 rw[←ha]at C0 hR2 hps
 obtain⟨o,ho⟩:∃ o,o=Rd.op l [tx "<", tx "="] 6 a.1:=⟨_,rfl⟩
 rw[←ho]at hR2
 have CO1:=fun w' h=>qb ((CO a.1 w' h).out)
 rw[←ho]at CO1
 have HA:=fun w' (h:RdAt L B g l lv a.1 w')=>qb (aa8.below h (bal _ (.cells #[.string ⟨#[60]⟩,.string ⟨#[61]⟩] 9)) h.heap)
 by_cases h0:o.2=0
 ·rw[if_pos h0]at hR2
  have HX:=qb hR2
  rw[h0]at CO1
  clear hs hR ha ho hR2 hps h CC
  go_enter Tryz.func111,Tryz.ntmps111
  go_wp2_with (first
   | (go_at_call 129;refine(qa C0).mono ?_;rintro e w1⟨rfl,he⟩;have H1:=qb he;clear he)
   | (go_at_call 112;refine(qa (CO1 _ H1.out.at')).mono ?_;rintro e w2⟨rfl,he⟩;have H2:=qb he;clear he))
  go_ret
  rw[HX.out]
  exact⟨rfl,(H1.out.then' (HA _ H1.out.at').out).then' H2.out⟩
 ·rw[if_neg h0]at hR2
  have hpo:a.1.pos+1≤o.1.pos:=by rw[ho];exact Rd.op_more _ _ _ (by rw[←ho];exact h0)
  obtain⟨b,hbb⟩:∃ b,b=Rd.sumW l fac o.1:=⟨_,rfl⟩
  rw[←hbb]at hR2
  have HX:=qb hR2
  have CS:=fun w' h=>qb (hs.run o.1 w' (by omega) h)
  rw[←hbb]at CS
  have HG:Hid (∀ w',RdAt L B g l lv a.1 w'→b.1.Good 1):=fun w' h=>by have:=h.good1 [tx "<", tx "="] 6 HS.out.keeps (by rw[←ho];exact h0);rw[←ho,←hbb]at this;exact this
  have CC1:=fun w' h hg=>qb ((CC b.1 o.2 a.2 b.2 w' h hg).out)
  clear hs hR ha ho hR2 hps h CC hbb hpo CO
  go_enter Tryz.func111,Tryz.ntmps111
  go_wp2_with (first
   | (go_at_call 129;refine(qa C0).mono ?_;rintro e w1⟨rfl,he⟩;have H1:=qb he;clear he C0)
   | (go_at_call 112;refine(qa (CO1 _ H1.out.at')).mono ?_;rintro e w2⟨rfl,he⟩;have H2:=qb he;clear he)
   | (go_at_call 129;refine(qa (CS _ H2.out.at')).mono ?_;rintro e w3⟨rfl,he⟩;have H3:=qb he;clear he)
   | (go_at_call 113;refine(qa (CC1 _ H3.out.at' (fun _=>HG.out _ H1.out.at'))).mono ?_;rintro e w4⟨rfl,he⟩;have H4:=qb he;clear he))
  go_ret
  rw[HX.out]
  exact⟨rfl,(((H1.out.then' (HA _ H1.out.at').out).then' H2.out).then' H3.out).then' H4.out⟩
theorem Way.term {L:Nat→Prop}{B g:Nat}{l:List Sg}{lv:Value}{n:Nat}{fac:Rd→Rd×Int}(hf:Way L B g l lv 140 fac n) (hl:l.length≤1048576):Way L B g l lv 136 (Rd.termW l fac) n :=
 ⟨fun s w hn h=>bf0 fac hf hl s w hn h,Rd.termW_pos l hf.pos,Rd.Keeps.termW l hf.keeps⟩
theorem Way.sum {L:Nat→Prop}{B g:Nat}{l:List Sg}{lv:Value}{n:Nat}{fac:Rd→Rd×Int}(hf:Way L B g l lv 140 fac n) (hl:l.length≤1048576):Way L B g l lv 129 (Rd.sumW l fac) n :=
 ⟨fun s w hn h=>bl1 _ (hf.term hl) hl s w hn h,Rd.sumW_pos l hf.pos,Rd.Keeps.sumW l hf.keeps⟩
theorem Way.part {L:Nat→Prop}{B g:Nat}{l:List Sg}{lv:Value}{n:Nat}{fac:Rd→Rd×Int}(hf:Way L B g l lv 140 fac n) (hl:l.length≤1048576):Way L B g l lv 111 (Rd.partW l fac) n :=
 ⟨fun s w hn h=>be9 fac (hf.sum hl) hl s w hn h,Rd.partW_pos l hf.pos,Rd.Keeps.partW l hf.keeps⟩
theorem Way.value {L:Nat→Prop}{B g:Nat}{l:List Sg}{lv:Value}{n:Nat}{fac:Rd→Rd×Int}(hf:Way L B g l lv 140 fac n) (hl:l.length≤1048576):Way L B g l lv 88 (Rd.valueW l fac) n :=
 ⟨fun s w hn h=>aX2 _ (hf.part hl) hl s w hn h,Rd.valueW_pos l hf.pos,Rd.Keeps.valueW l hf.keeps⟩
end Go.Proofs.YtcpapceeekkacaaGreatDoor
