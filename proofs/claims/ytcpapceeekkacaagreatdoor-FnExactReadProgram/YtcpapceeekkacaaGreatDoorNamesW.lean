import Derived.Test.YtcpapceeekkacaaGreatDoorGrowW
set_option maxRecDepth 100000
set_option maxHeartbeats 8000000
namespace Go.Proofs.YtcpapceeekkacaaGreatDoor
open Go.RowKit
theorem tx5:tx "," = ⟨#[44]⟩∧tx ";" = ⟨#[59]⟩:=by decide +kernel
theorem Rd.comma_pos (l:List Sg):∀ (n:Nat) (s:Rd) (ns:List ByteArray),s.pos≤(Rd.comma l n s ns).1.pos
 | 0,_,_=>nlr _
 | n+1,s,ns=>by
  unfold Rd.comma
  split
  ·have h1:=Rd.name_pos l s.on
   have h2:s.on.pos=s.pos+1:=rfl
   have h3:=Rd.comma_pos l n (s.on.name l).1 (ns++[(s.on.name l).2])
   omega
  ·exact nlr _
theorem Rd.names_pos (l:List Sg) (s:Rd):s.pos≤(s.names l).1.pos:=nlt (Rd.name_pos l s) (Rd.comma_pos l _ _ _)
def CommaRel (L:Nat→Prop) (B g:Nat) (l:List Sg) (lv:Value) (R:Rd×List ByteArray) (w:World) (kv:Value) (wr:World):Prop :=
 ∃ (s:Rd) (ns:List ByteArray) (m:Nat),Hid (Rd.comma l (m+1) s ns=R)∧Hid (l.length-s.pos<m+1∧ns.length≤s.pos+1)∧Hid (aa8 L B g l lv s w wr)∧Hid (wr.ownsRow w.heap.size 9 1 kv ns.length (ns.map Value.string))
theorem aS6 {w:World}{base:Nat}(hb:base≤w.heap.size) (x:ByteArray):(w.alloc (.cells #[.string x] 9)).ownsRow base 9 1 (.slice (some ⟨w.heap.size,0,none⟩) 1 1) [x].length ([x].map Value.string) :=
 ⟨rfl,.inr ⟨w.heap.size,1,#[.string x],rfl,hb,heap_alloc_new w _,nlr _,by decide,rfl,rfl⟩⟩
theorem ad1 {z:World}{base base':Nat}{e:TypeId}{k n:Nat}{v:Value}{xs:List Value}(h:z.ownsRow base e k v n xs) (hb:base'≤base):z.ownsRow base' e k v n xs:=by
 obtain⟨h1,h2⟩:=h
 refine⟨h1,?_⟩
 rcases h2 with h2|⟨g',cap,cur,rfl,hb1,r⟩
 ·exact .inl h2
 ·exact .inr ⟨g',cap,cur,rfl,nlt hb hb1,r⟩
theorem aF2 {L:Nat→Prop}{B g:Nat}{l:List Sg}{lv:Value}(s:Rd) (w:World) (h:RdAt L B g l lv s w) (hl:l.length≤1048576) (hx:∀ x∈l,x.text.size≤1048576) :
  Calls Tryz.prog 32 #[.pointer (some ⟨g,0,none⟩)] w fun e w'=>∃ ao c,e=.returned (.slice ao (s.names l).2.length c)∧aa8 L B g l lv (s.names l).1 w w'∧w'.ownsRow w.heap.size 9 1 (.slice ao (s.names l).2.length c) (s.names l).2.length ((s.names l).2.map Value.string):=by
 have H:=qb h
 have CN:=fun (s:Rd) w h=>qb (ah9 (L:=L) (B:=B) (g:=g) (l:=l) (lv:=lv) (s:=s) w h hl hx)
 have CQ:=fun (s:Rd) w h=>qb (ah0 (L:=L) (B:=B) (g:=g) (l:=l) (lv:=lv) (s:=s) (tx ",") w h hl)
 have C1:=CN s w h
 obtain⟨R,hR⟩:∃ R,R=s.names l:=⟨_,rfl⟩
 rw[←hR]
 unfold Rd.names at hR
 have hp1:=Rd.name_pos l s
 obtain⟨a,ha⟩:∃ a,a=s.name l:=⟨_,rfl⟩
 rw[←ha]at C1 hR hp1
 rw[tx5.1]at CQ
 have HR:=qb hR.symm
 have HN:Hid (l.length-a.1.pos<l.length+1∧1≤a.1.pos+1):=⟨by omega,by omega⟩
 have HB0:=qb h.heap
 have LO:=qb h.loose
 clear ha hR hp1 h
 go_enter Tryz.func32,Tryz.ntmps32
 go_wp2_with (go_at_call 29;refine(qa C1).mono ?_;rintro e w1⟨rfl,he⟩;have K1:=qb he;clear he)
 go_loopw [3] (fun kv wr=>CommaRel L B g l lv R w kv wr) (fun _ wr=>l.length-(intOf ((wr.cell? ⟨g,1,none⟩).getD undef)).toNat)
 case atStart=>exact⟨a.1,[a.2],l.length,HR,HN,K1.out.new _,aS6 K1.out.keep.size a.2⟩
 case round =>
  obtain⟨s',ns,m,HX,HP,HK,HO⟩:=hrel
  obtain⟨ao,cp,hkv⟩:=ab_ HO.out
  subst hkv
  have CQ1:=CQ s' _ HK.out.at'
  cases hq:s'.isQ l (tx ",") with
  | true =>
   have hlt:=Rd.isQ_lt hq
   have HM1:Hid (s'.may l ⟨#[44]⟩=s'.on):=by show _=_;rw[←tx5.1];simp[Rd.may,hq]
   rw[←tx5.1,hq,tx5.1,HM1.out]at CQ1
   have hpo:s'.on.pos=s'.pos+1:=rfl
   have CS:=CN s'.on
   have hpb:=Rd.name_pos l s'.on
   obtain⟨b,hb⟩:∃ b,b=s'.on.name l:=⟨_,rfl⟩
   rw[←hb]at CS hpb
   have HX2:Hid (Rd.comma l m b.1 (ns++[b.2])=R):=by
    have:=HX.out
    rw[Rd.comma,hq,if_pos rfl,←hb]at this
    exact this
   have HPO:=qb (show s'.pos+1≤b.1.pos by omega)
   have HKN:Hid (ns.length≤2000000):=by have:=HP.out;show _≤_;omega
   clear hb hpb hpo hq CQ CN C1
   go_wp2_with (first
    | (go_at_call 10;refine(qa CQ1).mono ?_;rintro e w3⟨rfl,he⟩;have K3:=qb (HK.out.then' he);have O3:=qb (aa4 HO.out he.keep aa3.s);clear he)
    | (go_at_call 29;refine(qa (CS _ K3.out.at')).mono ?_;rintro e w4⟨rfl,he⟩;have K4:=qb (K3.out.then' he);have O4:=qb (aa4 O3.out he.keep aa3.s);clear he)
    | (at_builtin;refine bg5 rfl (.tmp 9) (.tmp 12) rfl (kb:=w4.heap.size) rfl K4.out LO.out O4.out rfl rfl HB0.out HKN.out ?_;intro v5 w5 hk5 ho5;have K5:=qb hk5;have O5:=qb ho5;clear hk5 ho5))
   have hpl:=K5.out.at'.pos
   have h5:=HPO.out
   have h6:=HP.out
   have hm:∃ m',m=m'+1:=⟨m-1,by omega⟩
   obtain⟨m',rfl⟩:=hm
   go_roundw
   case rel=>exact⟨b.1,ns++[b.2],m',HX2,⟨by omega,by simp;omega⟩,K5,O5⟩
   case measure =>
    rw[K5.out.at'.posCell,HK.out.at'.posCell]
    omega
  | false =>
   have HM1:Hid (s'.may l ⟨#[44]⟩=s'):=by show _=_;rw[←tx5.1];simp[Rd.may,hq]
   rw[←tx5.1,hq,tx5.1,HM1.out]at CQ1
   have HX2:Hid (R=(s',ns)):=by
    have:=HX.out
    rw[Rd.comma,hq,if_neg (by simp)]at this
    exact this.symm
   clear CQ CN C1 hq
   go_wp2_with (go_at_call 10;refine(qa CQ1).mono ?_;rintro e w3⟨rfl,he⟩;have K3:=qb (HK.out.then' he);have O3:=qb (aa4 HO.out he.keep aa3.s);clear he)
   go_ret
   rw[HX2.out]
   exact⟨ao,cp,rfl,K3.out,O3.out⟩
theorem aS7 {w:World}{base:Nat}(hb:base≤w.heap.size):(w.alloc (.cells #[] 9)).ownsRow base 9 1 (.slice (some ⟨w.heap.size,0,none⟩) 0 0) ([] : List ByteArray).length (([] : List ByteArray).map Value.string) :=
 ⟨rfl,.inr ⟨w.heap.size,0,#[],rfl,hb,heap_alloc_new w _,nlr _,by decide,rfl,rfl⟩⟩
theorem aB5 {L:Nat→Prop}{B g:Nat}{l:List Sg}{lv:Value}(t:ByteArray) (s:Rd) (w:World) (h:RdAt L B g l lv s w) (hl:l.length≤1048576) (hx:∀ x∈l,x.text.size≤1048576) :
  Calls Tryz.prog 30 #[.pointer (some ⟨g,0,none⟩),.string t] w fun e w'=>∃ ao c,e=.returned (.slice ao (s.listed l t).2.length c)∧aa8 L B g l lv (s.listed l t).1 w w'∧w'.ownsRow w.heap.size 9 1 (.slice ao (s.listed l t).2.length c) (s.listed l t).2.length ((s.listed l t).2.map Value.string):=by
 have C1:=qb (ah0 (L:=L) (B:=B) (g:=g) (l:=l) (lv:=lv) (s:=s) t w h hl)
 have hB:=h.heap
 cases hq:s.isQ l t with
 | true =>
  have C2:=fun w h=>qb (aF2 (L:=L) (B:=B) (g:=g) (l:=l) (lv:=lv) s.on w h hl hx)
  have C3:=fun w h=>qb (ag6 (L:=L) (B:=B) (g:=g) (l:=l) (lv:=lv) (s:=(s.on.names l).1) (tx ";") w h hl)
  rw[hq,show s.may l t=s.on from by simp[Rd.may,hq]]at C1
  rw[show s.listed l t=((s.on.names l).1.must l (tx ";"),(s.on.names l).2) from by simp[Rd.listed,hq]]
  rw[tx5.2]at C3 ⊢
  obtain⟨a,ha⟩:∃ a,a=s.on.names l:=⟨_,rfl⟩
  rw[←ha]at C2 C3 ⊢
  clear ha hq h
  dsimp only
  go_enter Tryz.func30,Tryz.ntmps30
  go_wp2_with (first
   | (go_at_call 10;refine(qa C1).mono ?_;rintro e w1⟨rfl,he⟩;have K1:=qb he;clear he)
   | (go_at_call 32;refine(qa (C2 _ K1.out.at')).mono ?_;rintro e w2⟨ao,c,rfl,he,ho⟩;have K2:=qb (K1.out.then' he);have O2:=qb ho;clear he ho)
   | (go_at_call 13;refine(qa (C3 _ K2.out.at')).mono ?_;rintro e w3⟨rfl,he⟩;have K3:=qb (K2.out.then' he);have O3:=qb (aa4 O2.out he.keep aa3.s);clear he))
  go_ret
  exact⟨ao,c,rfl,K3.out,ad1 O3.out K1.out.keep.size⟩
 | false =>
  rw[hq,show s.may l t=s from by simp[Rd.may,hq]]at C1
  rw[show s.listed l t=(s,[]) from by simp[Rd.listed,hq]]
  clear hq h
  go_enter Tryz.func30,Tryz.ntmps30
  go_wp2_with (go_at_call 10;refine(qa C1).mono ?_;rintro e w1⟨rfl,he⟩;have K1:=qb he;clear he)
  go_ret
  exact⟨_,_,rfl,K1.out.new _,aS7 K1.out.keep.size⟩
end Go.Proofs.YtcpapceeekkacaaGreatDoor
