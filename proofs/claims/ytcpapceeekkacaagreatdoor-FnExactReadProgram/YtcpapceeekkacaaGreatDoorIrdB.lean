import Derived.Test.YtcpapceeekkacaaGreatDoorIrdT
import Derived.Test.YtcpapceeekkacaaGreatDoorIrdA
import Derived.Test.YtcpapceeekkacaaGreatDoorOpW
import Derived.Deep.RegionLaw
import Derived.Handy
set_option maxRecDepth 100000
set_option maxHeartbeats 8000000
namespace Go.Proofs.YtcpapceeekkacaaGreatDoor
open Go.RowKit
theorem bb_:ae9 ⟨#[40]⟩=true∧ae9 ⟨#[41]⟩=true∧ae9 ⟨#[110,111,116]⟩=true∧ae9 ⟨#[45]⟩=true:=by decide +kernel
theorem tx1m:tx "-" = ⟨#[45]⟩:=by decide +kernel
theorem aU4 {L:Nat→Prop}{B g:Nat}{sz:Int}{l:List Sg}{lv:Value}{n:Nat}(val fac:Rd→Rd×Int) (hv:IWay L B g sz l lv 134 val n) (hf:IWay L B g sz l lv 144 fac n) (hw:ag8 l) (hl:l.length≤1048576) (hx:∀ x∈l,x.text.size≤1048576) (hB:3<B) (s:Rd) (w:World) (hn:l.length-s.pos<n+1) (h:IAt L B g sz l lv s w) (hO:ak5 w) :
  Calls Tryz.prog 144 #[.pointer (some ⟨g,0,none⟩)] w (IOut L B g sz l lv (Rd.factorW l val fac s).1 (.int .i64 (Rd.factorW l val fac s).2) w):=by
 have CS:=qb (ay3 w h)
 have HH:=qb h
 have HO:=qb hO
 have HB:=qb hB
 have hfb:=h.fine
 have hgood:=h.good
 have hp:=h.pos
 have CT:=fun t (ht:ae9 t=true) w h=>qb (ah1 (L:=L) (B:=B) (g:=g) (sz:=sz) (l:=l) (lv:=lv) (s:=s) t w h hw hl ht)
 have CM:=fun (s:Rd) t (ht:ae9 t=true) w h=>qb (ag5 (L:=L) (B:=B) (g:=g) (sz:=sz) (l:=l) (lv:=lv) (s:=s) t w h hw hl ht)
 have CN:=fun w h=>qb (ah7 (L:=L) (B:=B) (g:=g) (sz:=sz) (l:=l) (lv:=lv) (s:=s) w h hw hl hx)
 have CAn:=fun s a w h hg=>qb (iAdd_num (L:=L) (B:=B) (g:=g) (sz:=sz) (l:=l) (lv:=lv) (s:=s) a w h hg hl)
 have CAv:=fun s a w h hg=>qb (iAdd_var (L:=L) (B:=B) (g:=g) (sz:=sz) (l:=l) (lv:=lv) (s:=s) a w h hg hl)
 have CAt:=fun s a w h hg=>qb (iAdd_not (L:=L) (B:=B) (g:=g) (sz:=sz) (l:=l) (lv:=lv) (s:=s) a w h hg hl)
 have CAm:=fun s a w h hg=>qb (iAdd_neg (L:=L) (B:=B) (g:=g) (sz:=sz) (l:=l) (lv:=lv) (s:=s) a w h hg hl)
 obtain⟨R,hR⟩:∃ R,R=Rd.factorW l val fac s:=⟨_,rfl⟩
 rw[←hR]
 have hnx:s.next l=l[s.pos]? := by unfold Rd.next;rw[hfb];rfl
 have hk2:(sgAt sz l s).kind=2→∃ (hlt:s.pos<l.length),sgAt sz l s=l[s.pos]:=fun e=>by
  unfold sgAt at e ⊢
  cases hq:l[s.pos]? with
  | none=>rw[hq]at e;exact absurd e (by show ¬ (0:Int)=2;decide)
  | some x =>
   obtain⟨hlt,e2⟩:=List.getElem?_eq_some_iff.1 hq
   exact⟨hlt,e2.symm⟩
 have hRn:(sgAt sz l s).kind≠2→s.isQ l (tx "(")=false→s.isQ l (tx "not")=false→s.isQ l (tx "-")=false→R.1=((s.name l).1.put (ndN 2 (s.name l).2 [])).1∧R.2=((s.name l).1.put (ndN 2 (s.name l).2 [])).2:=fun e q1 q2 q3=>by
  rw[hR]
  unfold Rd.factorW
  rw[hnx]
  cases hq:l[s.pos]? with
  | none =>
   have e2:s.nameQ l=none:=by unfold Rd.nameQ;rw[hnx,hq]
   have e3:s.name l=(s.wrong,ByteArray.empty):=by unfold Rd.name;rw[e2]
   rw[e3]
   simp[Rd.put,Rd.wrong]
  | some x =>
   have e2:x.kind≠2:=by unfold sgAt at e;rw[hq]at e;exact e
   simp only[if_neg e2,q1,q2,q3,Bool.false_eq_true,if_false,and_self]
 have hRw:∀ t,s.isQ l t=true→∃ x,s.next l=some x∧x.kind≠2∧s.pos<l.length:=fun t hq=>by
  have hlt:=Rd.isQ_lt hq
  refine⟨l[s.pos],by rw[hnx];exact List.getElem?_eq_getElem hlt,?_,hlt⟩
  unfold Rd.isQ at hq
  rw[hnx,List.getElem?_eq_getElem hlt]at hq
  simp at hq
  exact hq.2
 obtain⟨x,ex⟩:∃ x,sgAt sz l s=x:=⟨_,rfl⟩
 rw[ex]at CS hk2 hRn
 by_cases hk:x.kind=2
 ·
  obtain⟨hlt,e2⟩:=hk2 hk
  have HR:Hid (R=s.on.put (ndK 1 x.num [])):=by
   show _=_
   rw[hR]
   unfold Rd.factorW
   rw[hnx,List.getElem?_eq_getElem hlt,←e2]
   simp only[hk,if_true]
  have C1:=fun w h=>CAn s.on x.num w h hgood.on
  have hwr:wrap64 ((s.pos:Int)+1)=(s.pos:Int)+1:=IntWalk.wrap64_in _ (by omega)
  have hbp:(s.on.put (ndK 1 x.num [])).1.bad=false:=by rw[Rd.put_ok (show s.on.bad=false from hfb)];exact hfb
  rw[hk]at CS
  clear CT CM CN CAv CAt CAm hRn hRw hk2 e2 ex hnx hR CAn hv hf h hO hk
  go_enter Tryz.func144,Tryz.ntmps144
  go_wp2_with (first
   | (go_at_call 96;refine(qa CS).mono ?_;rintro e w1⟨rfl,he⟩;have K1:=qb (he.new (.cells #[.int .i64 2,.string x.text,.int .i64 x.num,.int .i64 x.place] 48));have hg1:=he.at'.boxLt;have K2:=qb ((he.then' (IEnd.on he.at' hlt)).new (.cells #[.int .i64 2,.string x.text,.int .i64 x.num,.int .i64 x.place] 48));obtain⟨nv,c0,c1,c2,c3,f⟩:=K1.out.at'.cells;have f1:=f 1;clear he)
   | (go_at_call 122;refine(qa (C1 _ K2.out.at')).mono ?_;rintro e w4⟨rfl,he⟩;have K4:=qb (K2.out.then' he);clear he))
  go_ret
  rw[HR.out]
  exact .inl ⟨hbp,rfl,K4.out⟩
 ·have HV:=qb hv
  have HF:=qb hf
  have T1:=CT ⟨#[40]⟩ bb_.1
  have T2:=CT ⟨#[110,111,116]⟩ bb_.2.2.1
  have T3:=CT ⟨#[45]⟩ bb_.2.2.2
  have hkb:(x.kind == 2)=false:=by simp[hk]
  have hpo:s.on.pos=s.pos+1:=rfl
  rw[tx2.1,tx2.2.2,tx1m]at hRn
  clear CT hv hf
  cases q1:s.isQ l ⟨#[40]⟩ with
  | true =>
   obtain⟨y,hy,hyk,hlt⟩:=hRw _ q1
   have HR:Hid (R=((val s.on).1.must l ⟨#[41]⟩,(val s.on).2)):=by
    show _=_
    rw[hR]
    unfold Rd.factorW
    rw[hy,tx2.1,tx2.2.1]
    simp only[if_neg hyk,q1,if_true]
   have C2:=fun w h hO=>qb (HV.out.run s.on w (by omega) h hO)
   obtain⟨v,hv⟩:∃ v,v=val s.on:=⟨_,rfl⟩
   rw[←hv]at HR C2
   have C3:=CM v.1 ⟨#[41]⟩ bb_.2.1
   obtain⟨m,hm⟩:∃ m,m=v.1.must l ⟨#[41]⟩:=⟨_,rfl⟩
   have hmb:v.1.bad=true→m.At v.1.pos:=fun hb=>by rw[hm];exact Rd.At.must l ⟨hb,rfl⟩ _
   rw[←hm]at HR C3
   rw[q1,show s.may l ⟨#[40]⟩=s.on from by simp[Rd.may,q1]]at T1
   clear CM CN CAn CAv CAt CAm hRn hRw hk2 ex hnx hR h hO hv hm T2 T3 hy
   cases hb:v.1.bad with
   | true =>
    have C4:=fun w h hO=>qb (IOut.no hb (qa (C2 w h hO)))
    have HA:=qb (show R.1.At v.1.pos from by rw[HR.out];exact hmb hb)
    clear C2 C3
    go_enter Tryz.func144,Tryz.ntmps144
    go_wp2_with (first
     | (go_at_call 96;refine(qa CS).mono ?_;rintro e w1⟨rfl,he⟩;have K1:=qb (he.new (.cells #[.int .i64 x.kind,.string x.text,.int .i64 x.num,.int .i64 x.place] 48));clear he CS)
     | (go_at_call 74;refine(qa (T1 _ K1.out.at')).mono ?_;rintro e w2⟨rfl,he⟩;have K2:=qb (K1.out.then' he);clear he T1)
     | (go_at_call 134;refine(qa (C4 _ K2.out.at' (HO.out.stays K2.out.bel HB.out))).mono ?_;rintro e w3⟨rfl,he⟩;have K3:=qb (K2.out.lost he);clear he))
    exact⟨rfl,IOut.lost K3.out HA.out⟩
   | false =>
    have C4:=fun w h hO=>qb (IOut.yes hb (qa (C2 w h hO)))
    clear C2
    cases hb2:m.bad with
    | true =>
     have C5:=fun w h=>qb (IOut.no hb2 (qa (C3 w h)))
     have HA:=qb (show R.1.At m.pos from by rw[HR.out];exact⟨hb2,rfl⟩)
     go_enter Tryz.func144,Tryz.ntmps144
     go_wp2_with (first
      | (go_at_call 96;refine(qa CS).mono ?_;rintro e w1⟨rfl,he⟩;have K1:=qb (he.new (.cells #[.int .i64 x.kind,.string x.text,.int .i64 x.num,.int .i64 x.place] 48));clear he CS)
      | (go_at_call 74;refine(qa (T1 _ K1.out.at')).mono ?_;rintro e w2⟨rfl,he⟩;have K2:=qb (K1.out.then' he);clear he T1)
      | (go_at_call 134;refine(qa (C4 _ K2.out.at' (HO.out.stays K2.out.bel HB.out))).mono ?_;rintro e w3⟨rfl,he⟩;have K3:=qb (K2.out.then' he);clear he)
      | (go_at_call 77;refine(qa (C5 _ K3.out.at')).mono ?_;rintro e w4⟨rfl,he⟩;have K4:=qb (K3.out.lost he);clear he))
     exact⟨rfl,IOut.lost K4.out HA.out⟩
    | false =>
     have C5:=fun w h=>qb (IOut.yes hb2 (qa (C3 w h)))
     go_enter Tryz.func144,Tryz.ntmps144
     go_wp2_with (first
      | (go_at_call 96;refine(qa CS).mono ?_;rintro e w1⟨rfl,he⟩;have K1:=qb (he.new (.cells #[.int .i64 x.kind,.string x.text,.int .i64 x.num,.int .i64 x.place] 48));clear he CS)
      | (go_at_call 74;refine(qa (T1 _ K1.out.at')).mono ?_;rintro e w2⟨rfl,he⟩;have K2:=qb (K1.out.then' he);clear he T1)
      | (go_at_call 134;refine(qa (C4 _ K2.out.at' (HO.out.stays K2.out.bel HB.out))).mono ?_;rintro e w3⟨rfl,he⟩;have K3:=qb (K2.out.then' he);clear he)
      | (go_at_call 77;refine(qa (C5 _ K3.out.at')).mono ?_;rintro e w4⟨rfl,he⟩;have K4:=qb (K3.out.then' he);clear he))
     go_ret
     rw[HR.out]
     exact .inl ⟨hb2,rfl,K4.out⟩
  | false =>
   cases q2:s.isQ l ⟨#[110,111,116]⟩ with
   | true =>
    obtain⟨y,hy,hyk,hlt⟩:=hRw _ q2
    have HR:Hid (R=(fac s.on).1.put (ndK 4 0 [(fac s.on).2])):=by
     show _=_
     rw[hR]
     unfold Rd.factorW
     rw[hy,tx2.1,tx2.2.2]
     simp only[if_neg hyk,q1,q2,if_true,Bool.false_eq_true,if_false]
    have C2:=fun w h hO=>qb (HF.out.run s.on w (by omega) h hO)
    have hg1:=HF.out.keeps 1 _ hgood.on
    obtain⟨v,hv⟩:∃ v,v=fac s.on:=⟨_,rfl⟩
    rw[←hv]at HR C2 hg1
    have C3:=fun w h=>CAt v.1 v.2 w h hg1
    rw[q2,show s.may l ⟨#[110,111,116]⟩=s.on from by simp[Rd.may,q2]]at T2
    rw[q1,show s.may l ⟨#[40]⟩=s from by simp[Rd.may,q1]]at T1
    clear CM CN CAn CAv CAt CAm hRn hRw hk2 ex hnx hR h hO hv hy T3
    cases hb:v.1.bad with
    | true =>
     have C4:=fun w h hO=>qb (IOut.no hb (qa (C2 w h hO)))
     have HA:=qb (show R.1.At v.1.pos from by rw[HR.out];exact Rd.At.put ⟨hb,rfl⟩ _)
     clear C2 C3
     go_enter Tryz.func144,Tryz.ntmps144
     go_wp2_with (first
      | (go_at_call 96;refine(qa CS).mono ?_;rintro e w1⟨rfl,he⟩;have K1:=qb (he.new (.cells #[.int .i64 x.kind,.string x.text,.int .i64 x.num,.int .i64 x.place] 48));clear he CS)
      | (go_at_call 74;refine(qa (T1 _ K1.out.at')).mono ?_;rintro e w2⟨rfl,he⟩;have K2:=qb (K1.out.then' he);clear he T1)
      | (go_at_call 74;refine(qa (T2 _ K2.out.at')).mono ?_;rintro e w3⟨rfl,he⟩;have K3:=qb (K2.out.then' he);clear he T2)
      | (go_at_call 144;refine(qa (C4 _ K3.out.at' (HO.out.stays K3.out.bel HB.out))).mono ?_;rintro e w4⟨rfl,he⟩;have K4:=qb (K3.out.lost he);clear he))
     exact⟨rfl,IOut.lost K4.out HA.out⟩
    | false =>
     have C4:=fun w h hO=>qb (IOut.yes hb (qa (C2 w h hO)))
     have hbp:(v.1.put (ndK 4 0 [v.2])).1.bad=false:=by rw[Rd.put_ok hb];exact hb
     clear C2
     go_enter Tryz.func144,Tryz.ntmps144
     go_wp2_with (first
      | (go_at_call 96;refine(qa CS).mono ?_;rintro e w1⟨rfl,he⟩;have K1:=qb (he.new (.cells #[.int .i64 x.kind,.string x.text,.int .i64 x.num,.int .i64 x.place] 48));clear he CS)
      | (go_at_call 74;refine(qa (T1 _ K1.out.at')).mono ?_;rintro e w2⟨rfl,he⟩;have K2:=qb (K1.out.then' he);clear he T1)
      | (go_at_call 74;refine(qa (T2 _ K2.out.at')).mono ?_;rintro e w3⟨rfl,he⟩;have K3:=qb (K2.out.then' he);clear he T2)
      | (go_at_call 144;refine(qa (C4 _ K3.out.at' (HO.out.stays K3.out.bel HB.out))).mono ?_;rintro e w4⟨rfl,he⟩;have K4:=qb (K3.out.then' he);clear he)
      | (go_at_call 122;refine(qa (C3 _ K4.out.at')).mono ?_;rintro e w5⟨rfl,he⟩;have K5:=qb (K4.out.then' he);clear he))
     go_ret
     rw[HR.out]
     exact .inl ⟨hbp,rfl,K5.out⟩
   | false =>
    cases q3:s.isQ l ⟨#[45]⟩ with
    | true =>
     obtain⟨y,hy,hyk,hlt⟩:=hRw _ q3
     have HR:Hid (R=(fac s.on).1.put (ndK 5 0 [(fac s.on).2])):=by
      show _=_
      rw[hR]
      unfold Rd.factorW
      rw[hy,tx2.1,tx2.2.2,tx1m]
      simp only[if_neg hyk,q1,q2,q3,if_true,Bool.false_eq_true,if_false]
     have C2:=fun w h hO=>qb (HF.out.run s.on w (by omega) h hO)
     have hg1:=HF.out.keeps 1 _ hgood.on
     obtain⟨v,hv⟩:∃ v,v=fac s.on:=⟨_,rfl⟩
     rw[←hv]at HR C2 hg1
     have C3:=fun w h=>CAm v.1 v.2 w h hg1
     rw[q3,show s.may l ⟨#[45]⟩=s.on from by simp[Rd.may,q3]]at T3
     rw[q1,show s.may l ⟨#[40]⟩=s from by simp[Rd.may,q1]]at T1
     rw[q2,show s.may l ⟨#[110,111,116]⟩=s from by simp[Rd.may,q2]]at T2
     clear CM CN CAn CAv CAt CAm hRn hRw hk2 ex hnx hR h hO hv hy
     cases hb:v.1.bad with
     | true =>
      have C4:=fun w h hO=>qb (IOut.no hb (qa (C2 w h hO)))
      have HA:=qb (show R.1.At v.1.pos from by rw[HR.out];exact Rd.At.put ⟨hb,rfl⟩ _)
      clear C2 C3
      go_enter Tryz.func144,Tryz.ntmps144
      go_wp2_with (first
       | (go_at_call 96;refine(qa CS).mono ?_;rintro e w1⟨rfl,he⟩;have K1:=qb (he.new (.cells #[.int .i64 x.kind,.string x.text,.int .i64 x.num,.int .i64 x.place] 48));clear he CS)
       | (go_at_call 74;refine(qa (T1 _ K1.out.at')).mono ?_;rintro e w2⟨rfl,he⟩;have K2:=qb (K1.out.then' he);clear he T1)
       | (go_at_call 74;refine(qa (T2 _ K2.out.at')).mono ?_;rintro e w3⟨rfl,he⟩;have K3:=qb (K2.out.then' he);clear he T2)
       | (go_at_call 74;refine(qa (T3 _ K3.out.at')).mono ?_;rintro e w4⟨rfl,he⟩;have K4:=qb (K3.out.then' he);clear he T3)
       | (go_at_call 144;refine(qa (C4 _ K4.out.at' (HO.out.stays K4.out.bel HB.out))).mono ?_;rintro e w5⟨rfl,he⟩;have K5:=qb (K4.out.lost he);clear he))
      exact⟨rfl,IOut.lost K5.out HA.out⟩
     | false =>
      have C4:=fun w h hO=>qb (IOut.yes hb (qa (C2 w h hO)))
      have hbp:(v.1.put (ndK 5 0 [v.2])).1.bad=false:=by rw[Rd.put_ok hb];exact hb
      clear C2
      go_enter Tryz.func144,Tryz.ntmps144
      go_wp2_with (first
       | (go_at_call 96;refine(qa CS).mono ?_;rintro e w1⟨rfl,he⟩;have K1:=qb (he.new (.cells #[.int .i64 x.kind,.string x.text,.int .i64 x.num,.int .i64 x.place] 48));clear he CS)
       | (go_at_call 74;refine(qa (T1 _ K1.out.at')).mono ?_;rintro e w2⟨rfl,he⟩;have K2:=qb (K1.out.then' he);clear he T1)
       | (go_at_call 74;refine(qa (T2 _ K2.out.at')).mono ?_;rintro e w3⟨rfl,he⟩;have K3:=qb (K2.out.then' he);clear he T2)
       | (go_at_call 74;refine(qa (T3 _ K3.out.at')).mono ?_;rintro e w4⟨rfl,he⟩;have K4:=qb (K3.out.then' he);clear he T3)
       | (go_at_call 144;refine(qa (C4 _ K4.out.at' (HO.out.stays K4.out.bel HB.out))).mono ?_;rintro e w5⟨rfl,he⟩;have K5:=qb (K4.out.then' he);clear he)
       | (go_at_call 122;refine(qa (C3 _ K5.out.at')).mono ?_;rintro e w6⟨rfl,he⟩;have K6:=qb (K5.out.then' he);clear he))
      go_ret
      rw[HR.out]
      exact .inl ⟨hbp,rfl,K6.out⟩
    | false =>
     have HR:=qb (hRn hk q1 q2 q3)
     have C2:=CN
     have hg1:=hgood.name1 l
     obtain⟨v,hv⟩:∃ v,v=s.name l:=⟨_,rfl⟩
     rw[←hv]at HR C2 hg1
     rw[q1,show s.may l ⟨#[40]⟩=s from by simp[Rd.may,q1]]at T1
     rw[q2,show s.may l ⟨#[110,111,116]⟩=s from by simp[Rd.may,q2]]at T2
     rw[q3,show s.may l ⟨#[45]⟩=s from by simp[Rd.may,q3]]at T3
     cases hb:v.1.bad with
     | true =>
      have C4:=fun w h=>qb (IOut.no hb (qa (C2 w h)))
      have HA:=qb (show R.1.At v.1.pos from by rw[HR.out.1];exact Rd.At.put ⟨hb,rfl⟩ _)
      clear C2 CM CN CAn CAv CAt CAm hRn hRw hk2 ex hnx hR h hO hv
      go_enter Tryz.func144,Tryz.ntmps144
      go_wp2_with (first
       | (go_at_call 96;refine(qa CS).mono ?_;rintro e w1⟨rfl,he⟩;have K1:=qb (he.new (.cells #[.int .i64 x.kind,.string x.text,.int .i64 x.num,.int .i64 x.place] 48));clear he CS)
       | (go_at_call 74;refine(qa (T1 _ K1.out.at')).mono ?_;rintro e w2⟨rfl,he⟩;have K2:=qb (K1.out.then' he);clear he T1)
       | (go_at_call 74;refine(qa (T2 _ K2.out.at')).mono ?_;rintro e w3⟨rfl,he⟩;have K3:=qb (K2.out.then' he);clear he T2)
       | (go_at_call 74;refine(qa (T3 _ K3.out.at')).mono ?_;rintro e w4⟨rfl,he⟩;have K4:=qb (K3.out.then' he);clear he T3)
       | (go_at_call 97;refine(qa (C4 _ K4.out.at')).mono ?_;rintro e w5⟨rfl,he⟩;have K5:=qb (K4.out.lost he);clear he))
      exact⟨rfl,IOut.lost K5.out HA.out⟩
     | false =>
      have C4:=fun w h=>qb (IOut.yes hb (qa (C2 w h)))
      have C3:=fun w h=>CAv v.1 v.2 w h (hg1 hb)
      have hbp:(v.1.put (ndN 2 v.2 [])).1.bad=false:=by rw[Rd.put_ok hb];exact hb
      clear C2 CM CN CAn CAv CAt CAm hRn hRw hk2 ex hnx hR h hO hv
      go_enter Tryz.func144,Tryz.ntmps144
      go_wp2_with (first
       | (go_at_call 96;refine(qa CS).mono ?_;rintro e w1⟨rfl,he⟩;have K1:=qb (he.new (.cells #[.int .i64 x.kind,.string x.text,.int .i64 x.num,.int .i64 x.place] 48));clear he CS)
       | (go_at_call 74;refine(qa (T1 _ K1.out.at')).mono ?_;rintro e w2⟨rfl,he⟩;have K2:=qb (K1.out.then' he);clear he T1)
       | (go_at_call 74;refine(qa (T2 _ K2.out.at')).mono ?_;rintro e w3⟨rfl,he⟩;have K3:=qb (K2.out.then' he);clear he T2)
       | (go_at_call 74;refine(qa (T3 _ K3.out.at')).mono ?_;rintro e w4⟨rfl,he⟩;have K4:=qb (K3.out.then' he);clear he T3)
       | (go_at_call 97;refine(qa (C4 _ K4.out.at')).mono ?_;rintro e w5⟨rfl,he⟩;have K5:=qb (K4.out.then' he);clear he)
       | (go_at_call 122;refine(qa (C3 _ K5.out.at')).mono ?_;rintro e w6⟨rfl,he⟩;have K6:=qb (K5.out.then' he);clear he))
      go_ret
      rw[HR.out.1,HR.out.2]
      exact .inl ⟨hbp,rfl,K6.out⟩
theorem aP1 {L:Nat→Prop}{B g:Nat}{sz:Int}{l:List Sg}{lv:Value}(hw:ag8 l) (hl:l.length≤1048576) (hx:∀ x∈l,x.text.size≤1048576) (hB:3<B):∀ n,IWay L B g sz l lv 134 (Rd.deepV l n).1 n∧IWay L B g sz l lv 144 (Rd.deepV l n).2 n
 | 0=>⟨⟨fun _ _ h=>absurd h (Nat.not_lt_zero _),(Rd.deepV_pos l 0).1,(Rd.Keeps.deepV l 0).1,(Rd.Stays.deepV 0).1⟩,⟨fun _ _ h=>absurd h (Nat.not_lt_zero _),(Rd.deepV_pos l 0).2,(Rd.Keeps.deepV l 0).2,(Rd.Stays.deepV 0).2⟩⟩
 | n+1=>by
  have ih:=aP1 (L:=L) (B:=B) (g:=g) (sz:=sz) (lv:=lv) hw hl hx hB n
  have hf:IWay L B g sz l lv 144 (Rd.deepV l (n+1)).2 (n+1):=⟨fun s w hn h hO=>aU4 _ _ ih.1 ih.2 hw hl hx hB s w hn h hO,(Rd.deepV_pos l (n+1)).2,(Rd.Keeps.deepV l (n+1)).2,(Rd.Stays.deepV (n+1)).2⟩
  exact⟨hf.value hw hl hB,hf⟩
theorem am1 {L:Nat→Prop}{B g:Nat}{sz:Int}{l:List Sg}{lv:Value}(s:Rd) (w:World) (h:IAt L B g sz l lv s w) (hO:ak5 w) (hw:ag8 l) (hl:l.length≤1048576) (hx:∀ x∈l,x.text.size≤1048576) (hB:3<B) :
  Calls Tryz.prog 134 #[.pointer (some ⟨g,0,none⟩)] w (IOut L B g sz l lv (s.value l).1 (.int .i64 (s.value l).2) w) :=
 (aP1 hw hl hx hB (l.length+1)).1.run s w (by omega) h hO
theorem iAdd_set {L:Nat→Prop}{B g:Nat}{sz:Int}{l:List Sg}{lv:Value}{s:Rd}(nm:ByteArray) (a:Int) (w:World) (h:IAt L B g sz l lv s w) (hg:s.Good 1) (hl:l.length≤1048576) :
  Calls Tryz.prog 122 #[.pointer (some ⟨g,0,none⟩),.iface 143 (.agg #[.string nm,.int .i64 a])] w fun e w'=>e=.returned (.int .i64 (s.put ⟨11,0,nm,ByteArray.empty,ByteArray.empty,[a]⟩).2)∧IEnd L B g sz l lv (s.put ⟨11,0,nm,ByteArray.empty,ByteArray.empty,[a]⟩).1 w w':=by
 have CN:=fun w=>qb (aX8 nm a w)
 obtain⟨x,hx⟩:∃ x:Nd,x=⟨11,0,nm,ByteArray.empty,ByteArray.empty,[a]⟩:=⟨_,rfl⟩
 have HD:=qb (IEnd.drewN h 1)
 have HP:Hid (AddF L B g sz l lv s x w):=addF h hg
 have hR:(s.put x).2=(s.nodes.length:Int):=by rw[Rd.put_ok h.fine]
 have hnl:s.nodes.length≤1048576:=by have h1:=h.good;have h2:=h.pos;unfold Rd.Good at h1;omega
 have hBw:=h.heap
 obtain⟨nv,hbox,css,n1,n2,n3,n4,n5,n6⟩:=h.box
 obtain⟨ao,cap,e⟩:=ab_ n3
 subst e
 have y3:w.drew.cell? ⟨g,3,none⟩=some (.slice ao s.nodes.length cap):=(chp hbox 3).trans rfl
 have hgl:=hbox.lt
 have HN3:=qb n3
 have HBX:=qb hbox
 have HF:=qb (fun kv v' W1 W2 a8 a9 a10 a11 a12 a13=>HP.out kv v' W1 W2 css _ hbox n1 n2 n3 n4 n5 n6 a8 a9 a10 a11 a12 a13)
 have hwr:wrap64 (((s.nodes.length+1:Nat):Int)-1)=(s.nodes.length:Int):=by rw[show ((s.nodes.length+1:Nat):Int)-1=(s.nodes.length:Int) by omega];exact IntWalk.wrap64_in _ (by omega)
 subst hx
 rw[hR]
 clear hR HP h n1 n2 n3 n4 n5 n6 hbox hg hl
 go_enter Tryz.func122,Tryz.ntmps122
 go_wp2
 go_region_law (first
  | (refine ai2 rfl (.tmp 9) (.tmp 12) 22 rfl B _ 88 Tryz.underlying22 Tryz.infoNd rfl (.slice ao s.nodes.length cap) s.nodes.length css.flatten rfl (HOa.out _) ⟨w5.heap.size,0,none⟩ [.int .i64 11,.int .i64 0,.string nm,.string ByteArray.empty,.string ByteArray.empty,.slice ko 1 kc] rfl rfl (fun j u hj=>ag4 w5 _ _ j u hj) (by intro u hu;simp at hu;rcases hu with rfl|rfl|rfl|rfl|rfl|rfl <;> rfl) (by unfold maxLen;omega) (by omega) HBa.out ?_;intro v' w4 hown4 hb4 hk4 hgr4 hob4;have sh4:=ab_ hown4;obtain⟨ao4,cap4,e4⟩:=sh4;subst e4;have HX4:=qb (hk4.blk g _ _ _ (by decide) (HB5.out _));have k3:=(chp HX4.out 3).trans rfl;have kf:=fhp HX4.out 3;have HE:=qb (HF.out _ _ w5 w4 HK5.out HW5.out hown4 ((((Below.refl B w5).alloc HB6.out _)).trans hb4) (fun b hb hne=>(hgr4 b (by simp;omega) hne).trans (Below.heap_alloc w5 _ b hb)) (hob4.imp id (fun e b hb=>by rw[e]at hb;injection hb with hb;simp at hb;omega)));clear hown4 hb4 hk4 hgr4 hob4)
  | (go_simp;go_invoke;go_upon;go_at_call 169;refine(qa (CN _)).mono ?_;rintro e w5⟨v,rfl,⟨ko,kc,e6,hk⟩,hb⟩;subst e6;have HK5:Hid (w5.ownsRow w.heap.size 3 1 (.slice ko 1 kc) ([a] : List Int).length (([a] : List Int).map I64)):=hk;have HW5:Hid (Below w.heap.size w w5):=(Below.refl w.heap.size w).drew.trans hb;have G5:=addG HN3.out HBX.out HW5.out hBw;obtain⟨HOa,HB6,HBa,HB5,z3,hg5⟩:=G5;clear hk hb))
 all_goals
  go_wp2
  go_ret
  exact⟨rfl,HE.out⟩
theorem iAdd_if {L:Nat→Prop}{B g:Nat}{sz:Int}{l:List Sg}{lv:Value}{s:Rd}(a b c:Int) (w:World) (h:IAt L B g sz l lv s w) (hg:s.Good 1) (hl:l.length≤1048576) :
  Calls Tryz.prog 122 #[.pointer (some ⟨g,0,none⟩),.iface 145 (.agg #[.int .i64 a,.int .i64 b,.int .i64 c])] w fun e w'=>e=.returned (.int .i64 (s.put ⟨12,0,ByteArray.empty,ByteArray.empty,ByteArray.empty,aj2 a b c⟩).2)∧IEnd L B g sz l lv (s.put ⟨12,0,ByteArray.empty,ByteArray.empty,ByteArray.empty,aj2 a b c⟩).1 w w':=by
 have CN:=fun w=>qb (bd_ a b c w)
 obtain⟨x,hx⟩:∃ x:Nd,x=⟨12,0,ByteArray.empty,ByteArray.empty,ByteArray.empty,aj2 a b c⟩:=⟨_,rfl⟩
 have HD:=qb (IEnd.drewN h 1)
 have HP:Hid (AddF L B g sz l lv s x w):=addF h hg
 have hR:(s.put x).2=(s.nodes.length:Int):=by rw[Rd.put_ok h.fine]
 have hnl:s.nodes.length≤1048576:=by have h1:=h.good;have h2:=h.pos;unfold Rd.Good at h1;omega
 have hBw:=h.heap
 obtain⟨nv,hbox,css,n1,n2,n3,n4,n5,n6⟩:=h.box
 obtain⟨ao,cap,e⟩:=ab_ n3
 subst e
 have y3:w.drew.cell? ⟨g,3,none⟩=some (.slice ao s.nodes.length cap):=(chp hbox 3).trans rfl
 have hgl:=hbox.lt
 have HN3:=qb n3
 have HBX:=qb hbox
 have HF:=qb (fun kv v' W1 W2 a8 a9 a10 a11 a12 a13=>HP.out kv v' W1 W2 css _ hbox n1 n2 n3 n4 n5 n6 a8 a9 a10 a11 a12 a13)
 have hwr:wrap64 (((s.nodes.length+1:Nat):Int)-1)=(s.nodes.length:Int):=by rw[show ((s.nodes.length+1:Nat):Int)-1=(s.nodes.length:Int) by omega];exact IntWalk.wrap64_in _ (by omega)
 subst hx
 rw[hR]
 clear hR HP h n1 n2 n3 n4 n5 n6 hbox hg hl
 go_enter Tryz.func122,Tryz.ntmps122
 go_wp2
 go_region_law (first
  | (refine ai2 rfl (.tmp 9) (.tmp 12) 22 rfl B _ 88 Tryz.underlying22 Tryz.infoNd rfl (.slice ao s.nodes.length cap) s.nodes.length css.flatten rfl (HOa.out _) ⟨w5.heap.size,0,none⟩ [.int .i64 12,.int .i64 0,.string ByteArray.empty,.string ByteArray.empty,.string ByteArray.empty,.slice ko (aj2 a b c).length kc] rfl rfl (fun j u hj=>ag4 w5 _ _ j u hj) (by intro u hu;simp at hu;rcases hu with rfl|rfl|rfl|rfl|rfl|rfl <;> rfl) (by unfold maxLen;omega) (by omega) HBa.out ?_;intro v' w4 hown4 hb4 hk4 hgr4 hob4;have sh4:=ab_ hown4;obtain⟨ao4,cap4,e4⟩:=sh4;subst e4;have HX4:=qb (hk4.blk g _ _ _ (by decide) (HB5.out _));have k3:=(chp HX4.out 3).trans rfl;have kf:=fhp HX4.out 3;have HE:=qb (HF.out _ _ w5 w4 HK5.out HW5.out hown4 ((((Below.refl B w5).alloc HB6.out _)).trans hb4) (fun b hb hne=>(hgr4 b (by simp;omega) hne).trans (Below.heap_alloc w5 _ b hb)) (hob4.imp id (fun e b hb=>by rw[e]at hb;injection hb with hb;simp at hb;omega)));clear hown4 hb4 hk4 hgr4 hob4)
  | (go_simp;go_invoke;go_upon;go_at_call 170;refine(qa (CN _)).mono ?_;rintro e w5⟨v,rfl,⟨ko,kc,e6,hk⟩,hb⟩;subst e6;have HK5:Hid (w5.ownsRow w.heap.size 3 1 (.slice ko (aj2 a b c).length kc) (aj2 a b c:List Int).length ((aj2 a b c:List Int).map I64)):=hk;have HW5:Hid (Below w.heap.size w w5):=(Below.refl w.heap.size w).drew.trans hb;have G5:=addG HN3.out HBX.out HW5.out hBw;obtain⟨HOa,HB6,HBa,HB5,z3,hg5⟩:=G5;clear hk hb))
 all_goals
  go_wp2
  go_ret
  exact⟨rfl,HE.out⟩
theorem bc6 {L:Nat→Prop}{B g:Nat}{sz:Int}{l:List Sg}{lv:Value}{s:Rd}(a b:Int) (w:World) (h:IAt L B g sz l lv s w) (hg:s.Good 1) (hl:l.length≤1048576) :
  Calls Tryz.prog 122 #[.pointer (some ⟨g,0,none⟩),.iface 147 (.agg #[.int .i64 a,.int .i64 b])] w fun e w'=>e=.returned (.int .i64 (s.put ⟨13,0,ByteArray.empty,ByteArray.empty,ByteArray.empty,[a,b]⟩).2)∧IEnd L B g sz l lv (s.put ⟨13,0,ByteArray.empty,ByteArray.empty,ByteArray.empty,[a,b]⟩).1 w w':=by
 have CN:=fun w=>qb (aM8 a b w)
 obtain⟨x,hx⟩:∃ x:Nd,x=⟨13,0,ByteArray.empty,ByteArray.empty,ByteArray.empty,[a,b]⟩:=⟨_,rfl⟩
 have HD:=qb (IEnd.drewN h 1)
 have HP:Hid (AddF L B g sz l lv s x w):=addF h hg
 have hR:(s.put x).2=(s.nodes.length:Int):=by rw[Rd.put_ok h.fine]
 have hnl:s.nodes.length≤1048576:=by have h1:=h.good;have h2:=h.pos;unfold Rd.Good at h1;omega
 have hBw:=h.heap
 obtain⟨nv,hbox,css,n1,n2,n3,n4,n5,n6⟩:=h.box
 obtain⟨ao,cap,e⟩:=ab_ n3
 subst e
 have y3:w.drew.cell? ⟨g,3,none⟩=some (.slice ao s.nodes.length cap):=(chp hbox 3).trans rfl
 have hgl:=hbox.lt
 have HN3:=qb n3
 have HBX:=qb hbox
 have HF:=qb (fun kv v' W1 W2 a8 a9 a10 a11 a12 a13=>HP.out kv v' W1 W2 css _ hbox n1 n2 n3 n4 n5 n6 a8 a9 a10 a11 a12 a13)
 have hwr:wrap64 (((s.nodes.length+1:Nat):Int)-1)=(s.nodes.length:Int):=by rw[show ((s.nodes.length+1:Nat):Int)-1=(s.nodes.length:Int) by omega];exact IntWalk.wrap64_in _ (by omega)
 subst hx
 rw[hR]
 clear hR HP h n1 n2 n3 n4 n5 n6 hbox hg hl
 go_enter Tryz.func122,Tryz.ntmps122
 go_wp2
 go_region_law (first
  | (refine ai2 rfl (.tmp 9) (.tmp 12) 22 rfl B _ 88 Tryz.underlying22 Tryz.infoNd rfl (.slice ao s.nodes.length cap) s.nodes.length css.flatten rfl (HOa.out _) ⟨w5.heap.size,0,none⟩ [.int .i64 13,.int .i64 0,.string ByteArray.empty,.string ByteArray.empty,.string ByteArray.empty,.slice ko 2 kc] rfl rfl (fun j u hj=>ag4 w5 _ _ j u hj) (by intro u hu;simp at hu;rcases hu with rfl|rfl|rfl|rfl|rfl|rfl <;> rfl) (by unfold maxLen;omega) (by omega) HBa.out ?_;intro v' w4 hown4 hb4 hk4 hgr4 hob4;have sh4:=ab_ hown4;obtain⟨ao4,cap4,e4⟩:=sh4;subst e4;have HX4:=qb (hk4.blk g _ _ _ (by decide) (HB5.out _));have k3:=(chp HX4.out 3).trans rfl;have kf:=fhp HX4.out 3;have HE:=qb (HF.out _ _ w5 w4 HK5.out HW5.out hown4 ((((Below.refl B w5).alloc HB6.out _)).trans hb4) (fun b hb hne=>(hgr4 b (by simp;omega) hne).trans (Below.heap_alloc w5 _ b hb)) (hob4.imp id (fun e b hb=>by rw[e]at hb;injection hb with hb;simp at hb;omega)));clear hown4 hb4 hk4 hgr4 hob4)
  | (go_simp;go_invoke;go_upon;go_at_call 171;refine(qa (CN _)).mono ?_;rintro e w5⟨v,rfl,⟨ko,kc,e6,hk⟩,hb⟩;subst e6;have HK5:Hid (w5.ownsRow w.heap.size 3 1 (.slice ko 2 kc) ([a,b] : List Int).length (([a,b] : List Int).map I64)):=hk;have HW5:Hid (Below w.heap.size w w5):=(Below.refl w.heap.size w).drew.trans hb;have G5:=addG HN3.out HBX.out HW5.out hBw;obtain⟨HOa,HB6,HBa,HB5,z3,hg5⟩:=G5;clear hk hb))
 all_goals
  go_wp2
  go_ret
  exact⟨rfl,HE.out⟩
theorem bi3 {L:Nat→Prop}{B g:Nat}{sz:Int}{l:List Sg}{lv:Value}{s:Rd}(nm mo it:ByteArray) (a:Int) (w:World) (h:IAt L B g sz l lv s w) (hg:s.Good 1) (hl:l.length≤1048576) :
  Calls Tryz.prog 122 #[.pointer (some ⟨g,0,none⟩),.iface 149 (.agg #[.string nm,.string mo,.string it,.int .i64 a])] w fun e w'=>e=.returned (.int .i64 (s.put ⟨14,0,nm,mo,it,[a]⟩).2)∧IEnd L B g sz l lv (s.put ⟨14,0,nm,mo,it,[a]⟩).1 w w':=by
 have CN:=fun w=>qb (aN9 nm mo it a w)
 obtain⟨x,hx⟩:∃ x:Nd,x=⟨14,0,nm,mo,it,[a]⟩:=⟨_,rfl⟩
 have HD:=qb (IEnd.drewN h 1)
 have HP:Hid (AddF L B g sz l lv s x w):=addF h hg
 have hR:(s.put x).2=(s.nodes.length:Int):=by rw[Rd.put_ok h.fine]
 have hnl:s.nodes.length≤1048576:=by have h1:=h.good;have h2:=h.pos;unfold Rd.Good at h1;omega
 have hBw:=h.heap
 obtain⟨nv,hbox,css,n1,n2,n3,n4,n5,n6⟩:=h.box
 obtain⟨ao,cap,e⟩:=ab_ n3
 subst e
 have y3:w.drew.cell? ⟨g,3,none⟩=some (.slice ao s.nodes.length cap):=(chp hbox 3).trans rfl
 have hgl:=hbox.lt
 have HN3:=qb n3
 have HBX:=qb hbox
 have HF:=qb (fun kv v' W1 W2 a8 a9 a10 a11 a12 a13=>HP.out kv v' W1 W2 css _ hbox n1 n2 n3 n4 n5 n6 a8 a9 a10 a11 a12 a13)
 have hwr:wrap64 (((s.nodes.length+1:Nat):Int)-1)=(s.nodes.length:Int):=by rw[show ((s.nodes.length+1:Nat):Int)-1=(s.nodes.length:Int) by omega];exact IntWalk.wrap64_in _ (by omega)
 subst hx
 rw[hR]
 clear hR HP h n1 n2 n3 n4 n5 n6 hbox hg hl
 go_enter Tryz.func122,Tryz.ntmps122
 go_wp2
 go_region_law (first
  | (refine ai2 rfl (.tmp 9) (.tmp 12) 22 rfl B _ 88 Tryz.underlying22 Tryz.infoNd rfl (.slice ao s.nodes.length cap) s.nodes.length css.flatten rfl (HOa.out _) ⟨w5.heap.size,0,none⟩ [.int .i64 14,.int .i64 0,.string nm,.string mo,.string it,.slice ko 1 kc] rfl rfl (fun j u hj=>ag4 w5 _ _ j u hj) (by intro u hu;simp at hu;rcases hu with rfl|rfl|rfl|rfl|rfl|rfl <;> rfl) (by unfold maxLen;omega) (by omega) HBa.out ?_;intro v' w4 hown4 hb4 hk4 hgr4 hob4;have sh4:=ab_ hown4;obtain⟨ao4,cap4,e4⟩:=sh4;subst e4;have HX4:=qb (hk4.blk g _ _ _ (by decide) (HB5.out _));have k3:=(chp HX4.out 3).trans rfl;have kf:=fhp HX4.out 3;have HE:=qb (HF.out _ _ w5 w4 HK5.out HW5.out hown4 ((((Below.refl B w5).alloc HB6.out _)).trans hb4) (fun b hb hne=>(hgr4 b (by simp;omega) hne).trans (Below.heap_alloc w5 _ b hb)) (hob4.imp id (fun e b hb=>by rw[e]at hb;injection hb with hb;simp at hb;omega)));clear hown4 hb4 hk4 hgr4 hob4)
  | (go_simp;go_invoke;go_upon;go_at_call 172;refine(qa (CN _)).mono ?_;rintro e w5⟨v,rfl,⟨ko,kc,e6,hk⟩,hb⟩;subst e6;have HK5:Hid (w5.ownsRow w.heap.size 3 1 (.slice ko 1 kc) ([a] : List Int).length (([a] : List Int).map I64)):=hk;have HW5:Hid (Below w.heap.size w w5):=(Below.refl w.heap.size w).drew.trans hb;have G5:=addG HN3.out HBX.out HW5.out hBw;obtain⟨HOa,HB6,HBa,HB5,z3,hg5⟩:=G5;clear hk hb))
 all_goals
  go_wp2
  go_ret
  exact⟨rfl,HE.out⟩
theorem bc4 {L:Nat→Prop}{B g:Nat}{sz:Int}{l:List Sg}{lv:Value}{s:Rd}(a:Int) (w:World) (h:IAt L B g sz l lv s w) (hg:s.Good 1) (hl:l.length≤1048576) :
  Calls Tryz.prog 122 #[.pointer (some ⟨g,0,none⟩),.iface 151 (.agg #[.int .i64 a])] w fun e w'=>e=.returned (.int .i64 (s.put ⟨15,0,ByteArray.empty,ByteArray.empty,ByteArray.empty,[a]⟩).2)∧IEnd L B g sz l lv (s.put ⟨15,0,ByteArray.empty,ByteArray.empty,ByteArray.empty,[a]⟩).1 w w':=by
 have CN:=fun w=>qb (aM_ a w)
 obtain⟨x,hx⟩:∃ x:Nd,x=⟨15,0,ByteArray.empty,ByteArray.empty,ByteArray.empty,[a]⟩:=⟨_,rfl⟩
 have HD:=qb (IEnd.drewN h 1)
 have HP:Hid (AddF L B g sz l lv s x w):=addF h hg
 have hR:(s.put x).2=(s.nodes.length:Int):=by rw[Rd.put_ok h.fine]
 have hnl:s.nodes.length≤1048576:=by have h1:=h.good;have h2:=h.pos;unfold Rd.Good at h1;omega
 have hBw:=h.heap
 obtain⟨nv,hbox,css,n1,n2,n3,n4,n5,n6⟩:=h.box
 obtain⟨ao,cap,e⟩:=ab_ n3
 subst e
 have y3:w.drew.cell? ⟨g,3,none⟩=some (.slice ao s.nodes.length cap):=(chp hbox 3).trans rfl
 have hgl:=hbox.lt
 have HN3:=qb n3
 have HBX:=qb hbox
 have HF:=qb (fun kv v' W1 W2 a8 a9 a10 a11 a12 a13=>HP.out kv v' W1 W2 css _ hbox n1 n2 n3 n4 n5 n6 a8 a9 a10 a11 a12 a13)
 have hwr:wrap64 (((s.nodes.length+1:Nat):Int)-1)=(s.nodes.length:Int):=by rw[show ((s.nodes.length+1:Nat):Int)-1=(s.nodes.length:Int) by omega];exact IntWalk.wrap64_in _ (by omega)
 subst hx
 rw[hR]
 clear hR HP h n1 n2 n3 n4 n5 n6 hbox hg hl
 go_enter Tryz.func122,Tryz.ntmps122
 go_wp2
 go_region_law (first
  | (refine ai2 rfl (.tmp 9) (.tmp 12) 22 rfl B _ 88 Tryz.underlying22 Tryz.infoNd rfl (.slice ao s.nodes.length cap) s.nodes.length css.flatten rfl (HOa.out _) ⟨w5.heap.size,0,none⟩ [.int .i64 15,.int .i64 0,.string ByteArray.empty,.string ByteArray.empty,.string ByteArray.empty,.slice ko 1 kc] rfl rfl (fun j u hj=>ag4 w5 _ _ j u hj) (by intro u hu;simp at hu;rcases hu with rfl|rfl|rfl|rfl|rfl|rfl <;> rfl) (by unfold maxLen;omega) (by omega) HBa.out ?_;intro v' w4 hown4 hb4 hk4 hgr4 hob4;have sh4:=ab_ hown4;obtain⟨ao4,cap4,e4⟩:=sh4;subst e4;have HX4:=qb (hk4.blk g _ _ _ (by decide) (HB5.out _));have k3:=(chp HX4.out 3).trans rfl;have kf:=fhp HX4.out 3;have HE:=qb (HF.out _ _ w5 w4 HK5.out HW5.out hown4 ((((Below.refl B w5).alloc HB6.out _)).trans hb4) (fun b hb hne=>(hgr4 b (by simp;omega) hne).trans (Below.heap_alloc w5 _ b hb)) (hob4.imp id (fun e b hb=>by rw[e]at hb;injection hb with hb;simp at hb;omega)));clear hown4 hb4 hk4 hgr4 hob4)
  | (go_simp;go_invoke;go_upon;go_at_call 173;refine(qa (CN _)).mono ?_;rintro e w5⟨v,rfl,⟨ko,kc,e6,hk⟩,hb⟩;subst e6;have HK5:Hid (w5.ownsRow w.heap.size 3 1 (.slice ko 1 kc) ([a] : List Int).length (([a] : List Int).map I64)):=hk;have HW5:Hid (Below w.heap.size w w5):=(Below.refl w.heap.size w).drew.trans hb;have G5:=addG HN3.out HBX.out HW5.out hBw;obtain⟨HOa,HB6,HBa,HB5,z3,hg5⟩:=G5;clear hk hb))
 all_goals
  go_wp2
  go_ret
  exact⟨rfl,HE.out⟩
end Go.Proofs.YtcpapceeekkacaaGreatDoor
