import Derived.Test.YtcpapceeekkacaaGreatDoorGrowW
set_option maxRecDepth 100000
set_option maxHeartbeats 8000000
namespace Go.Proofs.YtcpapceeekkacaaGreatDoor
open Go.RowKit
theorem tw0:tx "if" = ⟨#[105,102]⟩:=by decide +kernel
theorem tw1:tx "while" = ⟨#[119,104,105,108,101]⟩:=by decide +kernel
theorem tw2:tx "call" = ⟨#[99,97,108,108]⟩:=by decide +kernel
theorem tw3:tx "print" = ⟨#[112,114,105,110,116]⟩:=by decide +kernel
theorem tw4:tx "read" = ⟨#[114,101,97,100]⟩:=by decide +kernel
theorem tw5:tx "delay" = ⟨#[100,101,108,97,121]⟩:=by decide +kernel
theorem tw6:tx "continue" = ⟨#[99,111,110,116,105,110,117,101]⟩:=by decide +kernel
theorem tw7:tx "skip" = ⟨#[115,107,105,112]⟩:=by decide +kernel
theorem tw8:tx "then" = ⟨#[116,104,101,110]⟩:=by decide +kernel
theorem tw9:tx "else" = ⟨#[101,108,115,101]⟩:=by decide +kernel
theorem tw10:tx "do" = ⟨#[100,111]⟩:=by decide +kernel
theorem tw11:tx ":=" = ⟨#[58,61]⟩:=by decide +kernel
theorem stArm_if {L:Nat→Prop}{B g:Nat}{l:List Sg}{lv:Value}{n:Nat}(blk:Rd→Rd×Int) (hb:∀ L,Way L B g l lv 31 blk n) (hl:l.length≤1048576) (hx:∀ x∈l,x.text.size≤1048576) (s:Rd) (w:World) (hn:l.length-s.pos<n+1) (h:RdAt L B g l lv s w) (q0:s.isQ l (tx "if")=true) :
  Calls Tryz.prog 61 #[.pointer (some ⟨g,0,none⟩)] w fun e w'=>e=.returned (.int .i64 (Rd.stmtW l blk s).2)∧aa8 L B g l lv (Rd.stmtW l blk s).1 w w':=by
 have H:=qb h
 have HB:=qb hb
 have K0:=qb (aa8.refl h)
 have hgood:=h.good
 have hpo:s.on.pos=s.pos+1:=rfl
 have CN:=fun (L:Nat→Prop) (s:Rd) w h=>qb (ah9 (L:=L) (B:=B) (g:=g) (l:=l) (lv:=lv) (s:=s) w h hl hx)
 have CM:=fun (L:Nat→Prop) (s:Rd) t w h=>qb (ag6 (L:=L) (B:=B) (g:=g) (l:=l) (lv:=lv) (s:=s) t w h hl)
 have CQ:=fun (L:Nat→Prop) (s:Rd) t w h=>qb (ah0 (L:=L) (B:=B) (g:=g) (l:=l) (lv:=lv) (s:=s) t w h hl)
 have CV:=fun (L:Nat→Prop) (s:Rd) w h=>qb (am0 (L:=L) (B:=B) (g:=g) (l:=l) (lv:=lv) s w h hl hx)
 have CP:=fun (s:Rd) x kv w h hk hg=>qb (aj8 (L:=L) (B:=B) (g:=g) (l:=l) (lv:=lv) (s:=s) x kv w h hk hg hl)
 have C0:=CQ L s (tx "if")
 rw[q0,show s.may l (tx "if")=s.on from by simp[Rd.may,q0],tw0]at C0
 obtain⟨R,hR⟩:∃ R,R=Rd.stmtW l blk s:=⟨_,rfl⟩
 rw[←hR]
 unfold Rd.stmtW at hR
 simp only[q0,if_true]at hR
 have hg1:=Rd.Keeps.value l 1 _ hgood.on
 have hp1:=Rd.value_pos l s.on
 have CA:=CV L s.on
 obtain⟨v,hv⟩:∃ v,v=s.on.value l:=⟨_,rfl⟩
 rw[←hv]at CA hR hg1 hp1
 have CB:=fun L=>CM L v.1 (tx "then")
 have hp2:=Rd.must_pos l (tx "then") v.1
 have hg2:=hg1.must l (tx "then")
 obtain⟨m,hm⟩:∃ m,m=v.1.must l (tx "then"):=⟨_,rfl⟩
 rw[←hm]at CB hR hp2 hg2
 rw[tw8]at CB
 have CC:=fun L w h=>qb ((hb L).run m w (by have:=Rd.isQ_lt q0;omega) h)
 have hg3:=(hb L).keeps 1 _ hg2
 have hp3:=(hb L).pos m
 obtain⟨b,hbb⟩:∃ b,b=blk m:=⟨_,rfl⟩
 rw[←hbb]at CC hR hg3 hp3
 have CE:=fun L=>CQ L b.1 (tx "else")
 have HB0:=qb h.heap
 have LO:=qb h.loose
 cases qe:b.1.isQ l (tx "else") with
 | true =>
  rw[qe,if_pos rfl]at hR
  have CF:=fun L w h=>qb ((hb L).run b.1.on w (by have:=Rd.isQ_lt q0;have:b.1.on.pos=b.1.pos+1:=rfl;omega) h)
  have hg4:=(hb L).keeps 2 _ hg3.on
  rw[qe,show b.1.may l (tx "else")=b.1.on from by simp[Rd.may,qe],tw9]at CE
  obtain⟨c,hc⟩:∃ c,c=blk b.1.on:=⟨_,rfl⟩
  rw[←hc]at CF hR hg4
  have CD:=fun kv (w':World) h (hk:ak7 L w' kv ([v.2,b.2]++[c.2]))=>CP c.1 (ndK 12 0 [v.2,b.2,c.2]) kv w' h hk (fun _=>hg4.less)
  have HR:=qb hR
  clear hc hg4 qe
  clear CN CM CQ CV CP q0 hb HB hR hv hm hbb hg1 hp1 hp2 hg2 hg3 hp3 hpo hgood h hn
  go_enter Tryz.func61,Tryz.ntmps61
  go_wp2_with (first
   | (go_at_call 10;refine(qa (C0 _ K0.out.at')).mono ?_;rintro e w1⟨rfl,he⟩;have K1:=qb (K0.out.then' he);clear he C0)
   | (go_at_call 88;refine(qa (CA _ K1.out.at')).mono ?_;rintro e w20⟨rfl,he⟩;have K20:=qb (K1.out.then' he);clear he)
   | (go_at_call 13;refine(qa (CB _ _ (at8.made K20.out LO.out (.int .i64 v.2)).at')).mono ?_;rintro e w21⟨rfl,he⟩;have K21:=qb ((at8.made (e:=3) K20.out LO.out (.int .i64 v.2)).call he);clear he CB)
   | (go_at_call 31;refine(qa (CC _ _ K21.out.at')).mono ?_;rintro e w22⟨rfl,he⟩;have K22:=qb (K21.out.call he);clear he CC)
   | (at_builtin;refine av8 rfl (.tmp 17) (.tmp 20) rfl (kb:=w22.heap.size) (xs:=[v.2]) rfl K22.out rfl rfl HB0.out (by simp) ?_;intro v23 w23 hk23;have sh23:=ab_ hk23.own;obtain⟨ao23,cp23,e23⟩:=sh23;subst e23;have K23:=qb hk23;clear hk23 K22)
   | (go_at_call 10;refine(qa (CE _ _ K23.out.at')).mono ?_;rintro e w24⟨rfl,he⟩;have K24:=qb (K23.out.call he);clear he)
   | (go_at_call 31;refine(qa (CF _ _ K24.out.at')).mono ?_;rintro e w25⟨rfl,he⟩;have K25:=qb (K24.out.call he);clear he)
   | (at_builtin;refine av8 rfl (.tmp 24) (.tmp 27) rfl (kb:=w25.heap.size) (xs:=[v.2,b.2]) rfl K25.out rfl rfl HB0.out (by simp) ?_;intro v26 w26 hk26;have sh26:=ab_ hk26.own;obtain⟨ao26,cp26,e26⟩:=sh26;subst e26;have K26:=qb hk26;clear hk26)
   | (go_at_call 62;refine(qa (CD _ _ K26.out.fin.at' K26.out.ints)).mono ?_;rintro e w27⟨rfl,he⟩;have K27:=qb (K26.out.fin.then' he);clear he))
  go_ret
  rw[HR.out]
  exact⟨rfl,K27.out⟩
 | false =>
  rw[qe,if_neg (by simp)]at hR
  rw[qe,show b.1.may l (tx "else")=b.1 from by simp[Rd.may,qe],tw9]at CE
  have CD:=fun kv (w':World) h (hk:ak7 L w' kv ([v.2]++[b.2]))=>CP b.1 (ndK 12 0 [v.2,b.2]) kv w' h hk (fun _=>hg3)
  have HR:=qb hR
  clear qe
  clear CN CM CQ CV CP q0 hb HB hR hv hm hbb hg1 hp1 hp2 hg2 hg3 hp3 hpo hgood h hn
  go_enter Tryz.func61,Tryz.ntmps61
  go_wp2_with (first
   | (go_at_call 10;refine(qa (C0 _ K0.out.at')).mono ?_;rintro e w1⟨rfl,he⟩;have K1:=qb (K0.out.then' he);clear he C0)
   | (go_at_call 88;refine(qa (CA _ K1.out.at')).mono ?_;rintro e w20⟨rfl,he⟩;have K20:=qb (K1.out.then' he);clear he)
   | (go_at_call 13;refine(qa (CB _ _ (at8.made K20.out LO.out (.int .i64 v.2)).at')).mono ?_;rintro e w21⟨rfl,he⟩;have K21:=qb ((at8.made (e:=3) K20.out LO.out (.int .i64 v.2)).call he);clear he CB)
   | (go_at_call 31;refine(qa (CC _ _ K21.out.at')).mono ?_;rintro e w22⟨rfl,he⟩;have K22:=qb (K21.out.call he);clear he CC)
   | (at_builtin;refine av8 rfl (.tmp 17) (.tmp 20) rfl (kb:=w22.heap.size) (xs:=[v.2]) rfl K22.out rfl rfl HB0.out (by simp) ?_;intro v23 w23 hk23;have sh23:=ab_ hk23.own;obtain⟨ao23,cp23,e23⟩:=sh23;subst e23;have K23:=qb hk23;clear hk23 K22)
   | (go_at_call 10;refine(qa (CE _ _ K23.out.at')).mono ?_;rintro e w24⟨rfl,he⟩;have K24:=qb (K23.out.call he);clear he)
   | (go_at_call 62;refine(qa (CD _ _ K24.out.fin.at' K24.out.ints)).mono ?_;rintro e w27⟨rfl,he⟩;have K27:=qb (K24.out.fin.then' he);clear he))
  go_ret
  rw[HR.out]
  exact⟨rfl,K27.out⟩
theorem aY4 {L:Nat→Prop}{B g:Nat}{l:List Sg}{lv:Value}{n:Nat}(blk:Rd→Rd×Int) (hb:∀ L,Way L B g l lv 31 blk n) (hl:l.length≤1048576) (hx:∀ x∈l,x.text.size≤1048576) (s:Rd) (w:World) (hn:l.length-s.pos<n+1) (h:RdAt L B g l lv s w) (q0:s.isQ l (tx "if")=false) (q1:s.isQ l (tx "while")=true) :
  Calls Tryz.prog 61 #[.pointer (some ⟨g,0,none⟩)] w fun e w'=>e=.returned (.int .i64 (Rd.stmtW l blk s).2)∧aa8 L B g l lv (Rd.stmtW l blk s).1 w w':=by
 have H:=qb h
 have HB:=qb hb
 have K0:=qb (aa8.refl h)
 have hgood:=h.good
 have hpo:s.on.pos=s.pos+1:=rfl
 have CN:=fun (L:Nat→Prop) (s:Rd) w h=>qb (ah9 (L:=L) (B:=B) (g:=g) (l:=l) (lv:=lv) (s:=s) w h hl hx)
 have CM:=fun (L:Nat→Prop) (s:Rd) t w h=>qb (ag6 (L:=L) (B:=B) (g:=g) (l:=l) (lv:=lv) (s:=s) t w h hl)
 have CQ:=fun (L:Nat→Prop) (s:Rd) t w h=>qb (ah0 (L:=L) (B:=B) (g:=g) (l:=l) (lv:=lv) (s:=s) t w h hl)
 have CV:=fun (L:Nat→Prop) (s:Rd) w h=>qb (am0 (L:=L) (B:=B) (g:=g) (l:=l) (lv:=lv) s w h hl hx)
 have CP:=fun (s:Rd) x kv w h hk hg=>qb (aj8 (L:=L) (B:=B) (g:=g) (l:=l) (lv:=lv) (s:=s) x kv w h hk hg hl)
 have C0:=CQ L s (tx "if")
 rw[q0,show s.may l (tx "if")=s from by simp[Rd.may,q0],tw0]at C0
 have C1:=CQ L s (tx "while")
 rw[q1,show s.may l (tx "while")=s.on from by simp[Rd.may,q1],tw1]at C1
 obtain⟨R,hR⟩:∃ R,R=Rd.stmtW l blk s:=⟨_,rfl⟩
 rw[←hR]
 unfold Rd.stmtW at hR
 simp only[q0,q1,if_true,if_false,Bool.false_eq_true]at hR
 have hg1:=Rd.Keeps.value l 1 _ hgood.on
 have hp1:=Rd.value_pos l s.on
 have CA:=CV L s.on
 obtain⟨v,hv⟩:∃ v,v=s.on.value l:=⟨_,rfl⟩
 rw[←hv]at CA hR hg1 hp1
 have CB:=CM L v.1 (tx "do")
 have hp2:=Rd.must_pos l (tx "do") v.1
 have hg2:=hg1.must l (tx "do")
 obtain⟨m,hm⟩:∃ m,m=v.1.must l (tx "do"):=⟨_,rfl⟩
 rw[←hm]at CB hR hp2 hg2
 rw[tw10]at CB
 have CC:=fun w h=>qb ((hb L).run m w (by have:=Rd.isQ_lt q1;omega) h)
 have hg3:=(hb L).keeps 1 _ hg2
 obtain⟨b,hbb⟩:∃ b,b=blk m:=⟨_,rfl⟩
 rw[←hbb]at CC hR hg3
 have CD:=fun (w':World) (hR:RdAt L B g l lv b.1 w') h=>CP b.1 (ndK 13 0 [v.2,b.2]) (.slice (some ⟨w'.heap.size,0,none⟩) 2 2) (w'.alloc (.cells #[.int .i64 v.2,.int .i64 b.2] 3)) h (ak7.made hR.loose rfl [v.2,b.2] 2 2 rfl) (fun _=>hg3)
 have HR:=qb hR
 clear CN CM CQ CV CP q0 q1 hb HB hR hv hm hbb hg1 hp1 hp2 hg2 hg3 hpo hgood h hn
 go_enter Tryz.func61,Tryz.ntmps61
 go_wp2_with (first
  | (go_at_call 10;refine(qa (C0 _ K0.out.at')).mono ?_;rintro e w1⟨rfl,he⟩;have K1:=qb (K0.out.then' he);clear he C0)
  | (go_at_call 10;refine(qa (C1 _ K1.out.at')).mono ?_;rintro e w2⟨rfl,he⟩;have K2:=qb (K1.out.then' he);clear he C1)
  | (go_at_call 88;refine(qa (CA _ K2.out.at')).mono ?_;rintro e w20⟨rfl,he⟩;have K20:=qb (K2.out.then' he);clear he)
  | (go_at_call 13;refine(qa (CB _ K20.out.at')).mono ?_;rintro e w21⟨rfl,he⟩;have K21:=qb (K20.out.then' he);clear he)
  | (go_at_call 31;refine(qa (CC _ K21.out.at')).mono ?_;rintro e w22⟨rfl,he⟩;have K22:=qb (K21.out.then' he);clear he)
  | (go_at_call 62;refine(qa (CD _ K22.out.at' (K22.out.new _).at')).mono ?_;rintro e w23⟨rfl,he⟩;have K23:=qb ((K22.out.new _).then' he);clear he))
 go_ret
 rw[HR.out]
 exact⟨rfl,K23.out⟩
theorem bg_ {L:Nat→Prop}{B g:Nat}{l:List Sg}{lv:Value}{n:Nat}(blk:Rd→Rd×Int) (hb:∀ L,Way L B g l lv 31 blk n) (hl:l.length≤1048576) (hx:∀ x∈l,x.text.size≤1048576) (s:Rd) (w:World) (_hn:l.length-s.pos<n+1) (h:RdAt L B g l lv s w) (q0:s.isQ l (tx "if")=false) (q1:s.isQ l (tx "while")=false) (q2:s.isQ l (tx "call")=true) :
  Calls Tryz.prog 61 #[.pointer (some ⟨g,0,none⟩)] w fun e w'=>e=.returned (.int .i64 (Rd.stmtW l blk s).2)∧aa8 L B g l lv (Rd.stmtW l blk s).1 w w':=by
 have H:=qb h
 have HB:=qb hb
 have K0:=qb (aa8.refl h)
 have hgood:=h.good
 have hpo:s.on.pos=s.pos+1:=rfl
 have CN:=fun (L:Nat→Prop) (s:Rd) w h=>qb (ah9 (L:=L) (B:=B) (g:=g) (l:=l) (lv:=lv) (s:=s) w h hl hx)
 have CM:=fun (L:Nat→Prop) (s:Rd) t w h=>qb (ag6 (L:=L) (B:=B) (g:=g) (l:=l) (lv:=lv) (s:=s) t w h hl)
 have CQ:=fun (L:Nat→Prop) (s:Rd) t w h=>qb (ah0 (L:=L) (B:=B) (g:=g) (l:=l) (lv:=lv) (s:=s) t w h hl)
 have CV:=fun (L:Nat→Prop) (s:Rd) w h=>qb (am0 (L:=L) (B:=B) (g:=g) (l:=l) (lv:=lv) s w h hl hx)
 have CP:=fun (s:Rd) x kv w h hk hg=>qb (aj8 (L:=L) (B:=B) (g:=g) (l:=l) (lv:=lv) (s:=s) x kv w h hk hg hl)
 have C0:=CQ L s (tx "if")
 rw[q0,show s.may l (tx "if")=s from by simp[Rd.may,q0],tw0]at C0
 have C1:=CQ L s (tx "while")
 rw[q1,show s.may l (tx "while")=s from by simp[Rd.may,q1],tw1]at C1
 have C2:=CQ L s (tx "call")
 rw[q2,show s.may l (tx "call")=s.on from by simp[Rd.may,q2],tw2]at C2
 obtain⟨R,hR⟩:∃ R,R=Rd.stmtW l blk s:=⟨_,rfl⟩
 rw[←hR]
 unfold Rd.stmtW at hR
 simp only[q0,q1,q2,if_true,if_false,Bool.false_eq_true]at hR
 have CC:=fun w h=>qb (be8 (L:=L) (B:=B) (g:=g) (l:=l) (lv:=lv) s.on w h hl hx)
 have HR:=qb hR
 clear CN CM CQ CV CP q0 q1 q2 hb HB hR hpo hgood h _hn
 go_enter Tryz.func61,Tryz.ntmps61
 go_wp2_with (first
  | (go_at_call 10;refine(qa (C0 _ K0.out.at')).mono ?_;rintro e w1⟨rfl,he⟩;have K1:=qb (K0.out.then' he);clear he C0)
  | (go_at_call 10;refine(qa (C1 _ K1.out.at')).mono ?_;rintro e w2⟨rfl,he⟩;have K2:=qb (K1.out.then' he);clear he C1)
  | (go_at_call 10;refine(qa (C2 _ K2.out.at')).mono ?_;rintro e w3⟨rfl,he⟩;have K3:=qb (K2.out.then' he);clear he C2)
  | (go_at_call 89;refine(qa (CC _ K3.out.at')).mono ?_;rintro e w20⟨rfl,he⟩;have K20:=qb (K3.out.then' he);clear he))
 go_ret
 rw[HR.out]
 exact⟨rfl,K20.out⟩
theorem aY3 {L:Nat→Prop}{B g:Nat}{l:List Sg}{lv:Value}{n:Nat}(blk:Rd→Rd×Int) (hb:∀ L,Way L B g l lv 31 blk n) (hl:l.length≤1048576) (hx:∀ x∈l,x.text.size≤1048576) (s:Rd) (w:World) (_hn:l.length-s.pos<n+1) (h:RdAt L B g l lv s w) (q0:s.isQ l (tx "if")=false) (q1:s.isQ l (tx "while")=false) (q2:s.isQ l (tx "call")=false) (q3:s.isQ l (tx "print")=true) :
  Calls Tryz.prog 61 #[.pointer (some ⟨g,0,none⟩)] w fun e w'=>e=.returned (.int .i64 (Rd.stmtW l blk s).2)∧aa8 L B g l lv (Rd.stmtW l blk s).1 w w':=by
 have H:=qb h
 have HB:=qb hb
 have K0:=qb (aa8.refl h)
 have hgood:=h.good
 have hpo:s.on.pos=s.pos+1:=rfl
 have CN:=fun (L:Nat→Prop) (s:Rd) w h=>qb (ah9 (L:=L) (B:=B) (g:=g) (l:=l) (lv:=lv) (s:=s) w h hl hx)
 have CM:=fun (L:Nat→Prop) (s:Rd) t w h=>qb (ag6 (L:=L) (B:=B) (g:=g) (l:=l) (lv:=lv) (s:=s) t w h hl)
 have CQ:=fun (L:Nat→Prop) (s:Rd) t w h=>qb (ah0 (L:=L) (B:=B) (g:=g) (l:=l) (lv:=lv) (s:=s) t w h hl)
 have CV:=fun (L:Nat→Prop) (s:Rd) w h=>qb (am0 (L:=L) (B:=B) (g:=g) (l:=l) (lv:=lv) s w h hl hx)
 have CP:=fun (s:Rd) x kv w h hk hg=>qb (aj8 (L:=L) (B:=B) (g:=g) (l:=l) (lv:=lv) (s:=s) x kv w h hk hg hl)
 have C0:=CQ L s (tx "if")
 rw[q0,show s.may l (tx "if")=s from by simp[Rd.may,q0],tw0]at C0
 have C1:=CQ L s (tx "while")
 rw[q1,show s.may l (tx "while")=s from by simp[Rd.may,q1],tw1]at C1
 have C2:=CQ L s (tx "call")
 rw[q2,show s.may l (tx "call")=s from by simp[Rd.may,q2],tw2]at C2
 have C3:=CQ L s (tx "print")
 rw[q3,show s.may l (tx "print")=s.on from by simp[Rd.may,q3],tw3]at C3
 obtain⟨R,hR⟩:∃ R,R=Rd.stmtW l blk s:=⟨_,rfl⟩
 rw[←hR]
 unfold Rd.stmtW at hR
 simp only[q0,q1,q2,q3,if_true,if_false,Bool.false_eq_true]at hR
 have hg1:=Rd.Keeps.value l 1 _ hgood.on
 have CA:=CV L s.on
 obtain⟨v,hv⟩:∃ v,v=s.on.value l:=⟨_,rfl⟩
 rw[←hv]at CA hR hg1
 have CD:=fun (w':World) (hR:RdAt L B g l lv v.1 w') h=>CP v.1 (ndK 15 0 [v.2]) (.slice (some ⟨w'.heap.size,0,none⟩) 1 1) (w'.alloc (.cells #[.int .i64 v.2] 3)) h (ak7.made hR.loose rfl [v.2] 1 1 rfl) (fun _=>hg1)
 have HR:=qb hR
 clear CN CM CQ CV CP q0 q1 q2 q3 hb HB hR hv hg1 hpo hgood h _hn
 go_enter Tryz.func61,Tryz.ntmps61
 go_wp2_with (first
  | (go_at_call 10;refine(qa (C0 _ K0.out.at')).mono ?_;rintro e w1⟨rfl,he⟩;have K1:=qb (K0.out.then' he);clear he C0)
  | (go_at_call 10;refine(qa (C1 _ K1.out.at')).mono ?_;rintro e w2⟨rfl,he⟩;have K2:=qb (K1.out.then' he);clear he C1)
  | (go_at_call 10;refine(qa (C2 _ K2.out.at')).mono ?_;rintro e w3⟨rfl,he⟩;have K3:=qb (K2.out.then' he);clear he C2)
  | (go_at_call 10;refine(qa (C3 _ K3.out.at')).mono ?_;rintro e w4⟨rfl,he⟩;have K4:=qb (K3.out.then' he);clear he C3)
  | (go_at_call 88;refine(qa (CA _ K4.out.at')).mono ?_;rintro e w20⟨rfl,he⟩;have K20:=qb (K4.out.then' he);clear he)
  | (go_at_call 62;refine(qa (CD _ K20.out.at' (K20.out.new _).at')).mono ?_;rintro e w23⟨rfl,he⟩;have K23:=qb ((K20.out.new _).then' he);clear he))
 go_ret
 rw[HR.out]
 exact⟨rfl,K23.out⟩
theorem bg0 {L:Nat→Prop}{B g:Nat}{l:List Sg}{lv:Value}{n:Nat}(blk:Rd→Rd×Int) (hb:∀ L,Way L B g l lv 31 blk n) (hl:l.length≤1048576) (hx:∀ x∈l,x.text.size≤1048576) (s:Rd) (w:World) (_hn:l.length-s.pos<n+1) (h:RdAt L B g l lv s w) (q0:s.isQ l (tx "if")=false) (q1:s.isQ l (tx "while")=false) (q2:s.isQ l (tx "call")=false) (q3:s.isQ l (tx "print")=false) (q4:s.isQ l (tx "read")=true) :
  Calls Tryz.prog 61 #[.pointer (some ⟨g,0,none⟩)] w fun e w'=>e=.returned (.int .i64 (Rd.stmtW l blk s).2)∧aa8 L B g l lv (Rd.stmtW l blk s).1 w w':=by
 have H:=qb h
 have HB:=qb hb
 have K0:=qb (aa8.refl h)
 have hgood:=h.good
 have hpo:s.on.pos=s.pos+1:=rfl
 have CN:=fun (L:Nat→Prop) (s:Rd) w h=>qb (ah9 (L:=L) (B:=B) (g:=g) (l:=l) (lv:=lv) (s:=s) w h hl hx)
 have CM:=fun (L:Nat→Prop) (s:Rd) t w h=>qb (ag6 (L:=L) (B:=B) (g:=g) (l:=l) (lv:=lv) (s:=s) t w h hl)
 have CQ:=fun (L:Nat→Prop) (s:Rd) t w h=>qb (ah0 (L:=L) (B:=B) (g:=g) (l:=l) (lv:=lv) (s:=s) t w h hl)
 have CV:=fun (L:Nat→Prop) (s:Rd) w h=>qb (am0 (L:=L) (B:=B) (g:=g) (l:=l) (lv:=lv) s w h hl hx)
 have CP:=fun (s:Rd) x kv w h hk hg=>qb (aj8 (L:=L) (B:=B) (g:=g) (l:=l) (lv:=lv) (s:=s) x kv w h hk hg hl)
 have C0:=CQ L s (tx "if")
 rw[q0,show s.may l (tx "if")=s from by simp[Rd.may,q0],tw0]at C0
 have C1:=CQ L s (tx "while")
 rw[q1,show s.may l (tx "while")=s from by simp[Rd.may,q1],tw1]at C1
 have C2:=CQ L s (tx "call")
 rw[q2,show s.may l (tx "call")=s from by simp[Rd.may,q2],tw2]at C2
 have C3:=CQ L s (tx "print")
 rw[q3,show s.may l (tx "print")=s from by simp[Rd.may,q3],tw3]at C3
 have C4:=CQ L s (tx "read")
 rw[q4,show s.may l (tx "read")=s.on from by simp[Rd.may,q4],tw4]at C4
 obtain⟨R,hR⟩:∃ R,R=Rd.stmtW l blk s:=⟨_,rfl⟩
 rw[←hR]
 unfold Rd.stmtW at hR
 simp only[q0,q1,q2,q3,q4,if_true,if_false,Bool.false_eq_true]at hR
 have hg1:=hgood.on.name l
 have CA:=CN L s.on
 obtain⟨v,hv⟩:∃ v,v=s.on.name l:=⟨_,rfl⟩
 rw[←hv]at CA hR hg1
 have CD:=fun (w':World) h=>CP v.1 (ndN 16 v.2 []) (.slice none 0 0) w' h (ak7.nil _) (fun _=>hg1)
 have HR:=qb hR
 clear CN CM CQ CV CP q0 q1 q2 q3 q4 hb HB hR hv hg1 hpo hgood h _hn
 go_enter Tryz.func61,Tryz.ntmps61
 go_wp2_with (first
  | (go_at_call 10;refine(qa (C0 _ K0.out.at')).mono ?_;rintro e w1⟨rfl,he⟩;have K1:=qb (K0.out.then' he);clear he C0)
  | (go_at_call 10;refine(qa (C1 _ K1.out.at')).mono ?_;rintro e w2⟨rfl,he⟩;have K2:=qb (K1.out.then' he);clear he C1)
  | (go_at_call 10;refine(qa (C2 _ K2.out.at')).mono ?_;rintro e w3⟨rfl,he⟩;have K3:=qb (K2.out.then' he);clear he C2)
  | (go_at_call 10;refine(qa (C3 _ K3.out.at')).mono ?_;rintro e w4⟨rfl,he⟩;have K4:=qb (K3.out.then' he);clear he C3)
  | (go_at_call 10;refine(qa (C4 _ K4.out.at')).mono ?_;rintro e w5⟨rfl,he⟩;have K5:=qb (K4.out.then' he);clear he C4)
  | (go_at_call 29;refine(qa (CA _ K5.out.at')).mono ?_;rintro e w20⟨rfl,he⟩;have K20:=qb (K5.out.then' he);clear he)
  | (go_at_call 62;refine(qa (CD _ K20.out.at')).mono ?_;rintro e w23⟨rfl,he⟩;have K23:=qb (K20.out.then' he);clear he))
 go_ret
 rw[HR.out]
 exact⟨rfl,K23.out⟩
theorem aY2 {L:Nat→Prop}{B g:Nat}{l:List Sg}{lv:Value}{n:Nat}(blk:Rd→Rd×Int) (hb:∀ L,Way L B g l lv 31 blk n) (hl:l.length≤1048576) (hx:∀ x∈l,x.text.size≤1048576) (s:Rd) (w:World) (_hn:l.length-s.pos<n+1) (h:RdAt L B g l lv s w) (q0:s.isQ l (tx "if")=false) (q1:s.isQ l (tx "while")=false) (q2:s.isQ l (tx "call")=false) (q3:s.isQ l (tx "print")=false) (q4:s.isQ l (tx "read")=false) (q5:s.isQ l (tx "delay")=true) :
  Calls Tryz.prog 61 #[.pointer (some ⟨g,0,none⟩)] w fun e w'=>e=.returned (.int .i64 (Rd.stmtW l blk s).2)∧aa8 L B g l lv (Rd.stmtW l blk s).1 w w':=by
 have H:=qb h
 have HB:=qb hb
 have K0:=qb (aa8.refl h)
 have hgood:=h.good
 have hpo:s.on.pos=s.pos+1:=rfl
 have CN:=fun (L:Nat→Prop) (s:Rd) w h=>qb (ah9 (L:=L) (B:=B) (g:=g) (l:=l) (lv:=lv) (s:=s) w h hl hx)
 have CM:=fun (L:Nat→Prop) (s:Rd) t w h=>qb (ag6 (L:=L) (B:=B) (g:=g) (l:=l) (lv:=lv) (s:=s) t w h hl)
 have CQ:=fun (L:Nat→Prop) (s:Rd) t w h=>qb (ah0 (L:=L) (B:=B) (g:=g) (l:=l) (lv:=lv) (s:=s) t w h hl)
 have CV:=fun (L:Nat→Prop) (s:Rd) w h=>qb (am0 (L:=L) (B:=B) (g:=g) (l:=l) (lv:=lv) s w h hl hx)
 have CP:=fun (s:Rd) x kv w h hk hg=>qb (aj8 (L:=L) (B:=B) (g:=g) (l:=l) (lv:=lv) (s:=s) x kv w h hk hg hl)
 have C0:=CQ L s (tx "if")
 rw[q0,show s.may l (tx "if")=s from by simp[Rd.may,q0],tw0]at C0
 have C1:=CQ L s (tx "while")
 rw[q1,show s.may l (tx "while")=s from by simp[Rd.may,q1],tw1]at C1
 have C2:=CQ L s (tx "call")
 rw[q2,show s.may l (tx "call")=s from by simp[Rd.may,q2],tw2]at C2
 have C3:=CQ L s (tx "print")
 rw[q3,show s.may l (tx "print")=s from by simp[Rd.may,q3],tw3]at C3
 have C4:=CQ L s (tx "read")
 rw[q4,show s.may l (tx "read")=s from by simp[Rd.may,q4],tw4]at C4
 have C5:=CQ L s (tx "delay")
 rw[q5,show s.may l (tx "delay")=s.on from by simp[Rd.may,q5],tw5]at C5
 obtain⟨R,hR⟩:∃ R,R=Rd.stmtW l blk s:=⟨_,rfl⟩
 rw[←hR]
 unfold Rd.stmtW at hR
 simp only[q0,q1,q2,q3,q4,q5,if_true,if_false,Bool.false_eq_true]at hR
 have hg1:=hgood.on.name l
 have CA:=CN L s.on
 obtain⟨v,hv⟩:∃ v,v=s.on.name l:=⟨_,rfl⟩
 rw[←hv]at CA hR hg1
 have CD:=fun (w':World) h=>CP v.1 (ndN 17 v.2 []) (.slice none 0 0) w' h (ak7.nil _) (fun _=>hg1)
 have HR:=qb hR
 clear CN CM CQ CV CP q0 q1 q2 q3 q4 q5 hb HB hR hv hg1 hpo hgood h _hn
 go_enter Tryz.func61,Tryz.ntmps61
 go_wp2_with (first
  | (go_at_call 10;refine(qa (C0 _ K0.out.at')).mono ?_;rintro e w1⟨rfl,he⟩;have K1:=qb (K0.out.then' he);clear he C0)
  | (go_at_call 10;refine(qa (C1 _ K1.out.at')).mono ?_;rintro e w2⟨rfl,he⟩;have K2:=qb (K1.out.then' he);clear he C1)
  | (go_at_call 10;refine(qa (C2 _ K2.out.at')).mono ?_;rintro e w3⟨rfl,he⟩;have K3:=qb (K2.out.then' he);clear he C2)
  | (go_at_call 10;refine(qa (C3 _ K3.out.at')).mono ?_;rintro e w4⟨rfl,he⟩;have K4:=qb (K3.out.then' he);clear he C3)
  | (go_at_call 10;refine(qa (C4 _ K4.out.at')).mono ?_;rintro e w5⟨rfl,he⟩;have K5:=qb (K4.out.then' he);clear he C4)
  | (go_at_call 10;refine(qa (C5 _ K5.out.at')).mono ?_;rintro e w6⟨rfl,he⟩;have K6:=qb (K5.out.then' he);clear he C5)
  | (go_at_call 29;refine(qa (CA _ K6.out.at')).mono ?_;rintro e w20⟨rfl,he⟩;have K20:=qb (K6.out.then' he);clear he)
  | (go_at_call 62;refine(qa (CD _ K20.out.at')).mono ?_;rintro e w23⟨rfl,he⟩;have K23:=qb (K20.out.then' he);clear he))
 go_ret
 rw[HR.out]
 exact⟨rfl,K23.out⟩
theorem aH9 {L:Nat→Prop}{B g:Nat}{l:List Sg}{lv:Value}{n:Nat}(blk:Rd→Rd×Int) (hb:∀ L,Way L B g l lv 31 blk n) (hl:l.length≤1048576) (hx:∀ x∈l,x.text.size≤1048576) (s:Rd) (w:World) (_hn:l.length-s.pos<n+1) (h:RdAt L B g l lv s w) (q0:s.isQ l (tx "if")=false) (q1:s.isQ l (tx "while")=false) (q2:s.isQ l (tx "call")=false) (q3:s.isQ l (tx "print")=false) (q4:s.isQ l (tx "read")=false) (q5:s.isQ l (tx "delay")=false) (q6:s.isQ l (tx "continue")=true) :
  Calls Tryz.prog 61 #[.pointer (some ⟨g,0,none⟩)] w fun e w'=>e=.returned (.int .i64 (Rd.stmtW l blk s).2)∧aa8 L B g l lv (Rd.stmtW l blk s).1 w w':=by
 have H:=qb h
 have HB:=qb hb
 have K0:=qb (aa8.refl h)
 have hgood:=h.good
 have hpo:s.on.pos=s.pos+1:=rfl
 have CN:=fun (L:Nat→Prop) (s:Rd) w h=>qb (ah9 (L:=L) (B:=B) (g:=g) (l:=l) (lv:=lv) (s:=s) w h hl hx)
 have CM:=fun (L:Nat→Prop) (s:Rd) t w h=>qb (ag6 (L:=L) (B:=B) (g:=g) (l:=l) (lv:=lv) (s:=s) t w h hl)
 have CQ:=fun (L:Nat→Prop) (s:Rd) t w h=>qb (ah0 (L:=L) (B:=B) (g:=g) (l:=l) (lv:=lv) (s:=s) t w h hl)
 have CV:=fun (L:Nat→Prop) (s:Rd) w h=>qb (am0 (L:=L) (B:=B) (g:=g) (l:=l) (lv:=lv) s w h hl hx)
 have CP:=fun (s:Rd) x kv w h hk hg=>qb (aj8 (L:=L) (B:=B) (g:=g) (l:=l) (lv:=lv) (s:=s) x kv w h hk hg hl)
 have C0:=CQ L s (tx "if")
 rw[q0,show s.may l (tx "if")=s from by simp[Rd.may,q0],tw0]at C0
 have C1:=CQ L s (tx "while")
 rw[q1,show s.may l (tx "while")=s from by simp[Rd.may,q1],tw1]at C1
 have C2:=CQ L s (tx "call")
 rw[q2,show s.may l (tx "call")=s from by simp[Rd.may,q2],tw2]at C2
 have C3:=CQ L s (tx "print")
 rw[q3,show s.may l (tx "print")=s from by simp[Rd.may,q3],tw3]at C3
 have C4:=CQ L s (tx "read")
 rw[q4,show s.may l (tx "read")=s from by simp[Rd.may,q4],tw4]at C4
 have C5:=CQ L s (tx "delay")
 rw[q5,show s.may l (tx "delay")=s from by simp[Rd.may,q5],tw5]at C5
 have C6:=CQ L s (tx "continue")
 rw[q6,show s.may l (tx "continue")=s.on from by simp[Rd.may,q6],tw6]at C6
 obtain⟨R,hR⟩:∃ R,R=Rd.stmtW l blk s:=⟨_,rfl⟩
 rw[←hR]
 unfold Rd.stmtW at hR
 simp only[q0,q1,q2,q3,q4,q5,q6,if_true,if_false,Bool.false_eq_true]at hR
 have hg1:=hgood.on.name l
 have CA:=CN L s.on
 obtain⟨v,hv⟩:∃ v,v=s.on.name l:=⟨_,rfl⟩
 rw[←hv]at CA hR hg1
 have CD:=fun (w':World) h=>CP v.1 (ndN 18 v.2 []) (.slice none 0 0) w' h (ak7.nil _) (fun _=>hg1)
 have HR:=qb hR
 clear CN CM CQ CV CP q0 q1 q2 q3 q4 q5 q6 hb HB hR hv hg1 hpo hgood h _hn
 go_enter Tryz.func61,Tryz.ntmps61
 go_wp2_with (first
  | (go_at_call 10;refine(qa (C0 _ K0.out.at')).mono ?_;rintro e w1⟨rfl,he⟩;have K1:=qb (K0.out.then' he);clear he C0)
  | (go_at_call 10;refine(qa (C1 _ K1.out.at')).mono ?_;rintro e w2⟨rfl,he⟩;have K2:=qb (K1.out.then' he);clear he C1)
  | (go_at_call 10;refine(qa (C2 _ K2.out.at')).mono ?_;rintro e w3⟨rfl,he⟩;have K3:=qb (K2.out.then' he);clear he C2)
  | (go_at_call 10;refine(qa (C3 _ K3.out.at')).mono ?_;rintro e w4⟨rfl,he⟩;have K4:=qb (K3.out.then' he);clear he C3)
  | (go_at_call 10;refine(qa (C4 _ K4.out.at')).mono ?_;rintro e w5⟨rfl,he⟩;have K5:=qb (K4.out.then' he);clear he C4)
  | (go_at_call 10;refine(qa (C5 _ K5.out.at')).mono ?_;rintro e w6⟨rfl,he⟩;have K6:=qb (K5.out.then' he);clear he C5)
  | (go_at_call 10;refine(qa (C6 _ K6.out.at')).mono ?_;rintro e w7⟨rfl,he⟩;have K7:=qb (K6.out.then' he);clear he C6)
  | (go_at_call 29;refine(qa (CA _ K7.out.at')).mono ?_;rintro e w20⟨rfl,he⟩;have K20:=qb (K7.out.then' he);clear he)
  | (go_at_call 62;refine(qa (CD _ K20.out.at')).mono ?_;rintro e w23⟨rfl,he⟩;have K23:=qb (K20.out.then' he);clear he))
 go_ret
 rw[HR.out]
 exact⟨rfl,K23.out⟩
theorem bg1 {L:Nat→Prop}{B g:Nat}{l:List Sg}{lv:Value}{n:Nat}(blk:Rd→Rd×Int) (hb:∀ L,Way L B g l lv 31 blk n) (hl:l.length≤1048576) (hx:∀ x∈l,x.text.size≤1048576) (s:Rd) (w:World) (_hn:l.length-s.pos<n+1) (h:RdAt L B g l lv s w) (q0:s.isQ l (tx "if")=false) (q1:s.isQ l (tx "while")=false) (q2:s.isQ l (tx "call")=false) (q3:s.isQ l (tx "print")=false) (q4:s.isQ l (tx "read")=false) (q5:s.isQ l (tx "delay")=false) (q6:s.isQ l (tx "continue")=false) (q7:s.isQ l (tx "skip")=true) :
  Calls Tryz.prog 61 #[.pointer (some ⟨g,0,none⟩)] w fun e w'=>e=.returned (.int .i64 (Rd.stmtW l blk s).2)∧aa8 L B g l lv (Rd.stmtW l blk s).1 w w':=by
 have H:=qb h
 have HB:=qb hb
 have K0:=qb (aa8.refl h)
 have hgood:=h.good
 have hpo:s.on.pos=s.pos+1:=rfl
 have CN:=fun (L:Nat→Prop) (s:Rd) w h=>qb (ah9 (L:=L) (B:=B) (g:=g) (l:=l) (lv:=lv) (s:=s) w h hl hx)
 have CM:=fun (L:Nat→Prop) (s:Rd) t w h=>qb (ag6 (L:=L) (B:=B) (g:=g) (l:=l) (lv:=lv) (s:=s) t w h hl)
 have CQ:=fun (L:Nat→Prop) (s:Rd) t w h=>qb (ah0 (L:=L) (B:=B) (g:=g) (l:=l) (lv:=lv) (s:=s) t w h hl)
 have CV:=fun (L:Nat→Prop) (s:Rd) w h=>qb (am0 (L:=L) (B:=B) (g:=g) (l:=l) (lv:=lv) s w h hl hx)
 have CP:=fun (s:Rd) x kv w h hk hg=>qb (aj8 (L:=L) (B:=B) (g:=g) (l:=l) (lv:=lv) (s:=s) x kv w h hk hg hl)
 have C0:=CQ L s (tx "if")
 rw[q0,show s.may l (tx "if")=s from by simp[Rd.may,q0],tw0]at C0
 have C1:=CQ L s (tx "while")
 rw[q1,show s.may l (tx "while")=s from by simp[Rd.may,q1],tw1]at C1
 have C2:=CQ L s (tx "call")
 rw[q2,show s.may l (tx "call")=s from by simp[Rd.may,q2],tw2]at C2
 have C3:=CQ L s (tx "print")
 rw[q3,show s.may l (tx "print")=s from by simp[Rd.may,q3],tw3]at C3
 have C4:=CQ L s (tx "read")
 rw[q4,show s.may l (tx "read")=s from by simp[Rd.may,q4],tw4]at C4
 have C5:=CQ L s (tx "delay")
 rw[q5,show s.may l (tx "delay")=s from by simp[Rd.may,q5],tw5]at C5
 have C6:=CQ L s (tx "continue")
 rw[q6,show s.may l (tx "continue")=s from by simp[Rd.may,q6],tw6]at C6
 have C7:=CQ L s (tx "skip")
 rw[q7,show s.may l (tx "skip")=s.on from by simp[Rd.may,q7],tw7]at C7
 obtain⟨R,hR⟩:∃ R,R=Rd.stmtW l blk s:=⟨_,rfl⟩
 rw[←hR]
 unfold Rd.stmtW at hR
 simp only[q0,q1,q2,q3,q4,q5,q6,q7,if_true,if_false,Bool.false_eq_true]at hR
 have hg1:=hgood.on
 have CD:=fun (w':World) h=>CP s.on (ndK 19 0 []) (.slice none 0 0) w' h (ak7.nil _) (fun _=>hg1)
 have HR:=qb hR
 clear CN CM CQ CV CP q0 q1 q2 q3 q4 q5 q6 q7 hb HB hR hg1 hpo hgood h _hn
 go_enter Tryz.func61,Tryz.ntmps61
 go_wp2_with (first
  | (go_at_call 10;refine(qa (C0 _ K0.out.at')).mono ?_;rintro e w1⟨rfl,he⟩;have K1:=qb (K0.out.then' he);clear he C0)
  | (go_at_call 10;refine(qa (C1 _ K1.out.at')).mono ?_;rintro e w2⟨rfl,he⟩;have K2:=qb (K1.out.then' he);clear he C1)
  | (go_at_call 10;refine(qa (C2 _ K2.out.at')).mono ?_;rintro e w3⟨rfl,he⟩;have K3:=qb (K2.out.then' he);clear he C2)
  | (go_at_call 10;refine(qa (C3 _ K3.out.at')).mono ?_;rintro e w4⟨rfl,he⟩;have K4:=qb (K3.out.then' he);clear he C3)
  | (go_at_call 10;refine(qa (C4 _ K4.out.at')).mono ?_;rintro e w5⟨rfl,he⟩;have K5:=qb (K4.out.then' he);clear he C4)
  | (go_at_call 10;refine(qa (C5 _ K5.out.at')).mono ?_;rintro e w6⟨rfl,he⟩;have K6:=qb (K5.out.then' he);clear he C5)
  | (go_at_call 10;refine(qa (C6 _ K6.out.at')).mono ?_;rintro e w7⟨rfl,he⟩;have K7:=qb (K6.out.then' he);clear he C6)
  | (go_at_call 10;refine(qa (C7 _ K7.out.at')).mono ?_;rintro e w8⟨rfl,he⟩;have K8:=qb (K7.out.then' he);clear he C7)
  | (go_at_call 62;refine(qa (CD _ K8.out.at')).mono ?_;rintro e w23⟨rfl,he⟩;have K23:=qb (K8.out.then' he);clear he))
 go_ret
 rw[HR.out]
 exact⟨rfl,K23.out⟩
theorem bm1 {L:Nat→Prop}{B g:Nat}{l:List Sg}{lv:Value}{n:Nat}(blk:Rd→Rd×Int) (hb:∀ L,Way L B g l lv 31 blk n) (hl:l.length≤1048576) (hx:∀ x∈l,x.text.size≤1048576) (s:Rd) (w:World) (_hn:l.length-s.pos<n+1) (h:RdAt L B g l lv s w) (q0:s.isQ l (tx "if")=false) (q1:s.isQ l (tx "while")=false) (q2:s.isQ l (tx "call")=false) (q3:s.isQ l (tx "print")=false) (q4:s.isQ l (tx "read")=false) (q5:s.isQ l (tx "delay")=false) (q6:s.isQ l (tx "continue")=false) (q7:s.isQ l (tx "skip")=false) :
  Calls Tryz.prog 61 #[.pointer (some ⟨g,0,none⟩)] w fun e w'=>e=.returned (.int .i64 (Rd.stmtW l blk s).2)∧aa8 L B g l lv (Rd.stmtW l blk s).1 w w':=by
 have H:=qb h
 have HB:=qb hb
 have K0:=qb (aa8.refl h)
 have hgood:=h.good
 have hpo:s.on.pos=s.pos+1:=rfl
 have CN:=fun (L:Nat→Prop) (s:Rd) w h=>qb (ah9 (L:=L) (B:=B) (g:=g) (l:=l) (lv:=lv) (s:=s) w h hl hx)
 have CM:=fun (L:Nat→Prop) (s:Rd) t w h=>qb (ag6 (L:=L) (B:=B) (g:=g) (l:=l) (lv:=lv) (s:=s) t w h hl)
 have CQ:=fun (L:Nat→Prop) (s:Rd) t w h=>qb (ah0 (L:=L) (B:=B) (g:=g) (l:=l) (lv:=lv) (s:=s) t w h hl)
 have CV:=fun (L:Nat→Prop) (s:Rd) w h=>qb (am0 (L:=L) (B:=B) (g:=g) (l:=l) (lv:=lv) s w h hl hx)
 have CP:=fun (s:Rd) x kv w h hk hg=>qb (aj8 (L:=L) (B:=B) (g:=g) (l:=l) (lv:=lv) (s:=s) x kv w h hk hg hl)
 have C0:=CQ L s (tx "if")
 rw[q0,show s.may l (tx "if")=s from by simp[Rd.may,q0],tw0]at C0
 have C1:=CQ L s (tx "while")
 rw[q1,show s.may l (tx "while")=s from by simp[Rd.may,q1],tw1]at C1
 have C2:=CQ L s (tx "call")
 rw[q2,show s.may l (tx "call")=s from by simp[Rd.may,q2],tw2]at C2
 have C3:=CQ L s (tx "print")
 rw[q3,show s.may l (tx "print")=s from by simp[Rd.may,q3],tw3]at C3
 have C4:=CQ L s (tx "read")
 rw[q4,show s.may l (tx "read")=s from by simp[Rd.may,q4],tw4]at C4
 have C5:=CQ L s (tx "delay")
 rw[q5,show s.may l (tx "delay")=s from by simp[Rd.may,q5],tw5]at C5
 have C6:=CQ L s (tx "continue")
 rw[q6,show s.may l (tx "continue")=s from by simp[Rd.may,q6],tw6]at C6
 have C7:=CQ L s (tx "skip")
 rw[q7,show s.may l (tx "skip")=s from by simp[Rd.may,q7],tw7]at C7
 obtain⟨R,hR⟩:∃ R,R=Rd.stmtW l blk s:=⟨_,rfl⟩
 rw[←hR]
 unfold Rd.stmtW at hR
 simp only[q0,q1,q2,q3,q4,q5,q6,q7,if_false,Bool.false_eq_true]at hR
 have hg1:=hgood.name l
 have CA:=CN L s
 obtain⟨a,ha⟩:∃ a,a=s.name l:=⟨_,rfl⟩
 rw[←ha]at CA hR hg1
 have CB:=CM L a.1 (tx ":=")
 have hg2:=hg1.must1 l (tx ":=")
 obtain⟨m,hm⟩:∃ m,m=a.1.must l (tx ":="):=⟨_,rfl⟩
 rw[←hm]at CB hR hg2
 rw[tw11]at CB
 have CC:=CV L m
 have hg3:(m.value l).1.bad=false→(m.value l).1.Good 1:=fun hbad=>Rd.Keeps.value l 1 _ (hg2 (Rd.value_good l hbad))
 obtain⟨v,hv⟩:∃ v,v=m.value l:=⟨_,rfl⟩
 rw[←hv]at CC hR hg3
 have CD:=fun (w':World) (hR:RdAt L B g l lv v.1 w') h=>CP v.1 (ndN 11 a.2 [v.2]) (.slice (some ⟨w'.heap.size,0,none⟩) 1 1) (w'.alloc (.cells #[.int .i64 v.2] 3)) h (ak7.made hR.loose rfl [v.2] 1 1 rfl) hg3
 have HR:=qb hR
 clear CN CM CQ CV CP q0 q1 q2 q3 q4 q5 q6 q7 hb HB hR ha hm hv hg1 hg2 hg3 hpo hgood h _hn
 go_enter Tryz.func61,Tryz.ntmps61
 go_wp2_with (first
  | (go_at_call 10;refine(qa (C0 _ K0.out.at')).mono ?_;rintro e w1⟨rfl,he⟩;have K1:=qb (K0.out.then' he);clear he C0)
  | (go_at_call 10;refine(qa (C1 _ K1.out.at')).mono ?_;rintro e w2⟨rfl,he⟩;have K2:=qb (K1.out.then' he);clear he C1)
  | (go_at_call 10;refine(qa (C2 _ K2.out.at')).mono ?_;rintro e w3⟨rfl,he⟩;have K3:=qb (K2.out.then' he);clear he C2)
  | (go_at_call 10;refine(qa (C3 _ K3.out.at')).mono ?_;rintro e w4⟨rfl,he⟩;have K4:=qb (K3.out.then' he);clear he C3)
  | (go_at_call 10;refine(qa (C4 _ K4.out.at')).mono ?_;rintro e w5⟨rfl,he⟩;have K5:=qb (K4.out.then' he);clear he C4)
  | (go_at_call 10;refine(qa (C5 _ K5.out.at')).mono ?_;rintro e w6⟨rfl,he⟩;have K6:=qb (K5.out.then' he);clear he C5)
  | (go_at_call 10;refine(qa (C6 _ K6.out.at')).mono ?_;rintro e w7⟨rfl,he⟩;have K7:=qb (K6.out.then' he);clear he C6)
  | (go_at_call 10;refine(qa (C7 _ K7.out.at')).mono ?_;rintro e w8⟨rfl,he⟩;have K8:=qb (K7.out.then' he);clear he C7)
  | (go_at_call 29;refine(qa (CA _ K8.out.at')).mono ?_;rintro e w20⟨rfl,he⟩;have K20:=qb (K8.out.then' he);clear he)
  | (go_at_call 13;refine(qa (CB _ K20.out.at')).mono ?_;rintro e w21⟨rfl,he⟩;have K21:=qb (K20.out.then' he);clear he)
  | (go_at_call 88;refine(qa (CC _ K21.out.at')).mono ?_;rintro e w22⟨rfl,he⟩;have K22:=qb (K21.out.then' he);clear he)
  | (go_at_call 62;refine(qa (CD _ K22.out.at' (K22.out.new _).at')).mono ?_;rintro e w23⟨rfl,he⟩;have K23:=qb ((K22.out.new _).then' he);clear he))
 go_ret
 rw[HR.out]
 exact⟨rfl,K23.out⟩
theorem bf_ {L:Nat→Prop}{B g:Nat}{l:List Sg}{lv:Value}{n:Nat}(blk:Rd→Rd×Int) (hb:∀ L,Way L B g l lv 31 blk n) (hl:l.length≤1048576) (hx:∀ x∈l,x.text.size≤1048576) (s:Rd) (w:World) (hn:l.length-s.pos<n+1) (h:RdAt L B g l lv s w) :
  Calls Tryz.prog 61 #[.pointer (some ⟨g,0,none⟩)] w fun e w'=>e=.returned (.int .i64 (Rd.stmtW l blk s).2)∧aa8 L B g l lv (Rd.stmtW l blk s).1 w w':=by
 cases q0:s.isQ l (tx "if") with
 | true=>exact stArm_if blk hb hl hx s w hn h q0
 | false =>
  cases q1:s.isQ l (tx "while") with
  | true=>exact aY4 blk hb hl hx s w hn h q0 q1
  | false =>
   cases q2:s.isQ l (tx "call") with
   | true=>exact bg_ blk hb hl hx s w hn h q0 q1 q2
   | false =>
    cases q3:s.isQ l (tx "print") with
    | true=>exact aY3 blk hb hl hx s w hn h q0 q1 q2 q3
    | false =>
     cases q4:s.isQ l (tx "read") with
     | true=>exact bg0 blk hb hl hx s w hn h q0 q1 q2 q3 q4
     | false =>
      cases q5:s.isQ l (tx "delay") with
      | true=>exact aY2 blk hb hl hx s w hn h q0 q1 q2 q3 q4 q5
      | false =>
       cases q6:s.isQ l (tx "continue") with
       | true=>exact aH9 blk hb hl hx s w hn h q0 q1 q2 q3 q4 q5 q6
       | false =>
        cases q7:s.isQ l (tx "skip") with
        | true=>exact bg1 blk hb hl hx s w hn h q0 q1 q2 q3 q4 q5 q6 q7
        | false =>
         exact bm1 blk hb hl hx s w hn h q0 q1 q2 q3 q4 q5 q6 q7
theorem aT_ {B g:Nat}{l:List Sg}{lv:Value}(hl:l.length≤1048576) (hx:∀ x∈l,x.text.size≤1048576):∀ n L,Way L B g l lv 31 (Rd.deepB l n).1 n∧Way L B g l lv 61 (Rd.deepB l n).2 n
 | 0,L=>⟨⟨fun _ _ h=>absurd h (Nat.not_lt_zero _),(Rd.deepB_pos l 0).1,(Rd.Keeps.deepB l 0).1⟩,⟨fun _ _ h=>absurd h (Nat.not_lt_zero _),(Rd.deepB_pos l 0).2,(Rd.Keeps.deepB l 0).2⟩⟩
 | n+1,L=>by
  have ih:=fun L=>aT_ (B:=B) (g:=g) (lv:=lv) hl hx n L
  have hs:∀ L,Way L B g l lv 61 (Rd.deepB l (n+1)).2 (n+1):=fun L=>⟨fun s w hn h=>bf_ _ (fun L=>(ih L).1) hl hx s w hn h,(Rd.deepB_pos l (n+1)).2,(Rd.Keeps.deepB l (n+1)).2⟩
  exact⟨⟨fun s w hn h=>aX1 _ hs hl s w hn h,(Rd.deepB_pos l (n+1)).1,(Rd.Keeps.deepB l (n+1)).1⟩,hs L⟩
theorem aR3 {L:Nat→Prop}{B g:Nat}{l:List Sg}{lv:Value}(s:Rd) (w:World) (h:RdAt L B g l lv s w) (hl:l.length≤1048576) (hx:∀ x∈l,x.text.size≤1048576) :
  Calls Tryz.prog 31 #[.pointer (some ⟨g,0,none⟩)] w fun e w'=>e=.returned (.int .i64 (s.block l).2)∧aa8 L B g l lv (s.block l).1 w w' :=
 (aT_ hl hx (l.length+1) L).1.run s w (by omega) h
end Go.Proofs.YtcpapceeekkacaaGreatDoor
