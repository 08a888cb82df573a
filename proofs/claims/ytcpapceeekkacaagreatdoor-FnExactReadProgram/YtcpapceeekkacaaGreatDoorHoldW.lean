import Derived.Test.YtcpapceeekkacaaGreatDoorPartW
set_option maxRecDepth 100000
set_option maxHeartbeats 8000000
namespace Go.Proofs.YtcpapceeekkacaaGreatDoor
open Go.RowKit
theorem tx2:tx "(" = ⟨#[40]⟩∧tx ")" = ⟨#[41]⟩∧tx "not" = ⟨#[110,111,116]⟩:=by decide +kernel
theorem aa8.new {L:Nat→Prop}{B g:Nat}{l:List Sg}{lv:Value}{s:Rd}{w W:World}(h:aa8 L B g l lv s w W) (o:Obj):aa8 L B g l lv s w (W.alloc o):=h.then' (aa8.below h.at' (bal _ o) h.at'.heap)
theorem RdAt.boxLt {L:Nat→Prop}{B g:Nat}{l:List Sg}{lv:Value}{s:Rd}{w:World}(h:RdAt L B g l lv s w):g<w.heap.size:=by
 obtain⟨nv,h1,_⟩:=h.box
 exact h1.lt
theorem RdAt.held4 {L:Nat→Prop}{B g:Nat}{l:List Sg}{s:Rd}{a p:Addr}{cp:Nat}{x:Sg}{z:World}(h:RdAt L B g l (.slice (some a) l.length cp) s z) (hlt:s.pos<l.length) (hp:a.add (s.pos*4)=p) (hx:l[s.pos]=x) :
  z.cell? ⟨g,0,none⟩=some (.slice (some a) l.length cp)∧z.cell? ⟨g,1,none⟩=some (.int .i64 (s.pos:Int))∧z.cell? p=some (.int .i64 x.kind)∧z.cell? { block:=p.block,off:=p.off+1 }=some (.string x.text)∧z.cell? { block:=p.block,off:=p.off+2 }=some (.int .i64 x.num)∧z.cell? { block:=p.block,off:=p.off+3 }=some (.int .i64 x.place):=by
 obtain⟨nv,c0,c1,_,_,_⟩:=h.cells
 obtain⟨a',c',p',e,hp',d0,d1,d2,d3⟩:=h.sign hlt
 injection e with e1 _ _
 injection e1 with e1
 subst e1
 rw[hp]at hp'
 subst hp' hx
 exact⟨c0,c1,d0,d1,d2,d3⟩
theorem aR4 {L:Nat→Prop}{B g:Nat}{l:List Sg}{lv:Value}{n:Nat}(val fac:Rd→Rd×Int) (hv:Way L B g l lv 88 val n) (hf:Way L B g l lv 140 fac n) (hl:l.length≤1048576) (hx:∀ x∈l,x.text.size≤1048576) (s:Rd) (w:World) (hn:l.length-s.pos<n+1) (h:RdAt L B g l lv s w) :
  Calls Tryz.prog 140 #[.pointer (some ⟨g,0,none⟩)] w fun e w'=>e=.returned (.int .i64 (Rd.factorW l val fac s).2)∧aa8 L B g l lv (Rd.factorW l val fac s).1 w w':=by
 obtain⟨nv,c0,c1,c2,c3,f⟩:=h.cells
 obtain⟨ao,cp,rfl⟩:=h.slice
 have H:=qb h
 have hp:=h.pos
 have f1:=f 1
 have f2:=f 2
 clear f
 cases hb:s.bad with
 | true =>
  have HR:Hid (Rd.factorW l val fac s=(s.wrong,0)):=by simp[Hid,Rd.factorW,Rd.next,hb]
  rw[hb]at c2
  go_enter Tryz.func140,Tryz.ntmps140
  go_wp2
  go_quiet (fail)
  go_wp2
  go_ret
  rw[HR.out]
  exact⟨rfl,(aa8.drewN H.out _).then' (aa8.wrong (H.out.drewN _))⟩
 | false =>
  rw[hb]at c2
  by_cases hlt:s.pos<l.length
  ·have hd:decide (l.length≤s.pos)=false:=by simp;omega
   obtain⟨a,c',p,e,ha,d0,d1,d2,d3⟩:=H.out.sign hlt
   injection e with e1 e2 e3
   subst e1 e3
   obtain⟨x,ex⟩:∃ x,x=l[s.pos]:=⟨_,rfl⟩
   rw[←ex]at d0 d1 d2 d3
   have hi0:(0:Int)≤(s.pos:Int):=by omega
   have hi1:(s.pos:Int)<(l.length:Int):=by omega
   have HNX:Hid (s.next l=some x):=by simp[Hid,Rd.next,hb,hlt,ex]
   have CP:=fun (s:Rd) y kv w h hk hg=>qb (aj8 (L:=L) (B:=B) (g:=g) (l:=l) (lv:=.slice (some a) l.length cp) (s:=s) y kv w h hk hg hl)
   have HX:=qb ex.symm
   have KK:=fun q=>qb (aa8.drewN H.out q)
   clear ex e2 h
   have CM:=fun t w h=>qb (ah0 (L:=L) (B:=B) (g:=g) (l:=l) (lv:=.slice (some a) l.length cp) (s:=s) t w h hl)
   have HV:=qb hv
   have HF:=qb hf
   by_cases hk:x.kind=2
   ·have HR:Hid (Rd.factorW l val fac s=s.on.put (ndK 1 x.num [])):=by simp[Hid,Rd.factorW,HNX.out,hk]
    have hwr:wrap64 ((s.pos:Int)+1)=(s.pos:Int)+1:=IntWalk.wrap64_in _ (by omega)
    clear hv hf
    (
 go_enter Tryz.func140,Tryz.ntmps140;
 go_wp2;
 go_quiet (fail);
 go_wp2;
 have K1:=KK nq;
 generalize w.drewN nq=W at K1 ⊢;
 obtain⟨b0,b1,m0,m1,m2,m3⟩:=K1.out.at'.held4 hlt ha HX.out;
 have e0:∀ o,(W.alloc o).cell? ⟨g,0,none⟩=some (.slice (some a) l.length cp):=fun o=>((K1.out.at'.below (bal _ o)).held4 hlt ha HX.out).1;
 have e1:∀ o,(W.alloc o).cell? ⟨g,1,none⟩=some (.int .i64 (s.pos:Int)):=fun o=>((K1.out.at'.below (bal _ o)).held4 hlt ha HX.out).2.1;
 have n0:∀ o,(W.alloc o).cell? p=some (.int .i64 x.kind):=fun o=>((K1.out.at'.below (bal _ o)).held4 hlt ha HX.out).2.2.1;
 have n1:∀ o,(W.alloc o).cell? { block:=p.block,off:=p.off+1 }=some (.string x.text):=fun o=>((K1.out.at'.below (bal _ o)).held4 hlt ha HX.out).2.2.2.1;
 have n2:∀ o,(W.alloc o).cell? { block:=p.block,off:=p.off+2 }=some (.int .i64 x.num):=fun o=>((K1.out.at'.below (bal _ o)).held4 hlt ha HX.out).2.2.2.2.1;
 have n3:∀ o,(W.alloc o).cell? { block:=p.block,off:=p.off+3 }=some (.int .i64 x.place):=fun o=>((K1.out.at'.below (bal _ o)).held4 hlt ha HX.out).2.2.2.2.2;
 clear c0 c1 c2 c3 d0 d1 d2 d3 f1 f2;
 go_region;
 have K2:=qb (aa8.then' (K1.out.new (.cells #[.int .i64 2,.string x.text,.int .i64 x.num,.int .i64 x.place] 48)) (aa8.below (K1.out.new (.cells #[.int .i64 2,.string x.text,.int .i64 x.num,.int .i64 x.place] 48)).at' (Below.refl _ _).drew (K1.out.new (.cells #[.int .i64 2,.string x.text,.int .i64 x.num,.int .i64 x.place] 48)).at'.heap));
 have t0:((W.alloc (.cells #[.int .i64 2,.string x.text,.int .i64 x.num,.int .i64 x.place] 48)).drew).cell? ⟨W.heap.size,0,none⟩=some (.int .i64 2):=by { show (W.alloc _).cell? _=_;rw[World.cell?_alloc_new];rfl };
 have t2:((W.alloc (.cells #[.int .i64 2,.string x.text,.int .i64 x.num,.int .i64 x.place] 48)).drew).cell? ⟨W.heap.size,2,none⟩=some (.int .i64 x.num):=by { show (W.alloc _).cell? _=_;rw[World.cell?_alloc_new];rfl };
 have hgW:=K1.out.at'.boxLt;
 clear b0 b1 m0 m1 m2 m3 e0 e1 n0 n1 n2 n3;
 generalize (W.alloc (.cells #[.int .i64 2,.string x.text,.int .i64 x.num,.int .i64 x.place] 48)).drew=W2 at K2 t0 t2 ⊢;
 obtain⟨nv2,z0,z1,z2,z3,zf⟩:=K2.out.at'.cells;
 have zf1:=zf 1;
 clear zf)
    all_goals
     have K3:=qb (aa8.on K2.out.at' hlt)
     have t3:(W2.setCell ⟨g,1,none⟩ (.int .i64 ((s.pos:Int)+1))).cell? ⟨W.heap.size,2,none⟩=some (.int .i64 x.num):=by
      rw[World.cell?_setCell_other (h:=fun e=>by injection e with e _ _;omega)]
      exact t2
     have C5:=CP s.on (ndK 1 x.num []) (.slice none 0 0) _ K3.out.at' (ak7.nil _) (fun _=>H.out.good.on)
     clear CP CM
     go_wp2_with (go_at_call 62;refine(qa C5).mono ?_;rintro e w5⟨rfl,he⟩;have K5:=qb he;clear he)
     go_ret
     rw[HR.out]
     exact⟨rfl,(K2.out.then' K3.out).then' K5.out⟩
   ·have hkb:(x.kind == 2)=false:=by simp[hk]
    have C1:=CM (tx "(")
    have C2:=CM (tx "not")
    have C3:=CM (tx "-")
    have hno:l.length-s.on.pos<n:=by simp only[Rd.on];omega
    clear CM
    cases q1:s.isQ l (tx "(") with
    | true =>
     have HR:Hid (Rd.factorW l val fac s=((val s.on).1.must l (tx ")"),(val s.on).2)):=by simp[Hid,Rd.factorW,HNX.out,hk,q1]
     have HM:Hid (s.may l (tx "(")=s.on):=by simp[Hid,Rd.may,q1]
     rw[q1,HM.out,tx2.1]at C1
     have C5:=fun w h=>qb (HV.out.run s.on w hno h)
     have C6:=fun w h=>qb (ag6 (L:=L) (B:=B) (g:=g) (l:=l) (lv:=.slice (some a) l.length cp) (s:=(val s.on).1) (tx ")") w h hl)
     rw[tx2.2.1]at C6
     rw[tx2.2.1]at HR
     clear hv hf C2 C3 CP
     (
 go_enter Tryz.func140,Tryz.ntmps140;
 go_wp2;
 go_quiet (fail);
 go_wp2;
 have K1:=KK nq;
 generalize w.drewN nq=W at K1 ⊢;
 obtain⟨b0,b1,m0,m1,m2,m3⟩:=K1.out.at'.held4 hlt ha HX.out;
 have e0:∀ o,(W.alloc o).cell? ⟨g,0,none⟩=some (.slice (some a) l.length cp):=fun o=>((K1.out.at'.below (bal _ o)).held4 hlt ha HX.out).1;
 have e1:∀ o,(W.alloc o).cell? ⟨g,1,none⟩=some (.int .i64 (s.pos:Int)):=fun o=>((K1.out.at'.below (bal _ o)).held4 hlt ha HX.out).2.1;
 have n0:∀ o,(W.alloc o).cell? p=some (.int .i64 x.kind):=fun o=>((K1.out.at'.below (bal _ o)).held4 hlt ha HX.out).2.2.1;
 have n1:∀ o,(W.alloc o).cell? { block:=p.block,off:=p.off+1 }=some (.string x.text):=fun o=>((K1.out.at'.below (bal _ o)).held4 hlt ha HX.out).2.2.2.1;
 have n2:∀ o,(W.alloc o).cell? { block:=p.block,off:=p.off+2 }=some (.int .i64 x.num):=fun o=>((K1.out.at'.below (bal _ o)).held4 hlt ha HX.out).2.2.2.2.1;
 have n3:∀ o,(W.alloc o).cell? { block:=p.block,off:=p.off+3 }=some (.int .i64 x.place):=fun o=>((K1.out.at'.below (bal _ o)).held4 hlt ha HX.out).2.2.2.2.2;
 clear c0 c1 c2 c3 d0 d1 d2 d3 f1 f2;
 go_region;
 have K2:=qb (aa8.then' (K1.out.new (.cells #[.int .i64 x.kind,.string x.text,.int .i64 x.num,.int .i64 x.place] 48)) (aa8.below (K1.out.new (.cells #[.int .i64 x.kind,.string x.text,.int .i64 x.num,.int .i64 x.place] 48)).at' (Below.refl _ _).drew (K1.out.new (.cells #[.int .i64 x.kind,.string x.text,.int .i64 x.num,.int .i64 x.place] 48)).at'.heap));
 have t0:((W.alloc (.cells #[.int .i64 x.kind,.string x.text,.int .i64 x.num,.int .i64 x.place] 48)).drew).cell? ⟨W.heap.size,0,none⟩=some (.int .i64 x.kind):=by { show (W.alloc _).cell? _=_;rw[World.cell?_alloc_new];rfl };
 have t2:((W.alloc (.cells #[.int .i64 x.kind,.string x.text,.int .i64 x.num,.int .i64 x.place] 48)).drew).cell? ⟨W.heap.size,2,none⟩=some (.int .i64 x.num):=by { show (W.alloc _).cell? _=_;rw[World.cell?_alloc_new];rfl };
 have hgW:=K1.out.at'.boxLt;
 clear b0 b1 m0 m1 m2 m3 e0 e1 n0 n1 n2 n3;
 generalize (W.alloc (.cells #[.int .i64 x.kind,.string x.text,.int .i64 x.num,.int .i64 x.place] 48)).drew=W2 at K2 t0 t2 ⊢;
 obtain⟨nv2,z0,z1,z2,z3,zf⟩:=K2.out.at'.cells;
 have zf1:=zf 1;
 clear zf)
     all_goals
      go_wp2_with (first
       | (go_at_call 10;refine(qa (C1 _ K2.out.at')).mono ?_;rintro e w4⟨rfl,he⟩;have K4:=qb he;clear he)
       | (go_at_call 88;refine(qa (C5 _ K4.out.at')).mono ?_;rintro e w5⟨rfl,he⟩;have K5:=qb he;clear he)
       | (go_at_call 13;refine(qa (C6 _ K5.out.at')).mono ?_;rintro e w6⟨rfl,he⟩;have K6:=qb he;clear he))
      go_ret
      rw[HR.out]
      exact⟨rfl,((K2.out.then' K4.out).then' K5.out).then' K6.out⟩
    | false =>
     have HM1:Hid (s.may l (tx "(")=s):=by simp[Hid,Rd.may,q1]
     rw[q1,HM1.out,tx2.1]at C1
     cases q2:s.isQ l (tx "not") with
     | true =>
      have HR:Hid (Rd.factorW l val fac s=(fac s.on).1.put (ndK 4 0 [(fac s.on).2])):=by simp[Hid,Rd.factorW,HNX.out,hk,q1,q2]
      have HM:Hid (s.may l (tx "not")=s.on):=by simp[Hid,Rd.may,q2]
      rw[q2,HM.out,tx2.2.2]at C2
      have C5:=fun w h=>qb (HF.out.run s.on w hno h)
      have C6:=fun (w':World) (hR:RdAt L B g l (.slice (some a) l.length cp) (fac s.on).1 w') h=>CP (fac s.on).1 (ndK 4 0 [(fac s.on).2]) (.slice (some ⟨w'.heap.size,0,none⟩) 1 1) (w'.alloc (.cells #[.int .i64 (fac s.on).2] 3)) h (ak7.made hR.loose rfl [(fac s.on).2] 1 1 rfl) (fun _=>HF.out.keeps 1 _ H.out.good.on)
      clear hv hf CP C3
      (
 go_enter Tryz.func140,Tryz.ntmps140;
 go_wp2;
 go_quiet (fail);
 go_wp2;
 have K1:=KK nq;
 generalize w.drewN nq=W at K1 ⊢;
 obtain⟨b0,b1,m0,m1,m2,m3⟩:=K1.out.at'.held4 hlt ha HX.out;
 have e0:∀ o,(W.alloc o).cell? ⟨g,0,none⟩=some (.slice (some a) l.length cp):=fun o=>((K1.out.at'.below (bal _ o)).held4 hlt ha HX.out).1;
 have e1:∀ o,(W.alloc o).cell? ⟨g,1,none⟩=some (.int .i64 (s.pos:Int)):=fun o=>((K1.out.at'.below (bal _ o)).held4 hlt ha HX.out).2.1;
 have n0:∀ o,(W.alloc o).cell? p=some (.int .i64 x.kind):=fun o=>((K1.out.at'.below (bal _ o)).held4 hlt ha HX.out).2.2.1;
 have n1:∀ o,(W.alloc o).cell? { block:=p.block,off:=p.off+1 }=some (.string x.text):=fun o=>((K1.out.at'.below (bal _ o)).held4 hlt ha HX.out).2.2.2.1;
 have n2:∀ o,(W.alloc o).cell? { block:=p.block,off:=p.off+2 }=some (.int .i64 x.num):=fun o=>((K1.out.at'.below (bal _ o)).held4 hlt ha HX.out).2.2.2.2.1;
 have n3:∀ o,(W.alloc o).cell? { block:=p.block,off:=p.off+3 }=some (.int .i64 x.place):=fun o=>((K1.out.at'.below (bal _ o)).held4 hlt ha HX.out).2.2.2.2.2;
 clear c0 c1 c2 c3 d0 d1 d2 d3 f1 f2;
 go_region;
 have K2:=qb (aa8.then' (K1.out.new (.cells #[.int .i64 x.kind,.string x.text,.int .i64 x.num,.int .i64 x.place] 48)) (aa8.below (K1.out.new (.cells #[.int .i64 x.kind,.string x.text,.int .i64 x.num,.int .i64 x.place] 48)).at' (Below.refl _ _).drew (K1.out.new (.cells #[.int .i64 x.kind,.string x.text,.int .i64 x.num,.int .i64 x.place] 48)).at'.heap));
 have t0:((W.alloc (.cells #[.int .i64 x.kind,.string x.text,.int .i64 x.num,.int .i64 x.place] 48)).drew).cell? ⟨W.heap.size,0,none⟩=some (.int .i64 x.kind):=by { show (W.alloc _).cell? _=_;rw[World.cell?_alloc_new];rfl };
 have t2:((W.alloc (.cells #[.int .i64 x.kind,.string x.text,.int .i64 x.num,.int .i64 x.place] 48)).drew).cell? ⟨W.heap.size,2,none⟩=some (.int .i64 x.num):=by { show (W.alloc _).cell? _=_;rw[World.cell?_alloc_new];rfl };
 have hgW:=K1.out.at'.boxLt;
 clear b0 b1 m0 m1 m2 m3 e0 e1 n0 n1 n2 n3;
 generalize (W.alloc (.cells #[.int .i64 x.kind,.string x.text,.int .i64 x.num,.int .i64 x.place] 48)).drew=W2 at K2 t0 t2 ⊢;
 obtain⟨nv2,z0,z1,z2,z3,zf⟩:=K2.out.at'.cells;
 have zf1:=zf 1;
 clear zf)
      all_goals
       go_wp2_with (first
        | (go_at_call 10;refine(qa (C1 _ K2.out.at')).mono ?_;rintro e w20⟨rfl,he⟩;have K20:=qb he;clear he C1)
        | (go_at_call 10;refine(qa (C2 _ K20.out.at')).mono ?_;rintro e w4⟨rfl,he⟩;have K4:=qb he;clear he)
        | (go_at_call 140;refine(qa (C5 _ K4.out.at')).mono ?_;rintro e w5⟨rfl,he⟩;have K5:=qb he;clear he)
        | (go_at_call 62;refine(qa (C6 _ K5.out.at' (K5.out.new _).at')).mono ?_;rintro e w6⟨rfl,he⟩;have K6:=qb he;clear he))
       go_ret
       rw[HR.out]
       exact⟨rfl,(((K2.out.then' K20.out).then' K4.out).then' (K5.out.new _)).then' K6.out⟩
     | false =>
      have HM2:Hid (s.may l (tx "not")=s):=by simp[Hid,Rd.may,q2]
      rw[q2,HM2.out,tx2.2.2]at C2
      cases q3:s.isQ l (tx "-") with
      | true =>
       have HR:Hid (Rd.factorW l val fac s=(fac s.on).1.put (ndK 5 0 [(fac s.on).2])):=by simp[Hid,Rd.factorW,HNX.out,hk,q1,q2,q3]
       have HM:Hid (s.may l (tx "-")=s.on):=by simp[Hid,Rd.may,q3]
       rw[q3,HM.out,tx1.2.2.2.2.1]at C3
       have C5:=fun w h=>qb (HF.out.run s.on w hno h)
       have C6:=fun (w':World) (hR:RdAt L B g l (.slice (some a) l.length cp) (fac s.on).1 w') h=>CP (fac s.on).1 (ndK 5 0 [(fac s.on).2]) (.slice (some ⟨w'.heap.size,0,none⟩) 1 1) (w'.alloc (.cells #[.int .i64 (fac s.on).2] 3)) h (ak7.made hR.loose rfl [(fac s.on).2] 1 1 rfl) (fun _=>HF.out.keeps 1 _ H.out.good.on)
       clear hv hf CP
       (
 go_enter Tryz.func140,Tryz.ntmps140;
 go_wp2;
 go_quiet (fail);
 go_wp2;
 have K1:=KK nq;
 generalize w.drewN nq=W at K1 ⊢;
 obtain⟨b0,b1,m0,m1,m2,m3⟩:=K1.out.at'.held4 hlt ha HX.out;
 have e0:∀ o,(W.alloc o).cell? ⟨g,0,none⟩=some (.slice (some a) l.length cp):=fun o=>((K1.out.at'.below (bal _ o)).held4 hlt ha HX.out).1;
 have e1:∀ o,(W.alloc o).cell? ⟨g,1,none⟩=some (.int .i64 (s.pos:Int)):=fun o=>((K1.out.at'.below (bal _ o)).held4 hlt ha HX.out).2.1;
 have n0:∀ o,(W.alloc o).cell? p=some (.int .i64 x.kind):=fun o=>((K1.out.at'.below (bal _ o)).held4 hlt ha HX.out).2.2.1;
 have n1:∀ o,(W.alloc o).cell? { block:=p.block,off:=p.off+1 }=some (.string x.text):=fun o=>((K1.out.at'.below (bal _ o)).held4 hlt ha HX.out).2.2.2.1;
 have n2:∀ o,(W.alloc o).cell? { block:=p.block,off:=p.off+2 }=some (.int .i64 x.num):=fun o=>((K1.out.at'.below (bal _ o)).held4 hlt ha HX.out).2.2.2.2.1;
 have n3:∀ o,(W.alloc o).cell? { block:=p.block,off:=p.off+3 }=some (.int .i64 x.place):=fun o=>((K1.out.at'.below (bal _ o)).held4 hlt ha HX.out).2.2.2.2.2;
 clear c0 c1 c2 c3 d0 d1 d2 d3 f1 f2;
 go_region;
 have K2:=qb (aa8.then' (K1.out.new (.cells #[.int .i64 x.kind,.string x.text,.int .i64 x.num,.int .i64 x.place] 48)) (aa8.below (K1.out.new (.cells #[.int .i64 x.kind,.string x.text,.int .i64 x.num,.int .i64 x.place] 48)).at' (Below.refl _ _).drew (K1.out.new (.cells #[.int .i64 x.kind,.string x.text,.int .i64 x.num,.int .i64 x.place] 48)).at'.heap));
 have t0:((W.alloc (.cells #[.int .i64 x.kind,.string x.text,.int .i64 x.num,.int .i64 x.place] 48)).drew).cell? ⟨W.heap.size,0,none⟩=some (.int .i64 x.kind):=by { show (W.alloc _).cell? _=_;rw[World.cell?_alloc_new];rfl };
 have t2:((W.alloc (.cells #[.int .i64 x.kind,.string x.text,.int .i64 x.num,.int .i64 x.place] 48)).drew).cell? ⟨W.heap.size,2,none⟩=some (.int .i64 x.num):=by { show (W.alloc _).cell? _=_;rw[World.cell?_alloc_new];rfl };
 have hgW:=K1.out.at'.boxLt;
 clear b0 b1 m0 m1 m2 m3 e0 e1 n0 n1 n2 n3;
 generalize (W.alloc (.cells #[.int .i64 x.kind,.string x.text,.int .i64 x.num,.int .i64 x.place] 48)).drew=W2 at K2 t0 t2 ⊢;
 obtain⟨nv2,z0,z1,z2,z3,zf⟩:=K2.out.at'.cells;
 have zf1:=zf 1;
 clear zf)
       all_goals
        go_wp2_with (first
         | (go_at_call 10;refine(qa (C1 _ K2.out.at')).mono ?_;rintro e w20⟨rfl,he⟩;have K20:=qb he;clear he C1)
         | (go_at_call 10;refine(qa (C2 _ K20.out.at')).mono ?_;rintro e w21⟨rfl,he⟩;have K21:=qb he;clear he C2)
         | (go_at_call 10;refine(qa (C3 _ K21.out.at')).mono ?_;rintro e w4⟨rfl,he⟩;have K4:=qb he;clear he)
         | (go_at_call 140;refine(qa (C5 _ K4.out.at')).mono ?_;rintro e w5⟨rfl,he⟩;have K5:=qb he;clear he)
         | (go_at_call 62;refine(qa (C6 _ K5.out.at' (K5.out.new _).at')).mono ?_;rintro e w6⟨rfl,he⟩;have K6:=qb he;clear he))
        go_ret
        rw[HR.out]
        exact⟨rfl,((((K2.out.then' K20.out).then' K21.out).then' K4.out).then' (K5.out.new _)).then' K6.out⟩
      | false =>
       have HM3:Hid (s.may l (tx "-")=s):=by simp[Hid,Rd.may,q3]
       rw[q3,HM3.out,tx1.2.2.2.2.1]at C3
       have HR:Hid (Rd.factorW l val fac s=(s.name l).1.put (ndN 2 (s.name l).2 [])):=by simp[Hid,Rd.factorW,HNX.out,hk,q1,q2,q3]
       have C5:=fun w h=>qb (ah9 (L:=L) (B:=B) (g:=g) (l:=l) (lv:=.slice (some a) l.length cp) (s:=s) w h hl hx)
       have C6:=fun w' h=>CP (s.name l).1 (ndN 2 (s.name l).2 []) (.slice none 0 0) w' h (ak7.nil _) (Rd.Good.name1 l H.out.good)
       clear hv hf CP hx
       (
 go_enter Tryz.func140,Tryz.ntmps140;
 go_wp2;
 go_quiet (fail);
 go_wp2;
 have K1:=KK nq;
 generalize w.drewN nq=W at K1 ⊢;
 obtain⟨b0,b1,m0,m1,m2,m3⟩:=K1.out.at'.held4 hlt ha HX.out;
 have e0:∀ o,(W.alloc o).cell? ⟨g,0,none⟩=some (.slice (some a) l.length cp):=fun o=>((K1.out.at'.below (bal _ o)).held4 hlt ha HX.out).1;
 have e1:∀ o,(W.alloc o).cell? ⟨g,1,none⟩=some (.int .i64 (s.pos:Int)):=fun o=>((K1.out.at'.below (bal _ o)).held4 hlt ha HX.out).2.1;
 have n0:∀ o,(W.alloc o).cell? p=some (.int .i64 x.kind):=fun o=>((K1.out.at'.below (bal _ o)).held4 hlt ha HX.out).2.2.1;
 have n1:∀ o,(W.alloc o).cell? { block:=p.block,off:=p.off+1 }=some (.string x.text):=fun o=>((K1.out.at'.below (bal _ o)).held4 hlt ha HX.out).2.2.2.1;
 have n2:∀ o,(W.alloc o).cell? { block:=p.block,off:=p.off+2 }=some (.int .i64 x.num):=fun o=>((K1.out.at'.below (bal _ o)).held4 hlt ha HX.out).2.2.2.2.1;
 have n3:∀ o,(W.alloc o).cell? { block:=p.block,off:=p.off+3 }=some (.int .i64 x.place):=fun o=>((K1.out.at'.below (bal _ o)).held4 hlt ha HX.out).2.2.2.2.2;
 clear c0 c1 c2 c3 d0 d1 d2 d3 f1 f2;
 go_region;
 have K2:=qb (aa8.then' (K1.out.new (.cells #[.int .i64 x.kind,.string x.text,.int .i64 x.num,.int .i64 x.place] 48)) (aa8.below (K1.out.new (.cells #[.int .i64 x.kind,.string x.text,.int .i64 x.num,.int .i64 x.place] 48)).at' (Below.refl _ _).drew (K1.out.new (.cells #[.int .i64 x.kind,.string x.text,.int .i64 x.num,.int .i64 x.place] 48)).at'.heap));
 have t0:((W.alloc (.cells #[.int .i64 x.kind,.string x.text,.int .i64 x.num,.int .i64 x.place] 48)).drew).cell? ⟨W.heap.size,0,none⟩=some (.int .i64 x.kind):=by { show (W.alloc _).cell? _=_;rw[World.cell?_alloc_new];rfl };
 have t2:((W.alloc (.cells #[.int .i64 x.kind,.string x.text,.int .i64 x.num,.int .i64 x.place] 48)).drew).cell? ⟨W.heap.size,2,none⟩=some (.int .i64 x.num):=by { show (W.alloc _).cell? _=_;rw[World.cell?_alloc_new];rfl };
 have hgW:=K1.out.at'.boxLt;
 clear b0 b1 m0 m1 m2 m3 e0 e1 n0 n1 n2 n3;
 generalize (W.alloc (.cells #[.int .i64 x.kind,.string x.text,.int .i64 x.num,.int .i64 x.place] 48)).drew=W2 at K2 t0 t2 ⊢;
 obtain⟨nv2,z0,z1,z2,z3,zf⟩:=K2.out.at'.cells;
 have zf1:=zf 1;
 clear zf)
       all_goals
        go_wp2_with (first
         | (go_at_call 10;refine(qa (C1 _ K2.out.at')).mono ?_;rintro e w20⟨rfl,he⟩;have K20:=qb he;clear he C1)
         | (go_at_call 10;refine(qa (C2 _ K20.out.at')).mono ?_;rintro e w21⟨rfl,he⟩;have K21:=qb he;clear he C2)
         | (go_at_call 10;refine(qa (C3 _ K21.out.at')).mono ?_;rintro e w4⟨rfl,he⟩;have K4:=qb he;clear he)
         | (go_at_call 29;refine(qa (C5 _ K4.out.at')).mono ?_;rintro e w5⟨rfl,he⟩;have K5:=qb he;clear he)
         | (go_at_call 62;refine(qa (C6 _ K5.out.at')).mono ?_;rintro e w6⟨rfl,he⟩;have K6:=qb he;clear he))
        go_ret
        rw[HR.out]
        exact⟨rfl,((((K2.out.then' K20.out).then' K21.out).then' K4.out).then' K5.out).then' K6.out⟩
  ·have hd:decide (l.length≤s.pos)=true:=by simp;omega
   have HR:Hid (Rd.factorW l val fac s=(s.wrong,0)):=by simp[Hid,Rd.factorW,Rd.next,hb,hlt]
   go_enter Tryz.func140,Tryz.ntmps140
   go_wp2
   go_quiet (fail)
   go_wp2
   go_ret
   rw[HR.out]
   exact⟨rfl,(aa8.drewN H.out _).then' (aa8.wrong (H.out.drewN _))⟩
theorem ba9 {L:Nat→Prop}{B g:Nat}{l:List Sg}{lv:Value}(hl:l.length≤1048576) (hx:∀ x∈l,x.text.size≤1048576):∀ n,Way L B g l lv 88 (Rd.deepV l n).1 n∧Way L B g l lv 140 (Rd.deepV l n).2 n
 | 0=>⟨⟨fun _ _ h=>absurd h (Nat.not_lt_zero _),(Rd.deepV_pos l 0).1,(Rd.Keeps.deepV l 0).1⟩,⟨fun _ _ h=>absurd h (Nat.not_lt_zero _),(Rd.deepV_pos l 0).2,(Rd.Keeps.deepV l 0).2⟩⟩
 | n+1=>by
  have ih:=ba9 (L:=L) (B:=B) (g:=g) (lv:=lv) hl hx n
  have hf:Way L B g l lv 140 (Rd.deepV l (n+1)).2 (n+1):=⟨fun s w hn h=>aR4 _ _ ih.1 ih.2 hl hx s w hn h,(Rd.deepV_pos l (n+1)).2,(Rd.Keeps.deepV l (n+1)).2⟩
  exact⟨hf.value hl,hf⟩
theorem am0 {L:Nat→Prop}{B g:Nat}{l:List Sg}{lv:Value}(s:Rd) (w:World) (h:RdAt L B g l lv s w) (hl:l.length≤1048576) (hx:∀ x∈l,x.text.size≤1048576) :
  Calls Tryz.prog 88 #[.pointer (some ⟨g,0,none⟩)] w fun e w'=>e=.returned (.int .i64 (s.value l).2)∧aa8 L B g l lv (s.value l).1 w w' :=
 (ba9 hl hx (l.length+1)).1.run s w (by omega) h
theorem ak7.less {L L':Nat→Prop}{w:World}{v:Value}{xs:List Int}(h:ak7 L' w v xs) (hL:∀ b,L b→L' b):ak7 L w v xs:=by
 obtain⟨ao,c,rfl,hc⟩:=h
 refine⟨ao,c,rfl,?_⟩
 rcases hc with hc|⟨b,o,cs,fr,e,h0,h1⟩
 ·exact .inl hc
 ·exact .inr ⟨b,o,cs,fr,e,fun h=>h0 (hL b h),h1⟩
theorem RdAt.less {L L':Nat→Prop}{B g:Nat}{l:List Sg}{lv:Value}{s:Rd}{w:World}(h:RdAt L' B g l lv s w) (hL:∀ b,L b→L' b):RdAt L B g l lv s w:=by
 obtain⟨⟨nv,h1,css,n1,n2,n3,n4,n5⟩,h3,h4,h5,h6,h7,h8⟩:=h
 refine⟨⟨nv,h1,css,n1,n2,n3,fun j cs x hj hx=>?_,fun b hb hl=>n5 b hb (hL b hl)⟩,h3,h4,h5,h6,fun b hb=>h7 b (hL b hb),fun hb=>h8 (hL g hb)⟩
 obtain⟨kv,e,hk⟩:=n4 j cs x hj hx
 exact⟨kv,e,hk.less hL⟩
theorem aa8.less {L L':Nat→Prop}{B g:Nat}{l:List Sg}{lv:Value}{s:Rd}{w w':World}(h:aa8 L' B g l lv s w w') (hL:∀ b,L b→L' b):aa8 L B g l lv s w w':=⟨h.at'.less hL,h.keep,h.bel,fun b hb=>h.held b (hL b hb)⟩
theorem RdAt.hold {L:Nat→Prop}{B g:Nat}{l:List Sg}{lv:Value}{s:Rd}{w:World}(h:RdAt L B g l lv s w) (o:Obj):RdAt (fun b=>L b∨b=w.heap.size) B g l lv s (w.alloc o):=by
 have hb:Below w.heap.size w (w.alloc o):=bal _ o
 have hg:=h.boxLt
 obtain⟨⟨nv,h1,css,n1,n2,n3,n4,n5⟩,h3,h4,h5,h6,h7,h8⟩:=h
 refine⟨⟨nv,h1.stays hb,css,n1,n2,ac8 n3 hb,fun j cs x hj hx=>?_,fun b hb2 hl=>?_⟩,h3.keep (ak_.below hb),h4,h5,h6,fun b hl=>?_,fun hl=>?_⟩
 ·obtain⟨kv,e,ao,c,e2,hc⟩:=n4 j cs x hj hx
  refine⟨kv,e,ao,c,e2,?_⟩
  rcases hc with hc|⟨b,o',cs',fr,e3,h0,hh,hr⟩
  ·exact .inl hc
  ·refine .inr ⟨b,o',cs',fr,e3,?_,(hb.block b (ag7 hh)).trans hh,hr⟩
   rintro(hl|hl)
   ·exact h0 hl
   ·have:=ag7 hh;omega
 ·rcases hl with hl|hl
  ·exact n5 b hb2 hl
  ·have:=(n3.lt b hb2).2;omega
 ·have hs:(w.alloc o).heap.size=w.heap.size+1:=by simp
  rcases hl with hl|hl
  ·have:=h7 b hl;omega
  ·omega
 ·rcases hl with hl|hl
  ·exact h8 hl
  ·omega
theorem ak_.poke {w:World}{xb:Nat}{cs:Array Value}(hx:Box w xb cs 74) (i:Nat) (v:Value):ak_ w (w.setCell ⟨xb,i,none⟩ v) :=
 ⟨by simp[World.setCell],fun b cs' T fr h2 _ h3=>by
  rw[Below.heap_setCell w ⟨xb,i,none⟩ v b (by
   intro e
   have e:b=xb:=e
   subst e
   have h4:w.heap[b]? = some (.cells cs 74 (0,0)):=hx
   rw[h3]at h4
   injection h4 with h4
   injection h4 with _ h4 _
   exact h2 h4)]
  exact h3⟩
theorem bk3 {B n:Nat}{w:World}{v:Value}{xs:List Value}(h:w.ownsRow B 74 6 v n xs) {xb:Nat}(hn:∀ b,v.ownBlock=some b→b≠xb) (i:Nat) (u:Value):(w.setCell ⟨xb,i,none⟩ u).ownsRow B 74 6 v n xs:=by
 obtain⟨h1,h2⟩:=h
 refine⟨h1,?_⟩
 rcases h2 with h2|⟨g',cap,cur,rfl,hb1,hg',r⟩
 ·exact .inl h2
 ·refine .inr ⟨g',cap,cur,rfl,hb1,?_,r⟩
  rw[Below.heap_setCell w ⟨xb,i,none⟩ u g' (fun e=>hn g' rfl e)]
  exact hg'
theorem RdAt.poke {L:Nat→Prop}{B g:Nat}{l:List Sg}{lv:Value}{s:Rd}{w:World}(h:RdAt L B g l lv s w) {xb:Nat}{cs:Array Value}(hx:Box w xb cs 74) (hL:L xb) (i:Nat) (v:Value):RdAt L B g l lv s (w.setCell ⟨xb,i,none⟩ v):=by
 have k:=ak_.poke hx i v
 obtain⟨⟨nv,h1,h2⟩,h3,h4,h5,h6,h7,h8⟩:=h
 have h2':=h2
 obtain⟨_,_,_,_,_,n5⟩:=h2'
 have hgx:g≠xb:=fun e=>by subst e;exact h8 hL
 exact⟨⟨nv,h1.other _ v hgx,h2.keep k (fun _ ho=>bk3 ho (fun b hb e=>by subst e;exact n5 b hb hL) i v)⟩,h3.keep k,h4,h5,h6,fun b hb=>nll (h7 b hb) k.size,h8⟩
theorem aa8.poke {L L':Nat→Prop}{B g:Nat}{l:List Sg}{lv:Value}{s:Rd}{w:World}(h:RdAt L' B g l lv s w) (hLL:∀ b,L b→L' b) {xb:Nat}{cs:Array Value}(hx:Box w xb cs 74) (hL:L' xb) (hn:¬ L xb) (hB:B≤xb) (i:Nat) (v:Value):aa8 L B g l lv s w (w.setCell ⟨xb,i,none⟩ v) :=
 ⟨(h.poke hx hL i v).less hLL,ak_.poke hx i v,(Below.refl _ _).setCell hB _,fun b hb=>Below.heap_setCell w ⟨xb,i,none⟩ v b (fun e=>by have e:b=xb:=e;subst e;exact hn hb)⟩
theorem aa8.stays {L:Nat→Prop}{B g:Nat}{l:List Sg}{lv:Value}{s:Rd}{w w':World}(h:aa8 L B g l lv s w w') {xb:Nat}{cs:Array Value}{T:TypeId}(hx:Box w xb cs T) (hL:L xb):Box w' xb cs T:=(h.held xb hL).trans hx
end Go.Proofs.YtcpapceeekkacaaGreatDoor
