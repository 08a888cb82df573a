import Derived.Test.YtcpapceeekkacaaGreatDoorMonW
import Derived.Test.YtcpapceeekkacaaGreatDoorReadX
set_option maxRecDepth 100000
set_option maxHeartbeats 8000000
namespace Go.Proofs.YtcpapceeekkacaaGreatDoor
open Go.RowKit
theorem aM1 {L:Nat→Prop}{B g:Nat}{l:List Sg}{lv:Value}(s:Rd) (w:World) (h:RdAt L B g l lv s w) (hl:l.length≤1048576) (hx:∀ x∈l,x.text.size≤1048576) :
  Calls Tryz.prog 12 #[.pointer (some ⟨g,0,none⟩)] w fun e w'=>∃ cs,e=.returned (.agg cs)∧aa8 L B g l lv (s.process l).1 w w'∧an_ w.heap.size w' cs (s.process l).2:=by
 have CN:=fun (s:Rd) w h=>qb (ah9 (L:=L) (B:=B) (g:=g) (l:=l) (lv:=lv) (s:=s) w h hl hx)
 have CM:=fun (s:Rd) t w h=>qb (ag6 (L:=L) (B:=B) (g:=g) (l:=l) (lv:=lv) (s:=s) t w h hl)
 have CQ:=fun (s:Rd) t w h=>qb (ah0 (L:=L) (B:=B) (g:=g) (l:=l) (lv:=lv) (s:=s) t w h hl)
 have CL:=fun (s:Rd) t w h=>qb (aB5 (L:=L) (B:=B) (g:=g) (l:=l) (lv:=lv) t s w h hl hx)
 have CS:=fun (s:Rd) w h=>qb (aF2 (L:=L) (B:=B) (g:=g) (l:=l) (lv:=lv) s w h hl hx)
 have CB:=fun (s:Rd) w h=>qb (aR3 (L:=L) (B:=B) (g:=g) (l:=l) (lv:=lv) s w h hl hx)
 have LO:=qb h.loose
 have HB0:=qb h.heap
 have E0:=qb ((aa8.refl h).new (.cells #[.string ⟨#[]⟩,.slice none 0 0,.slice none 0 0,.int .i64 0] 44))
 have X0:=qb (Box.made w #[.string ⟨#[]⟩,.slice none 0 0,.slice none 0 0,.int .i64 0] 44)
 obtain⟨R,hR⟩:∃ R,R=s.process l:=⟨_,rfl⟩
 rw[←hR]
 unfold Rd.process at hR
 dsimp only at hR
 have C1:=CN s _ E0.out.at'
 obtain⟨a,ha⟩:∃ a,a=s.name l:=⟨_,rfl⟩
 rw[←ha]at C1 hR
 have C2:=CQ a.1 (tx "uses")
 clear ha h hx CN
 go_enter Tryz.func12,Tryz.ntmps12
 go_wp2_with (go_at_call 29;refine(qa C1).mono ?_;rintro e w1⟨rfl,he⟩;have K1:=qb (E0.out.then' he);have X1:=qb (X0.out.keep he.keep aa3.p);clear he)
 have S1:Hid (at7 L B g l lv w a.1 w.heap.size (w1.heap.size+1) 44 #[.string ⟨#[]⟩,.slice none 0 0,.slice none 0 0,.int .i64 0] #[.string a.2,.slice (some ⟨w1.heap.size,0,none⟩) 0 0,.slice none 0 0,.int .i64 0] ((w1.alloc (.cells #[] 9)).alloc (.cells #[.string a.2,.slice (some ⟨w1.heap.size,0,none⟩) 0 0,.slice none 0 0,.int .i64 0] 44))):=by
  have hs:=K1.out.keep.size
  have hr:=X1.out.lt
  exact⟨(K1.out.new _).new _,(X1.out.stays (bal _ _)).stays (bal _ _),Box.madeAt (by simp) _ _,nlr _,by omega,by omega⟩
 have U:Hid (World.ownsRow ((w1.alloc (.cells #[] 9)).alloc (.cells #[.string a.2,.slice (some ⟨w1.heap.size,0,none⟩) 0 0,.slice none 0 0,.int .i64 0] 44)) w.heap.size 9 1 (.slice (some ⟨w1.heap.size,0,none⟩) 0 0) 0 []):=(aS7 K1.out.keep.size).alloc _
 have V:Hid (World.ownsRow ((w1.alloc (.cells #[] 9)).alloc (.cells #[.string a.2,.slice (some ⟨w1.heap.size,0,none⟩) 0 0,.slice none 0 0,.int .i64 0] 44)) w.heap.size 9 1 (.slice none 0 0) 0 []):=World.ownsRow_nil _ _ _ _
 obtain⟨xb,hxb⟩:∃ xb,xb=w1.heap.size+1:=⟨_,rfl⟩
 obtain⟨ub,hub⟩:∃ ub,ub=w1.heap.size:=⟨_,rfl⟩
 rw[←hxb,←hub]at S1
 rw[←hub]at U V
 rw[←hxb,←hub]
 generalize (w1.alloc (.cells #[] 9)).alloc (.cells #[.string a.2,.slice (some ⟨ub,0,none⟩) 0 0,.slice none 0 0,.int .i64 0] 44)=Z1 at S1 U V ⊢
 obtain⟨rb,hrb⟩:∃ rb,rb=w.heap.size:=⟨_,rfl⟩
 have S1':Hid (at7 L B g l lv w a.1 rb xb 44 #[.string ⟨#[]⟩,.slice none 0 0,.slice none 0 0,.int .i64 0] #[.string a.2,.slice (some ⟨ub,0,none⟩) 0 0,.slice none 0 0,.int .i64 0] Z1):=by rw[hrb];exact S1
 rw[←hrb]
 have HRB:=qb hrb
 clear hxb hub hrb S1 K1 X1 X0 E0 C1
 cases q:a.1.isQ l (tx "uses") with
 | true =>
  rw[q,if_pos rfl]at hR
  rw[q,show a.1.may l (tx "uses")=a.1.on from by simp[Rd.may,q],tx6.1]at C2
  have C3:=CS a.1.on
  obtain⟨u,hu⟩:∃ u,u=a.1.on.names l:=⟨_,rfl⟩
  rw[←hu]at C3 hR
  clear hu
  have C4:=CM u.1 (tx ";")
  obtain⟨m,hm⟩:∃ m,m=u.1.must l (tx ";"):=⟨_,rfl⟩
  rw[←hm]at C4 hR
  have C5:=CL m (tx "var")
  obtain⟨b,hb⟩:∃ b,b=m.listed l (tx "var"):=⟨_,rfl⟩
  rw[←hb]at C5 hR
  have C6:=CB b.1
  obtain⟨c,hc⟩:∃ c,c=b.1.block l:=⟨_,rfl⟩
  rw[←hc]at C6 hR
  have C7:=CM c.1 (tx ";")
  rw[tx5.2]at C4 C7 hR
  rw[tx6.2.1]at C5
  have HR:=qb hR
  clear hR hm hb hc CM CQ CL CS CB q
  refine(qa (C2 _ S1'.out.fin.at')).mono ?_
  rintro e w2⟨rfl,he⟩
  have S2:=qb (S1'.out.call aa3.p he)
  have Un:=qb (aa4 U.out he.keep aa3.s);clear U;have U:=Un;clear Un
  have Vn:=qb (aa4 V.out he.keep aa3.s);clear V;have V:=Vn;clear Vn
  clear he S1'
  have y0:=chp S2.out.box 0
  have f0:=fhp S2.out.box 0
  have r0:=chp S2.out.res 0
  have g0:=fhp S2.out.res 0
  have y1:=chp S2.out.box 1
  have f1:=fhp S2.out.box 1
  have r1:=chp S2.out.res 1
  have g1:=fhp S2.out.res 1
  have y2:=chp S2.out.box 2
  have f2:=fhp S2.out.box 2
  have r2:=chp S2.out.res 2
  have g2:=fhp S2.out.res 2
  have y3:=chp S2.out.box 3
  have f3:=fhp S2.out.box 3
  have r3:=chp S2.out.res 3
  have g3:=fhp S2.out.res 3
  simp at y0 r0 y1 r1 y2 r2 y3 r3
  go_wp2_with fail
  refine(qa (C3 _ S2.out.fin.at')).mono ?_
  rintro e w3⟨ao,ac,rfl,he,ho⟩
  have S3:=qb (S2.out.call aa3.p he)
  have Un:=qb (aa4 U.out he.keep aa3.s);clear U;have U:=Un;clear Un
  have Vn:=qb (aa4 V.out he.keep aa3.s);clear V;have V:=Vn;clear Vn
  have N2:=qb (ad1 ho S2.out.fin.keep.size);clear ho
  clear he S2
  clear y0 f0 r0 g0 y1 f1 r1 g1 y2 f2 r2 g2 y3 f3 r3 g3
  have y0:=chp S3.out.box 0
  have f0:=fhp S3.out.box 0
  have r0:=chp S3.out.res 0
  have g0:=fhp S3.out.res 0
  have y1:=chp S3.out.box 1
  have f1:=fhp S3.out.box 1
  have r1:=chp S3.out.res 1
  have g1:=fhp S3.out.res 1
  have y2:=chp S3.out.box 2
  have f2:=fhp S3.out.box 2
  have r2:=chp S3.out.res 2
  have g2:=fhp S3.out.res 2
  have y3:=chp S3.out.box 3
  have f3:=fhp S3.out.box 3
  have r3:=chp S3.out.res 3
  have g3:=fhp S3.out.res 3
  simp at y0 r0 y1 r1 y2 r2 y3 r3
  go_wp2_with fail
  have S3p:=qb (S3.out.put aa3.p LO.out HB0.out 1 (.slice ao u.2.length ac))
  simp at S3p
  have Vn:=qb (aa_ V.out S3.out.box (by decide) 1 (.slice ao u.2.length ac));clear V;have V:=Vn;clear Vn
  have U:=qb (aa_ N2.out S3.out.box (by decide) 1 (.slice ao u.2.length ac));clear N2
  clear y0 f0 r0 g0 y1 f1 r1 g1 y2 f2 r2 g2 y3 f3 r3 g3
  generalize w3.setCell ⟨xb,1,none⟩ (.slice ao u.2.length ac)=w3p at S3p U V ⊢
  clear S3
  refine(qa (C4 _ S3p.out.fin.at')).mono ?_
  rintro e w4⟨rfl,he⟩
  have S4:=qb (S3p.out.call aa3.p he)
  have Un:=qb (aa4 U.out he.keep aa3.s);clear U;have U:=Un;clear Un
  have Vn:=qb (aa4 V.out he.keep aa3.s);clear V;have V:=Vn;clear Vn
  clear he S3p
  have y0:=chp S4.out.box 0
  have f0:=fhp S4.out.box 0
  have r0:=chp S4.out.res 0
  have g0:=fhp S4.out.res 0
  have y1:=chp S4.out.box 1
  have f1:=fhp S4.out.box 1
  have r1:=chp S4.out.res 1
  have g1:=fhp S4.out.res 1
  have y2:=chp S4.out.box 2
  have f2:=fhp S4.out.box 2
  have r2:=chp S4.out.res 2
  have g2:=fhp S4.out.res 2
  have y3:=chp S4.out.box 3
  have f3:=fhp S4.out.box 3
  have r3:=chp S4.out.res 3
  have g3:=fhp S4.out.res 3
  simp at y0 r0 y1 r1 y2 r2 y3 r3
  go_wp2_with fail
  refine(qa (C5 _ S4.out.fin.at')).mono ?_
  rintro e w5⟨bo,bc,rfl,he,ho⟩
  have S5:=qb (S4.out.call aa3.p he)
  have Un:=qb (aa4 U.out he.keep aa3.s);clear U;have U:=Un;clear Un
  have Vn:=qb (aa4 V.out he.keep aa3.s);clear V;have V:=Vn;clear Vn
  have N4:=qb (ad1 ho S4.out.fin.keep.size);clear ho
  clear he S4
  clear y0 f0 r0 g0 y1 f1 r1 g1 y2 f2 r2 g2 y3 f3 r3 g3
  have y0:=chp S5.out.box 0
  have f0:=fhp S5.out.box 0
  have r0:=chp S5.out.res 0
  have g0:=fhp S5.out.res 0
  have y1:=chp S5.out.box 1
  have f1:=fhp S5.out.box 1
  have r1:=chp S5.out.res 1
  have g1:=fhp S5.out.res 1
  have y2:=chp S5.out.box 2
  have f2:=fhp S5.out.box 2
  have r2:=chp S5.out.res 2
  have g2:=fhp S5.out.res 2
  have y3:=chp S5.out.box 3
  have f3:=fhp S5.out.box 3
  have r3:=chp S5.out.res 3
  have g3:=fhp S5.out.res 3
  simp at y0 r0 y1 r1 y2 r2 y3 r3
  go_wp2_with fail
  have S5p:=qb (S5.out.put aa3.p LO.out HB0.out 2 (.slice bo b.2.length bc))
  simp at S5p
  have Un:=qb (aa_ U.out S5.out.box (by decide) 2 (.slice bo b.2.length bc));clear U;have U:=Un;clear Un
  have V:=qb (aa_ N4.out S5.out.box (by decide) 2 (.slice bo b.2.length bc));clear N4
  clear y0 f0 r0 g0 y1 f1 r1 g1 y2 f2 r2 g2 y3 f3 r3 g3
  generalize w5.setCell ⟨xb,2,none⟩ (.slice bo b.2.length bc)=w5p at S5p U V ⊢
  clear S5
  refine(qa (C6 _ S5p.out.fin.at')).mono ?_
  rintro e w6⟨rfl,he⟩
  have S6:=qb (S5p.out.call aa3.p he)
  have Un:=qb (aa4 U.out he.keep aa3.s);clear U;have U:=Un;clear Un
  have Vn:=qb (aa4 V.out he.keep aa3.s);clear V;have V:=Vn;clear Vn
  clear he S5p
  have y0:=chp S6.out.box 0
  have f0:=fhp S6.out.box 0
  have r0:=chp S6.out.res 0
  have g0:=fhp S6.out.res 0
  have y1:=chp S6.out.box 1
  have f1:=fhp S6.out.box 1
  have r1:=chp S6.out.res 1
  have g1:=fhp S6.out.res 1
  have y2:=chp S6.out.box 2
  have f2:=fhp S6.out.box 2
  have r2:=chp S6.out.res 2
  have g2:=fhp S6.out.res 2
  have y3:=chp S6.out.box 3
  have f3:=fhp S6.out.box 3
  have r3:=chp S6.out.res 3
  have g3:=fhp S6.out.res 3
  simp at y0 r0 y1 r1 y2 r2 y3 r3
  go_wp2_with fail
  have S6p:=qb (S6.out.put aa3.p LO.out HB0.out 3 (.int .i64 c.2))
  simp at S6p
  have Un:=qb (aa_ U.out S6.out.box (by decide) 3 (.int .i64 c.2));clear U;have U:=Un;clear Un
  have Vn:=qb (aa_ V.out S6.out.box (by decide) 3 (.int .i64 c.2));clear V;have V:=Vn;clear Vn
  clear y0 f0 r0 g0 y1 f1 r1 g1 y2 f2 r2 g2 y3 f3 r3 g3
  generalize w6.setCell ⟨xb,3,none⟩ (.int .i64 c.2)=w6p at S6p U V ⊢
  clear S6
  refine(qa (C7 _ S6p.out.fin.at')).mono ?_
  rintro e w7⟨rfl,he⟩
  have S7:=qb (S6p.out.call aa3.p he)
  have Un:=qb (aa4 U.out he.keep aa3.s);clear U;have U:=Un;clear Un
  have Vn:=qb (aa4 V.out he.keep aa3.s);clear V;have V:=Vn;clear Vn
  clear he S6p
  have y0:=chp S7.out.box 0
  have f0:=fhp S7.out.box 0
  have r0:=chp S7.out.res 0
  have g0:=fhp S7.out.res 0
  have y1:=chp S7.out.box 1
  have f1:=fhp S7.out.box 1
  have r1:=chp S7.out.res 1
  have g1:=fhp S7.out.res 1
  have y2:=chp S7.out.box 2
  have f2:=fhp S7.out.box 2
  have r2:=chp S7.out.res 2
  have g2:=fhp S7.out.res 2
  have y3:=chp S7.out.box 3
  have f3:=fhp S7.out.box 3
  have r3:=chp S7.out.res 3
  have g3:=fhp S7.out.res 3
  simp at y0 r0 y1 r1 y2 r2 y3 r3
  go_wp2
  have T4:=qb (((((S7.out.out aa3.p LO.out HB0.out 0 (.string a.2)).out aa3.p LO.out HB0.out 1 (.slice ao u.2.length ac)).out aa3.p LO.out HB0.out 2 (.slice bo b.2.length bc)).out aa3.p LO.out HB0.out 3 (.int .i64 c.2)))
  simp at T4
  have U4:=qb (aa_ (aa_ (aa_ (aa_ U.out S7.out.res (by decide) 0 (.string a.2)) (S7.out.out aa3.p LO.out HB0.out 0 (.string a.2)).res (by decide) 1 (.slice ao u.2.length ac)) ((S7.out.out aa3.p LO.out HB0.out 0 (.string a.2)).out aa3.p LO.out HB0.out 1 (.slice ao u.2.length ac)).res (by decide) 2 (.slice bo b.2.length bc)) (((S7.out.out aa3.p LO.out HB0.out 0 (.string a.2)).out aa3.p LO.out HB0.out 1 (.slice ao u.2.length ac)).out aa3.p LO.out HB0.out 2 (.slice bo b.2.length bc)).res (by decide) 3 (.int .i64 c.2))
  have V4:=qb (aa_ (aa_ (aa_ (aa_ V.out S7.out.res (by decide) 0 (.string a.2)) (S7.out.out aa3.p LO.out HB0.out 0 (.string a.2)).res (by decide) 1 (.slice ao u.2.length ac)) ((S7.out.out aa3.p LO.out HB0.out 0 (.string a.2)).out aa3.p LO.out HB0.out 1 (.slice ao u.2.length ac)).res (by decide) 2 (.slice bo b.2.length bc)) (((S7.out.out aa3.p LO.out HB0.out 0 (.string a.2)).out aa3.p LO.out HB0.out 1 (.slice ao u.2.length ac)).out aa3.p LO.out HB0.out 2 (.slice bo b.2.length bc)).res (by decide) 3 (.int .i64 c.2))
  refine an9 (g:=rb) (t:=44) (cs:=#[.string a.2,.slice ao u.2.length ac,.slice bo b.2.length bc,.int .i64 c.2]) rfl rfl T4.out.res _ Tryz.underlying44 rfl (by kernel_rfl) rfl ?_
  rw[HR.out]
  exact⟨_,rfl,T4.out.fin,ao,ac,bo,bc,rfl,U4.out,V4.out⟩
 | false =>
  rw[q,if_neg (by simp)]at hR
  dsimp only at hR
  rw[q,show a.1.may l (tx "uses")=a.1 from by simp[Rd.may,q],tx6.1]at C2
  have C4:=CM a.1 (tx ";")
  obtain⟨m,hm⟩:∃ m,m=a.1.must l (tx ";"):=⟨_,rfl⟩
  rw[←hm]at C4 hR
  have C5:=CL m (tx "var")
  obtain⟨b,hb⟩:∃ b,b=m.listed l (tx "var"):=⟨_,rfl⟩
  rw[←hb]at C5 hR
  have C6:=CB b.1
  obtain⟨c,hc⟩:∃ c,c=b.1.block l:=⟨_,rfl⟩
  rw[←hc]at C6 hR
  have C7:=CM c.1 (tx ";")
  rw[tx5.2]at C4 C7 hR
  rw[tx6.2.1]at C5
  have HR:=qb hR
  clear hR hm hb hc CM CQ CL CS CB q
  refine(qa (C2 _ S1'.out.fin.at')).mono ?_
  rintro e w2⟨rfl,he⟩
  have S2:=qb (S1'.out.call aa3.p he)
  have Un:=qb (aa4 U.out he.keep aa3.s);clear U;have U:=Un;clear Un
  have Vn:=qb (aa4 V.out he.keep aa3.s);clear V;have V:=Vn;clear Vn
  clear he S1'
  have y0:=chp S2.out.box 0
  have f0:=fhp S2.out.box 0
  have r0:=chp S2.out.res 0
  have g0:=fhp S2.out.res 0
  have y1:=chp S2.out.box 1
  have f1:=fhp S2.out.box 1
  have r1:=chp S2.out.res 1
  have g1:=fhp S2.out.res 1
  have y2:=chp S2.out.box 2
  have f2:=fhp S2.out.box 2
  have r2:=chp S2.out.res 2
  have g2:=fhp S2.out.res 2
  have y3:=chp S2.out.box 3
  have f3:=fhp S2.out.box 3
  have r3:=chp S2.out.res 3
  have g3:=fhp S2.out.res 3
  simp at y0 r0 y1 r1 y2 r2 y3 r3
  go_wp2_with fail
  refine(qa (C4 _ S2.out.fin.at')).mono ?_
  rintro e w3⟨rfl,he⟩
  have S3:=qb (S2.out.call aa3.p he)
  have Un:=qb (aa4 U.out he.keep aa3.s);clear U;have U:=Un;clear Un
  have Vn:=qb (aa4 V.out he.keep aa3.s);clear V;have V:=Vn;clear Vn
  clear he S2
  clear y0 f0 r0 g0 y1 f1 r1 g1 y2 f2 r2 g2 y3 f3 r3 g3
  have y0:=chp S3.out.box 0
  have f0:=fhp S3.out.box 0
  have r0:=chp S3.out.res 0
  have g0:=fhp S3.out.res 0
  have y1:=chp S3.out.box 1
  have f1:=fhp S3.out.box 1
  have r1:=chp S3.out.res 1
  have g1:=fhp S3.out.res 1
  have y2:=chp S3.out.box 2
  have f2:=fhp S3.out.box 2
  have r2:=chp S3.out.res 2
  have g2:=fhp S3.out.res 2
  have y3:=chp S3.out.box 3
  have f3:=fhp S3.out.box 3
  have r3:=chp S3.out.res 3
  have g3:=fhp S3.out.res 3
  simp at y0 r0 y1 r1 y2 r2 y3 r3
  go_wp2_with fail
  refine(qa (C5 _ S3.out.fin.at')).mono ?_
  rintro e w4⟨bo,bc,rfl,he,ho⟩
  have S4:=qb (S3.out.call aa3.p he)
  have Un:=qb (aa4 U.out he.keep aa3.s);clear U;have U:=Un;clear Un
  have Vn:=qb (aa4 V.out he.keep aa3.s);clear V;have V:=Vn;clear Vn
  have N3:=qb (ad1 ho S3.out.fin.keep.size);clear ho
  clear he S3
  clear y0 f0 r0 g0 y1 f1 r1 g1 y2 f2 r2 g2 y3 f3 r3 g3
  have y0:=chp S4.out.box 0
  have f0:=fhp S4.out.box 0
  have r0:=chp S4.out.res 0
  have g0:=fhp S4.out.res 0
  have y1:=chp S4.out.box 1
  have f1:=fhp S4.out.box 1
  have r1:=chp S4.out.res 1
  have g1:=fhp S4.out.res 1
  have y2:=chp S4.out.box 2
  have f2:=fhp S4.out.box 2
  have r2:=chp S4.out.res 2
  have g2:=fhp S4.out.res 2
  have y3:=chp S4.out.box 3
  have f3:=fhp S4.out.box 3
  have r3:=chp S4.out.res 3
  have g3:=fhp S4.out.res 3
  simp at y0 r0 y1 r1 y2 r2 y3 r3
  go_wp2_with fail
  have S4p:=qb (S4.out.put aa3.p LO.out HB0.out 2 (.slice bo b.2.length bc))
  simp at S4p
  have Un:=qb (aa_ U.out S4.out.box (by decide) 2 (.slice bo b.2.length bc));clear U;have U:=Un;clear Un
  have V:=qb (aa_ N3.out S4.out.box (by decide) 2 (.slice bo b.2.length bc));clear N3
  clear y0 f0 r0 g0 y1 f1 r1 g1 y2 f2 r2 g2 y3 f3 r3 g3
  generalize w4.setCell ⟨xb,2,none⟩ (.slice bo b.2.length bc)=w4p at S4p U V ⊢
  clear S4
  refine(qa (C6 _ S4p.out.fin.at')).mono ?_
  rintro e w5⟨rfl,he⟩
  have S5:=qb (S4p.out.call aa3.p he)
  have Un:=qb (aa4 U.out he.keep aa3.s);clear U;have U:=Un;clear Un
  have Vn:=qb (aa4 V.out he.keep aa3.s);clear V;have V:=Vn;clear Vn
  clear he S4p
  have y0:=chp S5.out.box 0
  have f0:=fhp S5.out.box 0
  have r0:=chp S5.out.res 0
  have g0:=fhp S5.out.res 0
  have y1:=chp S5.out.box 1
  have f1:=fhp S5.out.box 1
  have r1:=chp S5.out.res 1
  have g1:=fhp S5.out.res 1
  have y2:=chp S5.out.box 2
  have f2:=fhp S5.out.box 2
  have r2:=chp S5.out.res 2
  have g2:=fhp S5.out.res 2
  have y3:=chp S5.out.box 3
  have f3:=fhp S5.out.box 3
  have r3:=chp S5.out.res 3
  have g3:=fhp S5.out.res 3
  simp at y0 r0 y1 r1 y2 r2 y3 r3
  go_wp2_with fail
  have S5p:=qb (S5.out.put aa3.p LO.out HB0.out 3 (.int .i64 c.2))
  simp at S5p
  have Un:=qb (aa_ U.out S5.out.box (by decide) 3 (.int .i64 c.2));clear U;have U:=Un;clear Un
  have Vn:=qb (aa_ V.out S5.out.box (by decide) 3 (.int .i64 c.2));clear V;have V:=Vn;clear Vn
  clear y0 f0 r0 g0 y1 f1 r1 g1 y2 f2 r2 g2 y3 f3 r3 g3
  generalize w5.setCell ⟨xb,3,none⟩ (.int .i64 c.2)=w5p at S5p U V ⊢
  clear S5
  refine(qa (C7 _ S5p.out.fin.at')).mono ?_
  rintro e w6⟨rfl,he⟩
  have S6:=qb (S5p.out.call aa3.p he)
  have Un:=qb (aa4 U.out he.keep aa3.s);clear U;have U:=Un;clear Un
  have Vn:=qb (aa4 V.out he.keep aa3.s);clear V;have V:=Vn;clear Vn
  clear he S5p
  have y0:=chp S6.out.box 0
  have f0:=fhp S6.out.box 0
  have r0:=chp S6.out.res 0
  have g0:=fhp S6.out.res 0
  have y1:=chp S6.out.box 1
  have f1:=fhp S6.out.box 1
  have r1:=chp S6.out.res 1
  have g1:=fhp S6.out.res 1
  have y2:=chp S6.out.box 2
  have f2:=fhp S6.out.box 2
  have r2:=chp S6.out.res 2
  have g2:=fhp S6.out.res 2
  have y3:=chp S6.out.box 3
  have f3:=fhp S6.out.box 3
  have r3:=chp S6.out.res 3
  have g3:=fhp S6.out.res 3
  simp at y0 r0 y1 r1 y2 r2 y3 r3
  go_wp2
  have T4:=qb (((((S6.out.out aa3.p LO.out HB0.out 0 (.string a.2)).out aa3.p LO.out HB0.out 1 (.slice (some ⟨ub,0,none⟩) 0 0)).out aa3.p LO.out HB0.out 2 (.slice bo b.2.length bc)).out aa3.p LO.out HB0.out 3 (.int .i64 c.2)))
  simp at T4
  have U4:=qb (aa_ (aa_ (aa_ (aa_ U.out S6.out.res (by decide) 0 (.string a.2)) (S6.out.out aa3.p LO.out HB0.out 0 (.string a.2)).res (by decide) 1 (.slice (some ⟨ub,0,none⟩) 0 0)) ((S6.out.out aa3.p LO.out HB0.out 0 (.string a.2)).out aa3.p LO.out HB0.out 1 (.slice (some ⟨ub,0,none⟩) 0 0)).res (by decide) 2 (.slice bo b.2.length bc)) (((S6.out.out aa3.p LO.out HB0.out 0 (.string a.2)).out aa3.p LO.out HB0.out 1 (.slice (some ⟨ub,0,none⟩) 0 0)).out aa3.p LO.out HB0.out 2 (.slice bo b.2.length bc)).res (by decide) 3 (.int .i64 c.2))
  have V4:=qb (aa_ (aa_ (aa_ (aa_ V.out S6.out.res (by decide) 0 (.string a.2)) (S6.out.out aa3.p LO.out HB0.out 0 (.string a.2)).res (by decide) 1 (.slice (some ⟨ub,0,none⟩) 0 0)) ((S6.out.out aa3.p LO.out HB0.out 0 (.string a.2)).out aa3.p LO.out HB0.out 1 (.slice (some ⟨ub,0,none⟩) 0 0)).res (by decide) 2 (.slice bo b.2.length bc)) (((S6.out.out aa3.p LO.out HB0.out 0 (.string a.2)).out aa3.p LO.out HB0.out 1 (.slice (some ⟨ub,0,none⟩) 0 0)).out aa3.p LO.out HB0.out 2 (.slice bo b.2.length bc)).res (by decide) 3 (.int .i64 c.2))
  refine an9 (g:=rb) (t:=44) (cs:=#[.string a.2,.slice (some ⟨ub,0,none⟩) 0 0,.slice bo b.2.length bc,.int .i64 c.2]) rfl rfl T4.out.res _ Tryz.underlying44 rfl (by kernel_rfl) rfl ?_
  rw[HR.out]
  exact⟨_,rfl,T4.out.fin,_,_,bo,bc,rfl,U4.out,V4.out⟩
def aa5 (S:Nat→Prop) (z z':World):Prop:=∀ (b:Nat) (cs:Array Value) (T:Nat) (fr:Nat×Nat),S T→z.heap[b]? = some (Obj.cells cs T fr)→z'.heap[b]? = some (Obj.cells cs T fr)
theorem aa5.keepT {S:Nat→Prop}{z z':World}(hS:∀ T,S T→aa3 T) (k:ak_ z z'):aa5 S z z':=fun b cs T fr h e=>k.blk b cs T fr (hS T h).1 (hS T h).2.1 e
theorem aa5.poke {S:Nat→Prop}{z:World}{b:Nat}{cs:Array Value}{T:TypeId}(hb:Box z b cs T) (hS:¬ S T) (i:Nat) (u:Value):aa5 S z (z.setCell ⟨b,i,none⟩ u):=fun c ds T' fr h e=>by
 rw[Below.heap_setCell z ⟨b,i,none⟩ u c (fun e2=>by
  have e2:c=b:=e2
  subst e2
  have h4:z.heap[c]? = some (.cells cs T (0,0)):=hb
  rw[e]at h4
  injection h4 with h4
  injection h4 with _ h4 _
  exact hS (h4▸h))]
 exact e
theorem aa5.grow {S:Nat→Prop}{z z':World}{base k n:Nat}{e:TypeId}{v:Value}{xs:List Value}(hv:z.ownsRow base e k v n xs) (hS:¬ S e) (hc:∀ c,c<z.heap.size→v.ownBlock≠some c→z'.heap[c]? = z.heap[c]?):aa5 S z z':=fun c _ds _T _fr h e2 =>
 (hc c (ag7 e2) (al1 hv e2 (fun e3=>hS (e3▸h)))).trans e2
theorem aa5.drew {S:Nat→Prop}(z:World):aa5 S z z.drew:=fun _ _ _ _ _ e=>e
theorem aa5.trans {S:Nat→Prop}{a b c:World}(h:aa5 S a b) (k:aa5 S b c):aa5 S a c:=fun d cs T fr hS e=>k d cs T fr hS (h d cs T fr hS e)
theorem ax0 {S:Nat→Prop}{z z':World}{base k n:Nat}{e:TypeId}{v:Value}{xs:List Value}(h:z.ownsRow base e k v n xs) (kp:aa5 S z z') (he:S e):z'.ownsRow base e k v n xs:=by
 obtain⟨h1,h2⟩:=h
 refine⟨h1,?_⟩
 rcases h2 with h2|⟨g',cap,cur,rfl,hb1,hg',r⟩
 ·exact .inl h2
 ·exact .inr ⟨g',cap,cur,rfl,hb1,kp g' cur e _ he hg',r⟩
def TyM (T:Nat):Prop:=T=9∨T=67∨T=41
def TyP (T:Nat):Prop:=T=9∨T=44
theorem TyM.apart (T:Nat) (h:TyM T):aa3 T:=by
 rcases h with rfl|rfl|rfl
 ·exact aa3.s
 ·exact aa3.e
 ·exact aa3.m
theorem TyP.apart (T:Nat) (h:TyP T):aa3 T:=by
 rcases h with rfl|rfl
 ·exact aa3.s
 ·exact aa3.p
theorem TyM.notG:¬ TyM 26:=by unfold TyM;decide
theorem TyM.notP:¬ TyM 44:=by unfold TyM;decide
theorem TyP.notG:¬ TyP 26:=by unfold TyP;decide
def TySE (T:Nat):Prop:=T=9∨T=67
theorem TySE.notM:¬ TySE 41:=by unfold TySE;decide
theorem TySE.notG:¬ TySE 26:=by unfold TySE;decide
theorem TySE.apart (T:Nat) (h:TySE T):aa3 T:=by
 rcases h with rfl|rfl
 ·exact aa3.s
 ·exact aa3.e
def TyS9 (T:Nat):Prop:=T=9
theorem TyS9.notG:¬ TyS9 26:=by unfold TyS9;decide
theorem TyS9.apart (T:Nat) (h:TyS9 T):aa3 T:=by
 have h:T=9:=h
 subst h
 exact aa3.s
theorem TyS9.notP:¬ TyS9 44:=by unfold TyS9;decide
theorem am3.of {S:Nat→Prop}{base:Nat}{z z':World}{cs:Array Value}{x:Mo}(h:am3 base z cs x) (k:aa5 S z z') (h1:S 9) (h2:S 67):am3 base z' cs x:=by
 obtain⟨ao,c,bo,d,eo,f,e,a1,a2,a3⟩:=h
 exact⟨ao,c,bo,d,eo,f,e,ax0 a1 k h1,ax0 a2 k h1,ax0 a3 k h2⟩
theorem an_.of {S:Nat→Prop}{base:Nat}{z z':World}{cs:Array Value}{x:Pr}(h:an_ base z cs x) (k:aa5 S z z') (h1:S 9):an_ base z' cs x:=by
 obtain⟨ao,c,bo,d,e,a1,a2⟩:=h
 exact⟨ao,c,bo,d,e,ax0 a1 k h1,ax0 a2 k h1⟩
theorem am3.base {b b':Nat}{z:World}{cs:Array Value}{x:Mo}(h:am3 b z cs x) (hb:b'≤b):am3 b' z cs x:=by
 obtain⟨ao,c,bo,d,eo,f,e,a1,a2,a3⟩:=h
 exact⟨ao,c,bo,d,eo,f,e,ad1 a1 hb,ad1 a2 hb,ad1 a3 hb⟩
theorem an_.base {b b':Nat}{z:World}{cs:Array Value}{x:Pr}(h:an_ b z cs x) (hb:b'≤b):an_ b' z cs x:=by
 obtain⟨ao,c,bo,d,e,a1,a2⟩:=h
 exact⟨ao,c,bo,d,e,ad1 a1 hb,ad1 a2 hb⟩
def an8 {α:Type}(R:Nat→World→Array Value→α→Prop) (e:TypeId) (base:Nat) (z:World) (v:Value) (xs:List α):Prop :=
 ∃ css:List (List Value),css.length=xs.length∧(∀ c∈css,c.length=4)∧z.ownsRow base e 4 v xs.length css.flatten∧∀ (j:Nat) (cs:List Value) (x:α),css[j]? = some cs→xs[j]? = some x→R base z cs.toArray x
theorem an8.nil {α:Type}{R:Nat→World→Array Value→α→Prop}{e:TypeId}{base:Nat}{z:World}:an8 R e base z (.slice none 0 0) ([] : List α) :=
 ⟨[],rfl,(fun c hc=>absurd hc (by simp)),World.ownsRow_nil _ _ _ _,(fun j cs x h=>absurd h (by simp))⟩
theorem an8.app {α:Type}{R:Nat→World→Array Value→α→Prop}{e:TypeId}{base:Nat}{z':World}{v':Value}{xs:List α}{x:α}{cs:Array Value}(hcs:cs.size=4) (hx:R base z' cs x) (css:List (List Value)) (h1:css.length=xs.length) (h2:∀ c∈css,c.length=4) (h3:∀ (j:Nat) (cs:List Value) (x:α),css[j]? = some cs→xs[j]? = some x→R base z' cs.toArray x)
  (hv:z'.ownsRow base e 4 v' (xs.length+1) (css.flatten++cs.toList)):an8 R e base z' v' (xs++[x]):=by
 refine⟨css++[cs.toList],by simp[h1],fun c hc=>?_,?_,fun j ds y hj hy=>?_⟩
 ·rcases List.mem_append.1 hc with hc|hc
  ·exact h2 c hc
  ·rw[List.mem_singleton.1 hc];simpa using hcs
 ·simpa using hv
 ·by_cases hlt:j<xs.length
  ·rw[List.getElem?_append_left (by rw[h1];exact hlt)]at hj
   rw[List.getElem?_append_left hlt]at hy
   exact h3 j ds y hj hy
  ·have hlt2:j<(css++[cs.toList]).length:=(List.getElem?_eq_some_iff.1 hj).1
   have hj0:j=css.length:=by simp at hlt2;omega
   subst hj0
   rw[List.getElem?_append_right (nlr _)]at hj
   rw[h1,List.getElem?_append_right (nlr _)]at hy
   simp at hj hy
   subst hj hy
   simpa using hx
theorem an8.of {α:Type}{R:Nat→World→Array Value→α→Prop}{S:Nat→Prop}{e:TypeId}{base:Nat}{z z':World}{v:Value}{xs:List α}(h:an8 R e base z v xs) (k:aa5 S z z') (he:S e) (hk:∀ cs x,R base z cs x→R base z' cs x):an8 R e base z' v xs:=by
 obtain⟨css,h1,h2,h3,h4⟩:=h
 exact⟨css,h1,h2,ax0 h3 k he,fun j cs x hj hx=>hk _ _ (h4 j cs x hj hx)⟩
theorem an8.monOf {base:Nat}{z z':World}{v:Value}{xs:List Mo}(h:an8 am3 41 base z v xs) (k:aa5 TyM z z'):an8 am3 41 base z' v xs :=
 h.of k (.inr (.inr rfl)) fun _ _ hm=>hm.of k (.inl rfl) (.inr (.inl rfl))
theorem an8.proOf {base:Nat}{z z':World}{v:Value}{xs:List Pr}(h:an8 an_ 44 base z v xs) (k:aa5 TyP z z'):an8 an_ 44 base z' v xs :=
 h.of k (.inr rfl) fun _ _ hm=>hm.of k (.inl rfl)
theorem am3.c {base:Nat}{z:World}{cs:List Value}{x:Mo}(h:am3 base z cs.toArray x):MonC base z cs x:=by
 obtain⟨ao,c,bo,d,eo,f,e,a1,a2,a3⟩:=h
 refine⟨_,_,_,by simpa using congrArg Array.toList e,ai5.own a1,ai5.own a2,x.ents.map aq3,as_.own (by rw[←List.flatMap_def];exact a3) (by simp) (fun c hc=>by
  obtain⟨y,_,rfl⟩:=List.mem_map.1 hc;rfl),by simp,fun j ds y hj hy=>?_⟩
 rw[List.getElem?_map,hy]at hj
 exact(Option.some.inj hj).symm
theorem an_.c {base:Nat}{z:World}{cs:List Value}{x:Pr}(h:an_ base z cs.toArray x):ProC base z cs x:=by
 obtain⟨ao,c,bo,d,e,a1,a2⟩:=h
 exact⟨_,_,by simpa using congrArg Array.toList e,ai5.own a1,ai5.own a2⟩
theorem an8.mons {base:Nat}{z:World}{v:Value}{xs:List Mo}(h:an8 am3 41 base z v xs):MosIn base z v xs:=by
 obtain⟨css,h1,h2,h3,h4⟩:=h
 exact⟨css,as_.own h3 h1 h2,h1,fun j cs x hj hx=>(h4 j cs x hj hx).c⟩
theorem an8.pros {base:Nat}{z:World}{v:Value}{xs:List Pr}(h:an8 an_ 44 base z v xs):PrsIn base z v xs:=by
 obtain⟨css,h1,h2,h3,h4⟩:=h
 exact⟨css,as_.own h3 h1 h2,h1,fun j cs x hj hx=>(h4 j cs x hj hx).c⟩
end Go.Proofs.YtcpapceeekkacaaGreatDoor
