import Derived.Test.YtcpapceeekkacaaGreatDoorImpU
import Derived.Test.YtcpapceeekkacaaGreatDoorPureN
import Derived.Test.YtcpapceeekkacaaGreatDoorImpF
set_option maxRecDepth 100000
set_option maxHeartbeats 8000000
namespace Go.Proofs.YtcpapceeekkacaaGreatDoor
open Go.RowKit
theorem bb6 (ns:List Nd) (b:Int):aB9 ns b=aa1 ns 3 b:=by
 rw[aB9,aa1,aJ3]
 rfl
theorem aC2 {α β:Type}(f:α→List β) (q:β→Bool):∀ (xs:List α),(xs.flatMap f).all q=xs.all (fun x=>(f x).all q)
 | []=>rfl
 | x :: xs=>by rw[List.flatMap_cons,List.all_append,List.all_cons,aC2 f q xs]
theorem aT3 {α:Type}(p q:α→Bool):∀ (xs:List α),xs.all (fun x=>p x && q x)=(xs.all p && xs.all q)
 | []=>rfl
 | x :: xs=>by
  rw[List.all_cons,List.all_cons,List.all_cons,aT3 p q xs]
  cases p x <;> cases q x <;> cases xs.all p <;> rfl
theorem aZ3 {α:Type}{p q:α→Bool}(h:∀ x,p x=q x) (xs:List α):xs.all p=xs.all q:=by
 have:p=q:=funext h
 rw[this]
theorem ay7 (xs:List ByteArray) (k:Nat):an6 xs (k:Int)=(xs.all aa7 && decide (xs.length≤k)):=by
 rw[an6]
 congr 1
 rw[Bool.eq_iff_iff,decide_eq_true_iff,decide_eq_true_iff]
 omega
theorem monB_eq (x:Mo):monB x=(fitM x && (ah2 x).all aa7):=by
 have h1:=ay7 x.vars 3
 have h2:=ay7 x.queues 2
 have h3:inZ 1 3 (x.ents.length:Int)=(decide (1≤x.ents.length) && decide (x.ents.length≤3)):=by
  rw[Bool.eq_iff_iff,ad5,Bool.and_eq_true,decide_eq_true_iff,decide_eq_true_iff]
  omega
 have h4:(x.ents.flatMap ak0).all aa7=x.ents.all entB:=by
  rw[aC2]
  exact aZ3 (fun e=>by simp[ak0,entB]) _
 have h5:(ah2 x).all aa7=(aa7 x.name && x.vars.all aa7 && x.queues.all aa7 && x.ents.all entB):=by
  rw[ah2,List.all_append,List.all_append,List.all_append,h4]
  simp
 rw[monB,fitM,h5,h3]
 have h1':an6 x.vars 3=(x.vars.all aa7 && decide (x.vars.length≤3)):=h1
 have h2':an6 x.queues 2=(x.queues.all aa7 && decide (x.queues.length≤2)):=h2
 rw[h1',h2']
 cases aa7 x.name <;> cases x.vars.all aa7 <;> cases x.queues.all aa7 <;> cases x.ents.all entB <;> cases decide (x.vars.length≤3) <;> cases decide (x.queues.length≤2) <;> cases decide (1≤x.ents.length) <;> cases decide (x.ents.length≤3) <;> rfl
theorem procB_eq (x:Pr):aH7 x=(fitP x && (ah_ x).all aa7):=by
 have h1':an6 x.uses 3=(x.uses.all aa7 && decide (x.uses.length≤3)):=ay7 x.uses 3
 have h2':an6 x.vars 3=(x.vars.all aa7 && decide (x.vars.length≤3)):=ay7 x.vars 3
 have h5:(ah_ x).all aa7=(aa7 x.name && x.uses.all aa7 && x.vars.all aa7):=by
  rw[ah_,List.all_append,List.all_append]
  simp
 rw[aH7,fitP,h5,h1',h2']
 cases aa7 x.name <;> cases x.uses.all aa7 <;> cases x.vars.all aa7 <;> cases decide (x.uses.length≤3) <;> cases decide (x.vars.length≤3) <;> rfl
theorem lists_eq (n:Nat) (ms:List Mo) (ps:List Pr):(decide (n≤160) && aj3 ms ps)=(ap0 n ms ps && (an7 ms ps).all aa7):=by
 have h1:ms.all monB=(ms.all fitM && (ms.flatMap ah2).all aa7):=by
  rw[aC2,←aT3]
  exact aZ3 monB_eq ms
 have h2:ps.all aH7=(ps.all fitP && (ps.flatMap ah_).all aa7):=by
  rw[aC2,←aT3]
  exact aZ3 procB_eq ps
 have h3:inZ 1 4 (ps.length:Int)=(decide (1≤ps.length) && decide (ps.length≤4)):=by
  rw[Bool.eq_iff_iff,ad5,Bool.and_eq_true,decide_eq_true_iff,decide_eq_true_iff]
  omega
 have h4:decide ((ms.length:Int)≤3)=decide (ms.length≤3):=by
  rw[Bool.eq_iff_iff,decide_eq_true_iff,decide_eq_true_iff]
  omega
 rw[aj3,ap0,an7,List.all_append,h1,h2,h3,h4]
 cases decide (n≤160) <;> cases decide (ms.length≤3) <;> cases decide (1≤ps.length) <;> cases decide (ps.length≤4) <;> cases ms.all fitM <;> cases ps.all fitP <;> cases (ms.flatMap ah2).all aa7 <;> cases (ps.flatMap ah_).all aa7 <;> rfl
theorem tree_eq {ns:List Nd}(hn:0<ns.length):(aa2 ns ns.length).all aD3=ax4 ns:=by
 have hlast:(aa2 ns ns.length).getD (ns.length-1) 0=(aa2 ns (ns.length-1+1)).getD (ns.length-1) 0:=by rw[Nat.sub_add_cancel hn]
 rw[Bool.eq_iff_iff,ax4,Bool.and_eq_true,decide_eq_true_iff]
 constructor
 ·intro h
  refine⟨List.all_eq_true.2 fun k hk=>?_,?_⟩
  ·rw[List.mem_range]at hk
   rw[aE6 hk]
   exact aI4 h hk
  ·have hk:ns.length-1<(aa2 ns ns.length).length:=by rw[ag2];omega
   have h1:=List.all_eq_true.1 h _ (List.getElem_mem hk)
   have e:(aa2 ns ns.length).getD (ns.length-1) 0=(aa2 ns ns.length)[ns.length-1]:=by
    simp[List.getD_eq_getElem?_getD,List.getElem?_eq_getElem hk]
   rw[e]
   have:=ad5.1 h1
   omega
 ·intro ⟨_,h2⟩
  rw[List.all_eq_true]
  intro d hd
  obtain⟨i,hi,rfl⟩:=List.getElem_of_mem hd
  have hi2:i<ns.length:=by rw[ag2]at hi;exact hi
  have e:(aa2 ns ns.length).getD i 0=(aa2 ns ns.length)[i]:=by
   simp[List.getD_eq_getElem?_getD,List.getElem?_eq_getElem hi]
  have hb:=as1 ns ns.length i
  rw[e]at hb
  refine ad5.2 ⟨?_,hb.2⟩
  rcases Int.lt_or_le 0 (aa2 ns ns.length)[i] with h|h
  ·omega
  ·have hz:(aa2 ns (i+1)).getD i 0=0:=by
    have e1:=aq0 ns ns.length hi2
    have e2:=aq0 ns (i+1) (Nat.lt_succ_self i)
    rw[e2,←e1,e]
    omega
   have:=aD4 hz (ns.length-1) (by omega)
   rw[hlast,this]at h2
   omega
theorem prog_eq (x:Pg):ag1 x=as3 x:=by
 have hb:(ad4 x.mons x.pros).all (aB9 x.nodes)=(ad4 x.mons x.pros).all (aa1 x.nodes 3):=aZ3 (bb6 x.nodes) _
 rw[ag1,as3,lists_eq,hb]
 rcases Nat.eq_zero_or_pos x.nodes.length with h0|hpos
 ·have ht:ax4 x.nodes=false:=by
   rw[ax4,h0]
   simp[aa2]
  cases hf:ap0 x.nodes.length x.mons x.pros with
  | false=>simp
  | true =>
   have hp:1≤x.pros.length:=by
    simp only[ap0,Bool.and_eq_true,decide_eq_true_eq]at hf
    exact hf.1.2.1
   have hs:(ad4 x.mons x.pros).all (aa1 x.nodes 3)=false:=by
    rw[List.all_eq_false]
    have hm:x.pros[0].body∈ad4 x.mons x.pros:=by
     rw[ad4,List.mem_append]
     exact .inr (List.mem_map.2 ⟨x.pros[0],List.getElem_mem (by omega),rfl⟩)
    refine⟨_,hm,?_⟩
    have:inZ 0 ((x.nodes.length:Int)-1) x.pros[0].body=false:=at4.2 (by omega)
    rw[aa1,this]
    simp
   rw[ht,hs]
   simp
 ·rw[tree_eq hpos]
  cases ap0 x.nodes.length x.mons x.pros <;> cases (an7 x.mons x.pros).all aa7 <;> cases ax4 x.nodes <;> simp
theorem aP_ (t:ByteArray) (w:World) (ht:t.size≤1048576) (h0:(ad2 t).2≠0) (hT:Lib.Utf8Tabs 0 1 w):Calls Tryz.prog 5 #[.string t] w (ap4 t w):=by
 have CS:=qb (au1 t (w.alloc (.cells #[.slice none 0 0,.slice none 0 0,.slice none 0 0] 26)) ht (av_ hT (bal _ _) (nlr _)))
 unfold ak8 at CS
 have HRP:Hid (al4 t=(al2,((ad2 t).2:Int))):=by show _=_;unfold al4;rw[if_pos h0]
 obtain⟨n,hn⟩:∃ n,(ad2 t).2=n:=⟨_,rfl⟩
 rw[hn]at CS HRP h0
 have hne:¬ (n:Int)=0:=by omega
 clear hn h0 hT
 go_enter Tryz.func5,Tryz.ntmps5
 go_wp2_with (go_at_call 15;refine(qa CS).mono ?_;rintro e w1⟨lv,rfl,ho,hb⟩;have sh:=ab_ ho;obtain⟨lo,lc,e1⟩:=sh;subst e1;have B1:Hid (Below w.heap.size w w1):=((Below.refl _ w).alloc (nlr _) (.cells #[.slice none 0 0,.slice none 0 0,.slice none 0 0] 26)).trans (hb.mono (by simp));have X1:Hid (Box w1 w.heap.size #[.slice none 0 0,.slice none 0 0,.slice none 0 0] 26):=(Box.made w _ _).stays hb;have b0:=chp X1.out 0;have b1:=chp X1.out 1;have b2:=chp X1.out 2;have q0:=fhp X1.out 0;have q1:=fhp X1.out 1;have q2:=fhp X1.out 2;simp at b0 b1 b2;clear ho hb CS)
 have XF:Hid (Box (((w1.setCell ⟨w.heap.size,0,none⟩ (.slice none 0 0)).setCell ⟨w.heap.size,1,none⟩ (.slice none 0 0)).setCell ⟨w.heap.size,2,none⟩ (.slice none 0 0)) w.heap.size #[.slice none 0 0,.slice none 0 0,.slice none 0 0] 26):=by
  have:=((X1.out.set 0 (.slice none 0 0)).set 1 (.slice none 0 0)).set 2 (.slice none 0 0)
  simpa [Hid] using this
 refine ap5 (g:=w.heap.size) (t:=26) (cs:=#[.slice none 0 0,.slice none 0 0,.slice none 0 0]) rfl rfl XF.out _ Tryz.underlying26 rfl (by kernel_rfl) rfl ?_
 have E1:=ap4.nil (t:=t) (w:=w) (w':=((w1.setCell ⟨w.heap.size,0,none⟩ (.slice none 0 0)).setCell ⟨w.heap.size,1,none⟩ (.slice none 0 0)).setCell ⟨w.heap.size,2,none⟩ (.slice none 0 0)) (by rw[HRP.out]) (((B1.out.setCell (p:=⟨w.heap.size,0,none⟩) (nlr _) _).setCell (p:=⟨w.heap.size,1,none⟩) (nlr _) _).setCell (p:=⟨w.heap.size,2,none⟩) (nlr _) _)
 rw[HRP.out]at E1
 exact E1
theorem aU6 (t:ByteArray) (w:World) (ht:t.size≤1048576) (h0:(ad2 t).2=0) (hT:Lib.Utf8Tabs 0 1 w) (hG:3<w.heap.size) (hO:ak5 w):Calls Tryz.prog 5 #[.string t] w (ap4 t w):=by
 have hba:Below w.heap.size w (w.alloc (.cells #[.slice none 0 0,.slice none 0 0,.slice none 0 0] 26)):=bal _ _
 have CS:=qb (au1 t (w.alloc (.cells #[.slice none 0 0,.slice none 0 0,.slice none 0 0] 26)) ht (av_ hT hba (nlr _)))
 have HBA:=qb hba
 have H0:=qb h0
 obtain⟨l,hl⟩:∃ l,l=(ad2 t).1:=⟨_,rfl⟩
 have hlen:l.length≤500:=by rw[hl];exact aA4 t
 have hx:∀ x∈l,x.text.size≤1048576:=by rw[hl];exact ax2 t ht
 have hw:ag8 l:=by rw[hl];exact aY_ t
 have hp:∀ s,0≤(sgAt t.size l s).place∧(sgAt t.size l s).place≤2000000000:=by rw[hl];exact place_in t ht
 obtain⟨B,hB⟩:∃ B,B=w.heap.size:=⟨_,rfl⟩
 have CC:=fun g lv W h hO=>qb (aU2 (B:=B) (g:=g) (sz:=(t.size:Int)) (l:=l) (lv:=lv) hw hlen hx (by rw[hB];exact hG) hp W h hO)
 have KO:=fun z (hb:Below B w z)=>qb (hO.stays hb (by rw[hB];exact hG))
 have HP:=qb hp
 have HLN:=qb hlen
 have HX:=qb hx
 have HL:=qb hl
 have HBW:=qb hB
 unfold ak8 at CS
 rw[h0,←hl]at CS
 clear h0 hlen hl hx hw hp hB hT hO hba hG
 go_enter Tryz.func5,Tryz.ntmps5
 go_wp2_with (go_at_call 15;refine(qa CS).mono ?_;rintro e w1⟨lv,rfl,ho,hb⟩;have sh:=ab_ ho;obtain⟨lo,lc,e1⟩:=sh;subst e1;have O1:=qb (ad1 ho (Nat.zero_le _));have B1:Hid (Below B w w1):=by { rw[HBW.out];exact HBA.out.trans (hb.mono (by simp)) };have X1:Hid (Box w1 B #[.slice none 0 0,.slice none 0 0,.slice none 0 0] 26):=by { rw[HBW.out];exact(Box.made w _ _).stays hb };clear ho hb CS)
 have hBg:B≤w1.heap.size:=Nat.le_of_lt X1.out.lt
 have A2:=qb (IAt.begin (sz:=(t.size:Int)) O1.out hBg)
 have B2:=qb (B1.out.alloc hBg (.cells #[.slice lo l.length lc,.int .i64 0,.int .i64 (t.size:Int),.slice none 0 0] 52))
 have X2:=qb (X1.out.stays (bal _ (.cells #[.slice lo l.length lc,.int .i64 0,.int .i64 (t.size:Int),.slice none 0 0] 52)))
 generalize w1.alloc (.cells #[.slice lo l.length lc,.int .i64 0,.int .i64 (t.size:Int),.slice none 0 0] 52)=W at A2 B2 X2 ⊢
 have C2:=CC _ _ W A2.out (KO W B2.out).out
 clear CC KO A2
 cases hb:((ae7 l).1.last l).bad
 ·refine C2.out.mono ?_
  rintro e z⟨hG,⟨_,hnl,v,rfl,no,nc,mo,f,po,pf,mid,top,rfl,hN,hM,hP⟩|⟨hb2,_⟩⟩
  rotate_left
  ·rw[hb]at hb2;cases hb2
  have X3:=qb (X2.out.keepI hG.keep aa0.g)
  have B3:=qb (B2.out.trans hG.bel)
  have V3:Hid (PgV (fun _=>False) B (W.heap.size+2) (ae7 l).1.nodes (ae7 l).2.1 (ae7 l).2.2 (.agg #[.slice no (ae7 l).1.nodes.length nc,.slice mo (ae7 l).2.1.length f,.slice po (ae7 l).2.2.length pf]) z):=⟨no,nc,mo,f,po,pf,mid,top,rfl,hN,hM,hP⟩
  have HSZ:Hid (B≤W.heap.size):=Nat.le_of_lt X2.out.lt
  obtain⟨hI1,hI2,hI3,hI4,hI5,hI6⟩:=aF3 HLN.out HX.out (nlt hnl HLN.out)
  have HRQ:Hid (al4 t=if ag1 (aj_ l)=true then (aj_ l,0) else (al2,1)):=by
   have:=bf1 (t:=t) H0.out
   rw[←HL.out]at this
   exact this hb
  have hbz:Below z.heap.size z (z.alloc (.cells #[.slice no (ae7 l).1.nodes.length nc,.slice mo (ae7 l).2.1.length f,.slice po (ae7 l).2.2.length pf] 26)):=bal _ _
  have V4:=qb (V3.out.stays hbz)
  have X4:=qb (X3.out.stays hbz)
  have B4:=qb (B3.out.trans (hbz.mono (Nat.le_of_lt X3.out.lt)))
  have P4:=qb (Box.made z #[.slice no (ae7 l).1.nodes.length nc,.slice mo (ae7 l).2.1.length f,.slice po (ae7 l).2.2.length pf] 26)
  have HWZ:Hid (B<z.heap.size):=X3.out.lt
  have C4:Hid (Calls Tryz.prog 17 #[.agg #[.slice no (ae7 l).1.nodes.length nc,.slice mo (ae7 l).2.1.length f,.slice po (ae7 l).2.2.length pf]] (z.alloc (.cells #[.slice no (ae7 l).1.nodes.length nc,.slice mo (ae7 l).2.1.length f,.slice po (ae7 l).2.2.length pf] 26)) fun e w'=>e=.returned (.bool (as3 (aj_ l)))∧Below (z.alloc (.cells #[.slice no (ae7 l).1.nodes.length nc,.slice mo (ae7 l).2.1.length f,.slice po (ae7 l).2.2.length pf] 26)).heap.size (z.alloc (.cells #[.slice no (ae7 l).1.nodes.length nc,.slice mo (ae7 l).2.1.length f,.slice po (ae7 l).2.2.length pf] 26)) w'):=by
   obtain⟨no',nc',mo',f',po',pf',mid',top',e4,n4,m4,p4⟩:=V4.out
   injection e4 with e4
   simp at e4
   obtain⟨⟨rfl,rfl⟩,⟨rfl,rfl⟩,rfl,rfl⟩:=e4
   exact az8 _ _ _ (aj_ l) _ n4.nodesT.nds m4.row.mons.at p4.row.pros.at n4.room hI1 hI2 hI3 hI4 hI5 hI6
  rw[←prog_eq]at C4
  obtain⟨R,hR⟩:∃ R,R=aj_ l:=⟨_,rfl⟩
  have e1:(ae7 l).1.nodes=R.nodes:=by rw[hR];rfl
  have e2:(ae7 l).2.1=R.mons:=by rw[hR];rfl
  have e3:(ae7 l).2.2=R.pros:=by rw[hR];rfl
  rw[←hR]at C4 HRQ
  rw[e1,e2,e3]at C4 V4 X4 B4 P4
  rw[e1,e2,e3]
  rw[HBW.out]at X4
  clear hG hN hM hP C2 X2 B2 X1 B1 O1 hI1 hI2 hI3 hI4 hI5 hI6 hnl hbz X3 B3 V3 e1 e2 e3 hR hb
  go_wp2_with fail
  generalize z.alloc (.cells #[.slice no R.nodes.length nc,.slice mo R.mons.length f,.slice po R.pros.length pf] 26)=Z at C4 V4 X4 B4 P4 ⊢
  refine C4.out.mono ?_
  rintro e y⟨rfl,hy⟩
  have V5:=qb (V4.out.stays hy)
  have X5:=qb (X4.out.stays hy)
  have P5:=qb (P4.out.stays hy)
  have p0:=chp P5.out 0
  have p1:=chp P5.out 1
  have p2:=chp P5.out 2
  have B5:=qb (B4.out.trans (hy.mono (by have:=X4.out.lt;have:=HBW.out;omega)))
  rw[HBW.out]at B5 V5
  have b0:=chp X5.out 0
  have b1:=chp X5.out 1
  have b2:=chp X5.out 2
  have q0:=fhp X5.out 0
  have q1:=fhp X5.out 1
  have q2:=fhp X5.out 2
  simp at b0 b1 b2 p0 p1 p2
  clear C4 V4 X4 B4 P4 hy
  cases hok:ag1 R with
  | false =>
   have HRP:Hid (al4 t=(al2,1)):=by show _=_;rw[HRQ.out,hok];rfl
   have XF:Hid (Box (((y.setCell ⟨w.heap.size,0,none⟩ (.slice none 0 0)).setCell ⟨w.heap.size,1,none⟩ (.slice none 0 0)).setCell ⟨w.heap.size,2,none⟩ (.slice none 0 0)) w.heap.size #[.slice none 0 0,.slice none 0 0,.slice none 0 0] 26):=by
    have:=((X5.out.set 0 (.slice none 0 0)).set 1 (.slice none 0 0)).set 2 (.slice none 0 0)
    simpa [Hid] using this
   go_wp2_with fail
   refine ap5 (g:=w.heap.size) (t:=26) (cs:=#[.slice none 0 0,.slice none 0 0,.slice none 0 0]) rfl rfl XF.out _ Tryz.underlying26 rfl (by kernel_rfl) rfl ?_
   have E1:=ap4.nil (t:=t) (w:=w) (w':=((y.setCell ⟨w.heap.size,0,none⟩ (.slice none 0 0)).setCell ⟨w.heap.size,1,none⟩ (.slice none 0 0)).setCell ⟨w.heap.size,2,none⟩ (.slice none 0 0)) (by rw[HRP.out]) (((B5.out.setCell (p:=⟨w.heap.size,0,none⟩) (nlr _) _).setCell (p:=⟨w.heap.size,1,none⟩) (nlr _) _).setCell (p:=⟨w.heap.size,2,none⟩) (nlr _) _)
   rw[HRP.out]at E1
   exact E1
  | true =>
   have HRP:Hid (al4 t=(R,0)):=by show _=_;rw[HRQ.out,hok];rfl
   have Y0:=qb (X5.out.set 0 (.slice no R.nodes.length nc))
   have Y1:=qb (Y0.out.set 1 (.slice mo R.mons.length f))
   have Y2:=qb (Y1.out.set 2 (.slice po R.pros.length pf))
   have V9:=qb (((V5.out.chg X5.out 0 (.slice no R.nodes.length nc)).chg Y0.out 1 (.slice mo R.mons.length f)).chg Y1.out 2 (.slice po R.pros.length pf))
   have B9:=qb (((B5.out.setCell (p:=⟨w.heap.size,0,none⟩) (nlr _) (.slice no R.nodes.length nc)).setCell (p:=⟨w.heap.size,1,none⟩) (nlr _) (.slice mo R.mons.length f)).setCell (p:=⟨w.heap.size,2,none⟩) (nlr _) (.slice po R.pros.length pf))
   simp at Y2
   go_wp2_with fail
   refine ap5 (g:=w.heap.size) (t:=26) (cs:=#[.slice no R.nodes.length nc,.slice mo R.mons.length f,.slice po R.pros.length pf]) rfl rfl Y2.out _ Tryz.underlying26 rfl (by kernel_rfl) rfl ?_
   refine⟨_,W.heap.size+2,by rw[HRP.out];rfl,B9.out,by have:=HSZ.out;have:=HBW.out;omega,?_⟩
   rw[HRP.out]
   exact V9.out
 ·refine C2.out.mono ?_
  rintro e z⟨hG,⟨hb2,_⟩|⟨_,rfl⟩⟩
  ·rw[hb]at hb2;cases hb2
  have X3:=qb (X2.out.keepI hG.keep aa0.g)
  have B3:=qb (B2.out.trans hG.bel)
  have HRP:Hid (al4 t=(al2,(sgAt t.size l ((ae7 l).1.last l)).place+1)):=by
   have:=bl2 (t:=t) H0.out
   rw[←HL.out]at this
   exact this hb
  obtain⟨pl,hpl⟩:∃ pl,pl=(sgAt t.size l ((ae7 l).1.last l)).place:=⟨_,rfl⟩
  have h1:=HP.out ((ae7 l).1.last l)
  rw[←hpl]at h1 HRP ⊢
  have hne:¬ pl+1=0:=by omega
  have hzB:B<z.heap.size:=X3.out.lt
  have X4:=qb (X3.out.stays (bal _ (.cells #[.slice none 0 0,.slice none 0 0,.slice none 0 0] 26)))
  have B4:=qb (B3.out.alloc (Nat.le_of_lt hzB) (.cells #[.slice none 0 0,.slice none 0 0,.slice none 0 0] 26))
  rw[HBW.out]at X4
  have b0:=chp X4.out 0
  have b1:=chp X4.out 1
  have b2:=chp X4.out 2
  have q0:=fhp X4.out 0
  have q1:=fhp X4.out 1
  have q2:=fhp X4.out 2
  simp at b0 b1 b2
  clear hG C2 X2 B2 X1 B1 O1 hpl h1 hb HP
  go_wp2_with fail
  generalize z.alloc (.cells #[.slice none 0 0,.slice none 0 0,.slice none 0 0] 26)=y at X4 B4 ⊢
  rw[HBW.out]at B4
  have XF:Hid (Box (((y.setCell ⟨w.heap.size,0,none⟩ (.slice none 0 0)).setCell ⟨w.heap.size,1,none⟩ (.slice none 0 0)).setCell ⟨w.heap.size,2,none⟩ (.slice none 0 0)) w.heap.size #[.slice none 0 0,.slice none 0 0,.slice none 0 0] 26):=by
   have:=((X4.out.set 0 (.slice none 0 0)).set 1 (.slice none 0 0)).set 2 (.slice none 0 0)
   simpa [Hid] using this
  refine ap5 (g:=w.heap.size) (t:=26) (cs:=#[.slice none 0 0,.slice none 0 0,.slice none 0 0]) rfl rfl XF.out _ Tryz.underlying26 rfl (by kernel_rfl) rfl ?_
  have E1:=ap4.nil (t:=t) (w:=w) (w':=((y.setCell ⟨w.heap.size,0,none⟩ (.slice none 0 0)).setCell ⟨w.heap.size,1,none⟩ (.slice none 0 0)).setCell ⟨w.heap.size,2,none⟩ (.slice none 0 0)) (by rw[HRP.out]) (((B4.out.setCell (p:=⟨w.heap.size,0,none⟩) (nlr _) _).setCell (p:=⟨w.heap.size,1,none⟩) (nlr _) _).setCell (p:=⟨w.heap.size,2,none⟩) (nlr _) _)
  rw[HRP.out]at E1
  exact E1
theorem aO9 (t:ByteArray) (w:World) (ht:t.size≤1048576) (hT:Lib.Utf8Tabs 0 1 w) (hG:3<w.heap.size) (hO:ak5 w):Calls Tryz.prog 5 #[.string t] w (ap4 t w):=by
 by_cases h:(ad2 t).2=0
 ·exact aU6 t w ht h hT hG hO
 ·exact aP_ t w ht h hT
end Go.Proofs.YtcpapceeekkacaaGreatDoor
