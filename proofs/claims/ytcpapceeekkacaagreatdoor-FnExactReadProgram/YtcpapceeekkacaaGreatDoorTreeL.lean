import Derived.Test.YtcpapceeekkacaaGreatDoorTreeB
import Derived.Test.YtcpapceeekkacaaGreatDoorReadX
import Derived.Test.YtcpapceeekkacaaGreatDoorImpA
import Derived.Test.YtcpapceeekkacaaGreatDoorTreeQ
import Derived.Test.YtcpapceeekkacaaGreatDoorNameW
set_option maxRecDepth 100000
set_option maxHeartbeats 8000000
namespace Go.Proofs.YtcpapceeekkacaaGreatDoor
open Go.RowKit
structure CntS (W1:World) (n:Nat) (bv:Value) (bs u:List Int) (wr:World):Prop where
 own:wr.ownsRow W1.heap.size 3 1 (.slice (some ⟨W1.heap.size,0,none⟩) n n) n ((cnt n u).map I64)
 bel:Below W1.heap.size W1 wr
 row:ax6 (W1.heap.size+1) wr bv bs
theorem CntS.step {W1:World}{n:Nat}{bv:Value}{bs u:List Int}{wr:World}(h:CntS W1 n bv bs u wr) {y:Nat}(hy:y<n):CntS W1 n bv bs (u++[(y:Int)]) (wr.setCell ⟨W1.heap.size,y,none⟩ (.int .i64 ((cnt n u).getD y 0+1))) :=
 ⟨aR1 h.own hy,h.bel.setCell (nlr _) _,h.row.kept (am8.setCell (Nat.lt_succ_self _) _ _ _)⟩
theorem CntS.stays {W1:World}{n:Nat}{bv:Value}{bs u:List Int}{wr w':World}(h:CntS W1 n bv bs u wr) (hb:Below wr.heap.size wr w'):CntS W1 n bv bs u w' :=
 ⟨ac8 h.own hb,h.bel.trans (hb.mono h.bel.size),h.row.kept (am8.below hb)⟩
theorem ba0 (n:Nat):(List.replicate n [Value.int .i64 0]).flatten=List.replicate n (I64 0):=by
 induction n with
 | zero=>rfl
 | succ m ih=>rw[List.replicate_succ,List.flatten_cons,ih];rfl
def UsA (W1:World) (n:Nat) (bv:Value) (bs:List Int) (iv:Value) (wr:World):Prop:=∃ i:Nat,i≤bs.length∧iv=.int .i64 i∧Hid (CntS W1 n bv bs (bs.take i) wr)
def UsB (W1:World) (ns:List Nd) (bv:Value) (bs:List Int) (iv:Value) (wr:World):Prop:=∃ k:Nat,k≤ns.length∧iv=.int .i64 k∧Hid (CntS W1 ns.length bv bs (bs++ab9 (ns.take k)) wr)
def UsC (W1:World) (n:Nat) (bv:Value) (bs u ks:List Int) (iv:Value) (wr:World):Prop:=∃ i:Nat,i≤ks.length∧iv=.int .i64 i∧Hid (CntS W1 n bv bs (u++ks.take i) wr)
theorem aV2 (nv mv pv:Value) (ns:List Nd) (ms:List Mo) (ps:List Pr) (w:World) (hN:af7 w nv ns) (hM:ar8 w mv ms) (hP:ar9 w pv ps) (hl:ns.length≤1048576) (hbl:(ad4 ms ps).length≤1048576) (hml:ms.length≤1048576) (hpl:ps.length≤1048576) (hel:∀ m∈ms,m.ents.length≤1048576)
  (hkl:(ab9 ns).length≤1048576) (hkx:∀ x∈ns,x.kids.length≤1048576) (hK:∀ x∈ns,∀ y∈x.kids,0≤y∧y<(ns.length:Int)) :
  Calls Tryz.prog 37 #[.agg #[nv,mv,pv]] w fun e w'=>∃ v,e=.returned v∧w'.ownsRow (w.heap.size+1) 3 1 v ns.length ((cnt ns.length (ad4 ms ps++ab9 ns)).map I64)∧Below w.heap.size w w':=by
 have hb1:Below w.heap.size w (w.alloc (.cells #[nv,mv,pv] 26)):=bal _ _
 have HN:=qb (hN.stays hb1)
 have HM:=qb (hM.stays hb1)
 have HP:=qb (hP.stays hb1)
 have HX:=qb (ar3.made w nv mv pv 26)
 have HB:=qb hb1
 have HS:Hid ((w.alloc (.cells #[nv,mv,pv] 26)).heap.size=w.heap.size+1):=by show _=_;simp
 have CB:=fun w h1 h2=>qb (ay6 nv mv pv ms ps w h1 h2 hbl hml hpl hel)
 clear hb1 hel hml hpl
 obtain⟨ao,c,rfl,_⟩:=hN
 obtain⟨mo,mc,rfl,_⟩:=hM
 obtain⟨po,pc,rfl,_⟩:=hP
 obtain⟨n,en⟩:∃ n,ns.length=n:=⟨_,rfl⟩
 have EN:=qb en
 have HKX:=qb hkx
 have HK:=qb hK
 have HKL:=qb hkl
 simp only[en]at HN HM HP HX HB HS CB hl HK ⊢
 clear en hkx hK hkl
 obtain⟨bs,ebs⟩:∃ bs,ad4 ms ps=bs:=⟨_,rfl⟩
 simp only[ebs]at CB hbl ⊢
 clear ebs
 obtain⟨W1,hW⟩:∃ W1,w.alloc (.cells #[.slice ao n c,.slice mo ms.length mc,.slice po ps.length pc] 26)=W1:=⟨_,rfl⟩
 obtain⟨i0,hi,hz0,hz1,hz2⟩:=info_parts (Tryz.infoInt)
 obtain⟨wm,hmk,hown,hgr⟩:=run_make_full (P:=Tryz.prog) W1 W1.heap.size 70 3 i0 (.int .i64 0) 1 Tryz.underlying70 hi hz0 hz1 .i64 .i64 n (by rw[hz2];omega) (by unfold maxLen;omega) (nlr _)
 rw[hW]at HN HM HP HX HB HS
 have OW:Hid (wm.ownsRow W1.heap.size 3 1 (.slice (some ⟨W1.heap.size,0,none⟩) n n) n ((cnt n []).map I64)):=by
  have e:=aP6 [.int .i64 0] (by decide) n
  simp only[List.length_singleton]at e
  have e2:(cnt n []).map I64=(List.replicate n [Value.int .i64 0]).flatten:=by
   rw[bh0,List.map_replicate]
   exact(ba0 n).symm
  rw[e2,←e]
  exact hown
 have GB:Hid (Below W1.heap.size W1 wm):=(Below.refl _ _).grown hgr (nlr _) (fun k hk=>by cases hk)
 rw[HS.out,←hW]at hmk
 have HWW:=qb hW
 clear hown hgr hi hz0 hz1 hz2 hW
 go_enter Tryz.func37,Tryz.ntmps37
 obtain⟨c0,c1,c2,hlt0⟩:=HX.out.stays GB.out
 go_wp2_with fail
 refine(qa (CB _ (HM.out.stays GB.out) (HP.out.stays GB.out))).mono ?_
 rintro e w2⟨bv,rfl,hown2,hb2⟩
 have ZM:Hid (W1.heap.size<wm.heap.size):=(OW.out.lt _ rfl).2
 have HC:Hid (CntS W1 n bv bs [] w2):=⟨ac8 OW.out hb2,GB.out.trans (hb2.mono GB.out.size),(ai5.own hown2).mono (by have:=ZM.out;omega)⟩
 obtain⟨bo,bn,bc,ebv⟩:∃ bo bn bc,bv=.slice bo bn bc:=by
  obtain⟨o,c,e,_⟩:=HC.out.row
  exact⟨_,_,_,e⟩
 have hbn:bn=bs.length:=by
  obtain⟨o,c,e,_⟩:=HC.out.row
  rw[ebv]at e
  injection e with _ e _
  rw[e,List.length_map]
 subst ebv
 subst hbn
 clear hb2 hown2 c0 c1 c2 hlt0 CB OW hmk
 rw[←HS.out]
 go_wp2
 obtain⟨m,em⟩:∃ m,bs.length=m:=⟨_,rfl⟩
 have EM:=qb em
 rw[em]at HC hbl ⊢
 clear em
 go_loopw [5] (UsA W1 n (.slice bo m bc) bs) (fun iv _=>m-(intOf iv).toNat)
 case atStart=>exact⟨0,by omega,rfl,HC.out⟩
 case round =>
  obtain⟨i,hi,rfl,HF⟩:=hrel
  rw[EM.out]at hi
  obtain⟨c0,c1,c2,_⟩:=HX.out.stays HF.out.bel
  by_cases hlt:i<m
  ·have hlt':(i:Int)<(m:Int):=by omega
   have hi0:(0:Int)≤(i:Int):=by omega
   have hix:i<bs.length:=by rw[EM.out];exact hlt
   obtain⟨bo',bc',e1,hc1⟩:=HF.out.row.at
   injection e1 with e2 e3 e4
   subst e2
   obtain⟨b,rfl,_,hx⟩:=hc1 i hix
   have HT:Hid (bs.take (i+1)=bs.take i++[bs[i]]):=List.take_succ_eq_append_getElem hix
   obtain⟨y,ey⟩:∃ y,bs[i]=y:=⟨_,rfl⟩
   rw[ey]at hx HT
   clear ey hc1 e3 e4
   have CI:=fun w=>qb (ab7 y 0 ((n:Int)-1) w)
   have hwr:IntKind.i64.wrap ((n:Int)-1)=(n:Int)-1:=IntWalk.i64_in _ (by omega)
   cases hin:inZ 0 ((n:Int)-1) y with
   | false =>
    have hno:=at4.1 hin
    have HE:Hid (cnt n (bs.take (i+1))=cnt n (bs.take i)):=by show _=_;rw[HT.out,cnt_skip _ (by omega)]
    rw[hin]at CI
    clear hin hno
    go_wp2
    go_region_held3 (fun z=>z.cell? (b.add i)=some (.int .i64 y)∧z.cell? ⟨w.heap.size,0,none⟩=some (.slice ao n c)) (go_keep) ((go_at_call 35;refine(qa (CI _)).mono ?_;rintro e w3⟨rfl,rfl⟩))
    all_goals go_wp2
    all_goals go_roundw
    case rel=>exact⟨i+1,by rw[EM.out];omega,by go_num,by
     have h:=HF.out.stays (Below.refl _ _).drew
     exact⟨by rw[HE.out];exact h.own,h.bel,h.row⟩⟩
    case measure=>simp[intOf];omega
   | true =>
    obtain⟨hy0,hy1⟩:=ad5.1 hin
    obtain⟨t,ht⟩:∃ t:Nat,y=(t:Int):=⟨y.toNat,by omega⟩
    subst ht
    rw[hin]at CI
    have htn:t<n:=by omega
    have htn':(t:Int)<(n:Int):=by omega
    have ht0:(0:Int)≤(t:Int):=by omega
    obtain⟨k0,f0⟩:=ao9 HF.out.own htn
    have hle:=aZ6 (n:=n) (bs.take i) htn
    rw[List.length_take]at hle
    have HST:=qb (HF.out.step htn)
    obtain⟨q,eq⟩:∃ q,(cnt n (bs.take i)).getD t 0=q:=⟨_,rfl⟩
    rw[eq]at k0 hle HST
    have hq0:0≤q:=hle.1
    have hq1:q≤1048576:=by omega
    clear hin eq hle
    go_wp2
    go_region_held3 (fun z=>z.cell? (b.add i)=some (.int .i64 (t:Int))∧z.cell? ⟨w.heap.size,0,none⟩=some (.slice ao n c)) (go_keep) ((go_at_call 35;refine(qa (CI _)).mono ?_;rintro e w3⟨rfl,rfl⟩))
    all_goals go_wp2
    all_goals go_roundw
    case rel=>exact⟨i+1,by rw[EM.out];omega,by go_num,by rw[HT.out];exact HST.out.stays (Below.refl _ _).drew⟩
    case measure=>simp[intOf];omega
  ·have hlt':¬ (i:Int)<(m:Int):=by omega
   have HD:Hid (CntS W1 n (.slice bo m bc) bs (bs++ab9 (ns.take 0)) wr):=by
    have h:=HF.out
    rw[List.take_of_length_le (by rw[EM.out];omega)]at h
    have e:bs++ab9 (ns.take 0)=bs:=by simp[ab9]
    rw[e]
    exact h
   clear HF c0 c1 c2
   go_wp2
   go_loopw [6] (fun iv wr=>UsB W1 ns (.slice bo m bc) bs iv wr) (fun iv _=>n-(intOf iv).toNat)
   case atStart=>exact⟨0,by omega,rfl,by rw[EN.out];exact HD.out⟩
   case round =>
    obtain⟨k,hk,rfl,HF2⟩:=hrel
    rw[EN.out]at hk HF2
    obtain⟨c0,c1,c2,_⟩:=HX.out.stays HF2.out.bel
    by_cases hltk:k<n
    ·have hltk':(k:Int)<(n:Int):=by omega
     have hk0:(0:Int)≤(k:Int):=by omega
     have hkx:k<ns.length:=by rw[EN.out];exact hltk
     have HKT:=qb (aq8 hkx)
     have HKK:=qb (HK.out _ (List.getElem_mem hkx))
     have HKN:=qb (HKX.out _ (List.getElem_mem hkx))
     have HLT:Hid (bs.length+(ab9 (ns.take k)).length+ns[k].kids.length≤2097152):=by
      have h1:=at3 ns (k+1)
      rw[aq8 hkx,List.length_append]at h1
      have h2:=HKL.out
      show _≤_
      rw[EM.out]
      omega
     obtain⟨x,ex⟩:∃ x,ns[k]=x:=⟨_,rfl⟩
     have EX:=qb ex
     rw[ex]at HKT HKK HKN HLT
     obtain⟨kl,ekl⟩:∃ kl,x.kids.length=kl:=⟨_,rfl⟩
     have EKL:=qb ekl
     have hklb:kl≤1048576:=by rw[←ekl];exact HKN.out
     clear ex ekl
     go_wp2
     go_loopw [7] (fun iv wr=>UsC W1 n (.slice bo m bc) bs (bs++ab9 (ns.take k)) x.kids iv wr) (fun iv _=>kl-(intOf iv).toNat)
     case atStart=>exact⟨0,by omega,rfl,by rw[List.take_zero,List.append_nil];exact HF2.out⟩
     case round =>
      clear c0 c1 c2
      obtain⟨j,hj,rfl,HF3⟩:=hrel
      rw[EKL.out]at hj
      obtain⟨c0,c1,c2,_⟩:=HX.out.stays HF3.out.bel
      obtain⟨a',cc',p,kv,e5,hpa,hpb,hnode⟩:=(HN.out.stays HF3.out.bel).node k hkx
      injection e5 with e6 e7 e8
      subst e6
      have d5:=hnode.c5
      have hkr:=hnode.kids
      rw[EX.out]at hkr
      obtain⟨ko,kc,rfl,hkc⟩:=hkr
      rw[EKL.out]at d5
      clear hnode e7 e8
      by_cases hltj:j<kl
      ·have hltj':(j:Int)<(kl:Int):=by omega
       have hj0:(0:Int)≤(j:Int):=by omega
       have hjx:j<x.kids.length:=by rw[EKL.out];exact hltj
       obtain⟨b,rfl,_,hy⟩:=hkc j hjx
       have HT:Hid (x.kids.take (j+1)=x.kids.take j++[x.kids[j]]):=List.take_succ_eq_append_getElem hjx
       obtain⟨hy0,hy1⟩:=HKK.out _ (List.getElem_mem hjx)
       obtain⟨y,ey⟩:∃ y,x.kids[j]=y:=⟨_,rfl⟩
       rw[ey]at hy HT hy0 hy1
       obtain⟨t,ht⟩:∃ t:Nat,y=(t:Int):=⟨y.toNat,by omega⟩
       subst ht
       clear ey hkc
       have htn:t<n:=by omega
       obtain⟨k0,f0⟩:=ao9 HF3.out.own htn
       have hle:=aZ6 (n:=n) (bs++ab9 (ns.take k)++x.kids.take j) htn
       have HST:=qb (HF3.out.step htn)
       obtain⟨q,eq⟩:∃ q,(cnt n (bs++ab9 (ns.take k)++x.kids.take j)).getD t 0=q:=⟨_,rfl⟩
       rw[eq]at k0 hle HST
       have hq0:0≤q:=hle.1
       have hq1:q≤2097152:=by
        have h1:=hle.2
        have h2:=HLT.out
        rw[List.length_append,List.length_append,List.length_take]at h1
        omega
       clear eq hle
       go_wp2
       go_roundw
       case rel =>
        refine⟨j+1,?_,by go_num,?_⟩
        ·rw[EKL.out];omega
        ·rw[HT.out,←List.append_assoc];exact HST.out
       case measure=>simp[intOf];omega
      ·have hltj':¬ (j:Int)<(kl:Int):=by omega
       have HE:Hid (CntS W1 n (.slice bo m bc) bs (bs++ab9 (ns.take (k+1))) wr):=by
        have h:=HF3.out
        rw[List.take_of_length_le (l:=x.kids) (i:=j) (by rw[EKL.out];omega),List.append_assoc,←HKT.out]at h
        exact h
       go_wp2
       go_roundw
       case rel=>exact⟨k+1,by rw[EN.out];omega,by go_num,by rw[EN.out];exact HE.out⟩
       case measure=>simp[intOf];omega
    ·have hltk':¬ (k:Int)<(n:Int):=by omega
     go_wp2
     go_ret
     refine⟨_,rfl,?_,HB.out.trans (HF2.out.bel.mono (by rw[HS.out];omega))⟩
     have h:=HF2.out.own
     rw[List.take_of_length_le (by rw[EN.out];omega)]at h
     rw[HS.out]at h ⊢
     exact h
def an6 (xs:List ByteArray) (most:Int):Bool:=xs.all aa7 && decide ((xs.length:Int)≤most)
def NamesR (W:World) (xs:List ByteArray) (iv:Value) (wr:World):Prop :=
 ∃ i:Nat,i≤xs.length∧iv=.int .i64 i∧Hid (Below W.heap.size W wr)∧Hid (∀ j x,j<i→xs[j]? = some x→aa7 x=true)
theorem ar_ (v:Value) (xs:List ByteArray) (most:Int) (w:World) (hX:ai8 w v xs) (hl:xs.length≤1048576) (hs:∀ x∈xs,x.size≤1048576) :
  Calls Tryz.prog 63 #[v,.int .i64 most] w fun e w'=>e=.returned (.bool (an6 xs most))∧Below w.heap.size w w':=by
 have HX:=qb hX
 obtain⟨ao,c,rfl,_⟩:=hX
 obtain⟨n,en⟩:∃ n,xs.length=n:=⟨_,rfl⟩
 have EN:=qb en
 rw[en]at HX hl ⊢
 go_enter Tryz.func63,Tryz.ntmps63
 go_wp2
 go_loopw [5] (NamesR w xs) (fun iv _=>n-(intOf iv).toNat)
 case atStart=>exact⟨0,by omega,rfl,Below.refl _ _,fun j x hj=>absurd hj (Nat.not_lt_zero j)⟩
 case round =>
  obtain⟨i,hi,rfl,HB2,HA⟩:=hrel
  rw[en]at hi
  by_cases hlt:i<n
  ·have hlt':(i:Int)<(n:Int):=by omega
   have hi0:(0:Int)≤(i:Int):=by omega
   obtain⟨ao',c',e5,hc⟩:=HX.out.stays HB2.out
   injection e5 with e6 e7 e8
   subst e6
   have hix:i<xs.length:=by omega
   obtain⟨a,rfl,_,hx⟩:=hc i hix
   have C:=fun w=>qb (ab1 xs[i] w (hs _ (List.getElem_mem hix)))
   have EX:Hid (xs[i]? = some xs[i]):=List.getElem?_eq_getElem hix
   obtain⟨x,ex⟩:∃ x,xs[i]=x:=⟨_,rfl⟩
   rw[ex]at hx EX
   simp only[ex]at C
   clear ex hc e7 e8 en
   cases hv:aa7 x with
   | true =>
    rw[hv]at C
    go_wp2_with (go_at_call 60;refine(qa (C _)).mono ?_;rintro e w2⟨rfl,hb2⟩;have HB3:=qb hb2;clear hb2)
    go_roundw
    case rel=>exact⟨i+1,by rw[EN.out];omega,by go_num,HB2.out.trans (HB3.out.mono HB2.out.size),fun j y hj hy=>by
     rcases Nat.lt_succ_iff_lt_or_eq.1 hj with hj|hj
     ·exact HA.out j y hj hy
     ·subst hj;rw[EX.out]at hy;cases hy;exact hv⟩
    case measure=>simp[intOf];omega
   | false =>
    rw[hv]at C
    go_wp2_with (go_at_call 60;refine(qa (C _)).mono ?_;rintro e w2⟨rfl,hb2⟩;have HB3:=qb hb2;clear hb2)
    go_ret
    exact⟨by rw[an6,List.all_eq_false.2 ⟨x,List.mem_iff_getElem?.2 ⟨i,EX.out⟩,by simp[hv]⟩];rfl,HB2.out.trans (HB3.out.mono HB2.out.size)⟩
  ·have hlt':¬ (i:Int)<(n:Int):=by omega
   have HF:Hid (an6 xs most=decide ((n:Int)≤most)):=by
    show _=_
    rw[an6,EN.out,List.all_eq_true.2 (fun x hx=>by
     obtain⟨j,hj⟩:=List.mem_iff_getElem?.1 hx
     exact HA.out j x (by have:=(List.getElem?_eq_some_iff.1 hj).1;omega) hj)]
    rfl
   clear en
   go_wp2
   go_ret
   exact⟨by rw[HF.out];rfl,HB2.out⟩
end Go.Proofs.YtcpapceeekkacaaGreatDoor
