import Derived.Test.YtcpapceeekkacaaGreatDoorMarkM
set_option maxRecDepth 100000
set_option maxHeartbeats 8000000
namespace Go.Proofs.YtcpapceeekkacaaGreatDoor
open Go.RowKit
def plN (g:Nat) (kg kn:Nat→Nat) (j:Nat):List Pl:=[(g,j*6,false),(g,j*6+1,false),(g,j*6+2,true),(g,j*6+3,true),(g,j*6+4,true)]++(pls (plI (kg j)) (kn j))
def plM (g:Nat) (vg vn qg qn eg en:Nat→Nat) (j:Nat):List Pl:=[(g,j*4,true)]++(pls (plT (vg j)) (vn j)++(pls (plT (qg j)) (qn j)++(pls (plE (eg j)) (en j))))
def plP (g:Nat) (ug un vg vn:Nat→Nat) (j:Nat):List Pl:=[(g,j*4,true)]++(pls (plT (ug j)) (un j)++(pls (plT (vg j)) (vn j)++([(g,j*4+3,false)])))
theorem bj6 {base g n k0:Nat}{v:Value}(w:World) (hv:ah6 v n g) (hF:Free base w (pls (plE g) n)) (hk:k0+(pls (plE g) n).length≤1000000000000000) (hk0:0<k0) (hb:base≤w.heap.size) (hn:n≤1048576) (i:Int) (hi:i=(k0:Int)) :
  Calls Tryz.prog 54 #[v,.int .i64 i] w fun e w'=>e=.returned (.int .i64 (i+((pls (plE g) n).length:Nat)))∧Mks base w w' (pls (plE g) n) (pls (plE g) n) [] k0:=by
 subst hi
 rcases hv with⟨rfl,aa,ca,rfl⟩|⟨h0,cap,rfl⟩
 ·have HF:=qb hF
  clear hF
  go_enter Tryz.func54,Tryz.ntmps54
  go_wp2
  refine wp_loop_rounds 1 ?_
  rw[rounds_succ]
  go_wp2
  go_ret
  exact⟨by rw[ai9];simp,Mks.none _ k0 HF.out⟩
 ·have HF:=qb hF
  have HK:=qb hk
  clear hF hk
  go_enter Tryz.func54,Tryz.ntmps54
  go_wp2
  go_loopw [5,1] (fun iv kv wr=>aq6 base (plE g) n k0 w iv kv wr) (fun iv _ _=>n-(intOf iv).toNat)
  case atStart=>exact aq6.start HF.out _ rfl
  case round =>
   obtain⟨j,hj,rfl,rfl,hm⟩:=hrel
   by_cases hlt:j<n
   ·have hi0:(0:Int)≤(j:Int):=by omega
    have hi1:(j:Int)<(n:Int):=by omega
    have M0:Hid (Mks base w wr (pls (plE g) n) (pls (plE g) j) ((g,j*3,true) :: (g,j*3+1,true) :: (g,j*3+2,false) :: plr (plE g) (j+1) n) k0):=by
     rw[ar2 _ _ _ hlt]at hm
     simpa only[Hid,plE,List.append_assoc,List.cons_append,List.nil_append] using hm
    have hfl:((plE g) j).length=3:=rfl
    have hql:k0+(pls (plE g) j).length+(3)≤1000000000000000:=by
     have:=HK.out
     rw[al3 (plE g) (j+1) n (by omega),ae2,List.length_append,List.length_append,hfl]at this
     omega
    have HFL:=qb hfl
    obtain⟨q,hq⟩:∃ q:Nat,q=k0+(pls (plE g) j).length:=⟨_,rfl⟩
    have hq2:((k0+(pls (plE g) j).length:Nat):Int)=(q:Int):=by rw[hq]
    rw[←hq]at hql
    have HQ:=qb hq
    have hq0:0<q:=by omega
    rw[hq2]
    clear hm hq hq2 hfl
    have MT0:=fun a w h=>qb (ah5 a (q) w h (by omega) (by omega))
    go_wp2_with fail
    refine(qa (MT0 _ _ (by omega))).mono ?_
    rintro e z1⟨rfl,hb1⟩
    have M1:=qb (M0.out.stays hb1 hb)
    clear hb1 MT0
    obtain⟨⟨y1,hc1⟩,hf1,_⟩:=M1.out.here List.mem_cons_self
    obtain⟨s1,em1⟩:∃ s,s=am7 (q):=⟨_,rfl⟩
    rw[←em1]
    have EM1:=qb em1
    clear em1
    have M2:=qb (M1.out.step (.string s1) (by rw[EM1.out];exact av9 (by have:=HQ.out;(try simp only[List.length_append,List.length_cons,List.length_nil]);omega)))
    have MT2:=fun a w h=>qb (ah5 a (q+1) w h (by omega) (by omega))
    go_wp2_with fail
    refine(qa (MT2 _ _ (by omega))).mono ?_
    rintro e z2⟨rfl,hb2⟩
    have M3:=qb (M2.out.stays hb2 hb)
    clear hb2 MT2
    obtain⟨⟨y2,hc2⟩,hf2,_⟩:=M3.out.here List.mem_cons_self
    obtain⟨⟨y3,hc3⟩,hf3,_⟩:=M3.out.here (List.mem_cons_of_mem _ List.mem_cons_self)
    obtain⟨s2,em2⟩:∃ s,s=am7 (q+1):=⟨_,rfl⟩
    rw[←em2]
    have EM2:=qb em2
    clear em2
    have M4:=qb (M3.out.step (.string s2) (by rw[EM2.out];exact av9 (by have:=HQ.out;(try simp only[List.length_append,List.length_cons,List.length_nil]);omega)))
    have M5:=qb (M4.out.step (.int .i64 ((q:Int)+1+1)) (aH5 (by have:=HQ.out;(try simp only[List.length_append,List.length_cons,List.length_nil]);omega)))
    go_wp2
    go_roundw
    case rel =>
     refine⟨j+1,by omega,by go_num,?_,?_⟩
     ·rw[ae2,List.length_append,←Nat.add_assoc,←HQ.out,HFL.out];congr 1 <;> omega
     ·rw[ae2]
      have h9:=M5.out
      simp only[List.append_assoc,List.cons_append,List.nil_append]at h9
      simpa only[plE,List.append_assoc,List.cons_append,List.nil_append] using h9
    case measure=>simp[intOf];omega
   ·have e:j=n:=by omega
    subst e
    have HM:=qb hm
    clear hm
    have hql:k0+(pls (plE g) j).length≤1000000000000000:=HK.out
    obtain⟨q,hq⟩:∃ q:Nat,q=k0+(pls (plE g) j).length:=⟨_,rfl⟩
    have hq2:((k0+(pls (plE g) j).length:Nat):Int)=(q:Int):=by rw[hq]
    rw[←hq]at hql
    have HQ:=qb hq
    rw[hq2]
    clear hq hq2
    go_wp2
    go_ret
    refine⟨by rw[HQ.out];simp,?_⟩
    have:=HM.out
    rw[aA1]at this
    exact this
theorem bj8 {base g n k0:Nat}{kg kn:Nat→Nat}{kv:Nat→Value}{v:Value}(w:World) (hv:ah6 v n g) (hF:Free base w (pls (plN g kg kn) n)) (hk:k0+(pls (plN g kg kn) n).length≤1000000000000000) (hk0:0<k0) (hb:base≤w.heap.size) (hn:n≤1048576) (hs:∀ j,j<n→w.cell? ⟨g,j*6+5,none⟩=some (kv j)∧ah6 (kv j) (kn j) (kg j)∧kn j≤1048576) (hx:∀ j t,j<n→(g,j*6+5,t)∉pls (plN g kg kn) n) (hg:0<n→g<w.heap.size) (i:Int) (hi:i=(k0:Int)) :
  Calls Tryz.prog 21 #[v,.int .i64 i] w fun e w'=>e=.returned (.int .i64 (i+((pls (plN g kg kn) n).length:Nat)))∧Mks base w w' (pls (plN g kg kn) n) (pls (plN g kg kn) n) [] k0:=by
 subst hi
 rcases hv with⟨rfl,aa,ca,rfl⟩|⟨h0,cap,rfl⟩
 ·have HF:=qb hF
  clear hF
  go_enter Tryz.func21,Tryz.ntmps21
  go_wp2
  refine wp_loop_rounds 1 ?_
  rw[rounds_succ]
  go_wp2
  go_ret
  exact⟨by rw[ai9];simp,Mks.none _ k0 HF.out⟩
 ·have HF:=qb hF
  have HK:=qb hk
  have HS:=qb hs
  have HX:=qb hx
  have HG:=qb (hg h0)
  clear hF hk hs hx hg
  go_enter Tryz.func21,Tryz.ntmps21
  go_wp2
  go_loopw [5,1] (fun iv kv wr=>aq6 base (plN g kg kn) n k0 w iv kv wr) (fun iv _ _=>n-(intOf iv).toNat)
  case atStart=>exact aq6.start HF.out _ rfl
  case round =>
   obtain⟨j,hj,rfl,rfl,hm⟩:=hrel
   by_cases hlt:j<n
   ·have hi0:(0:Int)≤(j:Int):=by omega
    have hi1:(j:Int)<(n:Int):=by omega
    have M0:Hid (Mks base w wr (pls (plN g kg kn) n) (pls (plN g kg kn) j) ((g,j*6,false) :: (g,j*6+1,false) :: (g,j*6+2,true) :: (g,j*6+3,true) :: (g,j*6+4,true) :: pls (plI (kg j)) (kn j)++(plr (plN g kg kn) (j+1) n)) k0):=by
     rw[ar2 _ _ _ hlt]at hm
     simpa only[Hid,plN,List.append_assoc,List.cons_append,List.nil_append] using hm
    obtain⟨lk,hlk⟩:∃ l:Nat,l=(pls (plI (kg j)) (kn j)).length:=⟨_,rfl⟩
    have HLk:=qb hlk
    have hfl:((plN g kg kn) j).length=5+lk:=by simp only[plN,List.length_append,List.length_cons,List.length_nil,hlk] <;> omega
    have hql:k0+(pls (plN g kg kn) j).length+(5+lk)≤1000000000000000:=by
     have:=HK.out
     rw[al3 (plN g kg kn) (j+1) n (by omega),ae2,List.length_append,List.length_append,hfl]at this
     omega
    have HFL:=qb hfl
    obtain⟨q,hq⟩:∃ q:Nat,q=k0+(pls (plN g kg kn) j).length:=⟨_,rfl⟩
    have hq2:((k0+(pls (plN g kg kn) j).length:Nat):Int)=(q:Int):=by rw[hq]
    rw[←hq]at hql
    have HQ:=qb hq
    have hq0:0<q:=by omega
    rw[hq2]
    clear hm hq hq2 hfl hlk
    have hsj:=HS.out j hlt
    obtain⟨ck,rk,nk⟩:=hsj
    have Ck:=qb ck
    have Rk:=qb rk
    clear ck rk
    obtain⟨⟨y1,hc1⟩,hf1,_⟩:=M0.out.here List.mem_cons_self
    obtain⟨⟨y2,hc2⟩,hf2,_⟩:=M0.out.here (List.mem_cons_of_mem _ (List.mem_cons_self))
    have M1:=qb (M0.out.step (.int .i64 ((q:Int))) (aH5 (by have:=HQ.out;have:=HLk.out;(try simp only[List.length_append,List.length_cons,List.length_nil]);omega)))
    have M2:=qb (M1.out.step (.int .i64 ((q:Int)+1)) (aH5 (by have:=HQ.out;have:=HLk.out;(try simp only[List.length_append,List.length_cons,List.length_nil]);omega)))
    have MT2:=fun a w h=>qb (ah5 a (q+2) w h (by omega) (by omega))
    go_wp2_with fail
    refine(qa (MT2 _ _ (by omega))).mono ?_
    rintro e z1⟨rfl,hb1⟩
    have M3:=qb (M2.out.stays hb1 hb)
    clear hb1 MT2
    obtain⟨⟨y3,hc3⟩,hf3,_⟩:=M3.out.here List.mem_cons_self
    obtain⟨s1,em1⟩:∃ s,s=am7 (q+2):=⟨_,rfl⟩
    rw[←em1]
    have EM1:=qb em1
    clear em1
    have M4:=qb (M3.out.step (.string s1) (by rw[EM1.out];exact av9 (by have:=HQ.out;have:=HLk.out;(try simp only[List.length_append,List.length_cons,List.length_nil]);omega)))
    have MT4:=fun a w h=>qb (ah5 a (q+3) w h (by omega) (by omega))
    go_wp2_with fail
    refine(qa (MT4 _ _ (by omega))).mono ?_
    rintro e z2⟨rfl,hb2⟩
    have M5:=qb (M4.out.stays hb2 hb)
    clear hb2 MT4
    obtain⟨⟨y4,hc4⟩,hf4,_⟩:=M5.out.here List.mem_cons_self
    obtain⟨s2,em2⟩:∃ s,s=am7 (q+3):=⟨_,rfl⟩
    rw[←em2]
    have EM2:=qb em2
    clear em2
    have M6:=qb (M5.out.step (.string s2) (by rw[EM2.out];exact av9 (by have:=HQ.out;have:=HLk.out;(try simp only[List.length_append,List.length_cons,List.length_nil]);omega)))
    have MT6:=fun a w h=>qb (ah5 a (q+4) w h (by omega) (by omega))
    go_wp2_with fail
    refine(qa (MT6 _ _ (by omega))).mono ?_
    rintro e z3⟨rfl,hb3⟩
    have M7:=qb (M6.out.stays hb3 hb)
    clear hb3 MT6
    obtain⟨⟨y5,hc5⟩,hf5,_⟩:=M7.out.here List.mem_cons_self
    have ek:=(M7.out.other HG.out (fun t=>(HX.out j t hlt))).trans Ck.out
    obtain⟨s3,em3⟩:∃ s,s=am7 (q+4):=⟨_,rfl⟩
    rw[←em3]
    have EM3:=qb em3
    clear em3
    have M8:=qb (M7.out.step (.string s3) (by rw[EM3.out];exact av9 (by have:=HQ.out;have:=HLk.out;(try simp only[List.length_append,List.length_cons,List.length_nil]);omega)))
    go_wp2_with fail
    refine(aV4 (k0:=q+5) _ Rk.out (M8.out.sub) (by rw[←HLk.out];omega) nk _ (by omega)).mono ?_
    rintro e z4⟨rfl,hm4⟩
    have M9:=qb (M8.out.call hm4 (by have:=HQ.out;have:=HLk.out;(try simp only[List.length_append,List.length_cons,List.length_nil]);omega))
    clear hm4
    rw[←HLk.out]
    go_wp2
    go_roundw
    case rel =>
     refine⟨j+1,by omega,by go_num,?_,?_⟩
     ·rw[ae2,List.length_append,←Nat.add_assoc,←HQ.out,HFL.out];congr 1 <;> omega
     ·rw[ae2]
      have h9:=M9.out
      simp only[List.append_assoc,List.cons_append,List.nil_append]at h9
      simpa only[plN,List.append_assoc,List.cons_append,List.nil_append] using h9
    case measure=>simp[intOf];omega
   ·have e:j=n:=by omega
    subst e
    have HM:=qb hm
    clear hm
    have hql:k0+(pls (plN g kg kn) j).length≤1000000000000000:=HK.out
    obtain⟨q,hq⟩:∃ q:Nat,q=k0+(pls (plN g kg kn) j).length:=⟨_,rfl⟩
    have hq2:((k0+(pls (plN g kg kn) j).length:Nat):Int)=(q:Int):=by rw[hq]
    rw[←hq]at hql
    have HQ:=qb hq
    rw[hq2]
    clear hq hq2
    go_wp2
    go_ret
    refine⟨by rw[HQ.out];simp,?_⟩
    have:=HM.out
    rw[aA1]at this
    exact this
theorem bj7 {base g n k0:Nat}{vg vn:Nat→Nat}{vv:Nat→Value}{qg qn:Nat→Nat}{qv:Nat→Value}{eg en:Nat→Nat}{ev:Nat→Value}{v:Value}(w:World) (hv:ah6 v n g) (hF:Free base w (pls (plM g vg vn qg qn eg en) n)) (hk:k0+(pls (plM g vg vn qg qn eg en) n).length≤1000000000000000) (hk0:0<k0) (hb:base≤w.heap.size) (hn:n≤1048576) (hs:∀ j,j<n→w.cell? ⟨g,j*4+1,none⟩=some (vv j)∧ah6 (vv j) (vn j) (vg j)∧vn j≤1048576∧w.cell? ⟨g,j*4+2,none⟩=some (qv j)∧ah6 (qv j) (qn j) (qg j)∧qn j≤1048576∧w.cell? ⟨g,j*4+3,none⟩=some (ev j)∧ah6 (ev j) (en j) (eg j)∧en j≤1048576) (hx:∀ j t,j<n→(g,j*4+1,t)∉pls (plM g vg vn qg qn eg en) n∧(g,j*4+2,t)∉pls (plM g vg vn qg qn eg en) n∧(g,j*4+3,t)∉pls (plM g vg vn qg qn eg en) n) (hg:0<n→g<w.heap.size) (i:Int) (hi:i=(k0:Int)) :
  Calls Tryz.prog 22 #[v,.int .i64 i] w fun e w'=>e=.returned (.int .i64 (i+((pls (plM g vg vn qg qn eg en) n).length:Nat)))∧Mks base w w' (pls (plM g vg vn qg qn eg en) n) (pls (plM g vg vn qg qn eg en) n) [] k0:=by
 subst hi
 rcases hv with⟨rfl,aa,ca,rfl⟩|⟨h0,cap,rfl⟩
 ·have HF:=qb hF
  clear hF
  go_enter Tryz.func22,Tryz.ntmps22
  go_wp2
  refine wp_loop_rounds 1 ?_
  rw[rounds_succ]
  go_wp2
  go_ret
  exact⟨by rw[ai9];simp,Mks.none _ k0 HF.out⟩
 ·have HF:=qb hF
  have HK:=qb hk
  have HS:=qb hs
  have HX:=qb hx
  have HG:=qb (hg h0)
  clear hF hk hs hx hg
  go_enter Tryz.func22,Tryz.ntmps22
  go_wp2
  go_loopw [5,1] (fun iv kv wr=>aq6 base (plM g vg vn qg qn eg en) n k0 w iv kv wr) (fun iv _ _=>n-(intOf iv).toNat)
  case atStart=>exact aq6.start HF.out _ rfl
  case round =>
   obtain⟨j,hj,rfl,rfl,hm⟩:=hrel
   by_cases hlt:j<n
   ·have hi0:(0:Int)≤(j:Int):=by omega
    have hi1:(j:Int)<(n:Int):=by omega
    have M0:Hid (Mks base w wr (pls (plM g vg vn qg qn eg en) n) (pls (plM g vg vn qg qn eg en) j) ((g,j*4,true) :: pls (plT (vg j)) (vn j)++(pls (plT (qg j)) (qn j)++(pls (plE (eg j)) (en j)++(plr (plM g vg vn qg qn eg en) (j+1) n)))) k0):=by
     rw[ar2 _ _ _ hlt]at hm
     simpa only[Hid,plM,List.append_assoc,List.cons_append,List.nil_append] using hm
    obtain⟨lv,hlv⟩:∃ l:Nat,l=(pls (plT (vg j)) (vn j)).length:=⟨_,rfl⟩
    have HLv:=qb hlv
    obtain⟨lq,hlq⟩:∃ l:Nat,l=(pls (plT (qg j)) (qn j)).length:=⟨_,rfl⟩
    have HLq:=qb hlq
    obtain⟨le,hle⟩:∃ l:Nat,l=(pls (plE (eg j)) (en j)).length:=⟨_,rfl⟩
    have HLe:=qb hle
    have hfl:((plM g vg vn qg qn eg en) j).length=1+lv+lq+le:=by simp only[plM,List.length_append,List.length_cons,List.length_nil,hlv,hlq,hle] <;> omega
    have hql:k0+(pls (plM g vg vn qg qn eg en) j).length+(1+lv+lq+le)≤1000000000000000:=by
     have:=HK.out
     rw[al3 (plM g vg vn qg qn eg en) (j+1) n (by omega),ae2,List.length_append,List.length_append,hfl]at this
     omega
    have HFL:=qb hfl
    obtain⟨q,hq⟩:∃ q:Nat,q=k0+(pls (plM g vg vn qg qn eg en) j).length:=⟨_,rfl⟩
    have hq2:((k0+(pls (plM g vg vn qg qn eg en) j).length:Nat):Int)=(q:Int):=by rw[hq]
    rw[←hq]at hql
    have HQ:=qb hq
    have hq0:0<q:=by omega
    rw[hq2]
    clear hm hq hq2 hfl hlv hlq hle
    have hsj:=HS.out j hlt
    obtain⟨cv,rv,nv,cq,rq,nq,ce,re,ne⟩:=hsj
    have Cv:=qb cv
    have Rv:=qb rv
    have Cq:=qb cq
    have Rq:=qb rq
    have Ce:=qb ce
    have Re:=qb re
    clear cv rv cq rq ce re
    have MT0:=fun a w h=>qb (ah5 a (q) w h (by omega) (by omega))
    go_wp2_with fail
    refine(qa (MT0 _ _ (by omega))).mono ?_
    rintro e z1⟨rfl,hb1⟩
    have M1:=qb (M0.out.stays hb1 hb)
    clear hb1 MT0
    obtain⟨⟨y1,hc1⟩,hf1,_⟩:=M1.out.here List.mem_cons_self
    have ev:=(M1.out.other HG.out (fun t=>(HX.out j t hlt).1)).trans Cv.out
    obtain⟨s1,em1⟩:∃ s,s=am7 (q):=⟨_,rfl⟩
    rw[←em1]
    have EM1:=qb em1
    clear em1
    have M2:=qb (M1.out.step (.string s1) (by rw[EM1.out];exact av9 (by have:=HQ.out;have:=HLv.out;have:=HLq.out;have:=HLe.out;(try simp only[List.length_append,List.length_cons,List.length_nil]);omega)))
    go_wp2_with fail
    refine(ar1 (k0:=q+1) _ Rv.out (M2.out.sub) (by rw[←HLv.out];omega) (by omega) (nlt hb M2.out.bel.size) nv _ (by omega)).mono ?_
    rintro e z2⟨rfl,hm2⟩
    have M3:=qb (M2.out.call hm2 (by have:=HQ.out;have:=HLv.out;have:=HLq.out;have:=HLe.out;(try simp only[List.length_append,List.length_cons,List.length_nil]);omega))
    clear hm2
    rw[←HLv.out]
    have eq:=(M3.out.other HG.out (fun t=>(HX.out j t hlt).2.1)).trans Cq.out
    go_wp2_with fail
    refine(ar1 (k0:=q+1+lv) _ Rq.out (M3.out.sub) (by rw[←HLq.out];omega) (by omega) (nlt hb M3.out.bel.size) nq _ (by omega)).mono ?_
    rintro e z3⟨rfl,hm3⟩
    have M4:=qb (M3.out.call hm3 (by have:=HQ.out;have:=HLv.out;have:=HLq.out;have:=HLe.out;(try simp only[List.length_append,List.length_cons,List.length_nil]);omega))
    clear hm3
    rw[←HLq.out]
    have ee:=(M4.out.other HG.out (fun t=>(HX.out j t hlt).2.2)).trans Ce.out
    go_wp2_with fail
    refine(bj6 (k0:=q+1+lv+lq) _ Re.out (M4.out.sub) (by rw[←HLe.out];omega) (by omega) (nlt hb M4.out.bel.size) ne _ (by omega)).mono ?_
    rintro e z4⟨rfl,hm4⟩
    have M5:=qb (M4.out.call hm4 (by have:=HQ.out;have:=HLv.out;have:=HLq.out;have:=HLe.out;(try simp only[List.length_append,List.length_cons,List.length_nil]);omega))
    clear hm4
    rw[←HLe.out]
    go_wp2
    go_roundw
    case rel =>
     refine⟨j+1,by omega,by go_num,?_,?_⟩
     ·rw[ae2,List.length_append,←Nat.add_assoc,←HQ.out,HFL.out];congr 1 <;> omega
     ·rw[ae2]
      have h9:=M5.out
      simp only[List.append_assoc,List.cons_append,List.nil_append]at h9
      simpa only[plM,List.append_assoc,List.cons_append,List.nil_append] using h9
    case measure=>simp[intOf];omega
   ·have e:j=n:=by omega
    subst e
    have HM:=qb hm
    clear hm
    have hql:k0+(pls (plM g vg vn qg qn eg en) j).length≤1000000000000000:=HK.out
    obtain⟨q,hq⟩:∃ q:Nat,q=k0+(pls (plM g vg vn qg qn eg en) j).length:=⟨_,rfl⟩
    have hq2:((k0+(pls (plM g vg vn qg qn eg en) j).length:Nat):Int)=(q:Int):=by rw[hq]
    rw[←hq]at hql
    have HQ:=qb hq
    rw[hq2]
    clear hq hq2
    go_wp2
    go_ret
    refine⟨by rw[HQ.out];simp,?_⟩
    have:=HM.out
    rw[aA1]at this
    exact this
theorem bj9 {base g n k0:Nat}{ug un:Nat→Nat}{uv:Nat→Value}{vg vn:Nat→Nat}{vv:Nat→Value}{v:Value}(w:World) (hv:ah6 v n g) (hF:Free base w (pls (plP g ug un vg vn) n)) (hk:k0+(pls (plP g ug un vg vn) n).length≤1000000000000000) (hk0:0<k0) (hb:base≤w.heap.size) (hn:n≤1048576) (hs:∀ j,j<n→w.cell? ⟨g,j*4+1,none⟩=some (uv j)∧ah6 (uv j) (un j) (ug j)∧un j≤1048576∧w.cell? ⟨g,j*4+2,none⟩=some (vv j)∧ah6 (vv j) (vn j) (vg j)∧vn j≤1048576) (hx:∀ j t,j<n→(g,j*4+1,t)∉pls (plP g ug un vg vn) n∧(g,j*4+2,t)∉pls (plP g ug un vg vn) n) (hg:0<n→g<w.heap.size) (i:Int) (hi:i=(k0:Int)) :
  Calls Tryz.prog 23 #[v,.int .i64 i] w fun e w'=>e=.returned (.int .i64 (i+((pls (plP g ug un vg vn) n).length:Nat)))∧Mks base w w' (pls (plP g ug un vg vn) n) (pls (plP g ug un vg vn) n) [] k0:=by
 subst hi
 rcases hv with⟨rfl,aa,ca,rfl⟩|⟨h0,cap,rfl⟩
 ·have HF:=qb hF
  clear hF
  go_enter Tryz.func23,Tryz.ntmps23
  go_wp2
  refine wp_loop_rounds 1 ?_
  rw[rounds_succ]
  go_wp2
  go_ret
  exact⟨by rw[ai9];simp,Mks.none _ k0 HF.out⟩
 ·have HF:=qb hF
  have HK:=qb hk
  have HS:=qb hs
  have HX:=qb hx
  have HG:=qb (hg h0)
  clear hF hk hs hx hg
  go_enter Tryz.func23,Tryz.ntmps23
  go_wp2
  go_loopw [5,1] (fun iv kv wr=>aq6 base (plP g ug un vg vn) n k0 w iv kv wr) (fun iv _ _=>n-(intOf iv).toNat)
  case atStart=>exact aq6.start HF.out _ rfl
  case round =>
   obtain⟨j,hj,rfl,rfl,hm⟩:=hrel
   by_cases hlt:j<n
   ·have hi0:(0:Int)≤(j:Int):=by omega
    have hi1:(j:Int)<(n:Int):=by omega
    have M0:Hid (Mks base w wr (pls (plP g ug un vg vn) n) (pls (plP g ug un vg vn) j) ((g,j*4,true) :: pls (plT (ug j)) (un j)++(pls (plT (vg j)) (vn j)++((g,j*4+3,false) :: plr (plP g ug un vg vn) (j+1) n))) k0):=by
     rw[ar2 _ _ _ hlt]at hm
     simpa only[Hid,plP,List.append_assoc,List.cons_append,List.nil_append] using hm
    obtain⟨lu,hlu⟩:∃ l:Nat,l=(pls (plT (ug j)) (un j)).length:=⟨_,rfl⟩
    have HLu:=qb hlu
    obtain⟨lv,hlv⟩:∃ l:Nat,l=(pls (plT (vg j)) (vn j)).length:=⟨_,rfl⟩
    have HLv:=qb hlv
    have hfl:((plP g ug un vg vn) j).length=2+lu+lv:=by simp only[plP,List.length_append,List.length_cons,List.length_nil,hlu,hlv] <;> omega
    have hql:k0+(pls (plP g ug un vg vn) j).length+(2+lu+lv)≤1000000000000000:=by
     have:=HK.out
     rw[al3 (plP g ug un vg vn) (j+1) n (by omega),ae2,List.length_append,List.length_append,hfl]at this
     omega
    have HFL:=qb hfl
    obtain⟨q,hq⟩:∃ q:Nat,q=k0+(pls (plP g ug un vg vn) j).length:=⟨_,rfl⟩
    have hq2:((k0+(pls (plP g ug un vg vn) j).length:Nat):Int)=(q:Int):=by rw[hq]
    rw[←hq]at hql
    have HQ:=qb hq
    have hq0:0<q:=by omega
    rw[hq2]
    clear hm hq hq2 hfl hlu hlv
    have hsj:=HS.out j hlt
    obtain⟨cu,ru,nu,cv,rv,nv⟩:=hsj
    have Cu:=qb cu
    have Ru:=qb ru
    have Cv:=qb cv
    have Rv:=qb rv
    clear cu ru cv rv
    have MT0:=fun a w h=>qb (ah5 a (q) w h (by omega) (by omega))
    go_wp2_with fail
    refine(qa (MT0 _ _ (by omega))).mono ?_
    rintro e z1⟨rfl,hb1⟩
    have M1:=qb (M0.out.stays hb1 hb)
    clear hb1 MT0
    obtain⟨⟨y1,hc1⟩,hf1,_⟩:=M1.out.here List.mem_cons_self
    have eu:=(M1.out.other HG.out (fun t=>(HX.out j t hlt).1)).trans Cu.out
    obtain⟨s1,em1⟩:∃ s,s=am7 (q):=⟨_,rfl⟩
    rw[←em1]
    have EM1:=qb em1
    clear em1
    have M2:=qb (M1.out.step (.string s1) (by rw[EM1.out];exact av9 (by have:=HQ.out;have:=HLu.out;have:=HLv.out;(try simp only[List.length_append,List.length_cons,List.length_nil]);omega)))
    go_wp2_with fail
    refine(ar1 (k0:=q+1) _ Ru.out (M2.out.sub) (by rw[←HLu.out];omega) (by omega) (nlt hb M2.out.bel.size) nu _ (by omega)).mono ?_
    rintro e z2⟨rfl,hm2⟩
    have M3:=qb (M2.out.call hm2 (by have:=HQ.out;have:=HLu.out;have:=HLv.out;(try simp only[List.length_append,List.length_cons,List.length_nil]);omega))
    clear hm2
    rw[←HLu.out]
    have ev:=(M3.out.other HG.out (fun t=>(HX.out j t hlt).2)).trans Cv.out
    go_wp2_with fail
    refine(ar1 (k0:=q+1+lu) _ Rv.out (M3.out.sub) (by rw[←HLv.out];omega) (by omega) (nlt hb M3.out.bel.size) nv _ (by omega)).mono ?_
    rintro e z3⟨rfl,hm3⟩
    have M4:=qb (M3.out.call hm3 (by have:=HQ.out;have:=HLu.out;have:=HLv.out;(try simp only[List.length_append,List.length_cons,List.length_nil]);omega))
    clear hm3
    rw[←HLv.out]
    obtain⟨⟨y2,hc2⟩,hf2,_⟩:=M4.out.here List.mem_cons_self
    have M5:=qb (M4.out.step (.int .i64 ((q:Int)+1+(lu:Int)+(lv:Int))) (aH5 (by have:=HQ.out;have:=HLu.out;have:=HLv.out;(try simp only[List.length_append,List.length_cons,List.length_nil]);omega)))
    go_wp2
    go_roundw
    case rel =>
     refine⟨j+1,by omega,by go_num,?_,?_⟩
     ·rw[ae2,List.length_append,←Nat.add_assoc,←HQ.out,HFL.out];congr 1 <;> omega
     ·rw[ae2]
      have h9:=M5.out
      simp only[List.append_assoc,List.cons_append,List.nil_append]at h9
      simpa only[plP,List.append_assoc,List.cons_append,List.nil_append] using h9
    case measure=>simp[intOf];omega
   ·have e:j=n:=by omega
    subst e
    have HM:=qb hm
    clear hm
    have hql:k0+(pls (plP g ug un vg vn) j).length≤1000000000000000:=HK.out
    obtain⟨q,hq⟩:∃ q:Nat,q=k0+(pls (plP g ug un vg vn) j).length:=⟨_,rfl⟩
    have hq2:((k0+(pls (plP g ug un vg vn) j).length:Nat):Int)=(q:Int):=by rw[hq]
    rw[←hq]at hql
    have HQ:=qb hq
    rw[hq2]
    clear hq hq2
    go_wp2
    go_ret
    refine⟨by rw[HQ.out];simp,?_⟩
    have:=HM.out
    rw[aA1]at this
    exact this
end Go.Proofs.YtcpapceeekkacaaGreatDoor
