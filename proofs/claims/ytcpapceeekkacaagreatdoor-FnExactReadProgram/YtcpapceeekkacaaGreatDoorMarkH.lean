import Derived.Test.YtcpapceeekkacaaGreatDoorMarkN
set_option maxRecDepth 100000
set_option maxHeartbeats 8000000
namespace Go.Proofs.YtcpapceeekkacaaGreatDoor
open Go.RowKit
theorem ae1.belowS {w w':World}{P:List Pl}{k:Nat}(h:ae1 w P k) (hb:Below w.heap.size w w'):ae1 w' P k:=h.stays hb
def bb0 (f:Nat→List Pl) (n k0:Nat) (w:World) (iv kv:Value) (wr:World):Prop :=
 ∃ j:Nat,j≤n∧iv=.int .i64 j∧kv=.int .i64 ((k0+(pls f j).length:Nat):Int)∧Below w.heap.size w wr
theorem bi_ {g n k0:Nat}{v:Value}(w:World) (hv:ah6 v n g) (hF:ae1 w (pls (plI g) n) k0) (hk:k0+(pls (plI g) n).length≤1000000000000000) (hk0:0<k0) (hn:n≤1048576) (i:Int) (hi:i=(k0:Int)) :
  Calls Tryz.prog 55 #[v,.int .i64 i] w fun e w'=>e=.returned (.int .i64 (i+((pls (plI g) n).length:Nat)))∧Below w.heap.size w w':=by
 subst hi
 rcases hv with⟨rfl,aa,ca,rfl⟩|⟨h0,cap,rfl⟩
 ·go_enter Tryz.func55,Tryz.ntmps55
  go_wp2
  refine wp_loop_rounds 1 ?_
  rw[rounds_succ]
  go_wp2
  go_ret
  exact⟨by rw[ai9];simp,Below.refl _ _⟩
 ·have HF:=qb hF
  have HK:=qb hk
  clear hF hk
  go_enter Tryz.func55,Tryz.ntmps55
  go_wp2
  go_loopw [5,1] (fun iv kv wr=>bb0 (plI g) n k0 w iv kv wr) (fun iv _ _=>n-(intOf iv).toNat)
  case atStart=>exact⟨0,Nat.zero_le _,rfl,rfl,Below.refl _ _⟩
  case round =>
   obtain⟨j,hj,rfl,rfl,hb⟩:=hrel
   by_cases hlt:j<n
   ·have hi0:(0:Int)≤(j:Int):=by omega
    have hi1:(j:Int)<(n:Int):=by omega
    have hfl:((plI g) j).length=1:=rfl
    have hql:k0+(pls (plI g) j).length+(1)≤1000000000000000:=by
     have:=HK.out
     rw[al3 (plI g) (j+1) n (by omega),ae2,List.length_append,List.length_append,hfl]at this
     omega
    have HFL:=qb hfl
    obtain⟨q,hq⟩:∃ q:Nat,q=k0+(pls (plI g) j).length:=⟨_,rfl⟩
    have hq2:((k0+(pls (plI g) j).length:Nat):Int)=(q:Int):=by rw[hq]
    have hm:=HF.out.round hlt
    rw[←hq]at hql hm
    have HQ:=qb hq
    have hq0:0<q:=by omega
    rw[hq2]
    have hsz:=hb.size
    have hm:ae1 w ([(g,j,false)]) q:=by simpa only[plI,List.append_assoc,List.cons_append,List.nil_append] using hm
    have hc0:=hm.head
    have HC0:Hid (w.cell? ⟨g,j,none⟩=some (.int .i64 ((q:Int)))):=by
     refine hc0.2.trans (congrArg some (aH5 ?_).symm)
     first|omega|(simp only[List.length_append,List.length_cons,List.length_nil] <;> omega)
    have HG:=qb hc0.1
    have HB:=qb hb
    have hgw:g<wr.heap.size:=nll HG.out hsz
    clear hq hq2 hfl hb hm hc0
    have c0_wr:=(HB.out.cell (p:=⟨g,j,none⟩) HG.out).trans HC0.out
    go_wp2
    go_roundw
    case rel =>
     refine⟨j+1,by omega,by go_num,?_,HB.out⟩
     rw[ae2,List.length_append,←Nat.add_assoc,←HQ.out,HFL.out];congr 1 <;> omega
    case measure=>simp[intOf];omega
   ·have e:j=n:=by omega
    subst e
    have hql:k0+(pls (plI g) j).length≤1000000000000000:=HK.out
    obtain⟨q,hq⟩:∃ q:Nat,q=k0+(pls (plI g) j).length:=⟨_,rfl⟩
    have hq2:((k0+(pls (plI g) j).length:Nat):Int)=(q:Int):=by rw[hq]
    rw[←hq]at hql
    have HQ:=qb hq
    rw[hq2]
    clear hq hq2
    go_wp2
    go_ret
    exact⟨by rw[HQ.out];simp,hb⟩
theorem ay1 {g n k0:Nat}{v:Value}(w:World) (hv:ah6 v n g) (hF:ae1 w (pls (plT g) n) k0) (hk:k0+(pls (plT g) n).length≤1000000000000000) (hk0:0<k0) (hn:n≤1048576) (i:Int) (hi:i=(k0:Int)) :
  Calls Tryz.prog 56 #[v,.int .i64 i] w fun e w'=>e=.returned (.int .i64 (i+((pls (plT g) n).length:Nat)))∧Below w.heap.size w w':=by
 subst hi
 rcases hv with⟨rfl,aa,ca,rfl⟩|⟨h0,cap,rfl⟩
 ·go_enter Tryz.func56,Tryz.ntmps56
  go_wp2
  refine wp_loop_rounds 1 ?_
  rw[rounds_succ]
  go_wp2
  go_ret
  exact⟨by rw[ai9];simp,Below.refl _ _⟩
 ·have HF:=qb hF
  have HK:=qb hk
  clear hF hk
  go_enter Tryz.func56,Tryz.ntmps56
  go_wp2
  go_loopw [5,1] (fun iv kv wr=>bb0 (plT g) n k0 w iv kv wr) (fun iv _ _=>n-(intOf iv).toNat)
  case atStart=>exact⟨0,Nat.zero_le _,rfl,rfl,Below.refl _ _⟩
  case round =>
   obtain⟨j,hj,rfl,rfl,hb⟩:=hrel
   by_cases hlt:j<n
   ·have hi0:(0:Int)≤(j:Int):=by omega
    have hi1:(j:Int)<(n:Int):=by omega
    have hfl:((plT g) j).length=1:=rfl
    have hql:k0+(pls (plT g) j).length+(1)≤1000000000000000:=by
     have:=HK.out
     rw[al3 (plT g) (j+1) n (by omega),ae2,List.length_append,List.length_append,hfl]at this
     omega
    have HFL:=qb hfl
    obtain⟨q,hq⟩:∃ q:Nat,q=k0+(pls (plT g) j).length:=⟨_,rfl⟩
    have hq2:((k0+(pls (plT g) j).length:Nat):Int)=(q:Int):=by rw[hq]
    have hm:=HF.out.round hlt
    rw[←hq]at hql hm
    have HQ:=qb hq
    have hq0:0<q:=by omega
    rw[hq2]
    have hsz:=hb.size
    have hm:ae1 w ([(g,j,true)]) q:=by simpa only[plT,List.append_assoc,List.cons_append,List.nil_append] using hm
    have hc0:=hm.head
    have HC0:Hid (w.cell? ⟨g,j,none⟩=some (.string (am7 (q)))):=by
     refine hc0.2.trans (congrArg some (av9 ?_).symm)
     first|omega|(simp only[List.length_append,List.length_cons,List.length_nil] <;> omega)
    have HG:=qb hc0.1
    have HB:=qb hb
    have hgw:g<wr.heap.size:=nll HG.out hsz
    clear hq hq2 hfl hb hm hc0
    have c0_wr:=(HB.out.cell (p:=⟨g,j,none⟩) HG.out).trans HC0.out
    obtain⟨s1,em1⟩:∃ s,s=am7 (q):=⟨_,rfl⟩
    rw[←em1]at c0_wr
    have MT1:=fun a w h=>qb (ah5 a (q) w h (by omega) (by omega))
    rw[←em1]at MT1
    clear em1
    go_wp2
    go_region_held3 (fun w'=>w'.cell? { block:=g,off:=j }=some (.string s1)) (first|go_keep|exact(hb1.cell (p:=⟨g,j,none⟩) hgw).trans c0_wr) ((go_at_call 51;refine(qa (MT1 _ _ (by omega))).mono ?_;rintro e z1⟨rfl,hb1⟩))
    all_goals
     have B1:Hid (Below w.heap.size w z1):=HB.out.trans ((Below.drew (Below.refl _ _)).trans (hb1.mono hsz))
     have hsz1:=B1.out.size
     have hgz1:g<z1.heap.size:=nll HG.out hsz1
     clear hb1 MT1 c0_wr
     go_wp2
     go_roundw
     case rel =>
      refine⟨j+1,by omega,by go_num,?_,B1.out⟩
      rw[ae2,List.length_append,←Nat.add_assoc,←HQ.out,HFL.out];congr 1 <;> omega
     case measure=>simp[intOf];omega
   ·have e:j=n:=by omega
    subst e
    have hql:k0+(pls (plT g) j).length≤1000000000000000:=HK.out
    obtain⟨q,hq⟩:∃ q:Nat,q=k0+(pls (plT g) j).length:=⟨_,rfl⟩
    have hq2:((k0+(pls (plT g) j).length:Nat):Int)=(q:Int):=by rw[hq]
    rw[←hq]at hql
    have HQ:=qb hq
    rw[hq2]
    clear hq hq2
    go_wp2
    go_ret
    exact⟨by rw[HQ.out];simp,hb⟩
theorem bh9 {g n k0:Nat}{v:Value}(w:World) (hv:ah6 v n g) (hF:ae1 w (pls (plE g) n) k0) (hk:k0+(pls (plE g) n).length≤1000000000000000) (hk0:0<k0) (hn:n≤1048576) (i:Int) (hi:i=(k0:Int)) :
  Calls Tryz.prog 57 #[v,.int .i64 i] w fun e w'=>e=.returned (.int .i64 (i+((pls (plE g) n).length:Nat)))∧Below w.heap.size w w':=by
 subst hi
 rcases hv with⟨rfl,aa,ca,rfl⟩|⟨h0,cap,rfl⟩
 ·go_enter Tryz.func57,Tryz.ntmps57
  go_wp2
  refine wp_loop_rounds 1 ?_
  rw[rounds_succ]
  go_wp2
  go_ret
  exact⟨by rw[ai9];simp,Below.refl _ _⟩
 ·have HF:=qb hF
  have HK:=qb hk
  clear hF hk
  go_enter Tryz.func57,Tryz.ntmps57
  go_wp2
  go_loopw [5,1] (fun iv kv wr=>bb0 (plE g) n k0 w iv kv wr) (fun iv _ _=>n-(intOf iv).toNat)
  case atStart=>exact⟨0,Nat.zero_le _,rfl,rfl,Below.refl _ _⟩
  case round =>
   obtain⟨j,hj,rfl,rfl,hb⟩:=hrel
   by_cases hlt:j<n
   ·have hi0:(0:Int)≤(j:Int):=by omega
    have hi1:(j:Int)<(n:Int):=by omega
    have hfl:((plE g) j).length=3:=rfl
    have hql:k0+(pls (plE g) j).length+(3)≤1000000000000000:=by
     have:=HK.out
     rw[al3 (plE g) (j+1) n (by omega),ae2,List.length_append,List.length_append,hfl]at this
     omega
    have HFL:=qb hfl
    obtain⟨q,hq⟩:∃ q:Nat,q=k0+(pls (plE g) j).length:=⟨_,rfl⟩
    have hq2:((k0+(pls (plE g) j).length:Nat):Int)=(q:Int):=by rw[hq]
    have hm:=HF.out.round hlt
    rw[←hq]at hql hm
    have HQ:=qb hq
    have hq0:0<q:=by omega
    rw[hq2]
    have hsz:=hb.size
    have hm:ae1 w ((g,j*3,true) :: (g,j*3+1,true) :: [(g,j*3+2,false)]) q:=by simpa only[plE,List.append_assoc,List.cons_append,List.nil_append] using hm
    have hc0:=hm.head
    have hm0:=hm.tail
    have hc1:=hm0.head
    have hm1:=hm0.tail
    have hc2:=hm1.head
    have HC0:Hid (w.cell? ⟨g,j*3,none⟩=some (.string (am7 (q)))):=by
     refine hc0.2.trans (congrArg some (av9 ?_).symm)
     first|omega|(simp only[List.length_append,List.length_cons,List.length_nil] <;> omega)
    have HC1:Hid (w.cell? ⟨g,j*3+1,none⟩=some (.string (am7 (q+1)))):=by
     refine hc1.2.trans (congrArg some (av9 ?_).symm)
     first|omega|(simp only[List.length_append,List.length_cons,List.length_nil] <;> omega)
    have HC2:Hid (w.cell? ⟨g,j*3+2,none⟩=some (.int .i64 ((q:Int)+1+1))):=by
     refine hc2.2.trans (congrArg some (aH5 ?_).symm)
     first|omega|(simp only[List.length_append,List.length_cons,List.length_nil] <;> omega)
    have HG:=qb hc0.1
    have HB:=qb hb
    have hgw:g<wr.heap.size:=nll HG.out hsz
    clear hq hq2 hfl hb hm hm0 hm1 hc0 hc1 hc2
    have c0_wr:=(HB.out.cell (p:=⟨g,j*3,none⟩) HG.out).trans HC0.out
    obtain⟨s1,em1⟩:∃ s,s=am7 (q):=⟨_,rfl⟩
    rw[←em1]at c0_wr
    have MT1:=fun a w h=>qb (ah5 a (q) w h (by omega) (by omega))
    rw[←em1]at MT1
    clear em1
    go_wp2
    go_region_held3 (fun w'=>w'.cell? { block:=g,off:=j*3 }=some (.string s1)) (first|go_keep|exact(hb1.cell (p:=⟨g,j*3,none⟩) hgw).trans c0_wr) ((go_at_call 51;refine(qa (MT1 _ _ (by omega))).mono ?_;rintro e z1⟨rfl,hb1⟩))
    all_goals
     have B1:Hid (Below w.heap.size w z1):=HB.out.trans ((Below.drew (Below.refl _ _)).trans (hb1.mono hsz))
     have hsz1:=B1.out.size
     have hgz1:g<z1.heap.size:=nll HG.out hsz1
     clear hb1 MT1 c0_wr
     have c1_z1:=(B1.out.cell (p:=⟨g,j*3+1,none⟩) HG.out).trans HC1.out
     obtain⟨s2,em2⟩:∃ s,s=am7 (q+1):=⟨_,rfl⟩
     rw[←em2]at c1_z1
     have MT2:=fun a w h=>qb (ah5 a (q+1) w h (by omega) (by omega))
     rw[←em2]at MT2
     clear em2
     go_wp2
     go_region_held3 (fun w'=>w'.cell? { block:=g,off:=j*3+1 }=some (.string s2)) (first|go_keep|exact(hb2.cell (p:=⟨g,j*3+1,none⟩) hgz1).trans c1_z1) ((go_at_call 51;refine(qa (MT2 _ _ (by omega))).mono ?_;rintro e z2⟨rfl,hb2⟩))
     all_goals
      have B2:Hid (Below w.heap.size w z2):=B1.out.trans ((Below.drew (Below.refl _ _)).trans (hb2.mono hsz1))
      have hsz2:=B2.out.size
      have hgz2:g<z2.heap.size:=nll HG.out hsz2
      clear hb2 MT2 c1_z1
      have c2_z2:=(B2.out.cell (p:=⟨g,j*3+2,none⟩) HG.out).trans HC2.out
      go_wp2
      go_roundw
      case rel =>
       refine⟨j+1,by omega,by go_num,?_,B2.out⟩
       rw[ae2,List.length_append,←Nat.add_assoc,←HQ.out,HFL.out];congr 1 <;> omega
      case measure=>simp[intOf];omega
   ·have e:j=n:=by omega
    subst e
    have hql:k0+(pls (plE g) j).length≤1000000000000000:=HK.out
    obtain⟨q,hq⟩:∃ q:Nat,q=k0+(pls (plE g) j).length:=⟨_,rfl⟩
    have hq2:((k0+(pls (plE g) j).length:Nat):Int)=(q:Int):=by rw[hq]
    rw[←hq]at hql
    have HQ:=qb hq
    rw[hq2]
    clear hq hq2
    go_wp2
    go_ret
    exact⟨by rw[HQ.out];simp,hb⟩
theorem bi1 {g n k0:Nat}{kg kn:Nat→Nat}{kv:Nat→Value}{v:Value}(w:World) (hv:ah6 v n g) (hF:ae1 w (pls (plN g kg kn) n) k0) (hk:k0+(pls (plN g kg kn) n).length≤1000000000000000) (hk0:0<k0) (hn:n≤1048576) (hs:∀ j,j<n→w.cell? ⟨g,j*6+5,none⟩=some (kv j)∧ah6 (kv j) (kn j) (kg j)∧kn j≤1048576) (i:Int) (hi:i=(k0:Int)) :
  Calls Tryz.prog 24 #[v,.int .i64 i] w fun e w'=>e=.returned (.int .i64 (i+((pls (plN g kg kn) n).length:Nat)))∧Below w.heap.size w w':=by
 subst hi
 rcases hv with⟨rfl,aa,ca,rfl⟩|⟨h0,cap,rfl⟩
 ·go_enter Tryz.func24,Tryz.ntmps24
  go_wp2
  refine wp_loop_rounds 1 ?_
  rw[rounds_succ]
  go_wp2
  go_ret
  exact⟨by rw[ai9];simp,Below.refl _ _⟩
 ·have HF:=qb hF
  have HK:=qb hk
  have HS:=qb hs
  clear hF hk hs
  go_enter Tryz.func24,Tryz.ntmps24
  go_wp2
  go_loopw [5,1] (fun iv kv wr=>bb0 (plN g kg kn) n k0 w iv kv wr) (fun iv _ _=>n-(intOf iv).toNat)
  case atStart=>exact⟨0,Nat.zero_le _,rfl,rfl,Below.refl _ _⟩
  case round =>
   obtain⟨j,hj,rfl,rfl,hb⟩:=hrel
   by_cases hlt:j<n
   ·have hi0:(0:Int)≤(j:Int):=by omega
    have hi1:(j:Int)<(n:Int):=by omega
    obtain⟨lk,hlk⟩:∃ l:Nat,l=(pls (plI (kg j)) (kn j)).length:=⟨_,rfl⟩
    have HLk:=qb hlk
    have hfl:((plN g kg kn) j).length=5+lk:=by simp only[plN,List.length_append,List.length_cons,List.length_nil,hlk] <;> omega
    have hql:k0+(pls (plN g kg kn) j).length+(5+lk)≤1000000000000000:=by
     have:=HK.out
     rw[al3 (plN g kg kn) (j+1) n (by omega),ae2,List.length_append,List.length_append,hfl]at this
     omega
    have HFL:=qb hfl
    obtain⟨q,hq⟩:∃ q:Nat,q=k0+(pls (plN g kg kn) j).length:=⟨_,rfl⟩
    have hq2:((k0+(pls (plN g kg kn) j).length:Nat):Int)=(q:Int):=by rw[hq]
    have hm:=HF.out.round hlt
    rw[←hq]at hql hm
    have HQ:=qb hq
    have hq0:0<q:=by omega
    rw[hq2]
    have hsz:=hb.size
    have hm:ae1 w ((g,j*6,false) :: (g,j*6+1,false) :: (g,j*6+2,true) :: (g,j*6+3,true) :: (g,j*6+4,true) :: pls (plI (kg j)) (kn j)) q:=by simpa only[plN,List.append_assoc,List.cons_append,List.nil_append] using hm
    have hc0:=hm.head
    have hm0:=hm.tail
    have hc1:=hm0.head
    have hm1:=hm0.tail
    have hc2:=hm1.head
    have hm2:=hm1.tail
    have hc3:=hm2.head
    have hm3:=hm2.tail
    have hc4:=hm3.head
    have hm4:=hm3.tail
    have hr5:=hm4
    have HC0:Hid (w.cell? ⟨g,j*6,none⟩=some (.int .i64 ((q:Int)))):=by
     refine hc0.2.trans (congrArg some (aH5 ?_).symm)
     have:=HLk.out;first|omega|(simp only[List.length_append,List.length_cons,List.length_nil] <;> omega)
    have HC1:Hid (w.cell? ⟨g,j*6+1,none⟩=some (.int .i64 ((q:Int)+1))):=by
     refine hc1.2.trans (congrArg some (aH5 ?_).symm)
     have:=HLk.out;first|omega|(simp only[List.length_append,List.length_cons,List.length_nil] <;> omega)
    have HC2:Hid (w.cell? ⟨g,j*6+2,none⟩=some (.string (am7 (q+2)))):=by
     refine hc2.2.trans (congrArg some (av9 ?_).symm)
     have:=HLk.out;first|omega|(simp only[List.length_append,List.length_cons,List.length_nil] <;> omega)
    have HC3:Hid (w.cell? ⟨g,j*6+3,none⟩=some (.string (am7 (q+3)))):=by
     refine hc3.2.trans (congrArg some (av9 ?_).symm)
     have:=HLk.out;first|omega|(simp only[List.length_append,List.length_cons,List.length_nil] <;> omega)
    have HC4:Hid (w.cell? ⟨g,j*6+4,none⟩=some (.string (am7 (q+4)))):=by
     refine hc4.2.trans (congrArg some (av9 ?_).symm)
     have:=HLk.out;first|omega|(simp only[List.length_append,List.length_cons,List.length_nil] <;> omega)
    have HR5:Hid (ae1 w (pls (plI (kg j)) (kn j)) (q+5)):=by
     refine cast (congrArg (ae1 w (pls (plI (kg j)) (kn j))) ?_) hr5
     have:=HLk.out;first|omega|(simp only[List.length_append,List.length_cons,List.length_nil] <;> omega)
    have HG:=qb hc0.1
    have HB:=qb hb
    have hgw:g<wr.heap.size:=nll HG.out hsz
    clear hq hq2 hfl hb hlk hm hm0 hm1 hm2 hm3 hm4 hc0 hc1 hc2 hc3 hc4 hr5
    have hsj:=HS.out j hlt
    obtain⟨ck,rk,nk⟩:=hsj
    have Ck:=qb ck
    have Rk:=qb rk
    clear ck rk
    have c0_wr:=(HB.out.cell (p:=⟨g,j*6,none⟩) HG.out).trans HC0.out
    have c1_wr:=(HB.out.cell (p:=⟨g,j*6+1,none⟩) HG.out).trans HC1.out
    have c2_wr:=(HB.out.cell (p:=⟨g,j*6+2,none⟩) HG.out).trans HC2.out
    obtain⟨s1,em1⟩:∃ s,s=am7 (q+2):=⟨_,rfl⟩
    rw[←em1]at c2_wr
    have MT1:=fun a w h=>qb (ah5 a (q+2) w h (by omega) (by omega))
    rw[←em1]at MT1
    clear em1
    go_wp2
    go_region_held3 (fun w'=>w'.cell? { block:=g,off:=j*6+2 }=some (.string s1)) (first|go_keep|exact(hb1.cell (p:=⟨g,j*6+2,none⟩) hgw).trans c2_wr) ((go_at_call 51;refine(qa (MT1 _ _ (by omega))).mono ?_;rintro e z1⟨rfl,hb1⟩))
    all_goals
     have B1:Hid (Below w.heap.size w z1):=HB.out.trans ((Below.drew (Below.refl _ _)).trans (hb1.mono hsz))
     have hsz1:=B1.out.size
     have hgz1:g<z1.heap.size:=nll HG.out hsz1
     clear hb1 MT1 c2_wr
     have c3_z1:=(B1.out.cell (p:=⟨g,j*6+3,none⟩) HG.out).trans HC3.out
     obtain⟨s2,em2⟩:∃ s,s=am7 (q+3):=⟨_,rfl⟩
     rw[←em2]at c3_z1
     have MT2:=fun a w h=>qb (ah5 a (q+3) w h (by omega) (by omega))
     rw[←em2]at MT2
     clear em2
     go_wp2
     go_region_held3 (fun w'=>w'.cell? { block:=g,off:=j*6+3 }=some (.string s2)) (first|go_keep|exact(hb2.cell (p:=⟨g,j*6+3,none⟩) hgz1).trans c3_z1) ((go_at_call 51;refine(qa (MT2 _ _ (by omega))).mono ?_;rintro e z2⟨rfl,hb2⟩))
     all_goals
      have B2:Hid (Below w.heap.size w z2):=B1.out.trans ((Below.drew (Below.refl _ _)).trans (hb2.mono hsz1))
      have hsz2:=B2.out.size
      have hgz2:g<z2.heap.size:=nll HG.out hsz2
      clear hb2 MT2 c3_z1
      have c4_z2:=(B2.out.cell (p:=⟨g,j*6+4,none⟩) HG.out).trans HC4.out
      obtain⟨s3,em3⟩:∃ s,s=am7 (q+4):=⟨_,rfl⟩
      rw[←em3]at c4_z2
      have MT3:=fun a w h=>qb (ah5 a (q+4) w h (by omega) (by omega))
      rw[←em3]at MT3
      clear em3
      go_wp2
      go_region_held3 (fun w'=>w'.cell? { block:=g,off:=j*6+4 }=some (.string s3)) (first|go_keep|exact(hb3.cell (p:=⟨g,j*6+4,none⟩) hgz2).trans c4_z2) ((go_at_call 51;refine(qa (MT3 _ _ (by omega))).mono ?_;rintro e z3⟨rfl,hb3⟩))
      all_goals
       have B3:Hid (Below w.heap.size w z3):=B2.out.trans ((Below.drew (Below.refl _ _)).trans (hb3.mono hsz2))
       have hsz3:=B3.out.size
       have hgz3:g<z3.heap.size:=nll HG.out hsz3
       clear hb3 MT3 c4_z2
       have c5_z3:=(B3.out.cell (p:=⟨g,j*6+5,none⟩) HG.out).trans Ck.out
       go_wp2_with fail
       refine(bi_ (k0:=q+5) _ Rk.out (ae1.belowS HR5.out B3.out) (by rw[←HLk.out];omega) (by omega) nk _ (by omega)).mono ?_
       rintro e z4⟨rfl,hb4⟩
       have B4:Hid (Below w.heap.size w z4):=B3.out.trans (hb4.mono B3.out.size)
       have hsz4:=B4.out.size
       have hgz4:g<z4.heap.size:=nll HG.out hsz4
       clear hb4 c5_z3
       rw[←HLk.out]
       go_wp2
       go_roundw
       case rel =>
        refine⟨j+1,by omega,by go_num,?_,B4.out⟩
        rw[ae2,List.length_append,←Nat.add_assoc,←HQ.out,HFL.out];congr 1 <;> omega
       case measure=>simp[intOf];omega
   ·have e:j=n:=by omega
    subst e
    have hql:k0+(pls (plN g kg kn) j).length≤1000000000000000:=HK.out
    obtain⟨q,hq⟩:∃ q:Nat,q=k0+(pls (plN g kg kn) j).length:=⟨_,rfl⟩
    have hq2:((k0+(pls (plN g kg kn) j).length:Nat):Int)=(q:Int):=by rw[hq]
    rw[←hq]at hql
    have HQ:=qb hq
    rw[hq2]
    clear hq hq2
    go_wp2
    go_ret
    exact⟨by rw[HQ.out];simp,hb⟩
theorem bi0 {g n k0:Nat}{vg vn:Nat→Nat}{vv:Nat→Value}{qg qn:Nat→Nat}{qv:Nat→Value}{eg en:Nat→Nat}{ev:Nat→Value}{v:Value}(w:World) (hv:ah6 v n g) (hF:ae1 w (pls (plM g vg vn qg qn eg en) n) k0) (hk:k0+(pls (plM g vg vn qg qn eg en) n).length≤1000000000000000) (hk0:0<k0) (hn:n≤1048576) (hs:∀ j,j<n→w.cell? ⟨g,j*4+1,none⟩=some (vv j)∧ah6 (vv j) (vn j) (vg j)∧vn j≤1048576∧w.cell? ⟨g,j*4+2,none⟩=some (qv j)∧ah6 (qv j) (qn j) (qg j)∧qn j≤1048576∧w.cell? ⟨g,j*4+3,none⟩=some (ev j)∧ah6 (ev j) (en j) (eg j)∧en j≤1048576) (i:Int) (hi:i=(k0:Int)) :
  Calls Tryz.prog 25 #[v,.int .i64 i] w fun e w'=>e=.returned (.int .i64 (i+((pls (plM g vg vn qg qn eg en) n).length:Nat)))∧Below w.heap.size w w':=by
 subst hi
 rcases hv with⟨rfl,aa,ca,rfl⟩|⟨h0,cap,rfl⟩
 ·go_enter Tryz.func25,Tryz.ntmps25
  go_wp2
  refine wp_loop_rounds 1 ?_
  rw[rounds_succ]
  go_wp2
  go_ret
  exact⟨by rw[ai9];simp,Below.refl _ _⟩
 ·have HF:=qb hF
  have HK:=qb hk
  have HS:=qb hs
  clear hF hk hs
  go_enter Tryz.func25,Tryz.ntmps25
  go_wp2
  go_loopw [5,1] (fun iv kv wr=>bb0 (plM g vg vn qg qn eg en) n k0 w iv kv wr) (fun iv _ _=>n-(intOf iv).toNat)
  case atStart=>exact⟨0,Nat.zero_le _,rfl,rfl,Below.refl _ _⟩
  case round =>
   obtain⟨j,hj,rfl,rfl,hb⟩:=hrel
   by_cases hlt:j<n
   ·have hi0:(0:Int)≤(j:Int):=by omega
    have hi1:(j:Int)<(n:Int):=by omega
    obtain⟨lv,hlv⟩:∃ l:Nat,l=(pls (plT (vg j)) (vn j)).length:=⟨_,rfl⟩
    have HLv:=qb hlv
    obtain⟨lq,hlq⟩:∃ l:Nat,l=(pls (plT (qg j)) (qn j)).length:=⟨_,rfl⟩
    have HLq:=qb hlq
    obtain⟨le,hle⟩:∃ l:Nat,l=(pls (plE (eg j)) (en j)).length:=⟨_,rfl⟩
    have HLe:=qb hle
    have hfl:((plM g vg vn qg qn eg en) j).length=1+lv+lq+le:=by simp only[plM,List.length_append,List.length_cons,List.length_nil,hlv,hlq,hle] <;> omega
    have hql:k0+(pls (plM g vg vn qg qn eg en) j).length+(1+lv+lq+le)≤1000000000000000:=by
     have:=HK.out
     rw[al3 (plM g vg vn qg qn eg en) (j+1) n (by omega),ae2,List.length_append,List.length_append,hfl]at this
     omega
    have HFL:=qb hfl
    obtain⟨q,hq⟩:∃ q:Nat,q=k0+(pls (plM g vg vn qg qn eg en) j).length:=⟨_,rfl⟩
    have hq2:((k0+(pls (plM g vg vn qg qn eg en) j).length:Nat):Int)=(q:Int):=by rw[hq]
    have hm:=HF.out.round hlt
    rw[←hq]at hql hm
    have HQ:=qb hq
    have hq0:0<q:=by omega
    rw[hq2]
    have hsz:=hb.size
    have hm:ae1 w ((g,j*4,true) :: pls (plT (vg j)) (vn j)++(pls (plT (qg j)) (qn j)++(pls (plE (eg j)) (en j)))) q:=by simpa only[plM,List.append_assoc,List.cons_append,List.nil_append] using hm
    have hc0:=hm.head
    have hm0:=hm.tail
    have hr1:=hm0.left
    have hm1:=hm0.right
    have hr2:=hm1.left
    have hm2:=hm1.right
    have hr3:=hm2
    have HC0:Hid (w.cell? ⟨g,j*4,none⟩=some (.string (am7 (q)))):=by
     refine hc0.2.trans (congrArg some (av9 ?_).symm)
     have:=HLv.out;have:=HLq.out;have:=HLe.out;first|omega|(simp only[List.length_append,List.length_cons,List.length_nil] <;> omega)
    have HR1:Hid (ae1 w (pls (plT (vg j)) (vn j)) (q+1)):=by
     refine cast (congrArg (ae1 w (pls (plT (vg j)) (vn j))) ?_) hr1
     have:=HLv.out;have:=HLq.out;have:=HLe.out;first|omega|(simp only[List.length_append,List.length_cons,List.length_nil] <;> omega)
    have HR2:Hid (ae1 w (pls (plT (qg j)) (qn j)) (q+1+lv)):=by
     refine cast (congrArg (ae1 w (pls (plT (qg j)) (qn j))) ?_) hr2
     have:=HLv.out;have:=HLq.out;have:=HLe.out;first|omega|(simp only[List.length_append,List.length_cons,List.length_nil] <;> omega)
    have HR3:Hid (ae1 w (pls (plE (eg j)) (en j)) (q+1+lv+lq)):=by
     refine cast (congrArg (ae1 w (pls (plE (eg j)) (en j))) ?_) hr3
     have:=HLv.out;have:=HLq.out;have:=HLe.out;first|omega|(simp only[List.length_append,List.length_cons,List.length_nil] <;> omega)
    have HG:=qb hc0.1
    have HB:=qb hb
    have hgw:g<wr.heap.size:=nll HG.out hsz
    clear hq hq2 hfl hb hlv hlq hle hm hm0 hm1 hm2 hc0 hr1 hr2 hr3
    have hsj:=HS.out j hlt
    obtain⟨cv,rv,nv,cq,rq,nq,ce,re,ne⟩:=hsj
    have Cv:=qb cv
    have Rv:=qb rv
    have Cq:=qb cq
    have Rq:=qb rq
    have Ce:=qb ce
    have Re:=qb re
    clear cv rv cq rq ce re
    have c0_wr:=(HB.out.cell (p:=⟨g,j*4,none⟩) HG.out).trans HC0.out
    obtain⟨s1,em1⟩:∃ s,s=am7 (q):=⟨_,rfl⟩
    rw[←em1]at c0_wr
    have MT1:=fun a w h=>qb (ah5 a (q) w h (by omega) (by omega))
    rw[←em1]at MT1
    clear em1
    go_wp2
    go_region_held3 (fun w'=>w'.cell? { block:=g,off:=j*4 }=some (.string s1)) (first|go_keep|exact(hb1.cell (p:=⟨g,j*4,none⟩) hgw).trans c0_wr) ((go_at_call 51;refine(qa (MT1 _ _ (by omega))).mono ?_;rintro e z1⟨rfl,hb1⟩))
    all_goals
     have B1:Hid (Below w.heap.size w z1):=HB.out.trans ((Below.drew (Below.refl _ _)).trans (hb1.mono hsz))
     have hsz1:=B1.out.size
     have hgz1:g<z1.heap.size:=nll HG.out hsz1
     clear hb1 MT1 c0_wr
     have c1_z1:=(B1.out.cell (p:=⟨g,j*4+1,none⟩) HG.out).trans Cv.out
     go_wp2_with fail
     refine(ay1 (k0:=q+1) _ Rv.out (ae1.belowS HR1.out B1.out) (by rw[←HLv.out];omega) (by omega) nv _ (by omega)).mono ?_
     rintro e z2⟨rfl,hb2⟩
     have B2:Hid (Below w.heap.size w z2):=B1.out.trans (hb2.mono B1.out.size)
     have hsz2:=B2.out.size
     have hgz2:g<z2.heap.size:=nll HG.out hsz2
     clear hb2 c1_z1
     rw[←HLv.out]
     have c2_z2:=(B2.out.cell (p:=⟨g,j*4+2,none⟩) HG.out).trans Cq.out
     go_wp2_with fail
     refine(ay1 (k0:=q+1+lv) _ Rq.out (ae1.belowS HR2.out B2.out) (by rw[←HLq.out];omega) (by omega) nq _ (by omega)).mono ?_
     rintro e z3⟨rfl,hb3⟩
     have B3:Hid (Below w.heap.size w z3):=B2.out.trans (hb3.mono B2.out.size)
     have hsz3:=B3.out.size
     have hgz3:g<z3.heap.size:=nll HG.out hsz3
     clear hb3 c2_z2
     rw[←HLq.out]
     have c3_z3:=(B3.out.cell (p:=⟨g,j*4+3,none⟩) HG.out).trans Ce.out
     go_wp2_with fail
     refine(bh9 (k0:=q+1+lv+lq) _ Re.out (ae1.belowS HR3.out B3.out) (by rw[←HLe.out];omega) (by omega) ne _ (by omega)).mono ?_
     rintro e z4⟨rfl,hb4⟩
     have B4:Hid (Below w.heap.size w z4):=B3.out.trans (hb4.mono B3.out.size)
     have hsz4:=B4.out.size
     have hgz4:g<z4.heap.size:=nll HG.out hsz4
     clear hb4 c3_z3
     rw[←HLe.out]
     go_wp2
     go_roundw
     case rel =>
      refine⟨j+1,by omega,by go_num,?_,B4.out⟩
      rw[ae2,List.length_append,←Nat.add_assoc,←HQ.out,HFL.out];congr 1 <;> omega
     case measure=>simp[intOf];omega
   ·have e:j=n:=by omega
    subst e
    have hql:k0+(pls (plM g vg vn qg qn eg en) j).length≤1000000000000000:=HK.out
    obtain⟨q,hq⟩:∃ q:Nat,q=k0+(pls (plM g vg vn qg qn eg en) j).length:=⟨_,rfl⟩
    have hq2:((k0+(pls (plM g vg vn qg qn eg en) j).length:Nat):Int)=(q:Int):=by rw[hq]
    rw[←hq]at hql
    have HQ:=qb hq
    rw[hq2]
    clear hq hq2
    go_wp2
    go_ret
    exact⟨by rw[HQ.out];simp,hb⟩
theorem bi2 {g n k0:Nat}{ug un:Nat→Nat}{uv:Nat→Value}{vg vn:Nat→Nat}{vv:Nat→Value}{v:Value}(w:World) (hv:ah6 v n g) (hF:ae1 w (pls (plP g ug un vg vn) n) k0) (hk:k0+(pls (plP g ug un vg vn) n).length≤1000000000000000) (hk0:0<k0) (hn:n≤1048576) (hs:∀ j,j<n→w.cell? ⟨g,j*4+1,none⟩=some (uv j)∧ah6 (uv j) (un j) (ug j)∧un j≤1048576∧w.cell? ⟨g,j*4+2,none⟩=some (vv j)∧ah6 (vv j) (vn j) (vg j)∧vn j≤1048576) (i:Int) (hi:i=(k0:Int)) :
  Calls Tryz.prog 26 #[v,.int .i64 i] w fun e w'=>e=.returned (.int .i64 (i+((pls (plP g ug un vg vn) n).length:Nat)))∧Below w.heap.size w w':=by
 subst hi
 rcases hv with⟨rfl,aa,ca,rfl⟩|⟨h0,cap,rfl⟩
 ·go_enter Tryz.func26,Tryz.ntmps26
  go_wp2
  refine wp_loop_rounds 1 ?_
  rw[rounds_succ]
  go_wp2
  go_ret
  exact⟨by rw[ai9];simp,Below.refl _ _⟩
 ·have HF:=qb hF
  have HK:=qb hk
  have HS:=qb hs
  clear hF hk hs
  go_enter Tryz.func26,Tryz.ntmps26
  go_wp2
  go_loopw [5,1] (fun iv kv wr=>bb0 (plP g ug un vg vn) n k0 w iv kv wr) (fun iv _ _=>n-(intOf iv).toNat)
  case atStart=>exact⟨0,Nat.zero_le _,rfl,rfl,Below.refl _ _⟩
  case round =>
   obtain⟨j,hj,rfl,rfl,hb⟩:=hrel
   by_cases hlt:j<n
   ·have hi0:(0:Int)≤(j:Int):=by omega
    have hi1:(j:Int)<(n:Int):=by omega
    obtain⟨lu,hlu⟩:∃ l:Nat,l=(pls (plT (ug j)) (un j)).length:=⟨_,rfl⟩
    have HLu:=qb hlu
    obtain⟨lv,hlv⟩:∃ l:Nat,l=(pls (plT (vg j)) (vn j)).length:=⟨_,rfl⟩
    have HLv:=qb hlv
    have hfl:((plP g ug un vg vn) j).length=2+lu+lv:=by simp only[plP,List.length_append,List.length_cons,List.length_nil,hlu,hlv] <;> omega
    have hql:k0+(pls (plP g ug un vg vn) j).length+(2+lu+lv)≤1000000000000000:=by
     have:=HK.out
     rw[al3 (plP g ug un vg vn) (j+1) n (by omega),ae2,List.length_append,List.length_append,hfl]at this
     omega
    have HFL:=qb hfl
    obtain⟨q,hq⟩:∃ q:Nat,q=k0+(pls (plP g ug un vg vn) j).length:=⟨_,rfl⟩
    have hq2:((k0+(pls (plP g ug un vg vn) j).length:Nat):Int)=(q:Int):=by rw[hq]
    have hm:=HF.out.round hlt
    rw[←hq]at hql hm
    have HQ:=qb hq
    have hq0:0<q:=by omega
    rw[hq2]
    have hsz:=hb.size
    have hm:ae1 w ((g,j*4,true) :: pls (plT (ug j)) (un j)++(pls (plT (vg j)) (vn j)++([(g,j*4+3,false)]))) q:=by simpa only[plP,List.append_assoc,List.cons_append,List.nil_append] using hm
    have hc0:=hm.head
    have hm0:=hm.tail
    have hr1:=hm0.left
    have hm1:=hm0.right
    have hr2:=hm1.left
    have hm2:=hm1.right
    have hc3:=hm2.head
    have HC0:Hid (w.cell? ⟨g,j*4,none⟩=some (.string (am7 (q)))):=by
     refine hc0.2.trans (congrArg some (av9 ?_).symm)
     have:=HLu.out;have:=HLv.out;first|omega|(simp only[List.length_append,List.length_cons,List.length_nil] <;> omega)
    have HR1:Hid (ae1 w (pls (plT (ug j)) (un j)) (q+1)):=by
     refine cast (congrArg (ae1 w (pls (plT (ug j)) (un j))) ?_) hr1
     have:=HLu.out;have:=HLv.out;first|omega|(simp only[List.length_append,List.length_cons,List.length_nil] <;> omega)
    have HR2:Hid (ae1 w (pls (plT (vg j)) (vn j)) (q+1+lu)):=by
     refine cast (congrArg (ae1 w (pls (plT (vg j)) (vn j))) ?_) hr2
     have:=HLu.out;have:=HLv.out;first|omega|(simp only[List.length_append,List.length_cons,List.length_nil] <;> omega)
    have HC3:Hid (w.cell? ⟨g,j*4+3,none⟩=some (.int .i64 ((q:Int)+1+(lu:Int)+(lv:Int)))):=by
     refine hc3.2.trans (congrArg some (aH5 ?_).symm)
     have:=HLu.out;have:=HLv.out;first|omega|(simp only[List.length_append,List.length_cons,List.length_nil] <;> omega)
    have HG:=qb hc0.1
    have HB:=qb hb
    have hgw:g<wr.heap.size:=nll HG.out hsz
    clear hq hq2 hfl hb hlu hlv hm hm0 hm1 hm2 hc0 hc3 hr1 hr2
    have hsj:=HS.out j hlt
    obtain⟨cu,ru,nu,cv,rv,nv⟩:=hsj
    have Cu:=qb cu
    have Ru:=qb ru
    have Cv:=qb cv
    have Rv:=qb rv
    clear cu ru cv rv
    have c0_wr:=(HB.out.cell (p:=⟨g,j*4,none⟩) HG.out).trans HC0.out
    obtain⟨s1,em1⟩:∃ s,s=am7 (q):=⟨_,rfl⟩
    rw[←em1]at c0_wr
    have MT1:=fun a w h=>qb (ah5 a (q) w h (by omega) (by omega))
    rw[←em1]at MT1
    clear em1
    go_wp2
    go_region_held3 (fun w'=>w'.cell? { block:=g,off:=j*4 }=some (.string s1)) (first|go_keep|exact(hb1.cell (p:=⟨g,j*4,none⟩) hgw).trans c0_wr) ((go_at_call 51;refine(qa (MT1 _ _ (by omega))).mono ?_;rintro e z1⟨rfl,hb1⟩))
    all_goals
     have B1:Hid (Below w.heap.size w z1):=HB.out.trans ((Below.drew (Below.refl _ _)).trans (hb1.mono hsz))
     have hsz1:=B1.out.size
     have hgz1:g<z1.heap.size:=nll HG.out hsz1
     clear hb1 MT1 c0_wr
     have c1_z1:=(B1.out.cell (p:=⟨g,j*4+1,none⟩) HG.out).trans Cu.out
     go_wp2_with fail
     refine(ay1 (k0:=q+1) _ Ru.out (ae1.belowS HR1.out B1.out) (by rw[←HLu.out];omega) (by omega) nu _ (by omega)).mono ?_
     rintro e z2⟨rfl,hb2⟩
     have B2:Hid (Below w.heap.size w z2):=B1.out.trans (hb2.mono B1.out.size)
     have hsz2:=B2.out.size
     have hgz2:g<z2.heap.size:=nll HG.out hsz2
     clear hb2 c1_z1
     rw[←HLu.out]
     have c2_z2:=(B2.out.cell (p:=⟨g,j*4+2,none⟩) HG.out).trans Cv.out
     go_wp2_with fail
     refine(ay1 (k0:=q+1+lu) _ Rv.out (ae1.belowS HR2.out B2.out) (by rw[←HLv.out];omega) (by omega) nv _ (by omega)).mono ?_
     rintro e z3⟨rfl,hb3⟩
     have B3:Hid (Below w.heap.size w z3):=B2.out.trans (hb3.mono B2.out.size)
     have hsz3:=B3.out.size
     have hgz3:g<z3.heap.size:=nll HG.out hsz3
     clear hb3 c2_z2
     rw[←HLv.out]
     have c3_z3:=(B3.out.cell (p:=⟨g,j*4+3,none⟩) HG.out).trans HC3.out
     go_wp2
     go_roundw
     case rel =>
      refine⟨j+1,by omega,by go_num,?_,B3.out⟩
      rw[ae2,List.length_append,←Nat.add_assoc,←HQ.out,HFL.out];congr 1 <;> omega
     case measure=>simp[intOf];omega
   ·have e:j=n:=by omega
    subst e
    have hql:k0+(pls (plP g ug un vg vn) j).length≤1000000000000000:=HK.out
    obtain⟨q,hq⟩:∃ q:Nat,q=k0+(pls (plP g ug un vg vn) j).length:=⟨_,rfl⟩
    have hq2:((k0+(pls (plP g ug un vg vn) j).length:Nat):Int)=(q:Int):=by rw[hq]
    rw[←hq]at hql
    have HQ:=qb hq
    rw[hq2]
    clear hq hq2
    go_wp2
    go_ret
    exact⟨by rw[HQ.out];simp,hb⟩
end Go.Proofs.YtcpapceeekkacaaGreatDoor
