import Derived.Test.YtcpapceeekkacaaGreatDoorIdxW
import Derived.Test.YtcpapceeekkacaaGreatDoorSigW
import Derived.Test.YtcpapceeekkacaaGreatDoorMarkM
import Derived.Test.YtcpapceeekkacaaGreatDoorTreeQ
import Derived.Test.YtcpapceeekkacaaGreatDoorImpA
set_option maxRecDepth 100000
set_option maxHeartbeats 8000000
namespace Go.Proofs.YtcpapceeekkacaaGreatDoor
open Go.RowKit
def ax8 (s:ByteArray) (w wr:World):Prop :=
 ∃ (pos:Nat) (acc:List Sg) (v:Value),pos≤s.size∧acc.length≤500∧Hid (scan s pos acc=scan s 0 [])∧ScAt wr (w.heap.size+1) s pos v∧Hid (wr.ownsRow (w.heap.size+1+1) 48 4 v acc.length (ac7 acc)) ∧
  Hid (wr.ownsRow w.heap.size 48 4 (.slice (some ⟨w.heap.size,0,none⟩) 0 0) 0 [])∧Below w.heap.size w wr
theorem boxed (w:World) (s:ByteArray) (e:TypeId):ScAt (w.alloc (.cells #[.string s,.int .i64 0,.slice none 0 0] e)) w.heap.size s 0 (.slice none 0 0):=by
 refine⟨?_,?_,?_,?_,?_⟩
 ·simp
 ·simp
 ·simp
 ·exact fhp (heap_alloc_new w _) 1
 ·exact fhp (heap_alloc_new w _) 2
theorem aX9 (xs:List Sg):∀ u∈ac7 xs,u.oneCell'=true:=by
 intro u hu
 obtain⟨x,_,hx⟩:=List.mem_flatMap.1 hu
 simp[Sg.cells]at hx
 rcases hx with rfl|rfl|rfl|rfl <;> rfl
theorem ax8.only {s:ByteArray}{w wr w2:World}{pos':Nat}{acc:List Sg}{v:Value}(HO:wr.ownsRow (w.heap.size+1+1) 48 4 v acc.length (ac7 acc)) (HN:wr.ownsRow w.heap.size 48 4 (.slice (some ⟨w.heap.size,0,none⟩) 0 0) 0 [])
  (hb:Below w.heap.size w wr) (ho:an3 (w.heap.size+1) wr w2) (C:ScAt w2 (w.heap.size+1) s pos' v) (hps:pos'≤s.size) (hal:acc.length≤500) (hsc:scan s pos' acc=scan s 0 []):ax8 s w w2 :=
 ⟨pos',acc,v,hps,hal,hsc,C,ap_ ho.far HO (fun k hk=>by have:=(HO.lt k hk).1;omega),ap_ ho.far HN (fun k hk=>by simp[Value.ownBlock]at hk;omega),hb.trans (ho.bel.mono (Nat.le_succ _))⟩
theorem ScAt.pos {w:World}{g:Nat}{s:ByteArray}{pos:Nat}{v:Value}(C:ScAt w g s pos v):(intOf ((w.cell? ⟨g,1,none⟩).getD undef)).toNat=pos:=by
 rw[C.c1];simp[intOf]
def RemRel (g:Nat) (s:ByteArray) (pos:Nat) (v:Value) (wr w2:World):Prop :=
 ∃ k:Nat,pos+k≤s.size∧Hid (∀ j,pos≤j→j<pos+k→∀ h:j<s.size,ao_ s[j].toNat=true)∧ScAt w2 g s (pos+k) v∧Hid (an3 g wr w2)
theorem bh8 {s:ByteArray}{pos:Nat}(h:pos<s.size) (hc:s[pos].toNat=35):ag3 (rest s pos)=0∧ab0 (rest s pos)=ai0 ao_ (rest s pos):=by
 have h1:af4 s[pos].toNat=false:=by rw[hc];rfl
 constructor
 ·rw[ad7 s pos h,ag3,h1,if_neg (by simp),if_pos hc]
 ·conv=>lhs;rw[ad7 s pos h,ab0,h1,if_neg (by simp),if_pos hc,←ad7 s pos h]
theorem be3 {s:ByteArray}{pos:Nat}(h:pos<s.size) (h1:af4 s[pos].toNat=false) (h2:s[pos].toNat≠35):ag3 (rest s pos)≠0:=by
 rw[ad7 s pos h,ag3,h1,if_neg (by simp),if_neg h2]
 repeat' split
 all_goals decide
theorem aH8 (s:ByteArray) (w:World) (hs:s.size≤1500):Calls Tryz.prog 9 #[.string s] w (ak8 s w):=by
 have hd:decide ((1500:Int)<(s.size:Int))=false:=by simp;omega
 have HSR:Hid (ad2 s=scan s 0 []):=by show _=_;rw[ad2,if_neg (by omega)]
 go_enter Tryz.func9,Tryz.ntmps9
 go_wp2
 go_loopw [6] (fun _ wr=>ax8 s w wr) (fun _ wr=>s.size-(intOf ((wr.cell? ⟨w.heap.size+1,1,none⟩).getD undef)).toNat)
 case atStart =>
  have hsz:(w.alloc (.cells #[] 48)).heap.size=w.heap.size+1:=by simp
  have hC:=boxed (w.alloc (.cells #[] 48)) s 62
  rw[hsz]at hC
  refine⟨0,[],.slice none 0 0,Nat.zero_le _,by simp,rfl,hC,World.ownsRow_nil _ _ _ _,(au5 w _ _ _ (nlr _)).alloc _,(bal _ _).alloc (by simp) _⟩
 case round =>
  obtain⟨pos,acc,v,hps,hal,HSC,hC,HO,HN,hb⟩:=hrel
  have HC:=qb hC
  have HB:=qb hb
  obtain⟨c0,c1,c2,f1,f2⟩:=hC
  clear hb
  by_cases hp:pos<s.size
  ·have hi0:(0:Int)≤(pos:Int):=by omega
   have hi1:(pos:Int)<(s.size:Int):=by omega
   obtain⟨c,hc⟩:∃ c:Nat,c=s[pos].toNat:=⟨_,rfl⟩
   have hb8:c<256:=by rw[hc];exact s[pos].toNat_lt
   have hix:∀ wx:World,(Instr.index 9 (.string s) (.int .i64 (pos:Int))).run Tryz.prog wx=.ok (.int .u8 (c:Int)) wx:=fun wx=>by
    rw[hc];exact ah4 Tryz.underlying9 s pos hp wx
   cases hbl:af4 c with
   | true =>
    have HS2:Hid (scan s (pos+1) acc=scan s 0 []):=by show _=_;rw[←bf8 hp (by rw[←hc];exact hbl)];exact HSC.out
    have hblk:c=32∨c=10:=by simpa [af4] using hbl
    have HC2:Hid (ScAt (wr.setCell ⟨w.heap.size+1,1,none⟩ (.int .i64 ((pos:Int)+1))) (w.heap.size+1) s (pos+1) v):=HC.out.setPos (pos+1)
    have HR:=qb (ax8.only HO.out HN.out HB.out (an3.setCell _ _) HC2.out (by omega) hal HS2.out)
    clear hc hbl
    rcases hblk with rfl|rfl
    ·go_wp2
     go_roundw
     case rel=>exact HR.out
     case measure=>rw[HC2.out.pos,HC.out.pos];omega
    ·go_wp2
     go_roundw
     case rel=>exact HR.out
     case measure=>rw[HC2.out.pos,HC.out.pos];omega
   | false =>
    have hb1:((c:Int) == 32)=false:=by simp[af4]at hbl;simp;omega
    have hb2:((c:Int) == 10)=false:=by simp[af4]at hbl;simp;omega
    by_cases h35:c=35
    ·obtain⟨hk,hn⟩:=bh8 hp (hc.symm.trans h35)
     have HS2:=qb ((az0 hp hk acc).symm.trans HSC.out)
     rw[hn]at HS2
     subst h35
     have hsz:=ba1 ao_ (rest s pos)
     rw[av5]at hsz
     have hpos1:1≤ai0 ao_ (rest s pos):=by rw[←hn];exact ao6 _
     clear hbl hb8 hk hn hb1 hb2 hc
     go_wp2
     go_hide hQ
     go_loopw [61] (fun _ w2=>RemRel (w.heap.size+1) s pos v wr w2) (fun _ w2=>s.size-(intOf ((w2.cell? ⟨w.heap.size+1,1,none⟩).getD undef)).toNat)
     case atStart=>exact⟨0,by omega,fun j h1 h2=>by omega,HC.out,an3.refl _ _⟩
     case round =>
      obtain⟨k,hk,HA,hC2,HO2⟩:=hrel
      have HC2:=qb hC2
      obtain⟨d0,d1,d2,g1,g2⟩:=hC2
      by_cases hlt:pos+k<s.size
      ·obtain⟨c,hc⟩:∃ c:Nat,c=s[pos+k].toNat:=⟨_,rfl⟩
       have hix2:∀ wx:World,(Instr.index 9 (.string s) (.int .i64 ((pos+k:Nat):Int))).run Tryz.prog wx=.ok (.int .u8 (c:Int)) wx:=fun wx=>by
        rw[hc];exact ah4 Tryz.underlying9 s (pos+k) hlt wx
       have hb8:c<256:=by rw[hc];exact s[pos+k].toNat_lt
       have HV:Hid (∃ h:pos+k<s.size,s[pos+k].toNat=c):=⟨hlt,hc.symm⟩
       obtain⟨p,hpk⟩:∃ p,pos+k=p:=⟨_,rfl⟩
       rw[hpk]at hix2 d1
       have HK:=qb hpk
       have hp1:p<s.size:=by omega
       clear hc hpk hlt
       by_cases h10:c=10
       ·have HF:Hid (ai0 ao_ (rest s pos)=k):=as2 hk HA.out (.inr ⟨HV.out.1,by rw[HV.out.2,h10];rfl⟩)
        subst h10
        have HR:Hid (ax8 s w wr):=by
         refine ax8.only HO.out HN.out HB.out HO2.out HC2.out hk hal ?_
         rw[←HF.out];exact HS2.out
        have hk1:1≤k:=by rw[←HF.out];exact hpos1
        go_wp2
        subst hQ
        go_wp2
        go_roundw
        case rel=>exact HR.out
        case measure=>rw[HC2.out.pos,HC.out.pos];omega
       ·have h10':((c:Int) == 10)=false:=by simp;omega
        have HA2:Hid (∀ j,pos≤j→j<pos+(k+1)→∀ h:j<s.size,ao_ s[j].toNat=true):=fun j h3 h4 h=>by
         by_cases h5:j<pos+k
         ·exact HA.out j h3 h5 h
         ·have e:j=pos+k:=by omega
          subst e
          rw[HV.out.2,ao_];simp;exact h10
        have HC3:Hid (ScAt (wr.setCell ⟨w.heap.size+1,1,none⟩ (.int .i64 ((p:Int)+1))) (w.heap.size+1) s (pos+(k+1)) v):=by
         have e:(p:Int)+1=((pos+(k+1):Nat):Int):=by have:=HK.out;omega
         rw[e];exact HC2.out.setPos _
        have hp2:pos+(k+1)≤s.size:=by have:=HK.out;omega
        go_wp2
        go_roundw
        case rel=>exact⟨k+1,hp2,HA2,HC3.out,HO2.out.trans (an3.setCell _ _)⟩
        case measure=>rw[HC3.out.pos,HC2.out.pos];omega
      ·have HF:Hid (ai0 ao_ (rest s pos)=k):=as2 hk HA.out (.inl (by omega))
       have HR:Hid (ax8 s w wr):=by
        refine ax8.only HO.out HN.out HB.out HO2.out HC2.out hk hal ?_
        rw[←HF.out];exact HS2.out
       have hk1:1≤k:=by rw[←HF.out];exact hpos1
       have hlt2:¬ (((pos+k:Nat):Int)<(s.size:Int)):=by omega
       obtain⟨p,hpk⟩:∃ p,pos+k=p:=⟨_,rfl⟩
       rw[hpk]at d1 hlt2
       have HK:=qb hpk
       clear hpk hlt
       go_wp2
       subst hQ
       go_wp2
       go_roundw
       case rel=>exact HR.out
       case measure=>rw[HC2.out.pos,HC.out.pos];omega
    ·have h35':((c:Int) == 35)=false:=by simp;omega
     have hone:=fun w' h1 h2=>qb (one_any (w.heap.size+1) s pos v acc w' hs hp h1 h2 hal (by rw[←hc];exact hbl) (by rw[←hc];exact h35))
     have HOK:=qb (be3 hp (by rw[←hc];exact hbl) (by rw[←hc];exact h35))
     clear hc hbl h35 hb8
     go_wp2_with fail
     refine(qa (hone _ HC.out HO.out)).mono ?_
     rintro e w2⟨hb2,⟨rfl,hf⟩|⟨rfl,hf,ha,v',hC2,hO2⟩⟩
     ·have HF:Hid (ad2 s=([],pos+1)):=by show _=_;rw[HSR.out,←HSC.out,aF9 hp HOK.out hf]
      have HE:Hid (ak8 s w (.returned (.tuple #[.slice (some ⟨w.heap.size,0,none⟩) 0 0,.int .i64 ((pos:Int)+1)])) w2):=by
       refine⟨.slice (some ⟨w.heap.size,0,none⟩) 0 0,by rw[HF.out];rfl,?_,HB.out.trans (hb2.mono (Nat.le_succ _))⟩
       rw[HF.out]
       exact ap8 HN.out hb2 (fun k hk=>by simp[Value.ownBlock]at hk;omega)
      clear hb2 hf
      go_wp2
      go_ret2
      exact HE.out
     ·have hsz:=av7 (rest s pos) (by rw[ad7 s pos hp];simp)
      rw[av5]at hsz
      have hsp:=ao6 (rest s pos)
      have HR:Hid (ax8 s w w2):=⟨pos+ab0 (rest s pos),acc++[sgOf s pos],v',by omega,by simp;omega,by show _=_;rw[←aR8 hp HOK.out hf ha];exact HSC.out,hC2,hO2,ap8 HN.out hb2 (fun k hk=>by simp[Value.ownBlock]at hk;omega),HB.out.trans (hb2.mono (Nat.le_succ _))⟩
      have HC2:=qb hC2
      clear hb2 hf hC2 hO2
      go_wp2
      go_roundw
      case rel=>exact HR.out
      case measure=>rw[HC2.out.pos,HC.out.pos];omega
  ·have HF:Hid (scan s 0 []=(acc,0)):=by show _=_;rw[←HSC.out,ba6 hp]
   obtain⟨i0,hi,hz0,hz1,hz2⟩:=info_parts av3
   have hbs:=HB.out.size
   have hlt:¬ ((pos:Int)<(s.size:Int)):=by omega
   rcases HO.out.2 with⟨hv,h0⟩|⟨b,cap,cur,hv,hbb,hcur,hcap,_⟩
   ·subst hv
    have hacc:acc=[]:=List.length_eq_zero_iff.1 h0
    subst hacc
    have hap:∀ ty,(Builtin.append_ #[32,32] ty #[.slice (some ⟨w.heap.size,0,none⟩) 0 0,.slice none 0 0]).run Tryz.prog wr=.ok (.slice (some ⟨w.heap.size,0,none⟩) 0 0) wr:=fun ty=>run_append_owned_none (P:=Tryz.prog) wr w.heap.size _ ty _ i0 4 Tryz.underlying32 hi _ 0 [] HN.out
    go_wp2
    go_ret2
    refine⟨.slice (some ⟨w.heap.size,0,none⟩) 0 0,by rw[HSR.out,HF.out];rfl,?_,HB.out⟩
    rw[HSR.out,HF.out]
    exact HN.out
   ·subst hv
    have hcl:∀ j u,(ac7 acc)[j]? = some u→wr.cell? ((⟨b,0,none⟩:Addr).add j)=some u:=HO.out.cells rfl
    have HCL:=qb hcl
    clear hcl
    go_wp2_with (at_builtin;refine wpList_append_own _ rfl _ _ 32 rfl w.heap.size 48 i0 _ 4 40 Tryz.underlying32 hi hz0 hz1 hz2 rfl (by decide) (.slice (some ⟨w.heap.size,0,none⟩) 0 0) 0 [] rfl HN.out ⟨b,0,none⟩ acc.length cap (ac7 acc) rfl (aG_ acc) HCL.out (aX9 acc) (by unfold maxLen;omega) (by omega) hbs ?_)
    intro v' w4 hown4 hgr4 _
    have HE:Hid (w4.ownsRow w.heap.size 48 4 v' acc.length (ac7 acc)):=hown4
    have HB4:Hid (Below w.heap.size w w4):=HB.out.grown hgr4 hbs (fun k hk=>by simp[Value.ownBlock]at hk;omega)
    clear hown4 hgr4
    go_wp2
    go_ret2
    refine⟨v',by rw[HSR.out,HF.out];rfl,?_,HB4.out⟩
    rw[HSR.out,HF.out]
    exact HE.out
theorem aC1 (s:ByteArray) (w:World) (hs:1500<s.size) (_h:s.size≤1048576):Calls Tryz.prog 9 #[.string s] w (ak8 s w):=by
 have HF:Hid (ad2 s=([],1)):=by show _=_;rw[ad2,if_pos hs]
 go_enter Tryz.func9,Tryz.ntmps9
 go_wp2
 go_ret2
 exact ak8.non HF.out (by simp) (Below.refl _ _)
theorem au8 (s:ByteArray) (w:World) (hs:s.size≤1048576):Calls Tryz.prog 9 #[.string s] w (ak8 s w):=by
 by_cases h:1500<s.size
 ·exact aC1 s w h hs
 ·exact aH8 s w (by omega)
def cnt (n:Nat) (u:List Int):List Int:=(List.range n).map fun (j:Nat)=>((u.count (j:Int):Nat):Int)
theorem au_ (n:Nat) (u:List Int):(cnt n u).length=n:=by simp[cnt]
theorem cnt_at {n:Nat}(u:List Int) {j:Nat}(h:j<n):(cnt n u).getD j 0=((u.count (j:Int):Nat):Int):=by
 simp[cnt,List.getD_eq_getElem?_getD,h]
theorem cnt_step {n:Nat}(u:List Int) {y:Nat}(h:y<n):(cnt n u).set y ((cnt n u).getD y 0+1)=cnt n (u++[(y:Int)]):=by
 apply List.ext_getElem?
 intro j
 by_cases hj:j<n
 ·by_cases hy:y=j
  ·subst hy
   rw[List.getElem?_set_self (by rw[au_];exact h),cnt_at u h]
   simp[cnt,h,List.count_append]
  ·rw[List.getElem?_set_ne hy]
   have:¬ ((y:Int)=(j:Int)):=by omega
   simp[cnt,hj,List.count_append,List.count_singleton,this]
 ·rw[List.getElem?_eq_none (by rw[List.length_set,au_];omega),List.getElem?_eq_none (by rw[au_];omega)]
theorem cnt_skip {n:Nat}(u:List Int) {y:Int}(h:¬ (0≤y∧y<(n:Int))):cnt n (u++[y])=cnt n u:=by
 unfold cnt
 refine List.map_congr_left fun j hj=>?_
 have hj2:=List.mem_range.1 hj
 have:¬ (y=(j:Int)):=by omega
 simp[List.count_append,this]
theorem bh0 (n:Nat):cnt n []=List.replicate n 0:=by
 unfold cnt
 apply List.ext_getElem?
 intro j
 by_cases hj:j<n
 ·simp[hj]
 ·simp[hj]
theorem aZ6 {n:Nat}(u:List Int) {j:Nat}(h:j<n):0≤(cnt n u).getD j 0∧(cnt n u).getD j 0≤u.length:=by
 rw[cnt_at u h]
 have:=List.count_le_length (a:=(j:Int)) (l:=u)
 omega
def ab9 (ns:List Nd):List Int:=ns.flatMap Nd.kids
theorem aq8 {ns:List Nd}{k:Nat}(h:k<ns.length):ab9 (ns.take (k+1))=ab9 (ns.take k)++ns[k].kids:=by
 rw[List.take_succ_eq_append_getElem h,ab9,ab9,List.flatMap_append]
 simp
theorem at3 (ns:List Nd) (k:Nat):(ab9 (ns.take k)).length≤(ab9 ns).length:=by
 have:ab9 ns=ab9 (ns.take k)++ab9 (ns.drop k):=by
  rw[ab9,ab9,ab9,←List.flatMap_append,List.take_append_drop]
 rw[this,List.length_append]
 omega
def aL7 (n:Nat) (u:List Int):Bool:=(cnt n u).all (fun x=>decide (x=1))
theorem ao9 {w:World}{base n:Nat}{g cap:Nat}{u:List Int}(h:w.ownsRow base 3 1 (.slice (some ⟨g,0,none⟩) n cap) n ((cnt n u).map I64)) {j:Nat}(hj:j<n):w.cell? ⟨g,j,none⟩=some (.int .i64 ((cnt n u).getD j 0))∧w.frozen? ⟨g,j,none⟩=false:=by
 refine⟨?_,h.frozenAt j⟩
 rw[h.cellAt j (by omega),List.getElem?_map,List.getD_eq_getElem?_getD,List.getElem?_eq_getElem (by rw[au_];exact hj)]
 rfl
theorem aR1 {w:World}{base n:Nat}{g cap:Nat}{u:List Int}(h:w.ownsRow base 3 1 (.slice (some ⟨g,0,none⟩) n cap) n ((cnt n u).map I64)) {y:Nat}(hy:y<n) :
  (w.setCell ⟨g,y,none⟩ (.int .i64 ((cnt n u).getD y 0+1))).ownsRow base 3 1 (.slice (some ⟨g,0,none⟩) n cap) n ((cnt n (u++[(y:Int)])).map I64):=by
 have:=(h.stored y (.int .i64 ((cnt n u).getD y 0+1))).1
 rw[←cnt_step u hy,List.map_set]
 exact this
def bodA (ms:List Mo) (i:Nat):List Int:=(ms.take i).flatMap fun m=>m.ents.map En.body
theorem aN5 {ms:List Mo}{i:Nat}(h:i<ms.length):bodA ms (i+1)=bodA ms i++ms[i].ents.map En.body:=by
 rw[bodA,bodA,List.take_add_one,List.getElem?_eq_getElem h,List.flatMap_append]
 simp only[Option.toList,List.flatMap_cons,List.flatMap_nil,List.append_nil]
theorem bodA_all (ms:List Mo):bodA ms ms.length=ms.flatMap fun m=>m.ents.map En.body:=by simp[bodA]
theorem bg8 (ms:List Mo) (ps:List Pr) (i:Nat):(bodA ms i).length≤(ad4 ms ps).length:=by
 have e:ms.flatMap (fun m=>m.ents.map En.body)=bodA ms i++(ms.drop i).flatMap fun m=>m.ents.map En.body:=by
  rw[bodA,←List.flatMap_append,List.take_append_drop]
 rw[ad4,e]
 simp
def bodC (ms:List Mo) (ps:List Pr) (i:Nat):List Int:=bodA ms ms.length++(ps.take i).map Pr.body
theorem aC3 (ms:List Mo) (ps:List Pr):bodC ms ps ps.length=ad4 ms ps:=by simp[bodC,ad4,bodA_all]
theorem aN6 {ms:List Mo}{ps:List Pr}{i:Nat}(h:i<ps.length):bodC ms ps (i+1)=bodC ms ps i++[ps[i].body]:=by
 rw[bodC,bodC,List.take_add_one,List.getElem?_eq_getElem h,List.map_append,←List.append_assoc]
 rfl
def BodR (w W1:World) (ms:List Mo) (v iv:Value) (wr:World):Prop :=
 ∃ i:Nat,i≤ms.length∧iv=.int .i64 i∧Hid (wr.ownsRow (w.heap.size+1) 3 1 v (bodA ms i).length ((bodA ms i).map I64))∧Hid (Below W1.heap.size W1 wr)
def BodI (w W1:World) (l:List Int) (es:List En) (v iv:Value) (wr:World):Prop :=
 ∃ (j:Nat) (l':List Int),j≤es.length∧iv=.int .i64 j∧l'=l++(es.take j).map En.body∧Hid (wr.ownsRow (w.heap.size+1) 3 1 v l'.length (l'.map I64))∧Hid (Below W1.heap.size W1 wr)
def BodP (w W1:World) (ms:List Mo) (ps:List Pr) (v iv:Value) (wr:World):Prop :=
 ∃ i:Nat,i≤ps.length∧iv=.int .i64 i∧Hid (wr.ownsRow (w.heap.size+1) 3 1 v (bodC ms ps i).length ((bodC ms ps i).map I64))∧Hid (Below W1.heap.size W1 wr)
theorem ay6 (nv mv pv:Value) (ms:List Mo) (ps:List Pr) (w:World) (hM:ar8 w mv ms) (hP:ar9 w pv ps) (hl:(ad4 ms ps).length≤1048576) (hml:ms.length≤1048576) (hpl:ps.length≤1048576) (hel:∀ m∈ms,m.ents.length≤1048576) :
  Calls Tryz.prog 36 #[.agg #[nv,mv,pv]] w fun e w'=>∃ v,e=.returned v∧w'.ownsRow (w.heap.size+1) 3 1 v (ad4 ms ps).length ((ad4 ms ps).map I64)∧Below w.heap.size w w':=by
 have hb1:Below w.heap.size w (w.alloc (.cells #[nv,mv,pv] 26)):=bal _ _
 have HM:=qb (hM.stays hb1)
 have HP:=qb (hP.stays hb1)
 have HX:=qb (ar3.made w nv mv pv 26)
 have HB:=qb hb1
 have HS:Hid ((w.alloc (.cells #[nv,mv,pv] 26)).heap.size=w.heap.size+1):=by show _=_;simp
 clear hb1
 obtain⟨ao,c,rfl,_⟩:=hM
 obtain⟨bo,d,rfl,_⟩:=hP
 go_enter Tryz.func36,Tryz.ntmps36
 go_wp2
 obtain⟨W1,hW⟩:∃ W1,w.alloc (.cells #[nv,.slice ao ms.length c,.slice bo ps.length d] 26)=W1:=⟨_,rfl⟩
 rw[hW]at HM HP HX HB HS ⊢
 clear hW
 obtain⟨n,en⟩:∃ n,ms.length=n:=⟨_,rfl⟩
 have EN:=qb en
 obtain⟨q,eq⟩:∃ q,ps.length=q:=⟨_,rfl⟩
 have EQ:=qb eq
 rw[en]at HM
 rw[eq]at HP
 rw[en,eq]at HX ⊢
 rw[en]at hml
 rw[eq]at hpl
 clear en eq
 go_loopw [3,4] (BodR w W1 ms) (fun _ iv _=>n-(intOf iv).toNat)
 case atStart=>exact⟨0,by omega,rfl,by
  have:=ak2 W1 (w.heap.size+1) 3 (by rw[HS.out];exact nlr _)
  rw[HS.out]at this
  exact this,bal _ _⟩
 case round =>
  obtain⟨i,hi,rfl,HO,HB2⟩:=hrel
  obtain⟨c0,c1,c2,_⟩:=HX.out.stays HB2.out
  rw[EN.out]at hi
  by_cases hlt:i<n
  ·have hlt':(i:Int)<(n:Int):=by omega
   have hi0:(0:Int)≤(i:Int):=by omega
   have hix:i<ms.length:=by rw[EN.out];exact hlt
   have HEL:=qb (hel _ (List.getElem_mem hix))
   have HNX:=qb (aN5 hix)
   obtain⟨x,ex⟩:∃ x,ms[i]=x:=⟨_,rfl⟩
   have EX:=qb ex
   rw[ex]at HEL HNX
   clear ex
   go_wp2
   go_loopw [3,5] (BodI w W1 (bodA ms i) x.ents) (fun _ iv _=>x.ents.length-(intOf iv).toNat)
   case atStart=>exact⟨0,bodA ms i,by omega,rfl,by simp,HO.out,HB2.out⟩
   case round =>
    obtain⟨j,l',hj,rfl,el,HO3,HB3⟩:=hrel
    have EL:=qb el
    clear el
    obtain⟨e0,e1,e2,_⟩:=HX.out.stays HB3.out
    obtain⟨ao',cc,e5,hc⟩:=HM.out.stays HB3.out
    injection e5 with e6 e7 e8
    subst e6
    obtain⟨a,vv,qv,ev,rfl,hab,hcell⟩:=hc i hix
    rw[EX.out]at hcell
    obtain⟨p,hpa⟩:∃ p,a.add (i*4)=p:=⟨_,rfl⟩
    rw[hpa]at hcell
    have d3:=hcell.c3
    obtain⟨b,cb,rfl,hec⟩:=hcell.ents
    clear hc hcell e7 e8
    obtain⟨m,em⟩:∃ m,x.ents.length=m:=⟨_,rfl⟩
    have EM:=qb em
    rw[em]at d3 hj
    have hm:m≤1048576:=by have:=HEL.out;omega
    by_cases hlt2:j<m
    ·have hlt2':(j:Int)<(m:Int):=by omega
     have hj0:(0:Int)≤(j:Int):=by omega
     have hjx:j<x.ents.length:=by rw[EM.out];exact hlt2
     obtain⟨b,rfl,hbb,hy⟩:=hec j hjx
     obtain⟨r,hra⟩:∃ r,b.add (j*3)=r:=⟨_,rfl⟩
     rw[hra]at hy
     have y2:=hy.c2
     have EY:Hid (l'++[x.ents[j].body]=bodA ms i++(x.ents.take (j+1)).map En.body):=by
      show _=_
      rw[EL.out,List.take_add_one,List.getElem?_eq_getElem hjx,List.map_append,←List.append_assoc]
      rfl
     obtain⟨y,ey⟩:∃ y,x.ents[j].body=y:=⟨_,rfl⟩
     rw[ey]at y2 EY
     have HLN:Hid (l'.length+1≤1048576):=by
      show _≤_
      have h1:(l'++[y]).length≤(bodA ms (i+1)).length:=by rw[EY.out,HNX.out];simp;omega
      have h2:=bg8 ms ps (i+1)
      simp at h1
      omega
     clear hec hy ey em
     have hwz:w.heap.size+1≤wr.heap.size:=by rw[←HS.out];exact HB3.out.size
     go_wp2_with (at_builtin;refine ai4 rfl (.tmp 26) (.tmp 37) 70 rfl (w.heap.size+1) 3 (.int .i64 0) 8 Tryz.underlying70 Tryz.infoInt rfl _ l'.length _ _ rfl HO3.out rfl rfl (by have:=HLN.out;unfold maxLen;omega) (by have:=HLN.out;omega) hwz ?_)
     intro v' w4 hown4 hb4
     have R:BodI w W1 (bodA ms i) x.ents v' (.int .i64 ((j:Int)+1)) w4:=⟨j+1,l'++[y],by rw[EM.out];omega,rfl,EY.out,qb (by simpa using hown4),HB3.out.trans (by rw[HS.out];exact hb4)⟩
     clear hown4 hb4
     go_wp2
     go_roundw
     case rel=>exact R
     case measure=>rw[EM.out];simp[intOf];omega
    ·have hlt2':¬ (j:Int)<(m:Int):=by omega
     have EL2:Hid (l'=bodA ms (i+1)):=by
      show _=_
      rw[EL.out,HNX.out,List.take_of_length_le (by rw[EM.out];omega)]
     clear hec em
     go_wp2
     go_roundw
     case rel=>exact⟨i+1,by rw[EN.out];omega,by go_num,by rw[←EL2.out];exact HO3.out,HB3.out⟩
     case measure=>simp[intOf];omega
  ·have hlt':¬ (i:Int)<(n:Int):=by omega
   have ei:i=ms.length:=by rw[EN.out];omega
   have e00:bodA ms i=bodC ms ps 0:=by simp[bodC,ei]
   have HO1:=HO
   rw[e00]at HO1
   clear e00
   clear HO ei
   go_wp2
   go_loopw [3,6] (BodP w W1 ms ps) (fun _ iv _=>q-(intOf iv).toNat)
   case atStart=>exact⟨0,by omega,rfl,HO1.out,HB2.out⟩
   case round =>
    clear c0 c1 c2
    obtain⟨i,hi,rfl,HO3,HB3⟩:=hrel
    obtain⟨e0,e1,e2,_⟩:=HX.out.stays HB3.out
    rw[EQ.out]at hi
    by_cases hlt:i<q
    ·have hlt':(i:Int)<(q:Int):=by omega
     have hi0:(0:Int)≤(i:Int):=by omega
     have hix:i<ps.length:=by rw[EQ.out];exact hlt
     have HNX:=qb (aN6 (ms:=ms) hix)
     obtain⟨bo',cc,e5,hc⟩:=HP.out.stays HB3.out
     injection e5 with e6 e7 e8
     subst e6
     obtain⟨a,uv,vv,rfl,hab,hcell⟩:=hc i hix
     obtain⟨p,hpa⟩:∃ p,a.add (i*4)=p:=⟨_,rfl⟩
     rw[hpa]at hcell
     have d3:=hcell.c3
     obtain⟨y,ey⟩:∃ y,ps[i].body=y:=⟨_,rfl⟩
     rw[ey]at d3 HNX
     clear hc hcell e7 e8 ey
     have HLN:Hid ((bodC ms ps i).length+1≤1048576):=by
      show _≤_
      have h2:(bodC ms ps (i+1)).length≤(ad4 ms ps).length:=by
       rw[←aC3];simp[bodC];omega
      rw[HNX.out]at h2
      simp at h2
      omega
     have hwz:w.heap.size+1≤wr.heap.size:=by rw[←HS.out];exact HB3.out.size
     go_wp2_with (at_builtin;refine ai4 rfl (.tmp 46) (.tmp 53) 70 rfl (w.heap.size+1) 3 (.int .i64 0) 8 Tryz.underlying70 Tryz.infoInt rfl _ (bodC ms ps i).length _ _ rfl HO3.out rfl rfl (by have:=HLN.out;unfold maxLen;omega) (by have:=HLN.out;omega) hwz ?_)
     intro v' w4 hown4 hb4
     have R:BodP w W1 ms ps v' (.int .i64 ((i:Int)+1)) w4:=⟨i+1,by rw[EQ.out];omega,rfl,qb (by rw[HNX.out];simpa using hown4),HB3.out.trans (by rw[HS.out];exact hb4)⟩
     clear hown4 hb4
     go_wp2
     go_roundw
     case rel=>exact R
     case measure=>simp[intOf];omega
    ·have hlt':¬ (i:Int)<(q:Int):=by omega
     have ei:i=ps.length:=by rw[EQ.out];omega
     have HF:Hid (bodC ms ps i=ad4 ms ps):=by show _=_;rw[ei,aC3]
     rw[HF.out]at HO3
     clear ei
     go_wp2
     go_ret
     exact⟨_,rfl,HO3.out,HB.out.trans (HB3.out.mono HB.out.size)⟩
end Go.Proofs.YtcpapceeekkacaaGreatDoor
