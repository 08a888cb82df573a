import Derived.Test.YtcpapceeekkacaaGreatDoorImpA
import Derived.Test.YtcpapceeekkacaaGreatDoorImpD
import Derived.Test.YtcpapceeekkacaaGreatDoorTreeQ
set_option maxRecDepth 100000
set_option maxHeartbeats 8000000
namespace Go.Proofs.YtcpapceeekkacaaGreatDoor
open Go.RowKit
def StmtsR (W1:World) (l:List Int) (m:Nat) (iv:Value) (wr:World):Prop :=
 ∃ i:Nat,i≤m∧iv=.int .i64 i∧Hid (Below W1.heap.size W1 wr)∧Hid (∀ j x,j<i→l[j]? = some x→aj4 x=true)
theorem ay_ {α:Type}{q:α→Bool}{l:List α}{i:Nat}{x:α}(h:l[i]? = some x) (hq:q x=false):l.all q=false:=by
 have:=aD0 (n:=0) h (Nat.zero_le _) hq
 simpa using this
theorem aJ7 {α:Type}{q:α→Bool}{l:List α}(h:∀ (j:Nat) (x:α),l[j]? = some x→q x=true):l.all q=true:=by
 have:=aA8 (l:=l) (q:=q) (n:=0) (fun j x _=>h j x)
 simpa using this
theorem aV1 (nv mv pv:Value) (ns:List Nd) (k:Nat) (w:World) (hN:af7 w nv ns) (hk:k<ns.length) (hl:ns.length≤1048576) (hkl:ns[k].kids.length≤1048576) :
  Calls Tryz.prog 92 #[.agg #[nv,mv,pv],.int .i64 (k:Int)] w fun e w'=>e=.returned (.bool (af1 ns[k].kind (aj0 ns k)))∧Below w.heap.size w w':=by
 have hb1:Below w.heap.size w (w.alloc (.cells #[nv,mv,pv] 26)):=bal _ _
 have HN:=qb (hN.stays hb1)
 have HX:=qb (ar3.made w nv mv pv 26)
 have HB:=qb hb1
 obtain⟨a,c,p,kv,rfl,hpa,hpb,hcell⟩:=HN.out.node k hk
 have d0:=hcell.c0
 have d5:=hcell.c5
 obtain⟨bo,cb,rfl,_⟩:=hcell.kids
 have hi0:(0:Int)≤(k:Int):=by omega
 have hi1:(k:Int)<(ns.length:Int):=by omega
 have CV:=fun n hn w (h:af7 w (.slice (some a) ns.length c) ns)=>qb (aL1 (.slice (some a) ns.length c) mv pv ns k n w h hk hn hl hkl)
 have CB:=fun n hn w (h:af7 w (.slice (some a) ns.length c) ns)=>qb (aL0 (.slice (some a) ns.length c) mv pv ns k n w h hk hn hl hkl)
 have CK:=fun i hi w (h:af7 w (.slice (some a) ns.length c) ns)=>qb (az9 (.slice (some a) ns.length c) mv pv ns k i w h hk hi hl)
 have HL:=qb (ay5 hk)
 have HK:=fun i hi=>qb (ay4 (i:=i) hk hi)
 obtain⟨l,el⟩:∃ l,aj0 ns k=l:=⟨_,rfl⟩
 simp only[el]at CV CB HL HK ⊢
 obtain⟨kd,ek⟩:∃ kd,ns[k].kind=kd:=⟨_,rfl⟩
 rw[ek]at d0 ⊢
 obtain⟨m,em⟩:∃ m,ns[k].kids.length=m:=⟨_,rfl⟩
 rw[em]at d5 hkl
 have EM:=qb em
 clear hN hb1 hcell el ek em hpb
 by_cases h0:kd=1∨kd=2∨kd=16∨kd=17∨kd=18∨kd=19
 ·have HF:Hid (af1 kd l=decide (m=0)):=by show _=_;rw[af1,if_pos h0,HL.out,EM.out]
  by_cases hm:m=0
  ·subst hm
   rcases h0 with rfl|rfl|rfl|rfl|rfl|rfl
   all_goals
    go_enter Tryz.func92,Tryz.ntmps92
    go_wp2
    go_ret
    exact⟨by rw[HF.out];rfl,HB.out⟩
  ·have hm':¬ (m:Int)=0:=by omega
   rcases h0 with rfl|rfl|rfl|rfl|rfl|rfl
   all_goals
    go_enter Tryz.func92,Tryz.ntmps92
    go_wp2
    go_ret
    exact⟨by rw[HF.out];simp[hm],HB.out⟩
 by_cases h3:kd=3
 ·subst h3
  have HF:Hid (af1 3 l=(decide (m=2) && (l.take 2).all af8)):=by show _=_;rw[af1,if_neg h0,if_pos rfl,HL.out,EM.out]
  clear h0
  by_cases hm:m=2
  ·subst hm
   have C:=CV 2 (by rw[EM.out];omega)
   clear CV CB CK HK
   obtain⟨b,eb⟩:∃ b,(l.take 2).all af8=b:=⟨_,rfl⟩
   simp only[eb]at C HF
   clear eb
   go_enter Tryz.func92,Tryz.ntmps92
   go_wp2_with (go_at_call 114;refine(qa (C _ HN.out)).mono ?_;rintro e w2⟨rfl,hb2⟩)
   go_ret
   exact⟨by rw[HF.out];rfl,HB.out.trans (hb2.mono HB.out.size)⟩
  ·have hm':¬ (m:Int)=2:=by omega
   clear CV CB CK HK
   go_enter Tryz.func92,Tryz.ntmps92
   go_wp2
   go_ret
   exact⟨by rw[HF.out];simp[hm],HB.out⟩
 by_cases h4:kd=4∨kd=5∨kd=11∨kd=14∨kd=15
 ·have HF:Hid (af1 kd l=(decide (m=1) && (l.take 1).all af8)):=by show _=_;rw[af1,if_neg h0,if_neg h3,if_pos h4,HL.out,EM.out]
  clear h0 h3
  by_cases hm:m=1
  ·subst hm
   have C:=CV 1 (by rw[EM.out];omega)
   clear CV CB CK HK
   obtain⟨b,eb⟩:∃ b,(l.take 1).all af8=b:=⟨_,rfl⟩
   simp only[eb]at C HF
   clear eb
   rcases h4 with rfl|rfl|rfl|rfl|rfl
   all_goals
    go_enter Tryz.func92,Tryz.ntmps92
    go_wp2_with (go_at_call 114;refine(qa (C _ HN.out)).mono ?_;rintro e w2⟨rfl,hb2⟩)
    go_ret
    exact⟨by rw[HF.out];rfl,HB.out.trans (hb2.mono HB.out.size)⟩
  ·have hm':¬ (m:Int)=1:=by omega
   clear CV CB CK HK
   rcases h4 with rfl|rfl|rfl|rfl|rfl
   all_goals
    go_enter Tryz.func92,Tryz.ntmps92
    go_wp2
    go_ret
    exact⟨by rw[HF.out];simp[hm],HB.out⟩
 by_cases h12:kd=12
 ·subst h12
  have HF:Hid (af1 12 l=(decide (m=2∨m=3) && (l.take 1).all af8 && (l.drop 1).all an4)):=by show _=_;rw[af1,if_neg h0,if_neg h3,if_neg h4,if_pos rfl,HL.out,EM.out]
  clear h0 h3 h4
  by_cases hm:m=2∨m=3
  ·have C1:=CV 1 (by rw[EM.out];omega)
   have C2:=CB 1 (by rw[EM.out];omega)
   clear CV CB CK HK
   obtain⟨b1,eb1⟩:∃ b,(l.take 1).all af8=b:=⟨_,rfl⟩
   obtain⟨b2,eb2⟩:∃ b,(l.drop 1).all an4=b:=⟨_,rfl⟩
   simp only[eb1,eb2]at C1 C2 HF
   clear eb1 eb2
   rcases hm with rfl|rfl
   all_goals
    cases b1
    all_goals
     go_enter Tryz.func92,Tryz.ntmps92
     go_wp2_with (first|(go_at_call 114;refine(qa (C1 _ HN.out)).mono ?_;rintro e w2⟨rfl,hb2⟩;obtain⟨g0,g1,g2,_⟩:=HX.out.stays hb2)|(go_at_call 115;refine(qa (C2 _ (HN.out.stays hb2))).mono ?_;rintro e w3⟨rfl,hb3⟩))
     go_ret
     first
     | exact⟨by rw[HF.out];rfl,HB.out.trans ((hb2.trans (hb3.mono hb2.size)).mono HB.out.size)⟩
     | exact⟨by rw[HF.out];rfl,HB.out.trans (hb2.mono HB.out.size)⟩
  ·have hm2:¬ (m:Int)=2:=by omega
   have hm3:¬ (m:Int)=3:=by omega
   clear CV CB CK HK
   go_enter Tryz.func92,Tryz.ntmps92
   go_wp2
   go_ret
   exact⟨by rw[HF.out];simp[hm],HB.out⟩
 by_cases h13:kd=13
 ·subst h13
  have HF:Hid (af1 13 l=(decide (m=2) && (l.take 1).all af8 && (l.drop 1).all an4)):=by show _=_;rw[af1,if_neg h0,if_neg h3,if_neg h4,if_neg h12,if_pos rfl,HL.out,EM.out]
  clear h0 h3 h4 h12
  by_cases hm:m=2
  ·have C1:=CV 1 (by rw[EM.out];omega)
   have C2:=CB 1 (by rw[EM.out];omega)
   clear CV CB CK HK
   obtain⟨b1,eb1⟩:∃ b,(l.take 1).all af8=b:=⟨_,rfl⟩
   obtain⟨b2,eb2⟩:∃ b,(l.drop 1).all an4=b:=⟨_,rfl⟩
   simp only[eb1,eb2]at C1 C2 HF
   clear eb1 eb2
   subst hm
   cases b1
   all_goals
    go_enter Tryz.func92,Tryz.ntmps92
    go_wp2_with (first|(go_at_call 114;refine(qa (C1 _ HN.out)).mono ?_;rintro e w2⟨rfl,hb2⟩;obtain⟨g0,g1,g2,_⟩:=HX.out.stays hb2)|(go_at_call 115;refine(qa (C2 _ (HN.out.stays hb2))).mono ?_;rintro e w3⟨rfl,hb3⟩))
    go_ret
    first
    | exact⟨by rw[HF.out];rfl,HB.out.trans ((hb2.trans (hb3.mono hb2.size)).mono HB.out.size)⟩
    | exact⟨by rw[HF.out];rfl,HB.out.trans (hb2.mono HB.out.size)⟩
  ·have hm2:¬ (m:Int)=2:=by omega
   clear CV CB CK HK
   go_enter Tryz.func92,Tryz.ntmps92
   go_wp2
   go_ret
   exact⟨by rw[HF.out];simp[hm],HB.out⟩
 have HF:Hid (af1 kd l=(l.all aj4 && inZ 1 12 m)):=by show _=_;rw[af1,if_neg h0,if_neg h3,if_neg h4,if_neg h12,if_neg h13,HL.out,EM.out]
 simp only[not_or]at h0 h4
 obtain⟨n1,n2,n16,n17,n18,n19⟩:=h0
 obtain⟨n4,n5,n11,n14,n15⟩:=h4
 clear CV CB
 go_enter Tryz.func92,Tryz.ntmps92
 go_wp2
 obtain⟨W1,hW⟩:∃ W1,w.alloc (.cells #[.slice (some a) ns.length c,mv,pv] 26)=W1:=⟨_,rfl⟩
 rw[hW]at HN HX HB ⊢
 have eb:∀ y:Int,¬ kd=y→(kd == y)=false:=fun y h=>by simp[h]
 simp only[eb _ n1,eb _ n2,eb _ n16,eb _ n17,eb _ n18,eb _ n19,eb _ n4,eb _ n5,eb _ n11,eb _ n14,eb _ n15,eb _ h3,eb _ h12,eb _ h13]
 clear eb
 clear d0 d5 hW n1 n2 n16 n17 n18 n19 n4 n5 n11 n14 n15 h3 h12 h13
 go_loopw [6] (StmtsR W1 l m) (fun iv _=>m-(intOf iv).toNat)
 case atStart=>exact⟨0,by omega,rfl,Below.refl _ _,fun j x hj=>absurd hj (Nat.not_lt_zero j)⟩
 case round =>
  obtain⟨i,hi,rfl,HB2,HA⟩:=hrel
  obtain⟨c0,c1,c2,_⟩:=HX.out.stays HB2.out
  by_cases hlt:i<m
  ·have hlt':(i:Int)<(m:Int):=by omega
   have hik:i<ns[k].kids.length:=by rw[EM.out];exact hlt
   have C1:=CK i hik
   have C2:=fun x w=>qb (at5 x w)
   have hx:=HK i hik
   obtain⟨x,ex⟩:∃ x,x=ai1 ns k ns[k].kids[i]:=⟨_,rfl⟩
   rw[←ex]at hx
   simp only[←ex]at C1
   clear ex CK HK
   have HN2:=qb (HN.out.stays HB2.out)
   cases hv:aj4 x with
   | true =>
    have C2:=C2 x
    rw[hv]at C2
    go_wp2_with (first|(go_at_call 116;refine(qa (C1 _ HN2.out)).mono ?_;rintro e w2⟨rfl,hb2⟩;have HB3:=qb hb2;clear hb2)|(go_at_call 91;refine(qa (C2 _)).mono ?_;rintro e w3⟨rfl,rfl⟩))
    go_roundw
    case rel=>exact⟨i+1,by omega,by go_num,HB2.out.trans (HB3.out.mono HB2.out.size),fun j y hj hy=>by
     rcases Nat.lt_succ_iff_lt_or_eq.1 hj with hj|hj
     ·exact HA.out j y hj hy
     ·subst hj;rw[hx.out]at hy;cases hy;exact hv⟩
    case measure=>simp[intOf];omega
   | false =>
    have C2:=C2 x
    rw[hv]at C2
    go_wp2_with (first|(go_at_call 116;refine(qa (C1 _ HN2.out)).mono ?_;rintro e w2⟨rfl,hb2⟩;have HB3:=qb hb2;clear hb2)|(go_at_call 91;refine(qa (C2 _)).mono ?_;rintro e w3⟨rfl,rfl⟩))
    go_ret
    exact⟨by rw[HF.out,ay_ hx.out hv];rfl,HB.out.trans ((HB2.out.trans (HB3.out.mono HB2.out.size)).mono HB.out.size)⟩
  ·have hlt':¬ (i:Int)<(m:Int):=by omega
   have HA2:Hid (l.all aj4=true):=aJ7 (fun j x hx=>HA.out j x (by have:=(List.getElem?_eq_some_iff.1 hx).1;rw[HL.out,EM.out]at this;omega) hx)
   have C:=fun w=>qb (ab7 (m:Int) 1 12 w)
   go_wp2_with (go_at_call 35;refine(qa (C _)).mono ?_;rintro e w3⟨rfl,rfl⟩)
   go_ret
   exact⟨by rw[HF.out,HA2.out];rfl,HB.out.trans (HB2.out.mono HB.out.size)⟩
theorem aa6.more {w:World}{g:Nat}(hg:g=w.heap.size) (xs:List Int) (zs:Array Value) (t:TypeId) (n c:Nat) (hn:n=xs.length):aa6 (w.alloc (.cells ((xs.map I64).toArray++zs) t)) (.slice (some ⟨g,0,none⟩) n c) xs:=by
 subst hg hn
 refine⟨_,c,rfl,fun j hj=>⟨_,rfl,by simp,?_⟩⟩
 have e:(⟨w.heap.size,0,none⟩:Addr).add j=⟨w.heap.size,j,none⟩:=by
  simp only[Addr.add]
  split
  ·next h=>subst h;rfl
  ·simp
 rw[e,World.cell?_alloc_new]
 rw[Array.getElem?_append_left (by simpa using hj)]
 simp[hj,I64]
def aj2 (a b c:Int):List Int:=if c = -1 then [a,b] else [a,b,c]
theorem aU5 (a b c:Int) (w:World) :
  Calls Tryz.prog 170 #[.agg #[.int .i64 a,.int .i64 b,.int .i64 c]] w fun e w'=>∃ v,e=.returned v∧aw8 w' ⟨12,0,ByteArray.empty,ByteArray.empty,ByteArray.empty,aj2 a b c⟩ v∧Below w.heap.size w w':=by
 by_cases hc:c = -1
 ·have HK:Hid (aj2 a b c=[a,b]):=if_pos hc
  rw[HK.out]
  subst hc
  go_enter Tryz.func170,Tryz.ntmps170
  go_wp2
  go_returns
  exact⟨_,rfl,⟨_,rfl,aa6.made (by simp) [a,b] 3 2 2 rfl⟩,by go_grown⟩
 ·have HK:Hid (aj2 a b c=[a,b,c]):=if_neg hc
  rw[HK.out]
  go_enter Tryz.func170,Tryz.ntmps170
  go_wp2
  go_returns
  exact⟨_,rfl,⟨_,rfl,(aa6.more (by simp) [a,b,c] _ 3 3 _ rfl).stays (Below.refl _ _).drew⟩,by go_grown⟩
theorem aG8 (v:Value) (ks:List Int) (w:World) (hK:aa6 w v ks) (hl:ks.length≤1048576) :
  Calls Tryz.prog 162 #[.agg #[v]] w fun e w'=>∃ v,e=.returned v∧aw8 w' ⟨20,0,ByteArray.empty,ByteArray.empty,ByteArray.empty,ks⟩ v∧Below w.heap.size w w':=by
 have C:=fun w h=>qb (bg9 v ks w h hl)
 have HP:Hid (Box ((w.alloc (.cells #[v] 132)).alloc (.cells #[.int .i64 0,.int .i64 0,.string ⟨#[]⟩,.string ⟨#[]⟩,.string ⟨#[]⟩,.slice none 0 0] 74)) (w.heap.size+1) #[.int .i64 0,.int .i64 0,.string ⟨#[]⟩,.string ⟨#[]⟩,.string ⟨#[]⟩,.slice none 0 0] 74):=Box.madeAt (by simp) _ _
 have HK:Hid (aa6 ((w.alloc (.cells #[v] 132)).alloc (.cells #[.int .i64 0,.int .i64 0,.string ⟨#[]⟩,.string ⟨#[]⟩,.string ⟨#[]⟩,.slice none 0 0] 74)) v ks):=(hK.stays (bal _ _)).stays (bal _ _)
 have HB0:Hid (Below w.heap.size w ((w.alloc (.cells #[v] 132)).alloc (.cells #[.int .i64 0,.int .i64 0,.string ⟨#[]⟩,.string ⟨#[]⟩,.string ⟨#[]⟩,.slice none 0 0] 74))):=by show Below _ _ _;go_grown
 obtain⟨ao,c,rfl,_⟩:=hK
 clear hl
 go_enter Tryz.func162,Tryz.ntmps162
 go_wp2_with (go_at_call 163;refine(qa (C _ HK.out)).mono ?_;rintro e w2⟨v2,rfl,hv2,hb2⟩;have HB:=qb (HB0.out.trans (hb2.mono HB0.out.size));have HW:=qb hv2;obtain⟨o2,c2,rfl,hr2,hc2⟩:=hv2;rw[List.length_map]at HW;have hlm:(ks.map I64).length=ks.length:=List.length_map ..;have hp:=HP.out.stays hb2;have HQ:=qb hp;have f0:=chp hp 0;have f1:=chp hp 1;have f2:=chp hp 2;have f3:=chp hp 3;have f4:=chp hp 4;have f5:=chp hp 5;have z0:=fhp hp 0;have z1:=fhp hp 1;have z2:=fhp hp 2;have z3:=fhp hp 3;have z4:=fhp hp 4;have z5:=fhp hp 5;simp at f0 f1 f2 f3 f4 f5;clear hb2 hc2 hp hr2)
 refine an9 (g:=w.heap.size+1) (cs:=#[.int .i64 20,.int .i64 0,.string ⟨#[]⟩,.string ⟨#[]⟩,.string ⟨#[]⟩,.slice o2 ks.length c2]) rfl rfl (by simpa using (((((HQ.out.set 0 _).set 1 _).set 2 _).set 3 _).set 4 _).set 5 _) _ Tryz.underlying74 rfl (by kernel_rfl) rfl ?_
 refine⟨_,rfl,⟨_,rfl,?_⟩,?_⟩
 ·refine ax6.at (base:=w.heap.size+2) ?_
  iterate 6 refine ai5.kept ?_ (am8.setCell (by omega) _ _ _)
  have:=HW.out.mono (base':=w.heap.size+2) (by simp)
  simpa using this
 ·exact(((((HB.out.setCell (by simp) _).setCell (by simp) _).setCell (by simp) _).setCell (by simp) _).setCell (by simp) _).setCell (by simp) _
def aw7 (base:Nat) (w:World) (x:Nd) (v:Value):Prop:=∃ ko kc,v=.agg #[.int .i64 x.kind,.int .i64 x.num,.string x.name,.string x.more,.string x.into,.slice ko x.kids.length kc]∧w.ownsRow base 3 1 (.slice ko x.kids.length kc) x.kids.length (x.kids.map I64)
theorem am_ {w:World}{base g:Nat}(hg:g=w.heap.size) (hb:base≤w.heap.size) (xs:List Int) (n:Nat) (hn:n=xs.length) (hm:n≤1000):(w.alloc (.cells (xs.map I64).toArray 3)).ownsRow base 3 1 (.slice (some ⟨g,0,none⟩) n n) xs.length (xs.map I64):=by
 subst hg hn
 refine⟨by simp,.inr ⟨w.heap.size,xs.length,_,rfl,hb,heap_alloc_new w _,nlr _,by unfold maxLen;omega,by simp,?_⟩⟩
 rw[Nat.mul_one]
 show List.take xs.length (xs.map I64)=_
 exact List.take_of_length_le (by simp)
theorem bh_ (v:Value) (ks:List Int) (w:World) (hK:aa6 w v ks) (hl:ks.length≤1048576) :
  Calls Tryz.prog 163 #[v] w fun e w'=>∃ v',e=.returned v'∧w'.ownsRow w.heap.size 3 1 v' ks.length (ks.map I64)∧Below w.heap.size w w':=by
 obtain⟨ao,c,rfl,hc⟩:=hK
 cases ao with
 | none =>
  have h0:ks=[]:=by
   rcases ks with _|⟨x,ks⟩
   ·rfl
   ·obtain⟨a,ha,_⟩:=hc 0 (by simp)
    simp at ha
  subst h0
  clear hc hl
  have hnil:=fun w:World=>Lib.run_eql_slice_nil (P:=Tryz.prog) w 70 3 none 0 c 0 0 Tryz.underlying70
  go_enter Tryz.func163,Tryz.ntmps163
  go_wp2
  go_returns
  exact⟨_,rfl,World.ownsRow_nil _ _ _ _,Below.refl _ _⟩
 | some a =>
  have HO:=qb (ak2 w w.heap.size 3 (nlr _))
  have HC:Hid (∀ j u,(ks.map I64)[j]? = some u→(w.alloc (.cells #[] 3)).cell? (a.add j)=some u):=by
   intro j u hj
   rw[List.getElem?_map]at hj
   obtain⟨x,hx,rfl⟩:=Option.map_eq_some_iff.1 hj
   obtain⟨hj2,rfl⟩:=List.getElem?_eq_some_iff.1 hx
   obtain⟨a',ha,hb,hcell⟩:=hc j hj2
   cases ha
   rw[World.cell?_alloc_lt _ _ _ (by rw[af_];exact hb)]
   exact hcell
  have HL:Hid ((ks.map I64).length=ks.length):=List.length_map ..
  clear hc
  obtain⟨n,hn⟩:∃ n,ks.length=n:=⟨_,rfl⟩
  rw[hn]at HL hl ⊢
  clear hn
  have b1:Hid (0+n≤maxLen):=by show _≤_;unfold maxLen;omega
  have b2:Hid ((0+n)*8≤140737488355328):=by show _≤_;omega
  clear hl
  have hnil:=fun w:World=>Lib.run_eql_slice_nil (P:=Tryz.prog) w 70 3 (some a) n c 0 0 Tryz.underlying70
  go_enter Tryz.func163,Tryz.ntmps163
  go_wp2_with (at_builtin;refine ax5 rfl (.tmp 5) (.tmp 6) 70 rfl w.heap.size 3 (.int .i64 0) 8 Tryz.underlying70 Tryz.infoInt rfl _ _ _ rfl HO.out _ _ _ (ks.map I64) rfl HL.out HC.out (by intro u hu;obtain⟨x,_,rfl⟩:=List.mem_map.1 hu;rfl) b1.out b2.out (by simp) ?_)
  intro v' w4 hown4 hb4
  have R:Hid (w4.ownsRow w.heap.size 3 1 v' n (ks.map I64)):=by simpa [Hid] using hown4
  have HB:Hid (Below w.heap.size w w4):=((Below.refl w.heap.size w).alloc (nlr _) _).trans hb4
  clear hown4 hb4
  go_wp2
  go_returns
  exact⟨_,rfl,R.out,HB.out⟩
theorem aR2 {z:World}{base b:Nat}{v:Value}{n:Nat}{xs:List Value}(h:z.ownsRow base 3 1 v n xs) (hb:b<base) (u0 u1 u2 u3 u4 u5:Value):((((((z.setCell ⟨b,0,none⟩ u0).setCell ⟨b,1,none⟩ u1).setCell ⟨b,2,none⟩ u2).setCell ⟨b,3,none⟩ u3).setCell ⟨b,4,none⟩ u4).setCell ⟨b,5,none⟩ u5).ownsRow base 3 1 v n xs:=by
 have hv:v.ownBlock≠some b:=fun e=>by have:=(h.lt b e).1;omega
 exact ap9 (ap9 (ap9 (ap9 (ap9 (ap9 h hv 0 u0) hv 1 u1) hv 2 u2) hv 3 u3) hv 4 u4) hv 5 u5
theorem aW8 (nu:Int) (w:World) :
  Calls Tryz.prog 164 #[.agg #[.int .i64 nu]] w fun e w'=>∃ v,e=.returned v∧aw7 w.heap.size w' ⟨1,nu,ByteArray.empty,ByteArray.empty,ByteArray.empty,[]⟩ v∧Below w.heap.size w w':=by
 go_enter Tryz.func164,Tryz.ntmps164
 go_wp2
 (try (go_region;go_wp2))
 go_returns
 exact⟨_,rfl,⟨_,_,rfl,World.ownsRow_nil _ _ _ _⟩,by go_grown⟩
theorem aY7 (nm:ByteArray) (w:World) :
  Calls Tryz.prog 165 #[.agg #[.string nm]] w fun e w'=>∃ v,e=.returned v∧aw7 w.heap.size w' ⟨2,0,nm,ByteArray.empty,ByteArray.empty,[]⟩ v∧Below w.heap.size w w':=by
 go_enter Tryz.func165,Tryz.ntmps165
 go_wp2
 (try (go_region;go_wp2))
 go_returns
 exact⟨_,rfl,⟨_,_,rfl,World.ownsRow_nil _ _ _ _⟩,by go_grown⟩
theorem aN8 (nu a b:Int) (w:World) :
  Calls Tryz.prog 166 #[.agg #[.int .i64 nu,.int .i64 a,.int .i64 b]] w fun e w'=>∃ v,e=.returned v∧aw7 w.heap.size w' ⟨3,nu,ByteArray.empty,ByteArray.empty,ByteArray.empty,[a,b]⟩ v∧Below w.heap.size w w':=by
 go_enter Tryz.func166,Tryz.ntmps166
 go_wp2
 (try (go_region;go_wp2))
 go_returns
 exact⟨_,rfl,⟨_,_,rfl,am_ (by simp) (by simp;omega) [a,b] 2 rfl (by decide)⟩,by go_grown⟩
theorem aW7 (a:Int) (w:World) :
  Calls Tryz.prog 167 #[.agg #[.int .i64 a]] w fun e w'=>∃ v,e=.returned v∧aw7 w.heap.size w' ⟨4,0,ByteArray.empty,ByteArray.empty,ByteArray.empty,[a]⟩ v∧Below w.heap.size w w':=by
 go_enter Tryz.func167,Tryz.ntmps167
 go_wp2
 (try (go_region;go_wp2))
 go_returns
 exact⟨_,rfl,⟨_,_,rfl,am_ (by simp) (by simp;omega) [a] 1 rfl (by decide)⟩,by go_grown⟩
theorem aV6 (a:Int) (w:World) :
  Calls Tryz.prog 168 #[.agg #[.int .i64 a]] w fun e w'=>∃ v,e=.returned v∧aw7 w.heap.size w' ⟨5,0,ByteArray.empty,ByteArray.empty,ByteArray.empty,[a]⟩ v∧Below w.heap.size w w':=by
 go_enter Tryz.func168,Tryz.ntmps168
 go_wp2
 (try (go_region;go_wp2))
 go_returns
 exact⟨_,rfl,⟨_,_,rfl,am_ (by simp) (by simp;omega) [a] 1 rfl (by decide)⟩,by go_grown⟩
theorem aX8 (nm:ByteArray) (a:Int) (w:World) :
  Calls Tryz.prog 169 #[.agg #[.string nm,.int .i64 a]] w fun e w'=>∃ v,e=.returned v∧aw7 w.heap.size w' ⟨11,0,nm,ByteArray.empty,ByteArray.empty,[a]⟩ v∧Below w.heap.size w w':=by
 go_enter Tryz.func169,Tryz.ntmps169
 go_wp2
 (try (go_region;go_wp2))
 go_returns
 exact⟨_,rfl,⟨_,_,rfl,am_ (by simp) (by simp;omega) [a] 1 rfl (by decide)⟩,by go_grown⟩
theorem aM8 (a b:Int) (w:World) :
  Calls Tryz.prog 171 #[.agg #[.int .i64 a,.int .i64 b]] w fun e w'=>∃ v,e=.returned v∧aw7 w.heap.size w' ⟨13,0,ByteArray.empty,ByteArray.empty,ByteArray.empty,[a,b]⟩ v∧Below w.heap.size w w':=by
 go_enter Tryz.func171,Tryz.ntmps171
 go_wp2
 (try (go_region;go_wp2))
 go_returns
 exact⟨_,rfl,⟨_,_,rfl,am_ (by simp) (by simp;omega) [a,b] 2 rfl (by decide)⟩,by go_grown⟩
theorem aN9 (nm mo it:ByteArray) (a:Int) (w:World) :
  Calls Tryz.prog 172 #[.agg #[.string nm,.string mo,.string it,.int .i64 a]] w fun e w'=>∃ v,e=.returned v∧aw7 w.heap.size w' ⟨14,0,nm,mo,it,[a]⟩ v∧Below w.heap.size w w':=by
 go_enter Tryz.func172,Tryz.ntmps172
 go_wp2
 (try (go_region;go_wp2))
 go_returns
 exact⟨_,rfl,⟨_,_,rfl,am_ (by simp) (by simp;omega) [a] 1 rfl (by decide)⟩,by go_grown⟩
theorem aM_ (a:Int) (w:World) :
  Calls Tryz.prog 173 #[.agg #[.int .i64 a]] w fun e w'=>∃ v,e=.returned v∧aw7 w.heap.size w' ⟨15,0,ByteArray.empty,ByteArray.empty,ByteArray.empty,[a]⟩ v∧Below w.heap.size w w':=by
 go_enter Tryz.func173,Tryz.ntmps173
 go_wp2
 (try (go_region;go_wp2))
 go_returns
 exact⟨_,rfl,⟨_,_,rfl,am_ (by simp) (by simp;omega) [a] 1 rfl (by decide)⟩,by go_grown⟩
theorem aR5 (nm:ByteArray) (w:World) :
  Calls Tryz.prog 174 #[.agg #[.string nm]] w fun e w'=>∃ v,e=.returned v∧aw7 w.heap.size w' ⟨16,0,nm,ByteArray.empty,ByteArray.empty,[]⟩ v∧Below w.heap.size w w':=by
 go_enter Tryz.func174,Tryz.ntmps174
 go_wp2
 (try (go_region;go_wp2))
 go_returns
 exact⟨_,rfl,⟨_,_,rfl,World.ownsRow_nil _ _ _ _⟩,by go_grown⟩
theorem aK3 (nm:ByteArray) (w:World) :
  Calls Tryz.prog 175 #[.agg #[.string nm]] w fun e w'=>∃ v,e=.returned v∧aw7 w.heap.size w' ⟨17,0,nm,ByteArray.empty,ByteArray.empty,[]⟩ v∧Below w.heap.size w w':=by
 go_enter Tryz.func175,Tryz.ntmps175
 go_wp2
 (try (go_region;go_wp2))
 go_returns
 exact⟨_,rfl,⟨_,_,rfl,World.ownsRow_nil _ _ _ _⟩,by go_grown⟩
theorem aO_ (nm:ByteArray) (w:World) :
  Calls Tryz.prog 176 #[.agg #[.string nm]] w fun e w'=>∃ v,e=.returned v∧aw7 w.heap.size w' ⟨18,0,nm,ByteArray.empty,ByteArray.empty,[]⟩ v∧Below w.heap.size w w':=by
 go_enter Tryz.func176,Tryz.ntmps176
 go_wp2
 (try (go_region;go_wp2))
 go_returns
 exact⟨_,rfl,⟨_,_,rfl,World.ownsRow_nil _ _ _ _⟩,by go_grown⟩
theorem aS2 (w:World) :
  Calls Tryz.prog 177 #[.agg #[]] w fun e w'=>∃ v,e=.returned v∧aw7 w.heap.size w' ⟨19,0,ByteArray.empty,ByteArray.empty,ByteArray.empty,[]⟩ v∧Below w.heap.size w w':=by
 go_enter Tryz.func177,Tryz.ntmps177
 go_wp2
 (try (go_region;go_wp2))
 go_returns
 exact⟨_,rfl,⟨_,_,rfl,World.ownsRow_nil _ _ _ _⟩,by go_grown⟩
theorem bd_ (a b c:Int) (w:World) :
  Calls Tryz.prog 170 #[.agg #[.int .i64 a,.int .i64 b,.int .i64 c]] w fun e w'=>∃ v,e=.returned v∧aw7 w.heap.size w' ⟨12,0,ByteArray.empty,ByteArray.empty,ByteArray.empty,aj2 a b c⟩ v∧Below w.heap.size w w':=by
 by_cases hc:c = -1
 ·have HK:Hid (aj2 a b c=[a,b]):=if_pos hc
  rw[HK.out]
  subst hc
  go_enter Tryz.func170,Tryz.ntmps170
  go_wp2
  go_returns
  exact⟨_,rfl,⟨_,_,rfl,am_ (by simp) (by simp;omega) [a,b] 2 rfl (by decide)⟩,by go_grown⟩
 ·have HK:Hid (aj2 a b c=[a,b,c]):=if_neg hc
  rw[HK.out]
  go_enter Tryz.func170,Tryz.ntmps170
  have HO:Hid (World.ownsRow ((((w.alloc (.cells #[.int .i64 a,.int .i64 b,.int .i64 c] 145)).alloc (.cells #[.int .i64 0,.int .i64 0,.string ⟨#[]⟩,.string ⟨#[]⟩,.string ⟨#[]⟩,.slice none 0 0] 74)).alloc (.cells #[.int .i64 a,.int .i64 b] 3)).alloc (.cells #[.int .i64 c] 3)) (w.heap.size+2) 3 1 (.slice (some ⟨w.heap.size+1+1,0,none⟩) 2 2) 2 ([a,b].map I64)):=(am_ (by simp) (by simp) [a,b] 2 rfl (by decide)).alloc _
  have HP:Hid (Box ((((w.alloc (.cells #[.int .i64 a,.int .i64 b,.int .i64 c] 145)).alloc (.cells #[.int .i64 0,.int .i64 0,.string ⟨#[]⟩,.string ⟨#[]⟩,.string ⟨#[]⟩,.slice none 0 0] 74)).alloc (.cells #[.int .i64 a,.int .i64 b] 3)).alloc (.cells #[.int .i64 c] 3)) (w.heap.size+1) #[.int .i64 0,.int .i64 0,.string ⟨#[]⟩,.string ⟨#[]⟩,.string ⟨#[]⟩,.slice none 0 0] 74) :=
   ((Box.madeAt (by simp) _ _).stays (bal _ _)).stays (bal _ _)
  have HB:Hid (Below w.heap.size w ((((w.alloc (.cells #[.int .i64 a,.int .i64 b,.int .i64 c] 145)).alloc (.cells #[.int .i64 0,.int .i64 0,.string ⟨#[]⟩,.string ⟨#[]⟩,.string ⟨#[]⟩,.slice none 0 0] 74)).alloc (.cells #[.int .i64 a,.int .i64 b] 3)).alloc (.cells #[.int .i64 c] 3))):=by show Below _ _ _;go_grown
  have HN:Hid (∀ j u,[Value.int .i64 c][j]? = some u→World.cell? ((((w.alloc (.cells #[.int .i64 a,.int .i64 b,.int .i64 c] 145)).alloc (.cells #[.int .i64 0,.int .i64 0,.string ⟨#[]⟩,.string ⟨#[]⟩,.string ⟨#[]⟩,.slice none 0 0] 74)).alloc (.cells #[.int .i64 a,.int .i64 b] 3)).alloc (.cells #[.int .i64 c] 3)) ((⟨w.heap.size+1+1+1,0,none⟩:Addr).add j)=some u):=fun j u hj=>by
   have:=ag4 (((w.alloc (.cells #[.int .i64 a,.int .i64 b,.int .i64 c] 145)).alloc (.cells #[.int .i64 0,.int .i64 0,.string ⟨#[]⟩,.string ⟨#[]⟩,.string ⟨#[]⟩,.slice none 0 0] 74)).alloc (.cells #[.int .i64 a,.int .i64 b] 3)) #[.int .i64 c] 3 j u hj
   simpa using this
  go_wp2_with (at_builtin;refine ax5 rfl (.tmp 12) (.tmp 15) 70 rfl (w.heap.size+2) 3 (.int .i64 0) 8 Tryz.underlying70 Tryz.infoInt rfl (.slice (some ⟨w.heap.size+1+1,0,none⟩) 2 2) 2 ([a,b].map I64) rfl HO.out ⟨w.heap.size+1+1+1,0,none⟩ 1 1 [.int .i64 c] rfl rfl HN.out (by simp[Value.oneCell']) (by unfold maxLen;omega) (by omega) (by simp <;> omega) ?_;intro v2 w2 hown hb2;have sh:=ab_ hown;obtain⟨o2,c2,e2⟩:=sh;subst e2;have OW:=qb hown;have hp:Box w2 (w.heap.size+1) #[.int .i64 0,.int .i64 0,.string ⟨#[]⟩,.string ⟨#[]⟩,.string ⟨#[]⟩,.slice none 0 0] 74:=(hb2.block _ (by omega)).trans HP.out;have HB2:=qb (HB.out.trans (hb2.mono (by omega)));have HQ:=qb hp;have f0:=chp hp 0;have f1:=chp hp 1;have f2:=chp hp 2;have f3:=chp hp 3;have f4:=chp hp 4;have f5:=chp hp 5;have g0:=fhp hp 0;have g1:=fhp hp 1;have g2:=fhp hp 2;have g3:=fhp hp 3;have g4:=fhp hp 4;have g5:=fhp hp 5;simp at f0 f1 f2 f3 f4 f5;clear hown hb2 hp)
  (
 refine an9 (g:=w.heap.size+1) (t:=74) (cs:=#[.int .i64 12,.int .i64 0,.string ⟨#[]⟩,.string ⟨#[]⟩,.string ⟨#[]⟩,(.slice o2 3 c2)]) rfl rfl (by simpa using (((((HQ.out.set 0 (.int .i64 12)).set 1 (.int .i64 0)).set 2 (.string ⟨#[]⟩)).set 3 (.string ⟨#[]⟩)).set 4 (.string ⟨#[]⟩)).set 5 (.slice o2 3 c2)) _ Tryz.underlying74 rfl (by kernel_rfl) rfl ?_;
 exact⟨_,rfl,⟨o2,c2,rfl,ad1 (aR2 OW.out (by omega) _ _ _ _ _ _) (by omega)⟩,(((((HB2.out.setCell (p:=⟨w.heap.size+1,0,none⟩) (by simp) _).setCell (p:=⟨w.heap.size+1,1,none⟩) (by simp) _).setCell (p:=⟨w.heap.size+1,2,none⟩) (by simp) _).setCell (p:=⟨w.heap.size+1,3,none⟩) (by simp) _).setCell (p:=⟨w.heap.size+1,4,none⟩) (by simp) _).setCell (p:=⟨w.heap.size+1,5,none⟩) (by simp) _⟩)
theorem aK_ (v:Value) (ks:List Int) (w:World) (hK:aa6 w v ks) (hl:ks.length≤1048576) :
  Calls Tryz.prog 162 #[.agg #[v]] w fun e w'=>∃ v,e=.returned v∧aw7 w.heap.size w' ⟨20,0,ByteArray.empty,ByteArray.empty,ByteArray.empty,ks⟩ v∧Below w.heap.size w w':=by
 have C:=fun w h=>qb (bh_ v ks w h hl)
 have HP:Hid (Box ((w.alloc (.cells #[v] 132)).alloc (.cells #[.int .i64 0,.int .i64 0,.string ⟨#[]⟩,.string ⟨#[]⟩,.string ⟨#[]⟩,.slice none 0 0] 74)) (w.heap.size+1) #[.int .i64 0,.int .i64 0,.string ⟨#[]⟩,.string ⟨#[]⟩,.string ⟨#[]⟩,.slice none 0 0] 74):=Box.madeAt (by simp) _ _
 have HK:Hid (aa6 ((w.alloc (.cells #[v] 132)).alloc (.cells #[.int .i64 0,.int .i64 0,.string ⟨#[]⟩,.string ⟨#[]⟩,.string ⟨#[]⟩,.slice none 0 0] 74)) v ks):=(hK.stays (bal _ _)).stays (bal _ _)
 have HB0:Hid (Below w.heap.size w ((w.alloc (.cells #[v] 132)).alloc (.cells #[.int .i64 0,.int .i64 0,.string ⟨#[]⟩,.string ⟨#[]⟩,.string ⟨#[]⟩,.slice none 0 0] 74))):=by show Below _ _ _;go_grown
 obtain⟨ao,c,rfl,_⟩:=hK
 clear hl
 go_enter Tryz.func162,Tryz.ntmps162
 go_wp2_with (go_at_call 163;refine(qa (C _ HK.out)).mono ?_;rintro e w2⟨v2,rfl,hv2,hb2⟩;have HB2:=qb (HB0.out.trans (hb2.mono HB0.out.size));have OW:=qb (ad1 (base':=w.heap.size+2) hv2 (by simp));have sh:=ab_ hv2;obtain⟨o2,c2,e2⟩:=sh;subst e2;have hp:=HP.out.stays hb2;have HQ:=qb hp;have f0:=chp hp 0;have f1:=chp hp 1;have f2:=chp hp 2;have f3:=chp hp 3;have f4:=chp hp 4;have f5:=chp hp 5;have g0:=fhp hp 0;have g1:=fhp hp 1;have g2:=fhp hp 2;have g3:=fhp hp 3;have g4:=fhp hp 4;have g5:=fhp hp 5;simp at f0 f1 f2 f3 f4 f5;clear hv2 hb2 hp)
 (
 refine an9 (g:=w.heap.size+1) (t:=74) (cs:=#[.int .i64 20,.int .i64 0,.string ⟨#[]⟩,.string ⟨#[]⟩,.string ⟨#[]⟩,(.slice o2 ks.length c2)]) rfl rfl (by simpa using (((((HQ.out.set 0 (.int .i64 20)).set 1 (.int .i64 0)).set 2 (.string ⟨#[]⟩)).set 3 (.string ⟨#[]⟩)).set 4 (.string ⟨#[]⟩)).set 5 (.slice o2 ks.length c2)) _ Tryz.underlying74 rfl (by kernel_rfl) rfl ?_;
 exact⟨_,rfl,⟨o2,c2,rfl,ad1 (aR2 OW.out (by omega) _ _ _ _ _ _) (by omega)⟩,(((((HB2.out.setCell (p:=⟨w.heap.size+1,0,none⟩) (by simp) _).setCell (p:=⟨w.heap.size+1,1,none⟩) (by simp) _).setCell (p:=⟨w.heap.size+1,2,none⟩) (by simp) _).setCell (p:=⟨w.heap.size+1,3,none⟩) (by simp) _).setCell (p:=⟨w.heap.size+1,4,none⟩) (by simp) _).setCell (p:=⟨w.heap.size+1,5,none⟩) (by simp) _⟩)
theorem Rd.put_ok {s:Rd}(hb:s.bad=false) (x:Nd):s.put x=({ s with nodes:=s.nodes++[x] },(s.nodes.length:Int)):=by unfold Rd.put;rw[hb];rfl
theorem IAt.put {L:Nat→Prop}{B g:Nat}{sz:Int}{l:List Sg}{lv nv v' kv:Value}{s:Rd}{x:Nd}{css:List (List Value)}{w W W1 W2:World}(E:IEnd L B g sz l lv s w W)
  (hbox:Box W g #[lv,.int .i64 (s.pos:Int),.int .i64 sz,nv] 52) (n1:css.length=s.nodes.length) (n2:∀ c∈css,c.length=6) (n3:W.ownsRow B 74 6 nv s.nodes.length css.flatten)
  (n4:∀ (j:Nat) (cs:List Value) (x:Nd),css[j]? = some cs→s.nodes[j]? = some x→INode L B W cs x) (n5:∀ b,nv.ownBlock=some b→¬ L b) (n6:ax7 css) (hg:s.Good 1)
  (hk:W1.ownsRow W.heap.size 3 1 kv x.kids.length (x.kids.map I64)) (hb1:Below W.heap.size W W1)
  (hown:W2.ownsRow B 74 6 v' (s.nodes.length+1) (css.flatten++[.int .i64 x.kind,.int .i64 x.num,.string x.name,.string x.more,.string x.into,kv]))
  (hb2:Below B W1 W2) (hgr:∀ b,b<W1.heap.size→some b≠nv.ownBlock→W2.heap[b]? = W1.heap[b]?) (hob:v'.ownBlock=nv.ownBlock∨∀ b,v'.ownBlock=some b→W1.heap.size≤b) :
  IEnd L B g sz l lv (s.put x).1 w (W2.setCell ⟨g,3,none⟩ v'):=by
 obtain⟨⟨_,h3,h4,h5,h6,h7,h8,h9,h10⟩,hkp,hbl,hh⟩:=E
 have hgW:g<W.heap.size:=hbox.lt
 have hs1:=hb1.size
 have hs2:=hb2.size
 have hgn:some g≠nv.ownBlock:=fun e=>al1 n3 hbox (by decide) e.symm
 have hgv:v'.ownBlock≠some g:=fun e=>by
  rcases hob with e2|e2
  ·exact hgn (e.symm.trans e2)
  ·have:=e2 g e;omega
 have st1:∀ c,c<W1.heap.size→c≠g→some c≠nv.ownBlock→(W2.setCell ⟨g,3,none⟩ v').heap[c]? = W1.heap[c]? := fun c hc hne hn=>(Below.heap_setCell W2 ⟨g,3,none⟩ v' c hne).trans (hgr c hc hn)
 have st:∀ c,c<W.heap.size→c≠g→some c≠nv.ownBlock→(W2.setCell ⟨g,3,none⟩ v').heap[c]? = W.heap[c]? := fun c hc hne hn=>(st1 c (by omega) hne hn).trans (hb1.block c hc)
 have ty:∀ {c:Nat}{cs:Array Value}{T:Nat}{fr:Nat×Nat},W.heap[c]? = some (Obj.cells cs T fr)→T≠52→T≠74→(W2.setCell ⟨g,3,none⟩ v').heap[c]? = W.heap[c]? := fun {c cs T fr} e t1 t2 =>
  st c (ag7 e) (fun e2=>by
   subst e2
   have h9:W.heap[c]? = some (.cells _ 52 (0,0)):=hbox
   rw[e]at h9
   injection h9 with h9
   injection h9 with _ h9 _
   exact t1 h9) (fun e2=>al1 n3 e (Ne.symm t2) e2.symm)
 have hput:(s.put x).1 = { s with nodes:=s.nodes++[x] }:=by rw[Rd.put_ok h9]
 rw[hput]
 refine⟨⟨⟨v',?_,css++[[.int .i64 x.kind,.int .i64 x.num,.string x.name,.string x.more,.string x.into,kv]],by simp[n1],fun c hc=>?_,?_,fun j cs y hj hy=>?_,fun b hb hLb=>?_,fun i j a b hij ha hb k hak hbk=>?_⟩,aj7 h3 (fun c cs fr _ e=>ty e (by decide) (by decide)),h4,h5,?_,fun b hb=>?_,h8,h9,h10⟩,⟨?_,fun b cs T fr t1 t2 e=>?_⟩,?_,fun b hb=>?_⟩
 ·have e1:W2.heap[g]? = W.heap[g]? := (hgr g (by omega) hgn).trans (hb1.block g hgW)
  have e2:Box W2 g #[lv,.int .i64 (s.pos:Int),.int .i64 sz,nv] 52:=e1.trans hbox
  have:=e2.set 3 v'
  simpa using this
 ·rcases List.mem_append.1 hc with hc|hc
  ·exact n2 c hc
  ·rw[List.mem_singleton.1 hc];rfl
 ·have:=ap9 hown hgv 3 v'
  simpa using this
 ·by_cases hlt:j<css.length
  ·rw[List.getElem?_append_left hlt]at hj
   rw[List.getElem?_append_left (by omega)]at hy
   obtain⟨kv',e,a1,a2⟩:=n4 j cs y hj hy
   exact⟨kv',e,aj7 a1 (fun c cs fr _ e=>ty e (by decide) (by decide)),a2⟩
  ·have hlt2:j<(css++[[Value.int .i64 x.kind,.int .i64 x.num,.string x.name,.string x.more,.string x.into,kv]]).length:=(List.getElem?_eq_some_iff.1 hj).1
   have hj0:j=css.length:=by simp at hlt2;omega
   subst hj0
   rw[List.getElem?_append_right (nlr _)]at hj
   rw[n1,List.getElem?_append_right (nlr _)]at hy
   simp at hj hy
   subst hj hy
   refine⟨kv,rfl,ad1 (aj7 hk fun c cs fr hv e=>st1 c (ag7 e) (fun e2=>?_) (fun e2=>?_)) (nlt h4 (Nat.le_of_lt hgW)),fun b hb hLb=>?_⟩
   ·have:=(hk.lt c hv).1;omega
   ·have h1:=(hk.lt c hv).1;have h2:=(n3.lt c e2.symm).2;omega
   ·have h1:=(hk.lt b hb).1;have h2:=h7 b hLb;omega
 ·rcases hob with e2|e2
  ·exact n5 b (e2.symm.trans hb) hLb
  ·have h1:=e2 b hb;have h2:=h7 b hLb;omega
 ·have old:∀ (i:Nat) (a:List Value),css[i]? = some a→∀ k,(a.getD 5 undef).ownBlock=some k→k<W.heap.size:=fun i a hi k hk2=>by
   have hil:i<s.nodes.length:=by rw[←n1];exact(List.getElem?_eq_some_iff.1 hi).1
   obtain⟨kv',e,a1,a2⟩:=n4 i a _ hi (List.getElem?_eq_getElem hil)
   subst e
   exact(a1.lt k hk2).2
  have hjl:j<(css++[[Value.int .i64 x.kind,.int .i64 x.num,.string x.name,.string x.more,.string x.into,kv]]).length:=(List.getElem?_eq_some_iff.1 hb).1
  have hil:i<css.length:=by simp at hjl;omega
  rw[List.getElem?_append_left hil]at ha
  by_cases hlt:j<css.length
  ·rw[List.getElem?_append_left hlt]at hb
   exact n6 i j a b hij ha hb k hak hbk
  ·have hj0:j=css.length:=by simp at hjl;omega
   subst hj0
   rw[List.getElem?_append_right (nlr _)]at hb
   simp at hb
   subst hb
   have h1:=old i a ha k hak
   have h2:=(hk.lt k hbk).1
   omega
 ·unfold Rd.Good at hg ⊢
  simp
  omega
 ·have:=h7 b hb
  simp[World.setCell]
  omega
 ·have:=hkp.size
  simp[World.setCell]
  omega
 ·have e1:=hkp.blk b cs T fr t1 t2 e
  exact(ty e1 t2 t1).trans e1
 ·exact((hbl.trans (hb1.mono (nlt h4 (Nat.le_of_lt hgW)))).trans hb2).setCell (p:=⟨g,3,none⟩) h4 v'
 ·exact(st b (h7 b hb) (fun e=>h8 (e▸hb)) (fun e=>n5 b e.symm hb)).trans (hh b hb)
end Go.Proofs.YtcpapceeekkacaaGreatDoor
