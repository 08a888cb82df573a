import Derived.Test.YtcpapceeekkacaaGreatDoorImpJ
import Derived.Test.YtcpapceeekkacaaGreatDoorTreeV
set_option maxRecDepth 100000
set_option maxHeartbeats 8000000
namespace Go.Proofs.YtcpapceeekkacaaGreatDoor
open Go.RowKit
structure NB (w:World) (nv mv pv:Value) (ns:List Nd) (B:Nat) (x:Nd) (kv:Value) (z:World):Prop where
 b0:Box z w.heap.size #[nv,mv,pv] 26
 b1:Box z B #[.int .i64 x.kind,.int .i64 x.num,.string x.name,.string x.more,.string x.into,kv] 74
 bel:Below w.heap.size w z
 nds:af7 z nv ns
 kids:aa6 z kv x.kids
theorem NB.stays {w:World}{nv mv pv:Value}{ns:List Nd}{B:Nat}{x:Nd}{kv:Value}{z z':World}(h:NB w nv mv pv ns B x kv z) (hb:Below z.heap.size z z'):NB w nv mv pv ns B x kv z' :=
 ⟨h.b0.stays hb,h.b1.stays hb,h.bel.trans (hb.mono h.bel.size),h.nds.stays hb,h.kids.stays hb⟩
abbrev NBS (w:World) (nv mv pv:Value) (ns:List Nd) (B:Nat) (x:Nd) (kv:Value) (z:World):Prop :=
 z.cell? ⟨B,0,none⟩=some (.int .i64 x.kind)∧z.cell? ⟨B,1,none⟩=some (.int .i64 x.num)∧z.cell? ⟨B,2,none⟩=some (.string x.name)∧z.cell? ⟨B,3,none⟩=some (.string x.more)∧z.cell? ⟨B,4,none⟩=some (.string x.into)∧z.cell? ⟨B,5,none⟩=some kv
  ∧ Hid (NB w nv mv pv ns B x kv z)
theorem NB.spread {w:World}{nv mv pv:Value}{ns:List Nd}{B:Nat}{x:Nd}{kv:Value}{z:World}(h:NB w nv mv pv ns B x kv z):NBS w nv mv pv ns B x kv z :=
 ⟨chp h.b1 0,chp h.b1 1,chp h.b1 2,chp h.b1 3,chp h.b1 4,chp h.b1 5,h⟩
def ad3 (x y:Nd) (k:Int) (rb:Bool):Bool:=af3 x y && ag9 x.kids k && rb
theorem aW1 (nv mv pv:Value) (ns:List Nd) (k:Nat) (w:World) (hN:af7 w nv ns) (hR:ai_ w nv ns.length) (hk:k<ns.length) (hl:ns.length≤1048576) (nu:Int) (nm mo it:ByteArray) (ks:List Int) (hkl:ks.length≤1048576) (_hs1:nm.size≤1048576) (_hs2:mo.size≤1048576) (_hs3:it.size≤1048576) (hx:ns[k]=⟨3,nu,nm,mo,it,ks⟩) :
  Calls Tryz.prog 79 #[.agg #[nv,mv,pv],.int .i64 (k:Int)] w fun e w'=>e=.returned (.bool (ad3 ⟨3,nu,nm,mo,it,ks⟩ ⟨3,nu,ByteArray.empty,ByteArray.empty,ByteArray.empty,[(ks[0]?.getD (-1)),(ks[1]?.getD (-1))]⟩ k ((decide (1≤nu) && decide (nu≤9)) && (aa1 ns 1 (ks[0]?.getD (-1)) && aa1 ns 1 (ks[1]?.getD (-1))))))∧Below w.heap.size w w':=by
 have hb1:Below w.heap.size w (w.alloc (.cells #[nv,mv,pv] 26)):=bal _ _
 have CH:=fun w h=>qb (aj5 nv mv pv ns (k:Int) w h)
 have e1:inZ 0 ((ns.length:Int)-1) (k:Int)=true:=ad5.2 (by omega)
 rw[e1]at CH
 have HN:=qb (hN.stays hb1)
 have HR:=qb (hR.stays hb1)
 have HP:Hid (Box (w.alloc (.cells #[nv,mv,pv] 26)) w.heap.size #[nv,mv,pv] 26):=Box.made w _ _
 have HB:=qb hb1
 have HX:=qb hx
 clear hb1 e1 hR hx
 obtain⟨ao,c,rfl,_⟩:=hN
 have hi0:(0:Int)≤(k:Int):=by omega
 have hi1:(k:Int)<(ns.length:Int):=by omega
 go_enter Tryz.func79,Tryz.ntmps79
 go_wp2_with fail
 refine(qa (CH _ HN.out)).mono ?_
 rintro e w1⟨rfl,hb2⟩
 have HB1:=qb (HB.out.trans (hb2.mono HB.out.size))
 have HN1:=qb (HN.out.stays hb2)
 have HR1:=qb (HR.out.stays hb2)
 have HP1:=qb (HP.out.stays hb2)
 have c0:=chp HP1.out 0
 have c1:=chp HP1.out 1
 have c2:=chp HP1.out 2
 clear HB HN HR HP CH
 simp at c0 c1 c2
 obtain⟨a',c',p,kv,e5,hpa,hpb,hnode⟩:=HN1.out.node k hk
 injection e5 with e6 e7 e8
 subst e6
 have hrm:Room kv:=by
  obtain⟨ao2,c2,e2,_,h2⟩:=HR1.out
  injection e2 with e3 e4 e5
  obtain⟨a2,kv2,e6,_,h3,h4⟩:=h2 k hk
  rw[←e3]at e6
  cases e6
  rw[hpa,hnode.c5]at h3
  cases h3
  exact h4
 rw[HX.out]at hnode
 obtain⟨d0,d1,d2,d3,d4,d5,hkids⟩:=hnode
 dsimp only at d0 d1 d2 d3 d4 d5 hkids
 have HKI:=qb hkids
 obtain⟨ko,kc,rfl,_⟩:=hkids
 have HRM:=qb hrm
 clear e7 e8 hb2 hrm
 go_wp2_with fail
 have HNB:Hid (NB w (.slice (some a') ns.length c) mv pv ns w1.heap.size ⟨3,nu,nm,mo,it,ks⟩ (.slice ko ks.length kc) (w1.alloc (.cells #[.int .i64 3,.int .i64 nu,.string nm,.string mo,.string it,.slice ko ks.length kc] 74))):=by
  have hb:Below w1.heap.size w1 (w1.alloc (.cells #[.int .i64 3,.int .i64 nu,.string nm,.string mo,.string it,.slice ko ks.length kc] 74)):=bal _ _
  exact⟨HP1.out.stays hb,Box.made _ _ _,HB1.out.trans (hb.mono HB1.out.size),HN1.out.stays hb,HKI.out.stays hb⟩
 refine(ah8 3 nu nm mo it (.slice ko ks.length kc) ks _ HNB.out.kids).mono ?_
 rintro e w2⟨rfl,hb2⟩
 have HNB2:=qb (HNB.out.stays hb2)
 clear HNB
 clear hb2 c0 c1 c2 d0 d1 d2 d3 d4 d5 HN1 HR1 HP1 HB1 HKI
 have et:ae8 3 nu nm mo it (.slice ko ks.length kc) ks=.iface 138 (.agg #[.int .i64 nu,.int .i64 (ks[0]?.getD (-1)),.int .i64 (ks[1]?.getD (-1))]):=rfl
 rw[et]
 clear et
 have CN:=fun w=>qb (aK0 nu (ks[0]?.getD (-1)) (ks[1]?.getD (-1)) w)
 have CR:=fun w h=>qb (bf2 (.slice (some a') ns.length c) mv pv ns w h hl nu (ks[0]?.getD (-1)) (ks[1]?.getD (-1)))
 have CS:=fun w kv2 h1 h2=>qb (ak3 ⟨3,nu,nm,mo,it,ks⟩ ⟨3,nu,ByteArray.empty,ByteArray.empty,ByteArray.empty,[(ks[0]?.getD (-1)),(ks[1]?.getD (-1))]⟩ (.slice ko ks.length kc) kv2 w h1 h2 hkl (by simp))
 have CA:=fun w h=>qb (ae5 3 nu nm mo it (.slice ko ks.length kc) ks (k:Int) w h HRM.out)
 obtain⟨sb,esb⟩:∃ sb,af3 ⟨3,nu,nm,mo,it,ks⟩ ⟨3,nu,ByteArray.empty,ByteArray.empty,ByteArray.empty,[(ks[0]?.getD (-1)),(ks[1]?.getD (-1))]⟩=sb:=⟨_,rfl⟩
 obtain⟨ab,eab⟩:∃ ab,ag9 ks (k:Int)=ab:=⟨_,rfl⟩
 have HF:Hid (ad3 ⟨3,nu,nm,mo,it,ks⟩ ⟨3,nu,ByteArray.empty,ByteArray.empty,ByteArray.empty,[(ks[0]?.getD (-1)),(ks[1]?.getD (-1))]⟩ (k:Int) ((decide (1≤nu) && decide (nu≤9)) && (aa1 ns 1 (ks[0]?.getD (-1)) && aa1 ns 1 (ks[1]?.getD (-1))))=(sb && ab && ((decide (1≤nu) && decide (nu≤9)) && (aa1 ns 1 (ks[0]?.getD (-1)) && aa1 ns 1 (ks[1]?.getD (-1)))))):=by show _=_;rw[ad3,esb,eab]
 obtain⟨rb,erb⟩:∃ rb,((decide (1≤nu) && decide (nu≤9)) && (aa1 ns 1 (ks[0]?.getD (-1)) && aa1 ns 1 (ks[1]?.getD (-1))))=rb:=⟨_,rfl⟩
 simp only[esb]at CS
 simp only[eab]at CA
 simp only[erb]at CR
 have HF2:Hid (ad3 ⟨3,nu,nm,mo,it,ks⟩ ⟨3,nu,ByteArray.empty,ByteArray.empty,ByteArray.empty,[(ks[0]?.getD (-1)),(ks[1]?.getD (-1))]⟩ (k:Int) ((decide (1≤nu) && decide (nu≤9)) && (aa1 ns 1 (ks[0]?.getD (-1)) && aa1 ns 1 (ks[1]?.getD (-1))))=(sb && ab && rb)):=by rw[←erb];exact HF.out
 clear HF
 clear esb eab
 (try dsimp only at CS)
 obtain⟨g0,g1,g2,g3,g4,g5,hh⟩:=HNB2.out.spread
 (try dsimp only at g0 g1 g2 g3 g4 g5)
 have KP:Hid (∀ z z':World,(z.cell? ⟨w1.heap.size,0,none⟩=some (.int .i64 3)∧z.cell? ⟨w1.heap.size,1,none⟩=some (.int .i64 nu)∧z.cell? ⟨w1.heap.size,2,none⟩=some (.string nm)∧z.cell? ⟨w1.heap.size,3,none⟩=some (.string mo)∧z.cell? ⟨w1.heap.size,4,none⟩=some (.string it)∧z.cell? ⟨w1.heap.size,5,none⟩=some (.slice ko ks.length kc)∧Hid (NB w (.slice (some a') ns.length c) mv pv ns w1.heap.size ⟨3,nu,nm,mo,it,ks⟩ (.slice ko ks.length kc) z))→Below z.heap.size z z'→(z'.cell? ⟨w1.heap.size,0,none⟩=some (.int .i64 3)∧z'.cell? ⟨w1.heap.size,1,none⟩=some (.int .i64 nu)∧z'.cell? ⟨w1.heap.size,2,none⟩=some (.string nm)∧z'.cell? ⟨w1.heap.size,3,none⟩=some (.string mo)∧z'.cell? ⟨w1.heap.size,4,none⟩=some (.string it)∧z'.cell? ⟨w1.heap.size,5,none⟩=some (.slice ko ks.length kc)∧Hid (NB w (.slice (some a') ns.length c) mv pv ns w1.heap.size ⟨3,nu,nm,mo,it,ks⟩ (.slice ko ks.length kc) z'))):=fun z z' h hb=>(h.2.2.2.2.2.2.out.stays hb).spread
 have KK:Hid (∀ z:World,(z.cell? ⟨w1.heap.size,0,none⟩=some (.int .i64 3)∧z.cell? ⟨w1.heap.size,1,none⟩=some (.int .i64 nu)∧z.cell? ⟨w1.heap.size,2,none⟩=some (.string nm)∧z.cell? ⟨w1.heap.size,3,none⟩=some (.string mo)∧z.cell? ⟨w1.heap.size,4,none⟩=some (.string it)∧z.cell? ⟨w1.heap.size,5,none⟩=some (.slice ko ks.length kc)∧Hid (NB w (.slice (some a') ns.length c) mv pv ns w1.heap.size ⟨3,nu,nm,mo,it,ks⟩ (.slice ko ks.length kc) z))→aa6 z (.slice ko ks.length kc) ks):=fun z h=>h.2.2.2.2.2.2.out.kids
 have KD:Hid (∀ z:World,(z.cell? ⟨w1.heap.size,0,none⟩=some (.int .i64 3)∧z.cell? ⟨w1.heap.size,1,none⟩=some (.int .i64 nu)∧z.cell? ⟨w1.heap.size,2,none⟩=some (.string nm)∧z.cell? ⟨w1.heap.size,3,none⟩=some (.string mo)∧z.cell? ⟨w1.heap.size,4,none⟩=some (.string it)∧z.cell? ⟨w1.heap.size,5,none⟩=some (.slice ko ks.length kc)∧Hid (NB w (.slice (some a') ns.length c) mv pv ns w1.heap.size ⟨3,nu,nm,mo,it,ks⟩ (.slice ko ks.length kc) z))→NB w (.slice (some a') ns.length c) mv pv ns w1.heap.size ⟨3,nu,nm,mo,it,ks⟩ (.slice ko ks.length kc) z):=fun z h=>h.2.2.2.2.2.2.out
 have K0:Hid (w2.drew.cell? ⟨w1.heap.size,0,none⟩=some (.int .i64 3)∧w2.drew.cell? ⟨w1.heap.size,1,none⟩=some (.int .i64 nu)∧w2.drew.cell? ⟨w1.heap.size,2,none⟩=some (.string nm)∧w2.drew.cell? ⟨w1.heap.size,3,none⟩=some (.string mo)∧w2.drew.cell? ⟨w1.heap.size,4,none⟩=some (.string it)∧w2.drew.cell? ⟨w1.heap.size,5,none⟩=some (.slice ko ks.length kc)∧Hid (NB w (.slice (some a') ns.length c) mv pv ns w1.heap.size ⟨3,nu,nm,mo,it,ks⟩ (.slice ko ks.length kc) w2.drew)):=(HNB2.out.stays (Below.refl _ _).drew).spread
 clear erb
 cases sb with
 | false =>
  go_wp2_with fail
  go_region_held3 (fun z=>z.cell? ⟨w1.heap.size,0,none⟩=some (.int .i64 3)∧z.cell? ⟨w1.heap.size,1,none⟩=some (.int .i64 nu)∧z.cell? ⟨w1.heap.size,2,none⟩=some (.string nm)∧z.cell? ⟨w1.heap.size,3,none⟩=some (.string mo)∧z.cell? ⟨w1.heap.size,4,none⟩=some (.string it)∧z.cell? ⟨w1.heap.size,5,none⟩=some (.slice ko ks.length kc)∧Hid (NB w (.slice (some a') ns.length c) mv pv ns w1.heap.size ⟨3,nu,nm,mo,it,ks⟩ (.slice ko ks.length kc) z)) (first|exact K0.out|exact KP.out _ _ (by assumption) hb4)
   ((first
    | (go_at_call 166;refine(qa (CN _)).mono ?_;rintro e w4⟨v4,rfl,hv4,hb4⟩;obtain⟨kv4,rfl,hk4⟩:=hv4)
    | (go_at_call 104;refine(qa (CS _ _ (KK.out _ (by assumption)) hk4)).mono ?_;rintro e w4⟨rfl,hb4⟩)))
  all_goals (have D:=qb (KD.out _ (by assumption)))
  all_goals go_wp2
  all_goals go_ret
  all_goals exact⟨by rw[HF2.out];rfl,D.out.bel⟩
 | true =>
  go_wp2_with fail
  go_region_held3 (fun z=>z.cell? ⟨w1.heap.size,0,none⟩=some (.int .i64 3)∧z.cell? ⟨w1.heap.size,1,none⟩=some (.int .i64 nu)∧z.cell? ⟨w1.heap.size,2,none⟩=some (.string nm)∧z.cell? ⟨w1.heap.size,3,none⟩=some (.string mo)∧z.cell? ⟨w1.heap.size,4,none⟩=some (.string it)∧z.cell? ⟨w1.heap.size,5,none⟩=some (.slice ko ks.length kc)∧Hid (NB w (.slice (some a') ns.length c) mv pv ns w1.heap.size ⟨3,nu,nm,mo,it,ks⟩ (.slice ko ks.length kc) z)) (first|exact K0.out|exact KP.out _ _ (by assumption) hb4)
   ((first
    | (go_at_call 166;refine(qa (CN _)).mono ?_;rintro e w4⟨v4,rfl,hv4,hb4⟩;obtain⟨kv4,rfl,hk4⟩:=hv4)
    | (go_at_call 104;refine(qa (CS _ _ (KK.out _ (by assumption)) hk4)).mono ?_;rintro e w4⟨rfl,hb4⟩)))
  all_goals (have D:=qb (KD.out _ (by assumption)))
  all_goals clear CN CS K0 g0 g1 g2 g3 g4 g5
  all_goals cases ab
  all_goals
   go_wp2_with (first
    | (go_at_call 105;refine(qa (CA _ D.out.kids)).mono ?_;rintro e w5⟨rfl,hb5⟩;have D:=qb (D.out.stays hb5);have p0:=chp D.out.b0 0;have p1:=chp D.out.b0 1;have p2:=chp D.out.b0 2;simp at p0 p1 p2;clear hb5)
    | (go_at_call 106;refine(qa (CR _ D.out.nds)).mono ?_;rintro e w6⟨rfl,hb6⟩;have D:=qb (D.out.stays hb6);clear hb6))
  all_goals go_ret
  all_goals exact⟨by rw[HF2.out];rfl,D.out.bel⟩
theorem bf7 (kd:Int):decide (aj9 kd=1)=af8 kd:=by
 unfold aj9
 cases h:af8 kd with
 | true=>simp
 | false =>
  simp only[Bool.false_eq_true,if_false]
  split
  ·simp
  ·split <;> simp
theorem bl9 (kd:Int):decide (aj9 kd=2)=aj4 kd:=by
 unfold aj9
 cases h:af8 kd with
 | true =>
  have h2:aj4 kd=false:=by
   have:=ad5.1 h
   rw[aj4,at4]
   omega
  simp[h2]
 | false =>
  simp only[Bool.false_eq_true,if_false]
  cases h2:aj4 kd with
  | true=>simp
  | false=>simp;split <;> simp
theorem aJ3 (kd:Int):decide (aj9 kd=3)=an4 kd:=by
 unfold aj9 an4
 cases h:af8 kd with
 | true =>
  have:=ad5.1 h
  have h2:¬ kd=20:=by omega
  simp[h2]
 | false =>
  simp only[Bool.false_eq_true,if_false]
  cases h2:aj4 kd with
  | true =>
   have:=ad5.1 h2
   have h3:¬ kd=20:=by omega
   simp[h3]
  | false =>
   simp only[Bool.false_eq_true,if_false]
   split <;> simp_all
theorem aE2 {ns:List Nd}{k:Nat}{x:Int}(h:0≤x∧x<(k:Int)):ai1 ns k x=(ns.getD x.toNat default).kind:=by
 rw[ai1,if_pos (ad5.2 (by omega))]
theorem am4 {ns:List Nd}{k:Nat}{x:Int}(h:¬ (0≤x∧x<(k:Int))):ai1 ns k x=0:=by
 rw[ai1,if_neg (by rw[ad5];omega)]
theorem aj1 {ns:List Nd}{k:Nat}(hk:k<ns.length) {x:Int}(h:0≤x∧x<(k:Int)):aa1 ns 1 x=af8 (ai1 ns k x):=by
 rw[aa1,ad5.2 (by omega),Bool.true_and,bf7,aE2 h]
theorem aJ5 {ns:List Nd}{k:Nat}(hk:k<ns.length) {x:Int}(h:0≤x∧x<(k:Int)):aa1 ns 2 x=aj4 (ai1 ns k x):=by
 rw[aa1,ad5.2 (by omega),Bool.true_and,bl9,aE2 h]
theorem at0 {ns:List Nd}{k:Nat}(hk:k<ns.length) {x:Int}(h:0≤x∧x<(k:Int)):aa1 ns 3 x=an4 (ai1 ns k x):=by
 rw[aa1,ad5.2 (by omega),Bool.true_and,aJ3,aE2 h]
theorem ak4:af8 0=false:=rfl
theorem av1:an4 0=false:=rfl
theorem ak1 {ns:List Nd}{k:Nat}(hk:k<ns.length) {x:Nd}(hx:ns[k]=x):aj0 ns k=x.kids.map (ai1 ns k):=by
 rw[aj0,ar5 hk,hx]
theorem as0 (k:Int):ag9 [] k=true:=by simp[ag9,aC7]
theorem al7 (a k:Int):ag9 [a] k=decide (0≤a∧a<k):=by simp[ag9,aC7]
theorem an0 (a b k:Int):ag9 [a,b] k=(decide (0≤a∧a<k) && decide (0≤b∧b<k) && decide (a≠b)):=by
 rw[Bool.eq_iff_iff]
 simp[ag9,aC7,and_assoc]
theorem as5 (a b c k:Int):ag9 [a,b,c] k=(decide (0≤a∧a<k) && decide (0≤b∧b<k) && decide (0≤c∧c<k) && decide ([a,b,c].Nodup)):=by
 rw[Bool.eq_iff_iff]
 simp[ag9,aC7,and_assoc]
theorem bl0 {ns:List Nd}{k:Nat}(hk:k<ns.length) {nu:Int}{nm mo it:ByteArray}{ks:List Int}(hx:ns[k]=⟨19,nu,nm,mo,it,ks⟩) :
  ad3 ⟨19,nu,nm,mo,it,ks⟩ ⟨19,0,ByteArray.empty,ByteArray.empty,ByteArray.empty,[]⟩ k (true)=ae3 ⟨19,nu,nm,mo,it,ks⟩ (aj0 ns k):=by
 (
 rw[ad3,ae3,ak1 hk hx];
 rcases ks with _|⟨a,ks⟩;
 (simp[af3,as0,af1,am5,af8,aj4,inZ,Bool.and_assoc,Bool.and_comm,Bool.and_left_comm]);
 (simp[af3,af1]))
theorem pure_num {ns:List Nd}{k:Nat}(hk:k<ns.length) {nu:Int}{nm mo it:ByteArray}{ks:List Int}(hx:ns[k]=⟨1,nu,nm,mo,it,ks⟩) :
  ad3 ⟨1,nu,nm,mo,it,ks⟩ ⟨1,nu,ByteArray.empty,ByteArray.empty,ByteArray.empty,[]⟩ k (inZ 0 1000000 nu)=ae3 ⟨1,nu,nm,mo,it,ks⟩ (aj0 ns k):=by
 (
 rw[ad3,ae3,ak1 hk hx];
 rcases ks with _|⟨a,ks⟩;
 (simp[af3,as0,af1,am5,af8,aj4,inZ,Bool.and_assoc,Bool.and_comm]);
 (simp[af3,af1]))
theorem pure_var {ns:List Nd}{k:Nat}(hk:k<ns.length) {nu:Int}{nm mo it:ByteArray}{ks:List Int}(hx:ns[k]=⟨2,nu,nm,mo,it,ks⟩) :
  ad3 ⟨2,nu,nm,mo,it,ks⟩ ⟨2,0,nm,ByteArray.empty,ByteArray.empty,[]⟩ k (aa7 nm)=ae3 ⟨2,nu,nm,mo,it,ks⟩ (aj0 ns k):=by
 (
 rw[ad3,ae3,ak1 hk hx];
 rcases ks with _|⟨a,ks⟩;
 (simp[af3,as0,af1,am5,af8,aj4,inZ,Bool.and_assoc,Bool.and_comm,Bool.and_left_comm]);
 (simp[af3,af1]))
theorem bl_ {ns:List Nd}{k:Nat}(hk:k<ns.length) {nu:Int}{nm mo it:ByteArray}{ks:List Int}(hx:ns[k]=⟨16,nu,nm,mo,it,ks⟩) :
  ad3 ⟨16,nu,nm,mo,it,ks⟩ ⟨16,0,nm,ByteArray.empty,ByteArray.empty,[]⟩ k (aa7 nm)=ae3 ⟨16,nu,nm,mo,it,ks⟩ (aj0 ns k):=by
 (
 rw[ad3,ae3,ak1 hk hx];
 rcases ks with _|⟨a,ks⟩;
 (simp[af3,as0,af1,am5,af8,aj4,inZ,Bool.and_assoc,Bool.and_comm,Bool.and_left_comm]);
 (simp[af3,af1]))
theorem be5 {ns:List Nd}{k:Nat}(hk:k<ns.length) {nu:Int}{nm mo it:ByteArray}{ks:List Int}(hx:ns[k]=⟨17,nu,nm,mo,it,ks⟩) :
  ad3 ⟨17,nu,nm,mo,it,ks⟩ ⟨17,0,nm,ByteArray.empty,ByteArray.empty,[]⟩ k (aa7 nm)=ae3 ⟨17,nu,nm,mo,it,ks⟩ (aj0 ns k):=by
 (
 rw[ad3,ae3,ak1 hk hx];
 rcases ks with _|⟨a,ks⟩;
 (simp[af3,as0,af1,am5,af8,aj4,inZ,Bool.and_assoc,Bool.and_comm,Bool.and_left_comm]);
 (simp[af3,af1]))
theorem bk9 {ns:List Nd}{k:Nat}(hk:k<ns.length) {nu:Int}{nm mo it:ByteArray}{ks:List Int}(hx:ns[k]=⟨18,nu,nm,mo,it,ks⟩) :
  ad3 ⟨18,nu,nm,mo,it,ks⟩ ⟨18,0,nm,ByteArray.empty,ByteArray.empty,[]⟩ k (aa7 nm)=ae3 ⟨18,nu,nm,mo,it,ks⟩ (aj0 ns k):=by
 (
 rw[ad3,ae3,ak1 hk hx];
 rcases ks with _|⟨a,ks⟩;
 (simp[af3,as0,af1,am5,af8,aj4,inZ,Bool.and_assoc,Bool.and_comm,Bool.and_left_comm]);
 (simp[af3,af1]))
theorem pure_not {ns:List Nd}{k:Nat}(hk:k<ns.length) {nu:Int}{nm mo it:ByteArray}{ks:List Int}(hx:ns[k]=⟨4,nu,nm,mo,it,ks⟩) :
  ad3 ⟨4,nu,nm,mo,it,ks⟩ ⟨4,0,ByteArray.empty,ByteArray.empty,ByteArray.empty,[(ks[0]?.getD (-1))]⟩ k (aa1 ns 1 (ks[0]?.getD (-1)))=ae3 ⟨4,nu,nm,mo,it,ks⟩ (aj0 ns k):=by
 (
 rw[ad3,ae3,ak1 hk hx];
 rcases ks with _|⟨a,_|⟨b,ks⟩⟩;
 (simp[af3,af1]);
 (by_cases ha:0≤a∧a<(k:Int));
 (have e:=aj1 hk ha;simp only[List.getElem?_cons_zero,Option.getD_some,List.map_cons,List.map_nil,e,al7,ha];
  (simp[af3,af1,am5,show af8 4=true from rfl,Bool.and_assoc,Bool.and_comm,Bool.and_left_comm]));
 (have e:=am4 (ns:=ns) ha;simp[af3,af1,al7,e,ak4,ha]);
 (simp[af3,af1]))
theorem pure_neg {ns:List Nd}{k:Nat}(hk:k<ns.length) {nu:Int}{nm mo it:ByteArray}{ks:List Int}(hx:ns[k]=⟨5,nu,nm,mo,it,ks⟩) :
  ad3 ⟨5,nu,nm,mo,it,ks⟩ ⟨5,0,ByteArray.empty,ByteArray.empty,ByteArray.empty,[(ks[0]?.getD (-1))]⟩ k (aa1 ns 1 (ks[0]?.getD (-1)))=ae3 ⟨5,nu,nm,mo,it,ks⟩ (aj0 ns k):=by
 (
 rw[ad3,ae3,ak1 hk hx];
 rcases ks with _|⟨a,_|⟨b,ks⟩⟩;
 (simp[af3,af1]);
 (by_cases ha:0≤a∧a<(k:Int));
 (have e:=aj1 hk ha;simp only[List.getElem?_cons_zero,Option.getD_some,List.map_cons,List.map_nil,e,al7,ha];
  (simp[af3,af1,am5,show af8 5=true from rfl,Bool.and_assoc,Bool.and_comm,Bool.and_left_comm]));
 (have e:=am4 (ns:=ns) ha;simp[af3,af1,al7,e,ak4,ha]);
 (simp[af3,af1]))
theorem be6 {ns:List Nd}{k:Nat}(hk:k<ns.length) {nu:Int}{nm mo it:ByteArray}{ks:List Int}(hx:ns[k]=⟨15,nu,nm,mo,it,ks⟩) :
  ad3 ⟨15,nu,nm,mo,it,ks⟩ ⟨15,0,ByteArray.empty,ByteArray.empty,ByteArray.empty,[(ks[0]?.getD (-1))]⟩ k (aa1 ns 1 (ks[0]?.getD (-1)))=ae3 ⟨15,nu,nm,mo,it,ks⟩ (aj0 ns k):=by
 (
 rw[ad3,ae3,ak1 hk hx];
 rcases ks with _|⟨a,_|⟨b,ks⟩⟩;
 (simp[af3,af1]);
 (by_cases ha:0≤a∧a<(k:Int));
 (have e:=aj1 hk ha;simp only[List.getElem?_cons_zero,Option.getD_some,List.map_cons,List.map_nil,e,al7,ha];
  (simp[af3,af1,am5,show aj4 15=true from rfl,Bool.and_assoc,Bool.and_comm,Bool.and_left_comm]));
 (have e:=am4 (ns:=ns) ha;simp[af3,af1,al7,e,ak4,ha]);
 (simp[af3,af1]))
theorem pure_set {ns:List Nd}{k:Nat}(hk:k<ns.length) {nu:Int}{nm mo it:ByteArray}{ks:List Int}(hx:ns[k]=⟨11,nu,nm,mo,it,ks⟩) :
  ad3 ⟨11,nu,nm,mo,it,ks⟩ ⟨11,0,nm,ByteArray.empty,ByteArray.empty,[(ks[0]?.getD (-1))]⟩ k (aa7 nm && aa1 ns 1 (ks[0]?.getD (-1)))=ae3 ⟨11,nu,nm,mo,it,ks⟩ (aj0 ns k):=by
 (
 rw[ad3,ae3,ak1 hk hx];
 rcases ks with _|⟨a,_|⟨b,ks⟩⟩;
 (simp[af3,af1]);
 (by_cases ha:0≤a∧a<(k:Int));
 (have e:=aj1 hk ha;simp only[List.getElem?_cons_zero,Option.getD_some,List.map_cons,List.map_nil,e,al7,ha];
  (simp[af3,af1,am5,show aj4 11=true from rfl,Bool.and_assoc,Bool.and_comm,Bool.and_left_comm]));
 (have e:=am4 (ns:=ns) ha;simp[af3,af1,al7,e,ak4,ha]);
 (simp[af3,af1]))
theorem bk8 {ns:List Nd}{k:Nat}(hk:k<ns.length) {nu:Int}{nm mo it:ByteArray}{ks:List Int}(hx:ns[k]=⟨14,nu,nm,mo,it,ks⟩) :
  ad3 ⟨14,nu,nm,mo,it,ks⟩ ⟨14,0,nm,mo,it,[(ks[0]?.getD (-1))]⟩ k (aa7 nm && aa7 mo && (it.toList.isEmpty || aa7 it) && aa1 ns 1 (ks[0]?.getD (-1)))=ae3 ⟨14,nu,nm,mo,it,ks⟩ (aj0 ns k):=by
 (
 rw[ad3,ae3,ak1 hk hx];
 rcases ks with _|⟨a,_|⟨b,ks⟩⟩;
 (simp[af3,af1]);
 (by_cases ha:0≤a∧a<(k:Int));
 (have e:=aj1 hk ha;simp only[List.getElem?_cons_zero,Option.getD_some,List.map_cons,List.map_nil,e,al7,ha];
  (simp[af3,af1,am5,show aj4 14=true from rfl,Bool.and_assoc,Bool.and_comm,Bool.and_left_comm]));
 (have e:=am4 (ns:=ns) ha;simp[af3,af1,al7,e,ak4,ha]);
 (simp[af3,af1]))
theorem bk7 {ns:List Nd}{k:Nat}(hk:k<ns.length) {nu:Int}{nm mo it:ByteArray}{ks:List Int}(hx:ns[k]=⟨3,nu,nm,mo,it,ks⟩) :
  ad3 ⟨3,nu,nm,mo,it,ks⟩ ⟨3,nu,ByteArray.empty,ByteArray.empty,ByteArray.empty,[(ks[0]?.getD (-1)),(ks[1]?.getD (-1))]⟩ k ((decide (1≤nu) && decide (nu≤9)) && (aa1 ns 1 (ks[0]?.getD (-1)) && aa1 ns 1 (ks[1]?.getD (-1))))=ae3 ⟨3,nu,nm,mo,it,ks⟩ (aj0 ns k):=by
 (
 rw[ad3,ae3,ak1 hk hx];
 rcases ks with _|⟨a,_|⟨b,_|⟨c,ks⟩⟩⟩;
 (simp[af3,af1]);
 (simp[af3,af1]);
 (by_cases ha:0≤a∧a<(k:Int));
 (by_cases hb:0≤b∧b<(k:Int));
 (have e:=aj1 hk ha;have e2:=aj1 hk hb;simp only[List.getElem?_cons_zero,List.getElem?_cons_succ,Option.getD_some,List.map_cons,List.map_nil,e,e2,an0,ha,hb];
  (simp[af3,af1,am5,inZ,show af8 3=true from rfl,Bool.and_assoc,Bool.and_comm,Bool.and_left_comm]));
 (have e:=am4 (ns:=ns) hb;simp[af3,af1,an0,e,ak4,hb]);
 (have e:=am4 (ns:=ns) ha;simp[af3,af1,an0,e,ak4,ha]);
 (simp[af3,af1]))
theorem be7 {ns:List Nd}{k:Nat}(hk:k<ns.length) {nu:Int}{nm mo it:ByteArray}{ks:List Int}(hx:ns[k]=⟨13,nu,nm,mo,it,ks⟩) :
  ad3 ⟨13,nu,nm,mo,it,ks⟩ ⟨13,0,ByteArray.empty,ByteArray.empty,ByteArray.empty,[(ks[0]?.getD (-1)),(ks[1]?.getD (-1))]⟩ k (aa1 ns 1 (ks[0]?.getD (-1)) && aa1 ns 3 (ks[1]?.getD (-1)))=ae3 ⟨13,nu,nm,mo,it,ks⟩ (aj0 ns k):=by
 (
 rw[ad3,ae3,ak1 hk hx];
 rcases ks with _|⟨a,_|⟨b,_|⟨c,ks⟩⟩⟩;
 (simp[af3,af1]);
 (simp[af3,af1]);
 (by_cases ha:0≤a∧a<(k:Int));
 (by_cases hb:0≤b∧b<(k:Int));
 (have e:=aj1 hk ha;have e2:=at0 hk hb;simp only[List.getElem?_cons_zero,List.getElem?_cons_succ,Option.getD_some,List.map_cons,List.map_nil,e,e2,an0,ha,hb];
  (simp[af3,af1,am5,show aj4 13=true from rfl,Bool.and_assoc,Bool.and_comm,Bool.and_left_comm]));
 (have e:=am4 (ns:=ns) hb;simp[af3,af1,an0,e,av1,hb]);
 (have e:=am4 (ns:=ns) ha;simp[af3,af1,an0,e,ak4,ha]);
 (simp[af3,af1]))
theorem pure_if {ns:List Nd}{k:Nat}(hk:k<ns.length) {nu:Int}{nm mo it:ByteArray}{ks:List Int}(hx:ns[k]=⟨12,nu,nm,mo,it,ks⟩) :
  ad3 ⟨12,nu,nm,mo,it,ks⟩ ⟨12,0,ByteArray.empty,ByteArray.empty,ByteArray.empty,aj2 (ks[0]?.getD (-1)) (ks[1]?.getD (-1)) (ks[2]?.getD (-1))⟩ k (aa1 ns 1 (ks[0]?.getD (-1)) && aa1 ns 3 (ks[1]?.getD (-1)) && (decide ((ks[2]?.getD (-1)) = -1) || aa1 ns 3 (ks[2]?.getD (-1))))=ae3 ⟨12,nu,nm,mo,it,ks⟩ (aj0 ns k):=by
 rw[ad3,ae3,ak1 hk hx]
 rcases ks with _|⟨a,_|⟨b,_|⟨c,_|⟨d,ks⟩⟩⟩⟩
 ·simp[af3,af1,aj2]
 ·simp[af3,af1,aj2]
 ·by_cases ha:0≤a∧a<(k:Int)
  ·by_cases hb:0≤b∧b<(k:Int)
   ·have e:=aj1 hk ha
    have e2:=at0 hk hb
    have e3:aj2 a b (-1)=[a,b]:=rfl
    have e4:([a,b] : List Int)[2]?.getD (-1) = -1:=rfl
    simp only[List.getElem?_cons_zero,List.getElem?_cons_succ,Option.getD_some,List.map_cons,List.map_nil,e,e2,an0,ha,hb]
    simp[af3,af1,am5,e3,show aj4 12=true from rfl,Bool.and_assoc,Bool.and_comm,Bool.and_left_comm]
   ·have e:=am4 (ns:=ns) hb
    simp[af3,af1,an0,e,av1,hb]
  ·have e:=am4 (ns:=ns) ha
   simp[af3,af1,an0,e,ak4,ha]
 ·by_cases ha:0≤a∧a<(k:Int)
  ·by_cases hb:0≤b∧b<(k:Int)
   ·by_cases hc:0≤c∧c<(k:Int)
    ·have e:=aj1 hk ha
     have e2:=at0 hk hb
     have e3:=at0 hk hc
     have hc1:¬ c = -1:=by omega
     have e4:aj2 a b c=[a,b,c]:=if_neg hc1
     simp only[List.getElem?_cons_zero,List.getElem?_cons_succ,Option.getD_some,List.map_cons,List.map_nil,e,e2,e3,e4,as5,ha,hb,hc]
     simp[af3,af1,am5,hc1,show aj4 12=true from rfl,Bool.and_assoc,Bool.and_comm,Bool.and_left_comm]
    ·have e:=am4 (ns:=ns) hc
     simp[af3,af1,as5,e,av1,hc]
   ·have e:=am4 (ns:=ns) hb
    simp[af3,af1,as5,e,av1,hb]
  ·have e:=am4 (ns:=ns) ha
   simp[af3,af1,as5,e,ak4,ha]
 ·have e:∀ x y z:Int,¬ a :: b :: c :: d :: ks=aj2 x y z:=fun x y z=>by
   unfold aj2
   split <;> simp
  simp[af3,af1,e]
theorem be4 {ns:List Nd}{k:Nat}(hk:k<ns.length) {nu:Int}{nm mo it:ByteArray}{ks:List Int}(hx:ns[k]=⟨20,nu,nm,mo,it,ks⟩) :
  ad3 ⟨20,nu,nm,mo,it,ks⟩ ⟨20,0,ByteArray.empty,ByteArray.empty,ByteArray.empty,ks⟩ k (decide (0<ks.length) && ks.all (aa1 ns 2))=ae3 ⟨20,nu,nm,mo,it,ks⟩ (aj0 ns k):=by
 rw[ad3,ae3,ak1 hk hx]
 have e1:af1 20 (ks.map (ai1 ns k))=((ks.map (ai1 ns k)).all aj4 && inZ 1 12 ks.length):=by
  simp[af1]
 by_cases hall:∀ x∈ks,0≤x∧x<(k:Int)
 ·have e2:ks.all (aa1 ns 2)=(ks.map (ai1 ns k)).all aj4:=by
   rw[List.all_map,Bool.eq_iff_iff,List.all_eq_true,List.all_eq_true]
   exact⟨fun h x hx=>by rw[Function.comp,←aJ5 hk (hall x hx)];exact h x hx,fun h x hx=>by rw[aJ5 hk (hall x hx)];exact h x hx⟩
  have e3:ag9 ks k=(decide (ks.length≤12) && decide ks.Nodup):=by
   rw[Bool.eq_iff_iff,ag9,decide_eq_true_iff,Bool.and_eq_true,decide_eq_true_iff,decide_eq_true_iff]
   exact⟨fun h=>⟨h.1,h.2.2⟩,fun h=>⟨h.1,hall,h.2⟩⟩
  have e4:inZ 1 12 ks.length=(decide (0<ks.length) && decide (ks.length≤12)):=by
   rw[Bool.eq_iff_iff,ad5]
   simp only[Bool.and_eq_true,decide_eq_true_eq]
   omega
  rw[e1,e2,e3,e4]
  simp[af3,am5,Bool.and_assoc,Bool.and_comm,Bool.and_left_comm]
 ·have e3:ag9 ks k=false:=by
   rw[ag9,decide_eq_false_iff_not]
   exact fun h=>hall h.2.1
  have e2:(ks.map (ai1 ns k)).all aj4=false:=by
   rw[Bool.eq_false_iff]
   intro h
   rw[List.all_map,List.all_eq_true]at h
   refine hall fun x hx=>Classical.byContradiction fun hn=>?_
   have:=h x hx
   rw[Function.comp,am4 hn]at this
   exact absurd this (by decide)
  rw[e1,e2,e3]
  simp
end Go.Proofs.YtcpapceeekkacaaGreatDoor
