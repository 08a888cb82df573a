import Derived.Test.YtcpapceeekkacaaGreatDoorIrdO
import Derived.Test.YtcpapceeekkacaaGreatDoorOpW
import Derived.Deep.RegionLaw
import Derived.Handy
set_option maxRecDepth 100000
set_option maxHeartbeats 8000000
namespace Go.Proofs.YtcpapceeekkacaaGreatDoor
open Go.RowKit
def AddF (L:Nat→Prop) (B g:Nat) (sz:Int) (l:List Sg) (lv:Value) (s:Rd) (x:Nd) (w:World):Prop:=∀ kv v' W1 W2 css nv,Box w g #[lv,.int .i64 (s.pos:Int),.int .i64 sz,nv] 52→css.length=s.nodes.length→(∀ c∈css,c.length=6)→w.ownsRow B 74 6 nv s.nodes.length css.flatten→(∀ (j:Nat) (cs:List Value) (x:Nd),css[j]? = some cs→s.nodes[j]? = some x→INode L B w cs x)→(∀ b,nv.ownBlock=some b→¬ L b)→ax7 css →
   W1.ownsRow w.heap.size 3 1 kv x.kids.length (x.kids.map I64)→Below w.heap.size w W1→W2.ownsRow B 74 6 v' (s.nodes.length+1) (css.flatten++[.int .i64 x.kind,.int .i64 x.num,.string x.name,.string x.more,.string x.into,kv])→Below B W1 W2→(∀ b,b<W1.heap.size→some b≠nv.ownBlock→W2.heap[b]? = W1.heap[b]?)→(v'.ownBlock=nv.ownBlock∨∀ b,v'.ownBlock=some b→W1.heap.size≤b)→IEnd L B g sz l lv (s.put x).1 w (W2.setCell ⟨g,3,none⟩ v')
theorem addF {L:Nat→Prop}{B g:Nat}{sz:Int}{l:List Sg}{lv:Value}{s:Rd}{x:Nd}{w:World}(h:IAt L B g sz l lv s w) (hg:s.Good 1):AddF L B g sz l lv s x w :=
 fun _ _ _ _ _ _ a1 a2 a3 a4 a5 a6 a7 a8 a9 a10 a11 a12 a13=>IAt.put (IEnd.refl h) a1 a2 a3 a4 a5 a6 a7 hg a8 a9 a10 a11 a12 a13
theorem addG {B g n cap:Nat}{ao:Option Addr}{sz p:Int}{lv:Value}{w w5:World}{xs:List Value}(h3:w.ownsRow B 74 6 (.slice ao n cap) n xs) (hx:Box w g #[lv,.int .i64 p,.int .i64 sz,.slice ao n cap] 52) (h5:Below w.heap.size w w5) (hB:B≤w.heap.size) :
  Hid (∀ o,(w5.alloc o).ownsRow B 74 6 (.slice ao n cap) n xs)∧Hid (B≤w5.heap.size)∧Hid (∀ {o:Obj},B≤(w5.alloc o).heap.size)∧Hid (∀ o,Box (w5.alloc o) g #[lv,.int .i64 p,.int .i64 sz,.slice ao n cap] 52)∧w5.cell? ⟨g,3,none⟩=some (.slice ao n cap)∧g<w5.heap.size:=by
 have hs:=h5.size
 refine⟨fun o=>(ac8 h3 h5).alloc o,by show B≤_;omega,?_,fun o=>(hx.stays h5).stays (bal _ o),(chp (hx.stays h5) 3).trans rfl,nll hx.lt hs⟩
 intro o
 simp
 omega
theorem iAdd_num {L:Nat→Prop}{B g:Nat}{sz:Int}{l:List Sg}{lv:Value}{s:Rd}(nu:Int) (w:World) (h:IAt L B g sz l lv s w) (hg:s.Good 1) (hl:l.length≤1048576) :
  Calls Tryz.prog 122 #[.pointer (some ⟨g,0,none⟩),.iface 134 (.agg #[.int .i64 nu])] w fun e w'=>e=.returned (.int .i64 (s.put ⟨1,nu,ByteArray.empty,ByteArray.empty,ByteArray.empty,[]⟩).2)∧IEnd L B g sz l lv (s.put ⟨1,nu,ByteArray.empty,ByteArray.empty,ByteArray.empty,[]⟩).1 w w':=by
 have CN:=fun w=>qb (aW8 nu w)
 obtain⟨x,hx⟩:∃ x:Nd,x=⟨1,nu,ByteArray.empty,ByteArray.empty,ByteArray.empty,[]⟩:=⟨_,rfl⟩
 have HD:=qb (IEnd.drewN h 1)
 have HP:Hid (AddF L B g sz l lv s x w):=addF h hg
 have hR:(s.put x).2=(s.nodes.length:Int):=by rw[Rd.put_ok h.fine]
 have hnl:s.nodes.length≤1048576:=by have h1:=h.good;have h2:=h.pos;unfold Rd.Good at h1;omega
 have hBw:=h.heap
 obtain⟨nv,hbox,css,n1,n2,n3,n4,n5,n6⟩:=h.box
 obtain⟨ao,cap,e⟩:=ab_ n3
 subst e
 have y3:w.drew.cell? ⟨g,3,none⟩=some (.slice ao s.nodes.length cap):=(chp hbox 3).trans rfl
 have hgl:=hbox.lt
 have HN3:=qb n3
 have HBX:=qb hbox
 have HF:=qb (fun kv v' W1 W2 a8 a9 a10 a11 a12 a13=>HP.out kv v' W1 W2 css _ hbox n1 n2 n3 n4 n5 n6 a8 a9 a10 a11 a12 a13)
 have hwr:wrap64 (((s.nodes.length+1:Nat):Int)-1)=(s.nodes.length:Int):=by rw[show ((s.nodes.length+1:Nat):Int)-1=(s.nodes.length:Int) by omega];exact IntWalk.wrap64_in _ (by omega)
 subst hx
 rw[hR]
 clear hR HP h n1 n2 n3 n4 n5 n6 hbox hg hl
 go_enter Tryz.func122,Tryz.ntmps122
 go_wp2
 go_region_law (first
  | (refine ai2 rfl (.tmp 9) (.tmp 12) 22 rfl B _ 88 Tryz.underlying22 Tryz.infoNd rfl (.slice ao s.nodes.length cap) s.nodes.length css.flatten rfl (HOa.out _) ⟨w5.heap.size,0,none⟩ [.int .i64 1,.int .i64 nu,.string ByteArray.empty,.string ByteArray.empty,.string ByteArray.empty,.slice ko 0 kc] rfl rfl (fun j u hj=>ag4 w5 _ _ j u hj) (by intro u hu;simp at hu;rcases hu with rfl|rfl|rfl|rfl|rfl|rfl <;> rfl) (by unfold maxLen;omega) (by omega) HBa.out ?_;intro v' w4 hown4 hb4 hk4 hgr4 hob4;have sh4:=ab_ hown4;obtain⟨ao4,cap4,e4⟩:=sh4;subst e4;have HX4:=qb (hk4.blk g _ _ _ (by decide) (HB5.out _));have k3:=(chp HX4.out 3).trans rfl;have kf:=fhp HX4.out 3;have HE:=qb (HF.out _ _ w5 w4 HK5.out HW5.out hown4 ((((Below.refl B w5).alloc HB6.out _)).trans hb4) (fun b hb hne=>(hgr4 b (by simp;omega) hne).trans (Below.heap_alloc w5 _ b hb)) (hob4.imp id (fun e b hb=>by rw[e]at hb;injection hb with hb;simp at hb;omega)));clear hown4 hb4 hk4 hgr4 hob4)
  | (go_simp;go_invoke;go_upon;go_at_call 164;refine(qa (CN _)).mono ?_;rintro e w5⟨v,rfl,⟨ko,kc,e6,hk⟩,hb⟩;subst e6;have HK5:Hid (w5.ownsRow w.heap.size 3 1 (.slice ko 0 kc) ([] : List Int).length (([] : List Int).map I64)):=hk;have HW5:Hid (Below w.heap.size w w5):=(Below.refl w.heap.size w).drew.trans hb;have G5:=addG HN3.out HBX.out HW5.out hBw;obtain⟨HOa,HB6,HBa,HB5,z3,hg5⟩:=G5;clear hk hb))
 all_goals
  go_wp2
  go_ret
  exact⟨rfl,HE.out⟩
theorem iAdd_var {L:Nat→Prop}{B g:Nat}{sz:Int}{l:List Sg}{lv:Value}{s:Rd}(nm:ByteArray) (w:World) (h:IAt L B g sz l lv s w) (hg:s.Good 1) (hl:l.length≤1048576) :
  Calls Tryz.prog 122 #[.pointer (some ⟨g,0,none⟩),.iface 136 (.agg #[.string nm])] w fun e w'=>e=.returned (.int .i64 (s.put ⟨2,0,nm,ByteArray.empty,ByteArray.empty,[]⟩).2)∧IEnd L B g sz l lv (s.put ⟨2,0,nm,ByteArray.empty,ByteArray.empty,[]⟩).1 w w':=by
 have CN:=fun w=>qb (aY7 nm w)
 obtain⟨x,hx⟩:∃ x:Nd,x=⟨2,0,nm,ByteArray.empty,ByteArray.empty,[]⟩:=⟨_,rfl⟩
 have HD:=qb (IEnd.drewN h 1)
 have HP:Hid (AddF L B g sz l lv s x w):=addF h hg
 have hR:(s.put x).2=(s.nodes.length:Int):=by rw[Rd.put_ok h.fine]
 have hnl:s.nodes.length≤1048576:=by have h1:=h.good;have h2:=h.pos;unfold Rd.Good at h1;omega
 have hBw:=h.heap
 obtain⟨nv,hbox,css,n1,n2,n3,n4,n5,n6⟩:=h.box
 obtain⟨ao,cap,e⟩:=ab_ n3
 subst e
 have y3:w.drew.cell? ⟨g,3,none⟩=some (.slice ao s.nodes.length cap):=(chp hbox 3).trans rfl
 have hgl:=hbox.lt
 have HN3:=qb n3
 have HBX:=qb hbox
 have HF:=qb (fun kv v' W1 W2 a8 a9 a10 a11 a12 a13=>HP.out kv v' W1 W2 css _ hbox n1 n2 n3 n4 n5 n6 a8 a9 a10 a11 a12 a13)
 have hwr:wrap64 (((s.nodes.length+1:Nat):Int)-1)=(s.nodes.length:Int):=by rw[show ((s.nodes.length+1:Nat):Int)-1=(s.nodes.length:Int) by omega];exact IntWalk.wrap64_in _ (by omega)
 subst hx
 rw[hR]
 clear hR HP h n1 n2 n3 n4 n5 n6 hbox hg hl
 go_enter Tryz.func122,Tryz.ntmps122
 go_wp2
 go_region_law (first
  | (refine ai2 rfl (.tmp 9) (.tmp 12) 22 rfl B _ 88 Tryz.underlying22 Tryz.infoNd rfl (.slice ao s.nodes.length cap) s.nodes.length css.flatten rfl (HOa.out _) ⟨w5.heap.size,0,none⟩ [.int .i64 2,.int .i64 0,.string nm,.string ByteArray.empty,.string ByteArray.empty,.slice ko 0 kc] rfl rfl (fun j u hj=>ag4 w5 _ _ j u hj) (by intro u hu;simp at hu;rcases hu with rfl|rfl|rfl|rfl|rfl|rfl <;> rfl) (by unfold maxLen;omega) (by omega) HBa.out ?_;intro v' w4 hown4 hb4 hk4 hgr4 hob4;have sh4:=ab_ hown4;obtain⟨ao4,cap4,e4⟩:=sh4;subst e4;have HX4:=qb (hk4.blk g _ _ _ (by decide) (HB5.out _));have k3:=(chp HX4.out 3).trans rfl;have kf:=fhp HX4.out 3;have HE:=qb (HF.out _ _ w5 w4 HK5.out HW5.out hown4 ((((Below.refl B w5).alloc HB6.out _)).trans hb4) (fun b hb hne=>(hgr4 b (by simp;omega) hne).trans (Below.heap_alloc w5 _ b hb)) (hob4.imp id (fun e b hb=>by rw[e]at hb;injection hb with hb;simp at hb;omega)));clear hown4 hb4 hk4 hgr4 hob4)
  | (go_simp;go_invoke;go_upon;go_at_call 165;refine(qa (CN _)).mono ?_;rintro e w5⟨v,rfl,⟨ko,kc,e6,hk⟩,hb⟩;subst e6;have HK5:Hid (w5.ownsRow w.heap.size 3 1 (.slice ko 0 kc) ([] : List Int).length (([] : List Int).map I64)):=hk;have HW5:Hid (Below w.heap.size w w5):=(Below.refl w.heap.size w).drew.trans hb;have G5:=addG HN3.out HBX.out HW5.out hBw;obtain⟨HOa,HB6,HBa,HB5,z3,hg5⟩:=G5;clear hk hb))
 all_goals
  go_wp2
  go_ret
  exact⟨rfl,HE.out⟩
theorem ay2 {L:Nat→Prop}{B g:Nat}{sz:Int}{l:List Sg}{lv:Value}{s:Rd}(nu a b:Int) (w:World) (h:IAt L B g sz l lv s w) (hg:s.Good 1) (hl:l.length≤1048576) :
  Calls Tryz.prog 122 #[.pointer (some ⟨g,0,none⟩),.iface 138 (.agg #[.int .i64 nu,.int .i64 a,.int .i64 b])] w fun e w'=>e=.returned (.int .i64 (s.put ⟨3,nu,ByteArray.empty,ByteArray.empty,ByteArray.empty,[a,b]⟩).2)∧IEnd L B g sz l lv (s.put ⟨3,nu,ByteArray.empty,ByteArray.empty,ByteArray.empty,[a,b]⟩).1 w w':=by
 have CN:=fun w=>qb (aN8 nu a b w)
 obtain⟨x,hx⟩:∃ x:Nd,x=⟨3,nu,ByteArray.empty,ByteArray.empty,ByteArray.empty,[a,b]⟩:=⟨_,rfl⟩
 have HD:=qb (IEnd.drewN h 1)
 have HP:Hid (AddF L B g sz l lv s x w):=addF h hg
 have hR:(s.put x).2=(s.nodes.length:Int):=by rw[Rd.put_ok h.fine]
 have hnl:s.nodes.length≤1048576:=by have h1:=h.good;have h2:=h.pos;unfold Rd.Good at h1;omega
 have hBw:=h.heap
 obtain⟨nv,hbox,css,n1,n2,n3,n4,n5,n6⟩:=h.box
 obtain⟨ao,cap,e⟩:=ab_ n3
 subst e
 have y3:w.drew.cell? ⟨g,3,none⟩=some (.slice ao s.nodes.length cap):=(chp hbox 3).trans rfl
 have hgl:=hbox.lt
 have HN3:=qb n3
 have HBX:=qb hbox
 have HF:=qb (fun kv v' W1 W2 a8 a9 a10 a11 a12 a13=>HP.out kv v' W1 W2 css _ hbox n1 n2 n3 n4 n5 n6 a8 a9 a10 a11 a12 a13)
 have hwr:wrap64 (((s.nodes.length+1:Nat):Int)-1)=(s.nodes.length:Int):=by rw[show ((s.nodes.length+1:Nat):Int)-1=(s.nodes.length:Int) by omega];exact IntWalk.wrap64_in _ (by omega)
 subst hx
 rw[hR]
 clear hR HP h n1 n2 n3 n4 n5 n6 hbox hg hl
 go_enter Tryz.func122,Tryz.ntmps122
 go_wp2
 go_region_law (first
  | (refine ai2 rfl (.tmp 9) (.tmp 12) 22 rfl B _ 88 Tryz.underlying22 Tryz.infoNd rfl (.slice ao s.nodes.length cap) s.nodes.length css.flatten rfl (HOa.out _) ⟨w5.heap.size,0,none⟩ [.int .i64 3,.int .i64 nu,.string ByteArray.empty,.string ByteArray.empty,.string ByteArray.empty,.slice ko 2 kc] rfl rfl (fun j u hj=>ag4 w5 _ _ j u hj) (by intro u hu;simp at hu;rcases hu with rfl|rfl|rfl|rfl|rfl|rfl <;> rfl) (by unfold maxLen;omega) (by omega) HBa.out ?_;intro v' w4 hown4 hb4 hk4 hgr4 hob4;have sh4:=ab_ hown4;obtain⟨ao4,cap4,e4⟩:=sh4;subst e4;have HX4:=qb (hk4.blk g _ _ _ (by decide) (HB5.out _));have k3:=(chp HX4.out 3).trans rfl;have kf:=fhp HX4.out 3;have HE:=qb (HF.out _ _ w5 w4 HK5.out HW5.out hown4 ((((Below.refl B w5).alloc HB6.out _)).trans hb4) (fun b hb hne=>(hgr4 b (by simp;omega) hne).trans (Below.heap_alloc w5 _ b hb)) (hob4.imp id (fun e b hb=>by rw[e]at hb;injection hb with hb;simp at hb;omega)));clear hown4 hb4 hk4 hgr4 hob4)
  | (go_simp;go_invoke;go_upon;go_at_call 166;refine(qa (CN _)).mono ?_;rintro e w5⟨v,rfl,⟨ko,kc,e6,hk⟩,hb⟩;subst e6;have HK5:Hid (w5.ownsRow w.heap.size 3 1 (.slice ko 2 kc) ([a,b] : List Int).length (([a,b] : List Int).map I64)):=hk;have HW5:Hid (Below w.heap.size w w5):=(Below.refl w.heap.size w).drew.trans hb;have G5:=addG HN3.out HBX.out HW5.out hBw;obtain⟨HOa,HB6,HBa,HB5,z3,hg5⟩:=G5;clear hk hb))
 all_goals
  go_wp2
  go_ret
  exact⟨rfl,HE.out⟩
theorem iAdd_not {L:Nat→Prop}{B g:Nat}{sz:Int}{l:List Sg}{lv:Value}{s:Rd}(a:Int) (w:World) (h:IAt L B g sz l lv s w) (hg:s.Good 1) (hl:l.length≤1048576) :
  Calls Tryz.prog 122 #[.pointer (some ⟨g,0,none⟩),.iface 140 (.agg #[.int .i64 a])] w fun e w'=>e=.returned (.int .i64 (s.put ⟨4,0,ByteArray.empty,ByteArray.empty,ByteArray.empty,[a]⟩).2)∧IEnd L B g sz l lv (s.put ⟨4,0,ByteArray.empty,ByteArray.empty,ByteArray.empty,[a]⟩).1 w w':=by
 have CN:=fun w=>qb (aW7 a w)
 obtain⟨x,hx⟩:∃ x:Nd,x=⟨4,0,ByteArray.empty,ByteArray.empty,ByteArray.empty,[a]⟩:=⟨_,rfl⟩
 have HD:=qb (IEnd.drewN h 1)
 have HP:Hid (AddF L B g sz l lv s x w):=addF h hg
 have hR:(s.put x).2=(s.nodes.length:Int):=by rw[Rd.put_ok h.fine]
 have hnl:s.nodes.length≤1048576:=by have h1:=h.good;have h2:=h.pos;unfold Rd.Good at h1;omega
 have hBw:=h.heap
 obtain⟨nv,hbox,css,n1,n2,n3,n4,n5,n6⟩:=h.box
 obtain⟨ao,cap,e⟩:=ab_ n3
 subst e
 have y3:w.drew.cell? ⟨g,3,none⟩=some (.slice ao s.nodes.length cap):=(chp hbox 3).trans rfl
 have hgl:=hbox.lt
 have HN3:=qb n3
 have HBX:=qb hbox
 have HF:=qb (fun kv v' W1 W2 a8 a9 a10 a11 a12 a13=>HP.out kv v' W1 W2 css _ hbox n1 n2 n3 n4 n5 n6 a8 a9 a10 a11 a12 a13)
 have hwr:wrap64 (((s.nodes.length+1:Nat):Int)-1)=(s.nodes.length:Int):=by rw[show ((s.nodes.length+1:Nat):Int)-1=(s.nodes.length:Int) by omega];exact IntWalk.wrap64_in _ (by omega)
 subst hx
 rw[hR]
 clear hR HP h n1 n2 n3 n4 n5 n6 hbox hg hl
 go_enter Tryz.func122,Tryz.ntmps122
 go_wp2
 go_region_law (first
  | (refine ai2 rfl (.tmp 9) (.tmp 12) 22 rfl B _ 88 Tryz.underlying22 Tryz.infoNd rfl (.slice ao s.nodes.length cap) s.nodes.length css.flatten rfl (HOa.out _) ⟨w5.heap.size,0,none⟩ [.int .i64 4,.int .i64 0,.string ByteArray.empty,.string ByteArray.empty,.string ByteArray.empty,.slice ko 1 kc] rfl rfl (fun j u hj=>ag4 w5 _ _ j u hj) (by intro u hu;simp at hu;rcases hu with rfl|rfl|rfl|rfl|rfl|rfl <;> rfl) (by unfold maxLen;omega) (by omega) HBa.out ?_;intro v' w4 hown4 hb4 hk4 hgr4 hob4;have sh4:=ab_ hown4;obtain⟨ao4,cap4,e4⟩:=sh4;subst e4;have HX4:=qb (hk4.blk g _ _ _ (by decide) (HB5.out _));have k3:=(chp HX4.out 3).trans rfl;have kf:=fhp HX4.out 3;have HE:=qb (HF.out _ _ w5 w4 HK5.out HW5.out hown4 ((((Below.refl B w5).alloc HB6.out _)).trans hb4) (fun b hb hne=>(hgr4 b (by simp;omega) hne).trans (Below.heap_alloc w5 _ b hb)) (hob4.imp id (fun e b hb=>by rw[e]at hb;injection hb with hb;simp at hb;omega)));clear hown4 hb4 hk4 hgr4 hob4)
  | (go_simp;go_invoke;go_upon;go_at_call 167;refine(qa (CN _)).mono ?_;rintro e w5⟨v,rfl,⟨ko,kc,e6,hk⟩,hb⟩;subst e6;have HK5:Hid (w5.ownsRow w.heap.size 3 1 (.slice ko 1 kc) ([a] : List Int).length (([a] : List Int).map I64)):=hk;have HW5:Hid (Below w.heap.size w w5):=(Below.refl w.heap.size w).drew.trans hb;have G5:=addG HN3.out HBX.out HW5.out hBw;obtain⟨HOa,HB6,HBa,HB5,z3,hg5⟩:=G5;clear hk hb))
 all_goals
  go_wp2
  go_ret
  exact⟨rfl,HE.out⟩
theorem iAdd_neg {L:Nat→Prop}{B g:Nat}{sz:Int}{l:List Sg}{lv:Value}{s:Rd}(a:Int) (w:World) (h:IAt L B g sz l lv s w) (hg:s.Good 1) (hl:l.length≤1048576) :
  Calls Tryz.prog 122 #[.pointer (some ⟨g,0,none⟩),.iface 141 (.agg #[.int .i64 a])] w fun e w'=>e=.returned (.int .i64 (s.put ⟨5,0,ByteArray.empty,ByteArray.empty,ByteArray.empty,[a]⟩).2)∧IEnd L B g sz l lv (s.put ⟨5,0,ByteArray.empty,ByteArray.empty,ByteArray.empty,[a]⟩).1 w w':=by
 have CN:=fun w=>qb (aV6 a w)
 obtain⟨x,hx⟩:∃ x:Nd,x=⟨5,0,ByteArray.empty,ByteArray.empty,ByteArray.empty,[a]⟩:=⟨_,rfl⟩
 have HD:=qb (IEnd.drewN h 1)
 have HP:Hid (AddF L B g sz l lv s x w):=addF h hg
 have hR:(s.put x).2=(s.nodes.length:Int):=by rw[Rd.put_ok h.fine]
 have hnl:s.nodes.length≤1048576:=by have h1:=h.good;have h2:=h.pos;unfold Rd.Good at h1;omega
 have hBw:=h.heap
 obtain⟨nv,hbox,css,n1,n2,n3,n4,n5,n6⟩:=h.box
 obtain⟨ao,cap,e⟩:=ab_ n3
 subst e
 have y3:w.drew.cell? ⟨g,3,none⟩=some (.slice ao s.nodes.length cap):=(chp hbox 3).trans rfl
 have hgl:=hbox.lt
 have HN3:=qb n3
 have HBX:=qb hbox
 have HF:=qb (fun kv v' W1 W2 a8 a9 a10 a11 a12 a13=>HP.out kv v' W1 W2 css _ hbox n1 n2 n3 n4 n5 n6 a8 a9 a10 a11 a12 a13)
 have hwr:wrap64 (((s.nodes.length+1:Nat):Int)-1)=(s.nodes.length:Int):=by rw[show ((s.nodes.length+1:Nat):Int)-1=(s.nodes.length:Int) by omega];exact IntWalk.wrap64_in _ (by omega)
 subst hx
 rw[hR]
 clear hR HP h n1 n2 n3 n4 n5 n6 hbox hg hl
 go_enter Tryz.func122,Tryz.ntmps122
 go_wp2
 go_region_law (first
  | (refine ai2 rfl (.tmp 9) (.tmp 12) 22 rfl B _ 88 Tryz.underlying22 Tryz.infoNd rfl (.slice ao s.nodes.length cap) s.nodes.length css.flatten rfl (HOa.out _) ⟨w5.heap.size,0,none⟩ [.int .i64 5,.int .i64 0,.string ByteArray.empty,.string ByteArray.empty,.string ByteArray.empty,.slice ko 1 kc] rfl rfl (fun j u hj=>ag4 w5 _ _ j u hj) (by intro u hu;simp at hu;rcases hu with rfl|rfl|rfl|rfl|rfl|rfl <;> rfl) (by unfold maxLen;omega) (by omega) HBa.out ?_;intro v' w4 hown4 hb4 hk4 hgr4 hob4;have sh4:=ab_ hown4;obtain⟨ao4,cap4,e4⟩:=sh4;subst e4;have HX4:=qb (hk4.blk g _ _ _ (by decide) (HB5.out _));have k3:=(chp HX4.out 3).trans rfl;have kf:=fhp HX4.out 3;have HE:=qb (HF.out _ _ w5 w4 HK5.out HW5.out hown4 ((((Below.refl B w5).alloc HB6.out _)).trans hb4) (fun b hb hne=>(hgr4 b (by simp;omega) hne).trans (Below.heap_alloc w5 _ b hb)) (hob4.imp id (fun e b hb=>by rw[e]at hb;injection hb with hb;simp at hb;omega)));clear hown4 hb4 hk4 hgr4 hob4)
  | (go_simp;go_invoke;go_upon;go_at_call 168;refine(qa (CN _)).mono ?_;rintro e w5⟨v,rfl,⟨ko,kc,e6,hk⟩,hb⟩;subst e6;have HK5:Hid (w5.ownsRow w.heap.size 3 1 (.slice ko 1 kc) ([a] : List Int).length (([a] : List Int).map I64)):=hk;have HW5:Hid (Below w.heap.size w w5):=(Below.refl w.heap.size w).drew.trans hb;have G5:=addG HN3.out HBX.out HW5.out hBw;obtain⟨HOa,HB6,HBa,HB5,z3,hg5⟩:=G5;clear hk hb))
 all_goals
  go_wp2
  go_ret
  exact⟨rfl,HE.out⟩
end Go.Proofs.YtcpapceeekkacaaGreatDoor
