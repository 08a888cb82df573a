import Derived.Test.YtcpapceeekkacaaGreatDoorIrdA
import Derived.Test.YtcpapceeekkacaaGreatDoorOpW
import Derived.Deep.RegionLaw
import Derived.Handy
set_option maxRecDepth 100000
set_option maxHeartbeats 8000000
namespace Go.Proofs.YtcpapceeekkacaaGreatDoor
open Go.RowKit
theorem bi5 {L:Nat→Prop}{B g:Nat}{sz:Int}{l:List Sg}{lv:Value}{s:Rd}(nm:ByteArray) (w:World) (h:IAt L B g sz l lv s w) (hg:s.Good 1) (hl:l.length≤1048576) :
  Calls Tryz.prog 122 #[.pointer (some ⟨g,0,none⟩),.iface 152 (.agg #[.string nm])] w fun e w'=>e=.returned (.int .i64 (s.put ⟨16,0,nm,ByteArray.empty,ByteArray.empty,[]⟩).2)∧IEnd L B g sz l lv (s.put ⟨16,0,nm,ByteArray.empty,ByteArray.empty,[]⟩).1 w w':=by
 have CN:=fun w=>qb (aR5 nm w)
 obtain⟨x,hx⟩:∃ x:Nd,x=⟨16,0,nm,ByteArray.empty,ByteArray.empty,[]⟩:=⟨_,rfl⟩
 have HD:=qb (IEnd.drewN h 1)
 have HP:Hid (AddF L B g sz l lv s x w):=addF h hg
 have hR:(s.put x).2=(s.nodes.length:Int):=by rw[Rd.put_ok h.fine]
 have hnl:s.nodes.length≤1048576:=by have h1:=h.good;have h2:=h.pos;unfold Rd.Good at h1;omega
 have hBw:=h.heap
 obtain⟨nv,hbox,css,n1,n2,n3,n4,n5,n6⟩:=h.box
 obtain⟨ao,cap,e⟩:=ab_ n3
 subst e
 have y3:w.drew.cell? ⟨g,3,none⟩=some (.slice ao s.nodes.length cap):=(chp hbox 3).trans rfl
 have hgl:=hbox.lt
 have HN3:=qb n3
 have HBX:=qb hbox
 have HF:=qb (fun kv v' W1 W2 a8 a9 a10 a11 a12 a13=>HP.out kv v' W1 W2 css _ hbox n1 n2 n3 n4 n5 n6 a8 a9 a10 a11 a12 a13)
 have hwr:wrap64 (((s.nodes.length+1:Nat):Int)-1)=(s.nodes.length:Int):=by rw[show ((s.nodes.length+1:Nat):Int)-1=(s.nodes.length:Int) by omega];exact IntWalk.wrap64_in _ (by omega)
 subst hx
 rw[hR]
 clear hR HP h n1 n2 n3 n4 n5 n6 hbox hg hl
 go_enter Tryz.func122,Tryz.ntmps122
 go_wp2
 go_region_law (first
  | (refine ai2 rfl (.tmp 9) (.tmp 12) 22 rfl B _ 88 Tryz.underlying22 Tryz.infoNd rfl (.slice ao s.nodes.length cap) s.nodes.length css.flatten rfl (HOa.out _) ⟨w5.heap.size,0,none⟩ [.int .i64 16,.int .i64 0,.string nm,.string ByteArray.empty,.string ByteArray.empty,.slice ko 0 kc] rfl rfl (fun j u hj=>ag4 w5 _ _ j u hj) (by intro u hu;simp at hu;rcases hu with rfl|rfl|rfl|rfl|rfl|rfl <;> rfl) (by unfold maxLen;omega) (by omega) HBa.out ?_;intro v' w4 hown4 hb4 hk4 hgr4 hob4;have sh4:=ab_ hown4;obtain⟨ao4,cap4,e4⟩:=sh4;subst e4;have HX4:=qb (hk4.blk g _ _ _ (by decide) (HB5.out _));have k3:=(chp HX4.out 3).trans rfl;have kf:=fhp HX4.out 3;have HE:=qb (HF.out _ _ w5 w4 HK5.out HW5.out hown4 ((((Below.refl B w5).alloc HB6.out _)).trans hb4) (fun b hb hne=>(hgr4 b (by simp;omega) hne).trans (Below.heap_alloc w5 _ b hb)) (hob4.imp id (fun e b hb=>by rw[e]at hb;injection hb with hb;simp at hb;omega)));clear hown4 hb4 hk4 hgr4 hob4)
  | (go_simp;go_invoke;go_upon;go_at_call 174;refine(qa (CN _)).mono ?_;rintro e w5⟨v,rfl,⟨ko,kc,e6,hk⟩,hb⟩;subst e6;have HK5:Hid (w5.ownsRow w.heap.size 3 1 (.slice ko 0 kc) ([] : List Int).length (([] : List Int).map I64)):=hk;have HW5:Hid (Below w.heap.size w w5):=(Below.refl w.heap.size w).drew.trans hb;have G5:=addG HN3.out HBX.out HW5.out hBw;obtain⟨HOa,HB6,HBa,HB5,z3,hg5⟩:=G5;clear hk hb))
 all_goals
  go_wp2
  go_ret
  exact⟨rfl,HE.out⟩
theorem bc_ {L:Nat→Prop}{B g:Nat}{sz:Int}{l:List Sg}{lv:Value}{s:Rd}(nm:ByteArray) (w:World) (h:IAt L B g sz l lv s w) (hg:s.Good 1) (hl:l.length≤1048576) :
  Calls Tryz.prog 122 #[.pointer (some ⟨g,0,none⟩),.iface 153 (.agg #[.string nm])] w fun e w'=>e=.returned (.int .i64 (s.put ⟨17,0,nm,ByteArray.empty,ByteArray.empty,[]⟩).2)∧IEnd L B g sz l lv (s.put ⟨17,0,nm,ByteArray.empty,ByteArray.empty,[]⟩).1 w w':=by
 have CN:=fun w=>qb (aK3 nm w)
 obtain⟨x,hx⟩:∃ x:Nd,x=⟨17,0,nm,ByteArray.empty,ByteArray.empty,[]⟩:=⟨_,rfl⟩
 have HD:=qb (IEnd.drewN h 1)
 have HP:Hid (AddF L B g sz l lv s x w):=addF h hg
 have hR:(s.put x).2=(s.nodes.length:Int):=by rw[Rd.put_ok h.fine]
 have hnl:s.nodes.length≤1048576:=by have h1:=h.good;have h2:=h.pos;unfold Rd.Good at h1;omega
 have hBw:=h.heap
 obtain⟨nv,hbox,css,n1,n2,n3,n4,n5,n6⟩:=h.box
 obtain⟨ao,cap,e⟩:=ab_ n3
 subst e
 have y3:w.drew.cell? ⟨g,3,none⟩=some (.slice ao s.nodes.length cap):=(chp hbox 3).trans rfl
 have hgl:=hbox.lt
 have HN3:=qb n3
 have HBX:=qb hbox
 have HF:=qb (fun kv v' W1 W2 a8 a9 a10 a11 a12 a13=>HP.out kv v' W1 W2 css _ hbox n1 n2 n3 n4 n5 n6 a8 a9 a10 a11 a12 a13)
 have hwr:wrap64 (((s.nodes.length+1:Nat):Int)-1)=(s.nodes.length:Int):=by rw[show ((s.nodes.length+1:Nat):Int)-1=(s.nodes.length:Int) by omega];exact IntWalk.wrap64_in _ (by omega)
 subst hx
 rw[hR]
 clear hR HP h n1 n2 n3 n4 n5 n6 hbox hg hl
 go_enter Tryz.func122,Tryz.ntmps122
 go_wp2
 go_region_law (first
  | (refine ai2 rfl (.tmp 9) (.tmp 12) 22 rfl B _ 88 Tryz.underlying22 Tryz.infoNd rfl (.slice ao s.nodes.length cap) s.nodes.length css.flatten rfl (HOa.out _) ⟨w5.heap.size,0,none⟩ [.int .i64 17,.int .i64 0,.string nm,.string ByteArray.empty,.string ByteArray.empty,.slice ko 0 kc] rfl rfl (fun j u hj=>ag4 w5 _ _ j u hj) (by intro u hu;simp at hu;rcases hu with rfl|rfl|rfl|rfl|rfl|rfl <;> rfl) (by unfold maxLen;omega) (by omega) HBa.out ?_;intro v' w4 hown4 hb4 hk4 hgr4 hob4;have sh4:=ab_ hown4;obtain⟨ao4,cap4,e4⟩:=sh4;subst e4;have HX4:=qb (hk4.blk g _ _ _ (by decide) (HB5.out _));have k3:=(chp HX4.out 3).trans rfl;have kf:=fhp HX4.out 3;have HE:=qb (HF.out _ _ w5 w4 HK5.out HW5.out hown4 ((((Below.refl B w5).alloc HB6.out _)).trans hb4) (fun b hb hne=>(hgr4 b (by simp;omega) hne).trans (Below.heap_alloc w5 _ b hb)) (hob4.imp id (fun e b hb=>by rw[e]at hb;injection hb with hb;simp at hb;omega)));clear hown4 hb4 hk4 hgr4 hob4)
  | (go_simp;go_invoke;go_upon;go_at_call 175;refine(qa (CN _)).mono ?_;rintro e w5⟨v,rfl,⟨ko,kc,e6,hk⟩,hb⟩;subst e6;have HK5:Hid (w5.ownsRow w.heap.size 3 1 (.slice ko 0 kc) ([] : List Int).length (([] : List Int).map I64)):=hk;have HW5:Hid (Below w.heap.size w w5):=(Below.refl w.heap.size w).drew.trans hb;have G5:=addG HN3.out HBX.out HW5.out hBw;obtain⟨HOa,HB6,HBa,HB5,z3,hg5⟩:=G5;clear hk hb))
 all_goals
  go_wp2
  go_ret
  exact⟨rfl,HE.out⟩
theorem bi4 {L:Nat→Prop}{B g:Nat}{sz:Int}{l:List Sg}{lv:Value}{s:Rd}(nm:ByteArray) (w:World) (h:IAt L B g sz l lv s w) (hg:s.Good 1) (hl:l.length≤1048576) :
  Calls Tryz.prog 122 #[.pointer (some ⟨g,0,none⟩),.iface 154 (.agg #[.string nm])] w fun e w'=>e=.returned (.int .i64 (s.put ⟨18,0,nm,ByteArray.empty,ByteArray.empty,[]⟩).2)∧IEnd L B g sz l lv (s.put ⟨18,0,nm,ByteArray.empty,ByteArray.empty,[]⟩).1 w w':=by
 have CN:=fun w=>qb (aO_ nm w)
 obtain⟨x,hx⟩:∃ x:Nd,x=⟨18,0,nm,ByteArray.empty,ByteArray.empty,[]⟩:=⟨_,rfl⟩
 have HD:=qb (IEnd.drewN h 1)
 have HP:Hid (AddF L B g sz l lv s x w):=addF h hg
 have hR:(s.put x).2=(s.nodes.length:Int):=by rw[Rd.put_ok h.fine]
 have hnl:s.nodes.length≤1048576:=by have h1:=h.good;have h2:=h.pos;unfold Rd.Good at h1;omega
 have hBw:=h.heap
 obtain⟨nv,hbox,css,n1,n2,n3,n4,n5,n6⟩:=h.box
 obtain⟨ao,cap,e⟩:=ab_ n3
 subst e
 have y3:w.drew.cell? ⟨g,3,none⟩=some (.slice ao s.nodes.length cap):=(chp hbox 3).trans rfl
 have hgl:=hbox.lt
 have HN3:=qb n3
 have HBX:=qb hbox
 have HF:=qb (fun kv v' W1 W2 a8 a9 a10 a11 a12 a13=>HP.out kv v' W1 W2 css _ hbox n1 n2 n3 n4 n5 n6 a8 a9 a10 a11 a12 a13)
 have hwr:wrap64 (((s.nodes.length+1:Nat):Int)-1)=(s.nodes.length:Int):=by rw[show ((s.nodes.length+1:Nat):Int)-1=(s.nodes.length:Int) by omega];exact IntWalk.wrap64_in _ (by omega)
 subst hx
 rw[hR]
 clear hR HP h n1 n2 n3 n4 n5 n6 hbox hg hl
 go_enter Tryz.func122,Tryz.ntmps122
 go_wp2
 go_region_law (first
  | (refine ai2 rfl (.tmp 9) (.tmp 12) 22 rfl B _ 88 Tryz.underlying22 Tryz.infoNd rfl (.slice ao s.nodes.length cap) s.nodes.length css.flatten rfl (HOa.out _) ⟨w5.heap.size,0,none⟩ [.int .i64 18,.int .i64 0,.string nm,.string ByteArray.empty,.string ByteArray.empty,.slice ko 0 kc] rfl rfl (fun j u hj=>ag4 w5 _ _ j u hj) (by intro u hu;simp at hu;rcases hu with rfl|rfl|rfl|rfl|rfl|rfl <;> rfl) (by unfold maxLen;omega) (by omega) HBa.out ?_;intro v' w4 hown4 hb4 hk4 hgr4 hob4;have sh4:=ab_ hown4;obtain⟨ao4,cap4,e4⟩:=sh4;subst e4;have HX4:=qb (hk4.blk g _ _ _ (by decide) (HB5.out _));have k3:=(chp HX4.out 3).trans rfl;have kf:=fhp HX4.out 3;have HE:=qb (HF.out _ _ w5 w4 HK5.out HW5.out hown4 ((((Below.refl B w5).alloc HB6.out _)).trans hb4) (fun b hb hne=>(hgr4 b (by simp;omega) hne).trans (Below.heap_alloc w5 _ b hb)) (hob4.imp id (fun e b hb=>by rw[e]at hb;injection hb with hb;simp at hb;omega)));clear hown4 hb4 hk4 hgr4 hob4)
  | (go_simp;go_invoke;go_upon;go_at_call 176;refine(qa (CN _)).mono ?_;rintro e w5⟨v,rfl,⟨ko,kc,e6,hk⟩,hb⟩;subst e6;have HK5:Hid (w5.ownsRow w.heap.size 3 1 (.slice ko 0 kc) ([] : List Int).length (([] : List Int).map I64)):=hk;have HW5:Hid (Below w.heap.size w w5):=(Below.refl w.heap.size w).drew.trans hb;have G5:=addG HN3.out HBX.out HW5.out hBw;obtain⟨HOa,HB6,HBa,HB5,z3,hg5⟩:=G5;clear hk hb))
 all_goals
  go_wp2
  go_ret
  exact⟨rfl,HE.out⟩
theorem bi6 {L:Nat→Prop}{B g:Nat}{sz:Int}{l:List Sg}{lv:Value}{s:Rd}(w:World) (h:IAt L B g sz l lv s w) (hg:s.Good 1) (hl:l.length≤1048576) :
  Calls Tryz.prog 122 #[.pointer (some ⟨g,0,none⟩),.iface 156 (.agg #[])] w fun e w'=>e=.returned (.int .i64 (s.put ⟨19,0,ByteArray.empty,ByteArray.empty,ByteArray.empty,[]⟩).2)∧IEnd L B g sz l lv (s.put ⟨19,0,ByteArray.empty,ByteArray.empty,ByteArray.empty,[]⟩).1 w w':=by
 have CN:=fun w=>qb (aS2 w)
 obtain⟨x,hx⟩:∃ x:Nd,x=⟨19,0,ByteArray.empty,ByteArray.empty,ByteArray.empty,[]⟩:=⟨_,rfl⟩
 have HD:=qb (IEnd.drewN h 1)
 have HP:Hid (AddF L B g sz l lv s x w):=addF h hg
 have hR:(s.put x).2=(s.nodes.length:Int):=by rw[Rd.put_ok h.fine]
 have hnl:s.nodes.length≤1048576:=by have h1:=h.good;have h2:=h.pos;unfold Rd.Good at h1;omega
 have hBw:=h.heap
 obtain⟨nv,hbox,css,n1,n2,n3,n4,n5,n6⟩:=h.box
 obtain⟨ao,cap,e⟩:=ab_ n3
 subst e
 have y3:w.drew.cell? ⟨g,3,none⟩=some (.slice ao s.nodes.length cap):=(chp hbox 3).trans rfl
 have hgl:=hbox.lt
 have HN3:=qb n3
 have HBX:=qb hbox
 have HF:=qb (fun kv v' W1 W2 a8 a9 a10 a11 a12 a13=>HP.out kv v' W1 W2 css _ hbox n1 n2 n3 n4 n5 n6 a8 a9 a10 a11 a12 a13)
 have hwr:wrap64 (((s.nodes.length+1:Nat):Int)-1)=(s.nodes.length:Int):=by rw[show ((s.nodes.length+1:Nat):Int)-1=(s.nodes.length:Int) by omega];exact IntWalk.wrap64_in _ (by omega)
 subst hx
 rw[hR]
 clear hR HP h n1 n2 n3 n4 n5 n6 hbox hg hl
 go_enter Tryz.func122,Tryz.ntmps122
 go_wp2
 go_region_law (first
  | (refine ai2 rfl (.tmp 9) (.tmp 12) 22 rfl B _ 88 Tryz.underlying22 Tryz.infoNd rfl (.slice ao s.nodes.length cap) s.nodes.length css.flatten rfl (HOa.out _) ⟨w5.heap.size,0,none⟩ [.int .i64 19,.int .i64 0,.string ByteArray.empty,.string ByteArray.empty,.string ByteArray.empty,.slice ko 0 kc] rfl rfl (fun j u hj=>ag4 w5 _ _ j u hj) (by intro u hu;simp at hu;rcases hu with rfl|rfl|rfl|rfl|rfl|rfl <;> rfl) (by unfold maxLen;omega) (by omega) HBa.out ?_;intro v' w4 hown4 hb4 hk4 hgr4 hob4;have sh4:=ab_ hown4;obtain⟨ao4,cap4,e4⟩:=sh4;subst e4;have HX4:=qb (hk4.blk g _ _ _ (by decide) (HB5.out _));have k3:=(chp HX4.out 3).trans rfl;have kf:=fhp HX4.out 3;have HE:=qb (HF.out _ _ w5 w4 HK5.out HW5.out hown4 ((((Below.refl B w5).alloc HB6.out _)).trans hb4) (fun b hb hne=>(hgr4 b (by simp;omega) hne).trans (Below.heap_alloc w5 _ b hb)) (hob4.imp id (fun e b hb=>by rw[e]at hb;injection hb with hb;simp at hb;omega)));clear hown4 hb4 hk4 hgr4 hob4)
  | (go_simp;go_invoke;go_upon;go_at_call 177;refine(qa (CN _)).mono ?_;rintro e w5⟨v,rfl,⟨ko,kc,e6,hk⟩,hb⟩;subst e6;have HK5:Hid (w5.ownsRow w.heap.size 3 1 (.slice ko 0 kc) ([] : List Int).length (([] : List Int).map I64)):=hk;have HW5:Hid (Below w.heap.size w w5):=(Below.refl w.heap.size w).drew.trans hb;have G5:=addG HN3.out HBX.out HW5.out hBw;obtain⟨HOa,HB6,HBa,HB5,z3,hg5⟩:=G5;clear hk hb))
 all_goals
  go_wp2
  go_ret
  exact⟨rfl,HE.out⟩
theorem bb9 {L:Nat→Prop}{B g:Nat}{sz:Int}{l:List Sg}{lv:Value}{s:Rd}(ks:List Int) (kv:Value) (w:World) (h:IAt L B g sz l lv s w) (hK:aa6 w kv ks) (hkl:ks.length≤1048576) (hg:s.Good 1) (hl:l.length≤1048576) :
  Calls Tryz.prog 122 #[.pointer (some ⟨g,0,none⟩),.iface 132 (.agg #[kv])] w fun e w'=>e=.returned (.int .i64 (s.put ⟨20,0,ByteArray.empty,ByteArray.empty,ByteArray.empty,ks⟩).2)∧IEnd L B g sz l lv (s.put ⟨20,0,ByteArray.empty,ByteArray.empty,ByteArray.empty,ks⟩).1 w w':=by
 have CN:=fun w h=>qb (aK_ kv ks w h hkl)
 have HKD:Hid (aa6 w.drew kv ks):=hK.stays (Below.refl _ _).drew
 obtain⟨ko0,kc0,hkv,_⟩:=hK
 subst hkv
 obtain⟨x,hx⟩:∃ x:Nd,x=⟨20,0,ByteArray.empty,ByteArray.empty,ByteArray.empty,ks⟩:=⟨_,rfl⟩
 have HD:=qb (IEnd.drewN h 1)
 have HP:Hid (AddF L B g sz l lv s x w):=addF h hg
 have hR:(s.put x).2=(s.nodes.length:Int):=by rw[Rd.put_ok h.fine]
 have hnl:s.nodes.length≤1048576:=by have h1:=h.good;have h2:=h.pos;unfold Rd.Good at h1;omega
 have hBw:=h.heap
 obtain⟨nv,hbox,css,n1,n2,n3,n4,n5,n6⟩:=h.box
 obtain⟨ao,cap,e⟩:=ab_ n3
 subst e
 have y3:w.drew.cell? ⟨g,3,none⟩=some (.slice ao s.nodes.length cap):=(chp hbox 3).trans rfl
 have hgl:=hbox.lt
 have HN3:=qb n3
 have HBX:=qb hbox
 have HF:=qb (fun kv v' W1 W2 a8 a9 a10 a11 a12 a13=>HP.out kv v' W1 W2 css _ hbox n1 n2 n3 n4 n5 n6 a8 a9 a10 a11 a12 a13)
 have hwr:wrap64 (((s.nodes.length+1:Nat):Int)-1)=(s.nodes.length:Int):=by rw[show ((s.nodes.length+1:Nat):Int)-1=(s.nodes.length:Int) by omega];exact IntWalk.wrap64_in _ (by omega)
 subst hx
 rw[hR]
 clear hR HP h n1 n2 n3 n4 n5 n6 hbox hg hl
 go_enter Tryz.func122,Tryz.ntmps122
 go_wp2
 go_region_law (first
  | (refine ai2 rfl (.tmp 9) (.tmp 12) 22 rfl B _ 88 Tryz.underlying22 Tryz.infoNd rfl (.slice ao s.nodes.length cap) s.nodes.length css.flatten rfl (HOa.out _) ⟨w5.heap.size,0,none⟩ [.int .i64 20,.int .i64 0,.string ByteArray.empty,.string ByteArray.empty,.string ByteArray.empty,.slice ko (ks).length kc] rfl rfl (fun j u hj=>ag4 w5 _ _ j u hj) (by intro u hu;simp at hu;rcases hu with rfl|rfl|rfl|rfl|rfl|rfl <;> rfl) (by unfold maxLen;omega) (by omega) HBa.out ?_;intro v' w4 hown4 hb4 hk4 hgr4 hob4;have sh4:=ab_ hown4;obtain⟨ao4,cap4,e4⟩:=sh4;subst e4;have HX4:=qb (hk4.blk g _ _ _ (by decide) (HB5.out _));have k3:=(chp HX4.out 3).trans rfl;have kf:=fhp HX4.out 3;have HE:=qb (HF.out _ _ w5 w4 HK5.out HW5.out hown4 ((((Below.refl B w5).alloc HB6.out _)).trans hb4) (fun b hb hne=>(hgr4 b (by simp;omega) hne).trans (Below.heap_alloc w5 _ b hb)) (hob4.imp id (fun e b hb=>by rw[e]at hb;injection hb with hb;simp at hb;omega)));clear hown4 hb4 hk4 hgr4 hob4)
  | (go_simp;go_invoke;go_upon;go_at_call 162;refine(qa (CN _ HKD.out)).mono ?_;rintro e w5⟨v,rfl,⟨ko,kc,e6,hk⟩,hb⟩;subst e6;have HK5:Hid (w5.ownsRow w.heap.size 3 1 (.slice ko (ks).length kc) (ks:List Int).length ((ks:List Int).map I64)):=hk;have HW5:Hid (Below w.heap.size w w5):=(Below.refl w.heap.size w).drew.trans hb;have G5:=addG HN3.out HBX.out HW5.out hBw;obtain⟨HOa,HB6,HBa,HB5,z3,hg5⟩:=G5;clear hk hb))
 all_goals
  go_wp2
  go_ret
  exact⟨rfl,HE.out⟩
end Go.Proofs.YtcpapceeekkacaaGreatDoor
