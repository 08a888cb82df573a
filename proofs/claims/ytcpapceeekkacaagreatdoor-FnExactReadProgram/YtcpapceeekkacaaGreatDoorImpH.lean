import Derived.Test.YtcpapceeekkacaaGreatDoorImpF
import Derived.Test.YtcpapceeekkacaaGreatDoorScnW
set_option maxRecDepth 100000
set_option maxHeartbeats 8000000
namespace Go.Proofs.YtcpapceeekkacaaGreatDoor
open Go.RowKit
def aC7 (ks:List Int) (k:Int):Prop:=ks.length≤12∧(∀ x∈ks,0≤x∧x<k)∧ks.Nodup
instance (ks:List Int) (k:Int):Decidable (aC7 ks k):=by unfold aC7;infer_instance
def ag9 (ks:List Int) (k:Int):Bool:=decide (aC7 ks k)
def AheadR (W:World) (ks:List Int) (k:Int) (iv:Value) (wr:World):Prop :=
 ∃ i:Nat,i≤ks.length∧iv=.int .i64 i∧wr=W∧Hid ((∀ x∈ks.take i,0≤x∧x<k)∧(ks.take i).Nodup)
theorem aa6.take {w:World}{a:Addr}{c:Nat}{ks:List Int}(h:aa6 w (.slice (some a) ks.length c) ks) (i:Nat) (hi:i≤ks.length):aa6 w (.slice (some a) i c) (ks.take i):=by
 obtain⟨ao,c',e,hc⟩:=h
 injection e with e1 e2 e3
 subst e1 e3
 refine⟨some a,c,by rw[List.length_take,Nat.min_eq_left hi],fun j hj=>?_⟩
 rw[List.length_take]at hj
 obtain⟨a',e,h1,h2⟩:=hc j (by omega)
 exact⟨a',e,h1,by rw[List.getElem_take];exact h2⟩
theorem ae5 (kd nu:Int) (nm mo it:ByteArray) (kv:Value) (ks:List Int) (k:Int) (w:World) (hK:aa6 w kv ks) (hr:Room kv) :
  Calls Tryz.prog 105 #[.agg #[.int .i64 kd,.int .i64 nu,.string nm,.string mo,.string it,kv],.int .i64 k] w fun e w'=>e=.returned (.bool (ag9 ks k))∧Below w.heap.size w w':=by
 have hb:Below w.heap.size w (w.alloc (.cells #[.int .i64 kd,.int .i64 nu,.string nm,.string mo,.string it,kv] 74)):=bal _ _
 have hx:=qb (NdBox.made w kd nu nm mo it kv 74)
 have HK:=qb (hK.stays hb)
 have HB:=qb hb
 clear hb
 obtain⟨ao,c,rfl,_⟩:=hK
 have hr2:ks.length≤c:=hr
 obtain⟨n,en⟩:∃ n,ks.length=n:=⟨_,rfl⟩
 have EN:=qb en
 rw[en]at HK HB hx hr2 ⊢
 clear en hr
 by_cases h12:n≤12
 ·have h12':¬ (12:Int)<(n:Int):=by omega
  go_enter Tryz.func105,Tryz.ntmps105
  go_wp2
  obtain⟨W,hW⟩:∃ W,w.alloc (.cells #[.int .i64 kd,.int .i64 nu,.string nm,.string mo,.string it,.slice ao n c] 74)=W:=⟨_,rfl⟩
  rw[hW]at HK HB hx ⊢
  clear hW
  go_loopw [14] (AheadR W ks k) (fun iv _=>n-(intOf iv).toNat)
  case atStart=>exact⟨0,by omega,rfl,rfl,by simp,by simp⟩
  case round =>
   obtain⟨i,hi,rfl,rfl,HA⟩:=hrel
   rw[EN.out]at hi
   obtain⟨c0,c1,c2,c3,c4,c5,_⟩:=hx.out
   by_cases hlt:i<n
   ·have hlt':(i:Int)<(n:Int):=by omega
    have hi0:(0:Int)≤(i:Int):=by omega
    have hic:(i:Int)≤(c:Int):=by omega
    have hix:i<ks.length:=by rw[EN.out];exact hlt
    obtain⟨ao',c',e1,hc1⟩:=HK.out
    injection e1 with e2 e3 e4
    subst e2
    obtain⟨a,rfl,_,hxx⟩:=hc1 i hix
    have HT:Hid (aa6 wr (.slice (some a) i c) (ks.take i)):=aa6.take (by have:=HK.out;rwa [←EN.out]at this) i (by omega)
    have hl12:(ks.take i).length≤1048576:=by rw[List.length_take];omega
    have C:=fun w h=>qb (aO0 (.slice (some a) i c) (ks.take i) ks[i] w h hl12)
    have HX:Hid (ks.take (i+1)=ks.take i++[ks[i]]):=List.take_succ_eq_append_getElem hix
    have HM:Hid (ks[i]∈ks):=List.getElem_mem hix
    have HD:Hid (ks[i]∈ks.take i→¬ ks.Nodup):=fun h1 h2=>by
     obtain⟨j,hj,e⟩:=List.mem_take_iff_getElem.1 h1
     have:=List.pairwise_iff_getElem.1 h2 j i (by omega) hix (by omega)
     exact this e
    obtain⟨x,ex⟩:∃ x,ks[i]=x:=⟨_,rfl⟩
    rw[ex]at hxx C HX HM HD
    clear ex hc1 e3 e4 hl12
    by_cases hx0:x<0
    ·have HF:Hid (ag9 ks k=false):=by
      show _=_
      rw[ag9,decide_eq_false_iff_not]
      exact fun h=>absurd (h.2.1 x HM.out).1 (by omega)
     (go_wp2_with (go_at_call 125;refine(qa (C _ HT.out)).mono ?_;rintro e w2⟨rfl,rfl⟩))
     go_ret
     exact⟨by rw[HF.out];rfl,HB.out⟩
    ·by_cases hxk:k≤x
     ·have HF:Hid (ag9 ks k=false):=by
       show _=_
       rw[ag9,decide_eq_false_iff_not]
       exact fun h=>absurd (h.2.1 x HM.out).2 (by omega)
      (go_wp2_with (go_at_call 125;refine(qa (C _ HT.out)).mono ?_;rintro e w2⟨rfl,rfl⟩))
      go_ret
      exact⟨by rw[HF.out];rfl,HB.out⟩
     ·by_cases hin:x∈ks.take i
      ·have HF:Hid (ag9 ks k=false):=by
        show _=_
        rw[ag9,decide_eq_false_iff_not]
        exact fun h=>HD.out hin h.2.2
       have e:decide (x∈ks.take i)=true:=decide_eq_true hin
       rw[e]at C
       clear hin e
       (go_wp2_with (go_at_call 125;refine(qa (C _ HT.out)).mono ?_;rintro e w2⟨rfl,rfl⟩))
       go_ret
       exact⟨by rw[HF.out];rfl,HB.out⟩
      ·have e:decide (x∈ks.take i)=false:=decide_eq_false hin
       have HIN:=qb hin
       rw[e]at C
       clear hin e
       (go_wp2_with (go_at_call 125;refine(qa (C _ HT.out)).mono ?_;rintro e w2⟨rfl,rfl⟩))
       go_roundw
       case rel=>exact⟨i+1,by rw[EN.out];omega,by go_num,rfl,by
        rw[HX.out]
        obtain⟨h1,h2⟩:=HA.out
        refine⟨fun y hy=>?_,List.nodup_append.2 ⟨h2,by simp,fun a ha b hb=>?_⟩⟩
        ·rcases List.mem_append.1 hy with hy|hy
         ·exact h1 y hy
         ·simp at hy;subst hy;omega
        ·simp at hb;subst hb;exact fun e=>HIN.out (e▸ha)⟩
       case measure=>simp[intOf];omega
   ·have hlt':¬ (i:Int)<(n:Int):=by omega
    have HF:Hid (ag9 ks k=true):=by
     show _=_
     have h:=HA.out
     rw[List.take_of_length_le (by rw[EN.out];omega)]at h
     rw[ag9,decide_eq_true_eq]
     exact⟨by rw[EN.out];exact h12,h.1,h.2⟩
    go_wp2
    go_ret
    exact⟨by rw[HF.out];rfl,HB.out⟩
 ·have h12':(12:Int)<(n:Int):=by omega
  have HF:Hid (ag9 ks k=false):=by
   show _=_
   rw[ag9,decide_eq_false_iff_not]
   exact fun h=>h12 (by rw[←EN.out];exact h.1)
  go_enter Tryz.func105,Tryz.ntmps105
  go_wp2
  go_ret
  exact⟨by rw[HF.out];rfl,HB.out⟩
def aj9 (kd:Int):Int:=if af8 kd then 1 else if aj4 kd then 2 else if kd=20 then 3 else 0
theorem aJ6 (kd nu:Int) (nm mo it:ByteArray) (kv:Value) (ks:List Int) (w:World) (hK:aa6 w kv ks) :
  Calls Tryz.prog 108 #[.agg #[.int .i64 kd,.int .i64 nu,.string nm,.string mo,.string it,kv]] w fun e w'=>e=.returned (.int .i64 (aj9 kd))∧Below w.heap.size w w':=by
 have hb:Below w.heap.size w (w.alloc (.cells #[.int .i64 kd,.int .i64 nu,.string nm,.string mo,.string it,kv] 74)):=bal _ _
 have HK:=qb (hK.stays hb)
 have HB:=qb hb
 have C:=fun w h=>qb (ah8 kd nu nm mo it kv ks w h)
 clear hb
 obtain⟨ao,c,rfl,_⟩:=hK
 by_cases h1:kd=1
 ·subst h1
  have e:aj9 1=1:=rfl
  rw[e]
  have e:ae8 1 nu nm mo it (.slice ao ks.length c) ks=.iface 134 (.agg #[.int .i64 nu]):=rfl
  rw[e]at C
  clear e
  have y0:=fun w=>aI9 (.agg #[.int .i64 nu]) w
  have y1:=fun w=>ab6 134 (.agg #[.int .i64 nu]) w (by decide)
  have y2:=fun w=>ab2 134 (.agg #[.int .i64 nu]) w (by decide)
  have y3:=fun w=>ac_ 134 (.agg #[.int .i64 nu]) w (by decide)
  have y4:=fun w=>ac4 134 (.agg #[.int .i64 nu]) w (by decide)
  have y5:=fun w=>ac9 134 (.agg #[.int .i64 nu]) w (by decide)
  have y6:=fun w=>ae4 134 (.agg #[.int .i64 nu]) w (by decide)
  have y7:=fun w=>ab8 134 (.agg #[.int .i64 nu]) w (by decide)
  have y8:=fun w=>ad_ 134 (.agg #[.int .i64 nu]) w (by decide)
  have y9:=fun w=>ac6 134 (.agg #[.int .i64 nu]) w (by decide)
  have y10:=fun w=>ae_ 134 (.agg #[.int .i64 nu]) w (by decide)
  have y11:=fun w=>ad6 134 (.agg #[.int .i64 nu]) w (by decide)
  have y12:=fun w=>af2 134 (.agg #[.int .i64 nu]) w (by decide)
  have y13:=fun w=>ag_ 134 (.agg #[.int .i64 nu]) w (by decide)
  have y14:=fun w=>ae6 134 (.agg #[.int .i64 nu]) w (by decide)
  (
 go_enter Tryz.func108,Tryz.ntmps108;
 go_wp2_with (go_at_call 103;refine(qa (C _ HK.out)).mono ?_;rintro e w2⟨rfl,hb2⟩;have HB:=qb (HB.out.trans (hb2.mono HB.out.size));clear hb2);
 go_ret;
 exact⟨rfl,HB.out⟩)
 by_cases h2:kd=2
 ·subst h2
  have e:aj9 2=1:=rfl
  rw[e]
  have e:ae8 2 nu nm mo it (.slice ao ks.length c) ks=.iface 136 (.agg #[.string nm]):=rfl
  rw[e]at C
  clear e
  have y0:=fun w=>ab4 136 (.agg #[.string nm]) w (by decide)
  have y1:=fun w=>aJ0 (.agg #[.string nm]) w
  have y2:=fun w=>ab2 136 (.agg #[.string nm]) w (by decide)
  have y3:=fun w=>ac_ 136 (.agg #[.string nm]) w (by decide)
  have y4:=fun w=>ac4 136 (.agg #[.string nm]) w (by decide)
  have y5:=fun w=>ac9 136 (.agg #[.string nm]) w (by decide)
  have y6:=fun w=>ae4 136 (.agg #[.string nm]) w (by decide)
  have y7:=fun w=>ab8 136 (.agg #[.string nm]) w (by decide)
  have y8:=fun w=>ad_ 136 (.agg #[.string nm]) w (by decide)
  have y9:=fun w=>ac6 136 (.agg #[.string nm]) w (by decide)
  have y10:=fun w=>ae_ 136 (.agg #[.string nm]) w (by decide)
  have y11:=fun w=>ad6 136 (.agg #[.string nm]) w (by decide)
  have y12:=fun w=>af2 136 (.agg #[.string nm]) w (by decide)
  have y13:=fun w=>ag_ 136 (.agg #[.string nm]) w (by decide)
  have y14:=fun w=>ae6 136 (.agg #[.string nm]) w (by decide)
  (
 go_enter Tryz.func108,Tryz.ntmps108;
 go_wp2_with (go_at_call 103;refine(qa (C _ HK.out)).mono ?_;rintro e w2⟨rfl,hb2⟩;have HB:=qb (HB.out.trans (hb2.mono HB.out.size));clear hb2);
 go_ret;
 exact⟨rfl,HB.out⟩)
 by_cases h3:kd=3
 ·subst h3
  have e:aj9 3=1:=rfl
  rw[e]
  have e:ae8 3 nu nm mo it (.slice ao ks.length c) ks=.iface 138 (.agg #[.int .i64 nu,.int .i64 (ks[0]?.getD (-1)),.int .i64 (ks[1]?.getD (-1))]):=rfl
  rw[e]at C
  clear e
  have y0:=fun w=>ab4 138 (.agg #[.int .i64 nu,.int .i64 (ks[0]?.getD (-1)),.int .i64 (ks[1]?.getD (-1))]) w (by decide)
  have y1:=fun w=>ab6 138 (.agg #[.int .i64 nu,.int .i64 (ks[0]?.getD (-1)),.int .i64 (ks[1]?.getD (-1))]) w (by decide)
  have y2:=fun w=>aE7 (.agg #[.int .i64 nu,.int .i64 (ks[0]?.getD (-1)),.int .i64 (ks[1]?.getD (-1))]) w
  have y3:=fun w=>ac_ 138 (.agg #[.int .i64 nu,.int .i64 (ks[0]?.getD (-1)),.int .i64 (ks[1]?.getD (-1))]) w (by decide)
  have y4:=fun w=>ac4 138 (.agg #[.int .i64 nu,.int .i64 (ks[0]?.getD (-1)),.int .i64 (ks[1]?.getD (-1))]) w (by decide)
  have y5:=fun w=>ac9 138 (.agg #[.int .i64 nu,.int .i64 (ks[0]?.getD (-1)),.int .i64 (ks[1]?.getD (-1))]) w (by decide)
  have y6:=fun w=>ae4 138 (.agg #[.int .i64 nu,.int .i64 (ks[0]?.getD (-1)),.int .i64 (ks[1]?.getD (-1))]) w (by decide)
  have y7:=fun w=>ab8 138 (.agg #[.int .i64 nu,.int .i64 (ks[0]?.getD (-1)),.int .i64 (ks[1]?.getD (-1))]) w (by decide)
  have y8:=fun w=>ad_ 138 (.agg #[.int .i64 nu,.int .i64 (ks[0]?.getD (-1)),.int .i64 (ks[1]?.getD (-1))]) w (by decide)
  have y9:=fun w=>ac6 138 (.agg #[.int .i64 nu,.int .i64 (ks[0]?.getD (-1)),.int .i64 (ks[1]?.getD (-1))]) w (by decide)
  have y10:=fun w=>ae_ 138 (.agg #[.int .i64 nu,.int .i64 (ks[0]?.getD (-1)),.int .i64 (ks[1]?.getD (-1))]) w (by decide)
  have y11:=fun w=>ad6 138 (.agg #[.int .i64 nu,.int .i64 (ks[0]?.getD (-1)),.int .i64 (ks[1]?.getD (-1))]) w (by decide)
  have y12:=fun w=>af2 138 (.agg #[.int .i64 nu,.int .i64 (ks[0]?.getD (-1)),.int .i64 (ks[1]?.getD (-1))]) w (by decide)
  have y13:=fun w=>ag_ 138 (.agg #[.int .i64 nu,.int .i64 (ks[0]?.getD (-1)),.int .i64 (ks[1]?.getD (-1))]) w (by decide)
  have y14:=fun w=>ae6 138 (.agg #[.int .i64 nu,.int .i64 (ks[0]?.getD (-1)),.int .i64 (ks[1]?.getD (-1))]) w (by decide)
  (
 go_enter Tryz.func108,Tryz.ntmps108;
 go_wp2_with (go_at_call 103;refine(qa (C _ HK.out)).mono ?_;rintro e w2⟨rfl,hb2⟩;have HB:=qb (HB.out.trans (hb2.mono HB.out.size));clear hb2);
 go_ret;
 exact⟨rfl,HB.out⟩)
 by_cases h4:kd=4
 ·subst h4
  have e:aj9 4=1:=rfl
  rw[e]
  have e:ae8 4 nu nm mo it (.slice ao ks.length c) ks=.iface 140 (.agg #[.int .i64 (ks[0]?.getD (-1))]):=rfl
  rw[e]at C
  clear e
  have y0:=fun w=>ab4 140 (.agg #[.int .i64 (ks[0]?.getD (-1))]) w (by decide)
  have y1:=fun w=>ab6 140 (.agg #[.int .i64 (ks[0]?.getD (-1))]) w (by decide)
  have y2:=fun w=>ab2 140 (.agg #[.int .i64 (ks[0]?.getD (-1))]) w (by decide)
  have y3:=fun w=>aI8 (.agg #[.int .i64 (ks[0]?.getD (-1))]) w
  have y4:=fun w=>ac4 140 (.agg #[.int .i64 (ks[0]?.getD (-1))]) w (by decide)
  have y5:=fun w=>ac9 140 (.agg #[.int .i64 (ks[0]?.getD (-1))]) w (by decide)
  have y6:=fun w=>ae4 140 (.agg #[.int .i64 (ks[0]?.getD (-1))]) w (by decide)
  have y7:=fun w=>ab8 140 (.agg #[.int .i64 (ks[0]?.getD (-1))]) w (by decide)
  have y8:=fun w=>ad_ 140 (.agg #[.int .i64 (ks[0]?.getD (-1))]) w (by decide)
  have y9:=fun w=>ac6 140 (.agg #[.int .i64 (ks[0]?.getD (-1))]) w (by decide)
  have y10:=fun w=>ae_ 140 (.agg #[.int .i64 (ks[0]?.getD (-1))]) w (by decide)
  have y11:=fun w=>ad6 140 (.agg #[.int .i64 (ks[0]?.getD (-1))]) w (by decide)
  have y12:=fun w=>af2 140 (.agg #[.int .i64 (ks[0]?.getD (-1))]) w (by decide)
  have y13:=fun w=>ag_ 140 (.agg #[.int .i64 (ks[0]?.getD (-1))]) w (by decide)
  have y14:=fun w=>ae6 140 (.agg #[.int .i64 (ks[0]?.getD (-1))]) w (by decide)
  (
 go_enter Tryz.func108,Tryz.ntmps108;
 go_wp2_with (go_at_call 103;refine(qa (C _ HK.out)).mono ?_;rintro e w2⟨rfl,hb2⟩;have HB:=qb (HB.out.trans (hb2.mono HB.out.size));clear hb2);
 go_ret;
 exact⟨rfl,HB.out⟩)
 by_cases h5:kd=5
 ·subst h5
  have e:aj9 5=1:=rfl
  rw[e]
  have e:ae8 5 nu nm mo it (.slice ao ks.length c) ks=.iface 141 (.agg #[.int .i64 (ks[0]?.getD (-1))]):=rfl
  rw[e]at C
  clear e
  have y0:=fun w=>ab4 141 (.agg #[.int .i64 (ks[0]?.getD (-1))]) w (by decide)
  have y1:=fun w=>ab6 141 (.agg #[.int .i64 (ks[0]?.getD (-1))]) w (by decide)
  have y2:=fun w=>ab2 141 (.agg #[.int .i64 (ks[0]?.getD (-1))]) w (by decide)
  have y3:=fun w=>ac_ 141 (.agg #[.int .i64 (ks[0]?.getD (-1))]) w (by decide)
  have y4:=fun w=>aI7 (.agg #[.int .i64 (ks[0]?.getD (-1))]) w
  have y5:=fun w=>ac9 141 (.agg #[.int .i64 (ks[0]?.getD (-1))]) w (by decide)
  have y6:=fun w=>ae4 141 (.agg #[.int .i64 (ks[0]?.getD (-1))]) w (by decide)
  have y7:=fun w=>ab8 141 (.agg #[.int .i64 (ks[0]?.getD (-1))]) w (by decide)
  have y8:=fun w=>ad_ 141 (.agg #[.int .i64 (ks[0]?.getD (-1))]) w (by decide)
  have y9:=fun w=>ac6 141 (.agg #[.int .i64 (ks[0]?.getD (-1))]) w (by decide)
  have y10:=fun w=>ae_ 141 (.agg #[.int .i64 (ks[0]?.getD (-1))]) w (by decide)
  have y11:=fun w=>ad6 141 (.agg #[.int .i64 (ks[0]?.getD (-1))]) w (by decide)
  have y12:=fun w=>af2 141 (.agg #[.int .i64 (ks[0]?.getD (-1))]) w (by decide)
  have y13:=fun w=>ag_ 141 (.agg #[.int .i64 (ks[0]?.getD (-1))]) w (by decide)
  have y14:=fun w=>ae6 141 (.agg #[.int .i64 (ks[0]?.getD (-1))]) w (by decide)
  (
 go_enter Tryz.func108,Tryz.ntmps108;
 go_wp2_with (go_at_call 103;refine(qa (C _ HK.out)).mono ?_;rintro e w2⟨rfl,hb2⟩;have HB:=qb (HB.out.trans (hb2.mono HB.out.size));clear hb2);
 go_ret;
 exact⟨rfl,HB.out⟩)
 by_cases h11:kd=11
 ·subst h11
  have e:aj9 11=2:=rfl
  rw[e]
  have e:ae8 11 nu nm mo it (.slice ao ks.length c) ks=.iface 143 (.agg #[.string nm,.int .i64 (ks[0]?.getD (-1))]):=rfl
  rw[e]at C
  clear e
  have y0:=fun w=>ab4 143 (.agg #[.string nm,.int .i64 (ks[0]?.getD (-1))]) w (by decide)
  have y1:=fun w=>ab6 143 (.agg #[.string nm,.int .i64 (ks[0]?.getD (-1))]) w (by decide)
  have y2:=fun w=>ab2 143 (.agg #[.string nm,.int .i64 (ks[0]?.getD (-1))]) w (by decide)
  have y3:=fun w=>ac_ 143 (.agg #[.string nm,.int .i64 (ks[0]?.getD (-1))]) w (by decide)
  have y4:=fun w=>ac4 143 (.agg #[.string nm,.int .i64 (ks[0]?.getD (-1))]) w (by decide)
  have y5:=fun w=>aJ_ (.agg #[.string nm,.int .i64 (ks[0]?.getD (-1))]) w
  have y6:=fun w=>ae4 143 (.agg #[.string nm,.int .i64 (ks[0]?.getD (-1))]) w (by decide)
  have y7:=fun w=>ab8 143 (.agg #[.string nm,.int .i64 (ks[0]?.getD (-1))]) w (by decide)
  have y8:=fun w=>ad_ 143 (.agg #[.string nm,.int .i64 (ks[0]?.getD (-1))]) w (by decide)
  have y9:=fun w=>ac6 143 (.agg #[.string nm,.int .i64 (ks[0]?.getD (-1))]) w (by decide)
  have y10:=fun w=>ae_ 143 (.agg #[.string nm,.int .i64 (ks[0]?.getD (-1))]) w (by decide)
  have y11:=fun w=>ad6 143 (.agg #[.string nm,.int .i64 (ks[0]?.getD (-1))]) w (by decide)
  have y12:=fun w=>af2 143 (.agg #[.string nm,.int .i64 (ks[0]?.getD (-1))]) w (by decide)
  have y13:=fun w=>ag_ 143 (.agg #[.string nm,.int .i64 (ks[0]?.getD (-1))]) w (by decide)
  have y14:=fun w=>ae6 143 (.agg #[.string nm,.int .i64 (ks[0]?.getD (-1))]) w (by decide)
  (
 go_enter Tryz.func108,Tryz.ntmps108;
 go_wp2_with (go_at_call 103;refine(qa (C _ HK.out)).mono ?_;rintro e w2⟨rfl,hb2⟩;have HB:=qb (HB.out.trans (hb2.mono HB.out.size));clear hb2);
 go_ret;
 exact⟨rfl,HB.out⟩)
 by_cases h12:kd=12
 ·subst h12
  have e:aj9 12=2:=rfl
  rw[e]
  have e:ae8 12 nu nm mo it (.slice ao ks.length c) ks=.iface 145 (.agg #[.int .i64 (ks[0]?.getD (-1)),.int .i64 (ks[1]?.getD (-1)),.int .i64 (ks[2]?.getD (-1))]):=rfl
  rw[e]at C
  clear e
  have y0:=fun w=>ab4 145 (.agg #[.int .i64 (ks[0]?.getD (-1)),.int .i64 (ks[1]?.getD (-1)),.int .i64 (ks[2]?.getD (-1))]) w (by decide)
  have y1:=fun w=>ab6 145 (.agg #[.int .i64 (ks[0]?.getD (-1)),.int .i64 (ks[1]?.getD (-1)),.int .i64 (ks[2]?.getD (-1))]) w (by decide)
  have y2:=fun w=>ab2 145 (.agg #[.int .i64 (ks[0]?.getD (-1)),.int .i64 (ks[1]?.getD (-1)),.int .i64 (ks[2]?.getD (-1))]) w (by decide)
  have y3:=fun w=>ac_ 145 (.agg #[.int .i64 (ks[0]?.getD (-1)),.int .i64 (ks[1]?.getD (-1)),.int .i64 (ks[2]?.getD (-1))]) w (by decide)
  have y4:=fun w=>ac4 145 (.agg #[.int .i64 (ks[0]?.getD (-1)),.int .i64 (ks[1]?.getD (-1)),.int .i64 (ks[2]?.getD (-1))]) w (by decide)
  have y5:=fun w=>ac9 145 (.agg #[.int .i64 (ks[0]?.getD (-1)),.int .i64 (ks[1]?.getD (-1)),.int .i64 (ks[2]?.getD (-1))]) w (by decide)
  have y6:=fun w=>aR_ (.agg #[.int .i64 (ks[0]?.getD (-1)),.int .i64 (ks[1]?.getD (-1)),.int .i64 (ks[2]?.getD (-1))]) w
  have y7:=fun w=>ab8 145 (.agg #[.int .i64 (ks[0]?.getD (-1)),.int .i64 (ks[1]?.getD (-1)),.int .i64 (ks[2]?.getD (-1))]) w (by decide)
  have y8:=fun w=>ad_ 145 (.agg #[.int .i64 (ks[0]?.getD (-1)),.int .i64 (ks[1]?.getD (-1)),.int .i64 (ks[2]?.getD (-1))]) w (by decide)
  have y9:=fun w=>ac6 145 (.agg #[.int .i64 (ks[0]?.getD (-1)),.int .i64 (ks[1]?.getD (-1)),.int .i64 (ks[2]?.getD (-1))]) w (by decide)
  have y10:=fun w=>ae_ 145 (.agg #[.int .i64 (ks[0]?.getD (-1)),.int .i64 (ks[1]?.getD (-1)),.int .i64 (ks[2]?.getD (-1))]) w (by decide)
  have y11:=fun w=>ad6 145 (.agg #[.int .i64 (ks[0]?.getD (-1)),.int .i64 (ks[1]?.getD (-1)),.int .i64 (ks[2]?.getD (-1))]) w (by decide)
  have y12:=fun w=>af2 145 (.agg #[.int .i64 (ks[0]?.getD (-1)),.int .i64 (ks[1]?.getD (-1)),.int .i64 (ks[2]?.getD (-1))]) w (by decide)
  have y13:=fun w=>ag_ 145 (.agg #[.int .i64 (ks[0]?.getD (-1)),.int .i64 (ks[1]?.getD (-1)),.int .i64 (ks[2]?.getD (-1))]) w (by decide)
  have y14:=fun w=>ae6 145 (.agg #[.int .i64 (ks[0]?.getD (-1)),.int .i64 (ks[1]?.getD (-1)),.int .i64 (ks[2]?.getD (-1))]) w (by decide)
  (
 go_enter Tryz.func108,Tryz.ntmps108;
 go_wp2_with (go_at_call 103;refine(qa (C _ HK.out)).mono ?_;rintro e w2⟨rfl,hb2⟩;have HB:=qb (HB.out.trans (hb2.mono HB.out.size));clear hb2);
 go_ret;
 exact⟨rfl,HB.out⟩)
 by_cases h13:kd=13
 ·subst h13
  have e:aj9 13=2:=rfl
  rw[e]
  have e:ae8 13 nu nm mo it (.slice ao ks.length c) ks=.iface 147 (.agg #[.int .i64 (ks[0]?.getD (-1)),.int .i64 (ks[1]?.getD (-1))]):=rfl
  rw[e]at C
  clear e
  have y0:=fun w=>ab4 147 (.agg #[.int .i64 (ks[0]?.getD (-1)),.int .i64 (ks[1]?.getD (-1))]) w (by decide)
  have y1:=fun w=>ab6 147 (.agg #[.int .i64 (ks[0]?.getD (-1)),.int .i64 (ks[1]?.getD (-1))]) w (by decide)
  have y2:=fun w=>ab2 147 (.agg #[.int .i64 (ks[0]?.getD (-1)),.int .i64 (ks[1]?.getD (-1))]) w (by decide)
  have y3:=fun w=>ac_ 147 (.agg #[.int .i64 (ks[0]?.getD (-1)),.int .i64 (ks[1]?.getD (-1))]) w (by decide)
  have y4:=fun w=>ac4 147 (.agg #[.int .i64 (ks[0]?.getD (-1)),.int .i64 (ks[1]?.getD (-1))]) w (by decide)
  have y5:=fun w=>ac9 147 (.agg #[.int .i64 (ks[0]?.getD (-1)),.int .i64 (ks[1]?.getD (-1))]) w (by decide)
  have y6:=fun w=>ae4 147 (.agg #[.int .i64 (ks[0]?.getD (-1)),.int .i64 (ks[1]?.getD (-1))]) w (by decide)
  have y7:=fun w=>aB4 (.agg #[.int .i64 (ks[0]?.getD (-1)),.int .i64 (ks[1]?.getD (-1))]) w
  have y8:=fun w=>ad_ 147 (.agg #[.int .i64 (ks[0]?.getD (-1)),.int .i64 (ks[1]?.getD (-1))]) w (by decide)
  have y9:=fun w=>ac6 147 (.agg #[.int .i64 (ks[0]?.getD (-1)),.int .i64 (ks[1]?.getD (-1))]) w (by decide)
  have y10:=fun w=>ae_ 147 (.agg #[.int .i64 (ks[0]?.getD (-1)),.int .i64 (ks[1]?.getD (-1))]) w (by decide)
  have y11:=fun w=>ad6 147 (.agg #[.int .i64 (ks[0]?.getD (-1)),.int .i64 (ks[1]?.getD (-1))]) w (by decide)
  have y12:=fun w=>af2 147 (.agg #[.int .i64 (ks[0]?.getD (-1)),.int .i64 (ks[1]?.getD (-1))]) w (by decide)
  have y13:=fun w=>ag_ 147 (.agg #[.int .i64 (ks[0]?.getD (-1)),.int .i64 (ks[1]?.getD (-1))]) w (by decide)
  have y14:=fun w=>ae6 147 (.agg #[.int .i64 (ks[0]?.getD (-1)),.int .i64 (ks[1]?.getD (-1))]) w (by decide)
  (
 go_enter Tryz.func108,Tryz.ntmps108;
 go_wp2_with (go_at_call 103;refine(qa (C _ HK.out)).mono ?_;rintro e w2⟨rfl,hb2⟩;have HB:=qb (HB.out.trans (hb2.mono HB.out.size));clear hb2);
 go_ret;
 exact⟨rfl,HB.out⟩)
 by_cases h14:kd=14
 ·subst h14
  have e:aj9 14=2:=rfl
  rw[e]
  have e:ae8 14 nu nm mo it (.slice ao ks.length c) ks=.iface 149 (.agg #[.string nm,.string mo,.string it,.int .i64 (ks[0]?.getD (-1))]):=rfl
  rw[e]at C
  clear e
  have y0:=fun w=>ab4 149 (.agg #[.string nm,.string mo,.string it,.int .i64 (ks[0]?.getD (-1))]) w (by decide)
  have y1:=fun w=>ab6 149 (.agg #[.string nm,.string mo,.string it,.int .i64 (ks[0]?.getD (-1))]) w (by decide)
  have y2:=fun w=>ab2 149 (.agg #[.string nm,.string mo,.string it,.int .i64 (ks[0]?.getD (-1))]) w (by decide)
  have y3:=fun w=>ac_ 149 (.agg #[.string nm,.string mo,.string it,.int .i64 (ks[0]?.getD (-1))]) w (by decide)
  have y4:=fun w=>ac4 149 (.agg #[.string nm,.string mo,.string it,.int .i64 (ks[0]?.getD (-1))]) w (by decide)
  have y5:=fun w=>ac9 149 (.agg #[.string nm,.string mo,.string it,.int .i64 (ks[0]?.getD (-1))]) w (by decide)
  have y6:=fun w=>ae4 149 (.agg #[.string nm,.string mo,.string it,.int .i64 (ks[0]?.getD (-1))]) w (by decide)
  have y7:=fun w=>ab8 149 (.agg #[.string nm,.string mo,.string it,.int .i64 (ks[0]?.getD (-1))]) w (by decide)
  have y8:=fun w=>aE8 (.agg #[.string nm,.string mo,.string it,.int .i64 (ks[0]?.getD (-1))]) w
  have y9:=fun w=>ac6 149 (.agg #[.string nm,.string mo,.string it,.int .i64 (ks[0]?.getD (-1))]) w (by decide)
  have y10:=fun w=>ae_ 149 (.agg #[.string nm,.string mo,.string it,.int .i64 (ks[0]?.getD (-1))]) w (by decide)
  have y11:=fun w=>ad6 149 (.agg #[.string nm,.string mo,.string it,.int .i64 (ks[0]?.getD (-1))]) w (by decide)
  have y12:=fun w=>af2 149 (.agg #[.string nm,.string mo,.string it,.int .i64 (ks[0]?.getD (-1))]) w (by decide)
  have y13:=fun w=>ag_ 149 (.agg #[.string nm,.string mo,.string it,.int .i64 (ks[0]?.getD (-1))]) w (by decide)
  have y14:=fun w=>ae6 149 (.agg #[.string nm,.string mo,.string it,.int .i64 (ks[0]?.getD (-1))]) w (by decide)
  (
 go_enter Tryz.func108,Tryz.ntmps108;
 go_wp2_with (go_at_call 103;refine(qa (C _ HK.out)).mono ?_;rintro e w2⟨rfl,hb2⟩;have HB:=qb (HB.out.trans (hb2.mono HB.out.size));clear hb2);
 go_ret;
 exact⟨rfl,HB.out⟩)
 by_cases h15:kd=15
 ·subst h15
  have e:aj9 15=2:=rfl
  rw[e]
  have e:ae8 15 nu nm mo it (.slice ao ks.length c) ks=.iface 151 (.agg #[.int .i64 (ks[0]?.getD (-1))]):=rfl
  rw[e]at C
  clear e
  have y0:=fun w=>ab4 151 (.agg #[.int .i64 (ks[0]?.getD (-1))]) w (by decide)
  have y1:=fun w=>ab6 151 (.agg #[.int .i64 (ks[0]?.getD (-1))]) w (by decide)
  have y2:=fun w=>ab2 151 (.agg #[.int .i64 (ks[0]?.getD (-1))]) w (by decide)
  have y3:=fun w=>ac_ 151 (.agg #[.int .i64 (ks[0]?.getD (-1))]) w (by decide)
  have y4:=fun w=>ac4 151 (.agg #[.int .i64 (ks[0]?.getD (-1))]) w (by decide)
  have y5:=fun w=>ac9 151 (.agg #[.int .i64 (ks[0]?.getD (-1))]) w (by decide)
  have y6:=fun w=>ae4 151 (.agg #[.int .i64 (ks[0]?.getD (-1))]) w (by decide)
  have y7:=fun w=>ab8 151 (.agg #[.int .i64 (ks[0]?.getD (-1))]) w (by decide)
  have y8:=fun w=>ad_ 151 (.agg #[.int .i64 (ks[0]?.getD (-1))]) w (by decide)
  have y9:=fun w=>aB3 (.agg #[.int .i64 (ks[0]?.getD (-1))]) w
  have y10:=fun w=>ae_ 151 (.agg #[.int .i64 (ks[0]?.getD (-1))]) w (by decide)
  have y11:=fun w=>ad6 151 (.agg #[.int .i64 (ks[0]?.getD (-1))]) w (by decide)
  have y12:=fun w=>af2 151 (.agg #[.int .i64 (ks[0]?.getD (-1))]) w (by decide)
  have y13:=fun w=>ag_ 151 (.agg #[.int .i64 (ks[0]?.getD (-1))]) w (by decide)
  have y14:=fun w=>ae6 151 (.agg #[.int .i64 (ks[0]?.getD (-1))]) w (by decide)
  (
 go_enter Tryz.func108,Tryz.ntmps108;
 go_wp2_with (go_at_call 103;refine(qa (C _ HK.out)).mono ?_;rintro e w2⟨rfl,hb2⟩;have HB:=qb (HB.out.trans (hb2.mono HB.out.size));clear hb2);
 go_ret;
 exact⟨rfl,HB.out⟩)
 by_cases h16:kd=16
 ·subst h16
  have e:aj9 16=2:=rfl
  rw[e]
  have e:ae8 16 nu nm mo it (.slice ao ks.length c) ks=.iface 152 (.agg #[.string nm]):=rfl
  rw[e]at C
  clear e
  have y0:=fun w=>ab4 152 (.agg #[.string nm]) w (by decide)
  have y1:=fun w=>ab6 152 (.agg #[.string nm]) w (by decide)
  have y2:=fun w=>ab2 152 (.agg #[.string nm]) w (by decide)
  have y3:=fun w=>ac_ 152 (.agg #[.string nm]) w (by decide)
  have y4:=fun w=>ac4 152 (.agg #[.string nm]) w (by decide)
  have y5:=fun w=>ac9 152 (.agg #[.string nm]) w (by decide)
  have y6:=fun w=>ae4 152 (.agg #[.string nm]) w (by decide)
  have y7:=fun w=>ab8 152 (.agg #[.string nm]) w (by decide)
  have y8:=fun w=>ad_ 152 (.agg #[.string nm]) w (by decide)
  have y9:=fun w=>ac6 152 (.agg #[.string nm]) w (by decide)
  have y10:=fun w=>aF_ (.agg #[.string nm]) w
  have y11:=fun w=>ad6 152 (.agg #[.string nm]) w (by decide)
  have y12:=fun w=>af2 152 (.agg #[.string nm]) w (by decide)
  have y13:=fun w=>ag_ 152 (.agg #[.string nm]) w (by decide)
  have y14:=fun w=>ae6 152 (.agg #[.string nm]) w (by decide)
  (
 go_enter Tryz.func108,Tryz.ntmps108;
 go_wp2_with (go_at_call 103;refine(qa (C _ HK.out)).mono ?_;rintro e w2⟨rfl,hb2⟩;have HB:=qb (HB.out.trans (hb2.mono HB.out.size));clear hb2);
 go_ret;
 exact⟨rfl,HB.out⟩)
 by_cases h17:kd=17
 ·subst h17
  have e:aj9 17=2:=rfl
  rw[e]
  have e:ae8 17 nu nm mo it (.slice ao ks.length c) ks=.iface 153 (.agg #[.string nm]):=rfl
  rw[e]at C
  clear e
  have y0:=fun w=>ab4 153 (.agg #[.string nm]) w (by decide)
  have y1:=fun w=>ab6 153 (.agg #[.string nm]) w (by decide)
  have y2:=fun w=>ab2 153 (.agg #[.string nm]) w (by decide)
  have y3:=fun w=>ac_ 153 (.agg #[.string nm]) w (by decide)
  have y4:=fun w=>ac4 153 (.agg #[.string nm]) w (by decide)
  have y5:=fun w=>ac9 153 (.agg #[.string nm]) w (by decide)
  have y6:=fun w=>ae4 153 (.agg #[.string nm]) w (by decide)
  have y7:=fun w=>ab8 153 (.agg #[.string nm]) w (by decide)
  have y8:=fun w=>ad_ 153 (.agg #[.string nm]) w (by decide)
  have y9:=fun w=>ac6 153 (.agg #[.string nm]) w (by decide)
  have y10:=fun w=>ae_ 153 (.agg #[.string nm]) w (by decide)
  have y11:=fun w=>aB2 (.agg #[.string nm]) w
  have y12:=fun w=>af2 153 (.agg #[.string nm]) w (by decide)
  have y13:=fun w=>ag_ 153 (.agg #[.string nm]) w (by decide)
  have y14:=fun w=>ae6 153 (.agg #[.string nm]) w (by decide)
  (
 go_enter Tryz.func108,Tryz.ntmps108;
 go_wp2_with (go_at_call 103;refine(qa (C _ HK.out)).mono ?_;rintro e w2⟨rfl,hb2⟩;have HB:=qb (HB.out.trans (hb2.mono HB.out.size));clear hb2);
 go_ret;
 exact⟨rfl,HB.out⟩)
 by_cases h18:kd=18
 ·subst h18
  have e:aj9 18=2:=rfl
  rw[e]
  have e:ae8 18 nu nm mo it (.slice ao ks.length c) ks=.iface 154 (.agg #[.string nm]):=rfl
  rw[e]at C
  clear e
  have y0:=fun w=>ab4 154 (.agg #[.string nm]) w (by decide)
  have y1:=fun w=>ab6 154 (.agg #[.string nm]) w (by decide)
  have y2:=fun w=>ab2 154 (.agg #[.string nm]) w (by decide)
  have y3:=fun w=>ac_ 154 (.agg #[.string nm]) w (by decide)
  have y4:=fun w=>ac4 154 (.agg #[.string nm]) w (by decide)
  have y5:=fun w=>ac9 154 (.agg #[.string nm]) w (by decide)
  have y6:=fun w=>ae4 154 (.agg #[.string nm]) w (by decide)
  have y7:=fun w=>ab8 154 (.agg #[.string nm]) w (by decide)
  have y8:=fun w=>ad_ 154 (.agg #[.string nm]) w (by decide)
  have y9:=fun w=>ac6 154 (.agg #[.string nm]) w (by decide)
  have y10:=fun w=>ae_ 154 (.agg #[.string nm]) w (by decide)
  have y11:=fun w=>ad6 154 (.agg #[.string nm]) w (by decide)
  have y12:=fun w=>aE9 (.agg #[.string nm]) w
  have y13:=fun w=>ag_ 154 (.agg #[.string nm]) w (by decide)
  have y14:=fun w=>ae6 154 (.agg #[.string nm]) w (by decide)
  (
 go_enter Tryz.func108,Tryz.ntmps108;
 go_wp2_with (go_at_call 103;refine(qa (C _ HK.out)).mono ?_;rintro e w2⟨rfl,hb2⟩;have HB:=qb (HB.out.trans (hb2.mono HB.out.size));clear hb2);
 go_ret;
 exact⟨rfl,HB.out⟩)
 by_cases h19:kd=19
 ·subst h19
  have e:aj9 19=2:=rfl
  rw[e]
  have e:ae8 19 nu nm mo it (.slice ao ks.length c) ks=.iface 156 (.agg #[]):=rfl
  rw[e]at C
  clear e
  have y0:=fun w=>ab4 156 (.agg #[]) w (by decide)
  have y1:=fun w=>ab6 156 (.agg #[]) w (by decide)
  have y2:=fun w=>ab2 156 (.agg #[]) w (by decide)
  have y3:=fun w=>ac_ 156 (.agg #[]) w (by decide)
  have y4:=fun w=>ac4 156 (.agg #[]) w (by decide)
  have y5:=fun w=>ac9 156 (.agg #[]) w (by decide)
  have y6:=fun w=>ae4 156 (.agg #[]) w (by decide)
  have y7:=fun w=>ab8 156 (.agg #[]) w (by decide)
  have y8:=fun w=>ad_ 156 (.agg #[]) w (by decide)
  have y9:=fun w=>ac6 156 (.agg #[]) w (by decide)
  have y10:=fun w=>ae_ 156 (.agg #[]) w (by decide)
  have y11:=fun w=>ad6 156 (.agg #[]) w (by decide)
  have y12:=fun w=>af2 156 (.agg #[]) w (by decide)
  have y13:=fun w=>aW9 (.agg #[]) w
  have y14:=fun w=>ae6 156 (.agg #[]) w (by decide)
  (
 go_enter Tryz.func108,Tryz.ntmps108;
 go_wp2_with (go_at_call 103;refine(qa (C _ HK.out)).mono ?_;rintro e w2⟨rfl,hb2⟩;have HB:=qb (HB.out.trans (hb2.mono HB.out.size));clear hb2);
 go_ret;
 exact⟨rfl,HB.out⟩)
 by_cases h20:kd=20
 ·subst h20
  have e:aj9 20=3:=rfl
  rw[e]
  have e:ae8 20 nu nm mo it (.slice ao ks.length c) ks=.iface 132 (.agg #[.slice ao ks.length c]):=rfl
  rw[e]at C
  clear e
  have y0:=fun w=>ab4 132 (.agg #[.slice ao ks.length c]) w (by decide)
  have y1:=fun w=>ab6 132 (.agg #[.slice ao ks.length c]) w (by decide)
  have y2:=fun w=>ab2 132 (.agg #[.slice ao ks.length c]) w (by decide)
  have y3:=fun w=>ac_ 132 (.agg #[.slice ao ks.length c]) w (by decide)
  have y4:=fun w=>ac4 132 (.agg #[.slice ao ks.length c]) w (by decide)
  have y5:=fun w=>ac9 132 (.agg #[.slice ao ks.length c]) w (by decide)
  have y6:=fun w=>ae4 132 (.agg #[.slice ao ks.length c]) w (by decide)
  have y7:=fun w=>ab8 132 (.agg #[.slice ao ks.length c]) w (by decide)
  have y8:=fun w=>ad_ 132 (.agg #[.slice ao ks.length c]) w (by decide)
  have y9:=fun w=>ac6 132 (.agg #[.slice ao ks.length c]) w (by decide)
  have y10:=fun w=>ae_ 132 (.agg #[.slice ao ks.length c]) w (by decide)
  have y11:=fun w=>ad6 132 (.agg #[.slice ao ks.length c]) w (by decide)
  have y12:=fun w=>af2 132 (.agg #[.slice ao ks.length c]) w (by decide)
  have y13:=fun w=>ag_ 132 (.agg #[.slice ao ks.length c]) w (by decide)
  have y14:=fun w=>aB1 (.agg #[.slice ao ks.length c]) w
  (
 go_enter Tryz.func108,Tryz.ntmps108;
 go_wp2_with (go_at_call 103;refine(qa (C _ HK.out)).mono ?_;rintro e w2⟨rfl,hb2⟩;have HB:=qb (HB.out.trans (hb2.mono HB.out.size));clear hb2);
 go_ret;
 exact⟨rfl,HB.out⟩)
 have e:aj9 kd=0:=by
  have e1:af8 kd=false:=by rw[af8,at4];omega
  have e2:aj4 kd=false:=by rw[aj4,at4];omega
  simp[aj9,e1,e2,h20]
 rw[e]
 have e:ae8 kd nu nm mo it (.slice ao ks.length c) ks=.nilIface:=by
  simp only[ae8,if_neg h1,if_neg h2,if_neg h3,if_neg h4,if_neg h5,if_neg h11,if_neg h12,if_neg h13,if_neg h14,if_neg h15,if_neg h16,if_neg h17,if_neg h18,if_neg h19,if_neg h20]
 rw[e]at C
 clear e
 have y0:=aV9
 have y1:=aW0
 have y2:=aP9
 have y3:=aV8
 have y4:=aV7
 have y5:=aW_
 have y6:=bd5
 have y7:=aL6
 have y8:=aQ_
 have y9:=aL5
 have y10:=aQ1
 have y11:=aL4
 have y12:=aQ0
 have y13:=aQ2
 have y14:=aL3
 (
 go_enter Tryz.func108,Tryz.ntmps108;
 go_wp2_with (go_at_call 103;refine(qa (C _ HK.out)).mono ?_;rintro e w2⟨rfl,hb2⟩;have HB:=qb (HB.out.trans (hb2.mono HB.out.size));clear hb2);
 go_ret;
 exact⟨rfl,HB.out⟩)
end Go.Proofs.YtcpapceeekkacaaGreatDoor
