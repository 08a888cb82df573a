import Derived.Test.YtcpapceeekkacaaGreatDoorScnW
import Derived.Deep.RegionLaw
import Derived.Test.YtcpapceeekkacaaGreatDoorSignP
set_option maxRecDepth 100000
set_option maxHeartbeats 8000000
namespace Go.Proofs.YtcpapceeekkacaaGreatDoor
open Go.RowKit
theorem au9 {P:Program}{W:World}{ops:Array Oper}{o:Oper}{a:Act}{K:Act→World→Prop}{Q:Exit→Act→World→Prop}{E:Prop}(hgd:o.guard=none) (s x:Operand) (t:TypeId)
  (ho:o.op=.call { callee:=.builtin .append,args:=#[s,x],argTypes:=#[t,t] })
  (base:Nat) (e:TypeId) (z:Value) (bytes:Nat) (ht:P.underlying t=some (.slice e)) (hi:(P.info? e).map (fun i=>(i.zero,i.size,i.bytes))=some (some z,4,bytes)) (hzs:z.cells.size=4)
  (v:Value) (n:Nat) (xs:List Value) (hs:a.eval s=v) (hown:W.ownsRow base e 4 v n xs)
  (ad:Addr) (y:Sg) (hx:a.eval x=.slice (some ad) 1 1) (hnews:ah3 W ad y)
  (h63:n+1≤maxLen) (hbytes:(n+1)*bytes≤140737488355328) (hbase:base≤W.heap.size)
  (h:∀ v' w',w'.ownsRow base e 4 v' (n+1) (xs++y.cells)→Below base W w'→K (a.put o.dst v') w') :
  if Region.wanted o (yielded ops a.tmps)=true then Oper.wp P o a W K Q else E:=by
 obtain⟨i,hi,hz0,hz1,hz2⟩:=info_parts hi
 have hw:Region.wanted o (yielded ops a.tmps)=true:=by simp[Region.wanted,hgd]
 rw[if_pos hw]
 refine wp_append_own W s x t ho base e i z 4 bytes ht hi hz0 hz1 hz2 hzs (by decide) v n xs hs hown ad 1 1 y.cells hx rfl ?_ ?_ h63 hbytes hbase ?_
 ·intro j q hj
  match j,hj with
  | 0,hj=>simp[Sg.cells]at hj;subst hj;simpa [Addr.add] using hnews.1
  | 1,hj=>simp[Sg.cells]at hj;subst hj;exact hnews.2.1
  | 2,hj=>simp[Sg.cells]at hj;subst hj;exact hnews.2.2.1
  | 3,hj=>simp[Sg.cells]at hj;subst hj;exact hnews.2.2.2
  | j+4,hj=>simp[Sg.cells]at hj
 ·intro q hq
  simp[Sg.cells]at hq
  rcases hq with rfl|rfl|rfl|rfl <;> rfl
 ·intro v' w' hown' hgrow _
  exact h v' w' hown' ((Below.refl base W).grown hgrow hbase (fun j hj=>(hown.lt j hj).1))
theorem av3:(Tryz.prog.info? 48).map (fun i=>(i.zero,i.size,i.bytes))=some (some (.agg #[.int .i64 0,.string ByteArray.empty,.int .i64 0,.int .i64 0]),4,40):=by kernel_rfl
def aA7 (g:Nat) (s:ByteArray) (pos:Nat) (acc:List Sg) (w:World) (e:Ending) (w':World):Prop :=
 Below g w w'∧((e=.returned (.bool false)∧(al8 (ag3 (rest s pos)) (ab0 (rest s pos))=false∨¬ acc.length<500)) ∨
  (e=.returned (.bool true)∧al8 (ag3 (rest s pos)) (ab0 (rest s pos))=true∧acc.length<500 ∧
   ∃ v',ScAt w' g s (pos+ab0 (rest s pos)) v'∧w'.ownsRow (g+1) 48 4 v' (acc++[sgOf s pos]).length (ac7 (acc++[sgOf s pos]))))
theorem aV3 {s:ByteArray}{pos:Nat}(h:pos<s.size) (hl:ab3 s[pos].toNat=true):ag3 (rest s pos)=1∧ab0 (rest s pos)=ai0 ab3 (rest s pos):=by
 have h1:af4 s[pos].toNat=false:=by simp[ab3]at hl;simp[af4];omega
 have h2:¬ s[pos].toNat=35:=by simp[ab3]at hl;omega
 constructor
 ·rw[ad7 s pos h,ag3,h1,if_neg (by simp),if_neg h2,if_pos hl]
 ·conv=>lhs;rw[ad7 s pos h,ab0,h1,if_neg (by simp),if_neg h2,if_pos hl,←ad7 s pos h]
structure am9 (g xb:Nat) (s:ByteArray) (p:Nat) (v:Value) (acc:List Sg) (y:Sg) (w W:World):Prop where
 sc:ScAt W g s p v
 x:ah3 W ⟨xb,0,none⟩ y
 fz:∀ o,W.frozen? ⟨xb,o,none⟩=false
 own:W.ownsRow (g+1) 48 4 v acc.length (ac7 acc)
 bel:Below g w W
 gx:g<xb
 vx:∀ k,v.ownBlock=some k→k≠xb
 lt:xb<W.heap.size
theorem am9.init {g:Nat}{s:ByteArray}{p:Nat}{v:Value}{acc:List Sg}{w:World}(C:ScAt w g s p v) (ho:w.ownsRow (g+1) 48 4 v acc.length (ac7 acc)) (q:Nat) (y:Sg) :
  am9 g w.heap.size s p v acc y w ((w.alloc (.cells #[.int .i64 y.kind,.string y.text,.int .i64 y.num,.int .i64 y.place] 48)).drewN q):=by
 have hb:Below w.heap.size w (w.alloc (.cells #[.int .i64 y.kind,.string y.text,.int .i64 y.num,.int .i64 y.place] 48)):=bal _ _
 refine⟨(C.stays hb C.lt).drewN q,ah3.new w y _,fun o=>?_,ho.alloc _,?_,C.lt,fun k hk=>?_,?_⟩
 ·exact fhp (w:=w.alloc (.cells #[.int .i64 y.kind,.string y.text,.int .i64 y.num,.int .i64 y.place] 48)) (heap_alloc_new w _) o
 ·exact below_drewN (hb.mono (Nat.le_of_lt C.lt)) q
 ·exact Nat.ne_of_lt (ho.lt k hk).2
 ·show w.heap.size<(w.alloc _).heap.size
  simp
theorem am9.drew1 {g xb:Nat}{s:ByteArray}{p:Nat}{v:Value}{acc:List Sg}{y:Sg}{w W:World}(h:am9 g xb s p v acc y w W):am9 g xb s p v acc y w W.drew :=
 ⟨⟨h.sc.c0,h.sc.c1,h.sc.c2,h.sc.f1,h.sc.f2⟩,h.x,h.fz,h.own,Below.drew h.bel,h.gx,h.vx,h.lt⟩
theorem aC4 {g:Nat}{w w':World}(h:∀ b,b≠g→w'.heap[b]? = w.heap[b]?) {a:Addr}(ha:a.block≠g):w'.cell? a=w.cell? a:=World.cell?_of_block (h a.block ha)
theorem bb8 {g:Nat}{w w':World}(h:∀ b,b≠g→w'.heap[b]? = w.heap[b]?) {a:Addr}(ha:a.block≠g):w'.frozen? a=w.frozen? a:=World.frozen?_of_block (h a.block ha)
theorem ah3.far {g:Nat}{w w':World}(hf:∀ b,b≠g→w'.heap[b]? = w.heap[b]?) {a:Addr}{y:Sg}(ha:a.block≠g) (h:ah3 w a y):ah3 w' a y:=by
 obtain⟨h0,h1,h2,h3⟩:=h
 exact⟨(aC4 hf ha).trans h0,(aC4 hf (by rw[aD_];exact ha)).trans h1,(aC4 hf (by rw[aD_];exact ha)).trans h2,(aC4 hf (by rw[aD_];exact ha)).trans h3⟩
theorem ap_ {g:Nat}{w w':World}(hf:∀ b,b≠g→w'.heap[b]? = w.heap[b]?) {base:Nat}{e:TypeId}{size:Nat}{v:Value}{n:Nat}{xs:List Value}(h:w.ownsRow base e size v n xs) (hg:∀ k,v.ownBlock=some k→k≠g):w'.ownsRow base e size v n xs:=by
 obtain⟨h1,h2⟩:=h
 refine⟨h1,?_⟩
 rcases h2 with h2|⟨b,cap,cur,rfl,hb1,hb,r⟩
 ·exact .inl h2
 ·exact .inr ⟨b,cap,cur,rfl,hb1,by rw[hf b (hg b rfl)];exact hb,r⟩
theorem am9.only {g xb:Nat}{s:ByteArray}{p p':Nat}{v:Value}{acc:List Sg}{y:Sg}{w W W':World}(h:am9 g xb s p v acc y w W) (ho:an3 g W W') (C:ScAt W' g s p' v):am9 g xb s p' v acc y w W' :=
 ⟨C,h.x.far ho.far (Nat.ne_of_gt h.gx),fun o=>(bb8 ho.far (Nat.ne_of_gt h.gx)).trans (h.fz o),ap_ ho.far h.own (fun k hk=>by have:=(h.own.lt k hk).1;omega),h.bel.trans ho.bel,h.gx,h.vx,by rw[ho.size];exact h.lt⟩
theorem am9.setPos {g xb:Nat}{s:ByteArray}{p:Nat}{v:Value}{acc:List Sg}{y:Sg}{w W:World}(h:am9 g xb s p v acc y w W) (p':Nat):am9 g xb s p' v acc y w (W.setCell ⟨g,1,none⟩ (.int .i64 (p':Int))) :=
 h.only (an3.setCell _ _) (h.sc.setPos p')
theorem am9.setX {g xb:Nat}{s:ByteArray}{p:Nat}{v:Value}{acc:List Sg}{y y':Sg}{w W:World}(h:am9 g xb s p v acc y w W) (o:Nat) (u:Value) (hx:ah3 (W.setCell ⟨xb,o,none⟩ u) ⟨xb,0,none⟩ y') :
  am9 g xb s p v acc y' w (W.setCell ⟨xb,o,none⟩ u):=by
 have hf:∀ b,b≠xb→(W.setCell ⟨xb,o,none⟩ u).heap[b]? = W.heap[b]? := fun b hb=>Below.heap_setCell W _ _ b hb
 have hb:Below xb W (W.setCell ⟨xb,o,none⟩ u):=(Below.refl _ _).setCell (p:=⟨xb,o,none⟩) (nlr _) u
 refine⟨h.sc.stays hb h.gx,hx,fun o'=>by rw[World.frozen?_setCell];exact h.fz o',ap_ hf h.own h.vx,h.bel.trans (hb.mono (Nat.le_of_lt h.gx)),h.gx,h.vx,nll h.lt hb.size⟩
theorem ap6 {W:World}{xb a b:Nat}{u:Value}{v:Option Value}(h:W.cell? ⟨xb,b,none⟩=v) (hne:a≠b):(W.setCell ⟨xb,a,none⟩ u).cell? ⟨xb,b,none⟩=v:=by
 rw[World.cell?_setCell_other (h:=aQ9 hne)];exact h
theorem ah3.set0 {W:World}{xb:Nat}{y:Sg}(h:ah3 W ⟨xb,0,none⟩ y) (k:Int):ah3 (W.setCell ⟨xb,0,none⟩ (.int .i64 k)) ⟨xb,0,none⟩ ⟨k,y.text,y.num,y.place⟩ :=
 ⟨World.cell?_setCell_same _ _ _ h.1,ap6 (b:=1) h.2.1 (by decide),ap6 (b:=2) h.2.2.1 (by decide),ap6 (b:=3) h.2.2.2 (by decide)⟩
theorem ah3.set1 {W:World}{xb:Nat}{y:Sg}(h:ah3 W ⟨xb,0,none⟩ y) (t:ByteArray):ah3 (W.setCell ⟨xb,1,none⟩ (.string t)) ⟨xb,0,none⟩ ⟨y.kind,t,y.num,y.place⟩ :=
 ⟨ap6 (b:=0) h.1 (by decide),World.cell?_setCell_same _ _ _ (show W.cell? ⟨xb,1,none⟩=_ from h.2.1),ap6 (b:=2) h.2.2.1 (by decide),ap6 (b:=3) h.2.2.2 (by decide)⟩
theorem ah3.set2 {W:World}{xb:Nat}{y:Sg}(h:ah3 W ⟨xb,0,none⟩ y) (k:Int):ah3 (W.setCell ⟨xb,2,none⟩ (.int .i64 k)) ⟨xb,0,none⟩ ⟨y.kind,y.text,k,y.place⟩ :=
 ⟨ap6 (b:=0) h.1 (by decide),ap6 (b:=1) h.2.1 (by decide),World.cell?_setCell_same _ _ _ (show W.cell? ⟨xb,2,none⟩=_ from h.2.2.1),ap6 (b:=3) h.2.2.2 (by decide)⟩
theorem am9.put {g xb:Nat}{s:ByteArray}{pos:Nat}{v v':Value}{acc:List Sg}{w W w1 w2:World}(h:am9 g xb s (pos+ab0 (rest s pos)) v acc (sgOf s pos) w W) (hb0:Below W.heap.size W w1)
  (hf:al8 (ag3 (rest s pos)) (ab0 (rest s pos))=true) (ha:acc.length<500)
  (hown:w2.ownsRow (g+1) 48 4 v' (acc.length+1) (ac7 acc++(sgOf s pos).cells)) (hb:Below (g+1) w1 w2) (q:Nat) :
  aA7 g s pos acc w (.returned (.bool true)) ((w2.setCell ⟨g,2,none⟩ v').drewN q):=by
 have hgW:=h.sc.lt
 have hC:ScAt w2 g s (pos+ab0 (rest s pos)) v:=(h.sc.stays hb0 hgW).stays hb (Nat.lt_succ_self g)
 refine⟨?_,.inr ⟨rfl,hf,ha,v',(hC.setList v').drewN q,?_⟩⟩
 ·refine below_drewN ?_ q
  exact((h.bel.trans (hb0.mono (Nat.le_of_lt hgW))).trans (hb.mono (Nat.le_succ g))).setCell (p:=⟨g,2,none⟩) (nlr _) _
 ·have e1:ac7 [sgOf s pos]=(sgOf s pos).cells:=by simp[ac7]
  rw[aw4,List.length_append,e1]
  exact ap_ (w:=w2) (fun b hb'=>Below.heap_setCell w2 _ _ b hb') hown (fun k hk=>by have:=(hown.lt k hk).1;show k≠g;omega)
theorem am9.stop {g xb:Nat}{s:ByteArray}{pos p:Nat}{v:Value}{acc:List Sg}{y:Sg}{w W:World}(h:am9 g xb s p v acc y w W) (hf:al8 (ag3 (rest s pos)) (ab0 (rest s pos))=false∨¬ acc.length<500) :
  aA7 g s pos acc w (.returned (.bool false)) W:=⟨h.bel,.inl ⟨rfl,hf⟩⟩
theorem aq_ {w:World}{base:Nat}{e:TypeId}{size:Nat}{v:Value}{n:Nat}{xs:List Value}(h:w.ownsRow base e size v n xs):∃ ao cap,v=.slice ao n cap:=by
 rcases h.2 with⟨rfl,h0⟩|⟨g,cap,cur,rfl,_⟩
 ·exact⟨none,0,by rw[h0]⟩
 ·exact⟨_,_,rfl⟩
theorem be2 (g:Nat) (s:ByteArray) (pos:Nat) (v:Value) (acc:List Sg) (w:World) (hs:s.size≤1500) (hp:pos<s.size) (C:ScAt w g s pos v) (ho:w.ownsRow (g+1) 48 4 v acc.length (ac7 acc)) (hal:acc.length≤500)
  (hl:ab3 s[pos].toNat=true):Calls Tryz.prog 27 #[.pointer (some ⟨g,0,none⟩)] w (aA7 g s pos acc w):=by
 obtain⟨hk,hn⟩:=aV3 hp hl
 have hq:at6 97 122=ab3:=rfl
 have hgl:=C.lt
 have HI:=fun q=>qb (am9.init C ho q ⟨0,⟨#[]⟩,0,pos⟩)
 obtain⟨ao,cap,rfl⟩:=aq_ ho
 obtain⟨c0,c1,c2,f1,f2⟩:=C
 clear ho
 obtain⟨c,hc⟩:∃ c:Nat,c=s[pos].toNat:=⟨_,rfl⟩
 have hix:∀ wx:World,(Instr.index 9 (.string s) (.int .i64 (pos:Int))).run Tryz.prog wx=.ok (.int .u8 (c:Int)) wx:=fun wx=>by
  rw[hc];exact ah4 Tryz.underlying9 s pos hp wx
 rw[←hc]at hl
 simp only[ab3,decide_eq_true_eq]at hl
 obtain⟨hl1,hl2⟩:=hl
 clear hc
 go_enter Tryz.func27,Tryz.ntmps27
 go_wp2
 go_quiet (fail)
 go_wp2_with fail
 have H1:=qb ((HI nq).out.setX 0 (.int .i64 1) ((HI nq).out.x.set0 1))
 have hrun:=bm_ g s pos 97 122 _ _ hs (by omega) (by omega) (by omega) H1.out.sc
 rw[hq]at hrun
 refine hrun.mono ?_
 rintro e w2⟨rfl,hC2,hO2⟩
 have H2:=qb (H1.out.only hO2 hC2)
 obtain⟨n,hnn⟩:∃ n,n=ai0 ab3 (rest s pos):=⟨_,rfl⟩
 rw[←hnn]at hn H2 ⊢
 clear hrun hC2 hO2 hnn HI c0 c1 c2 f1 f2
 have c1:w2.cell? { block:=w.heap.size,off:=1 }=some (.string ⟨#[]⟩):=H2.out.x.2.1
 have f1:w2.frozen? { block:=w.heap.size,off:=1 }=false:=H2.out.fz 1
 have hpn:pos+n≤s.size:=by
  have:=av7 (rest s pos) (by rw[ad7 s pos hp];simp)
  rw[av5,hn]at this;omega
 obtain⟨t,ht⟩:∃ t,t=s.extract pos (pos+n):=⟨_,rfl⟩
 have hts:t.size=n:=by rw[ht,ByteArray.size_extract];omega
 have H3:=qb (H2.out.setX 1 (.string t) (H2.out.x.set1 t))
 rw[←ht]
 have hd2:w2.cell? { block:=g,off:=2 }=some (.slice ao acc.length cap):=H2.out.sc.c2
 have hgx:g≠w.heap.size:=by omega
 have hsg:(⟨1,t,0,pos⟩:Sg)=sgOf s pos:=by rw[sgOf,hk,hn,←ht];rfl
 by_cases h8:8<n
 ·have HF:Hid (al8 (ag3 (rest s pos)) (ab0 (rest s pos))=false):=by show _=_;rw[hk,hn,al8,if_pos rfl];simp;omega
  have h8':(8:Int)<(t.size:Int):=by omega
  clear ht hn hk
  go_wp2
  go_ret
  exact H3.out.stop (.inl HF.out)
 ·have HF:Hid (al8 (ag3 (rest s pos)) (ab0 (rest s pos))=true):=by show _=_;rw[hk,hn,al8,if_pos rfl];simp;omega
  have h8':¬ (8:Int)<(t.size:Int):=by omega
  by_cases h500:acc.length<500
  ·have h5':¬ (500:Int)≤(acc.length:Int):=by omega
   clear ht hk
   go_wp2
   rw[hsg]at H3
   have hpp:pos+n=pos+ab0 (rest s pos):=by rw[hn]
   rw[hpp]at H3
   generalize w2.setCell ⟨w.heap.size,1,none⟩ (.string t)=W3 at *
   clear H1 H2 c1 f1 hd2 hn hpp
   have x0:W3.cell? { block:=w.heap.size,off:=0 }=some (.int .i64 1):=by have:=H3.out.x.1;rw[←hsg]at this;exact this
   have x1:W3.cell? { block:=w.heap.size,off:=1 }=some (.string t):=by have:=H3.out.x.2.1;rw[←hsg]at this;exact this
   have x2:W3.cell? { block:=w.heap.size,off:=2 }=some (.int .i64 0):=by have:=H3.out.x.2.2.1;rw[←hsg]at this;exact this
   have x3:W3.cell? { block:=w.heap.size,off:=3 }=some (.int .i64 pos):=by have:=H3.out.x.2.2.2;rw[←hsg]at this;exact this
   have e2:W3.cell? { block:=g,off:=2 }=some (.slice ao acc.length cap):=H3.out.sc.c2
   have ef:W3.frozen? { block:=g,off:=2 }=false:=H3.out.sc.f2
   have hg3:g<W3.heap.size:=H3.out.sc.lt
   have hx3:w.heap.size<W3.heap.size:=H3.out.lt
   have ea:∀ o,(W3.alloc o).cell? { block:=g,off:=2 }=some (.slice ao acc.length cap):=fun o=>by rw[World.cell?_alloc_lt _ _ _ hg3];exact e2
   have fa:∀ o,(W3.alloc o).frozen? { block:=g,off:=2 }=false:=fun o=>by rw[World.frozen?_alloc_past _ _ _ hg3];exact ef
   have HSG:=qb hsg
   clear hsg
   have HOa:Hid (((W3.alloc (.cells #[.int .i64 1,.string t,.int .i64 0,.int .i64 pos] 48)).drew).ownsRow (g+1) 48 4 (.slice ao acc.length cap) acc.length (ac7 acc)):=H3.out.own.alloc _
   have HNa:Hid (ah3 ((W3.alloc (.cells #[.int .i64 1,.string t,.int .i64 0,.int .i64 pos] 48)).drew) ⟨W3.heap.size,0,none⟩ ⟨1,t,0,pos⟩):=ah3.new W3 ⟨1,t,0,pos⟩ _
   go_region_law (refine au9 rfl (.tmp 144) (.tmp 146) 32 rfl (g+1) 48 _ 40 Tryz.underlying32 av3 rfl (.slice ao acc.length cap) acc.length (ac7 acc) rfl (qa HOa) ⟨W3.heap.size,0,none⟩ ⟨1,t,0,pos⟩ rfl (qa HNa) (by unfold maxLen;omega) (by omega) (by simp;omega) ?_;intro v' w4 hown4 hb4;have k2:=(hb4.cell (p:=⟨g,2,none⟩) (Nat.lt_succ_self g)).trans (ea _);have k3:=(hb4.frozen (p:=⟨g,2,none⟩) (Nat.lt_succ_self g)).trans (fa _);have ⟨ao4,cap4,hv4⟩:=aq_ hown4;subst hv4)
   all_goals
    rw[HSG.out]at hown4
    have HE:=fun q=>qb (H3.out.put (Below.drew (bal _ _)) HF.out h500 hown4 hb4 q)
    go_wp2
    go_ret
    exact(HE 0).out
  ·have h5':(500:Int)≤(acc.length:Int):=by omega
   clear ht hn hk
   go_wp2
   go_ret
   exact H3.out.stop (.inr h500)
theorem bh6 (l:List UInt8) (b:UInt8):figN (l++[b])=figN l*10+(b.toNat-48):=by simp[figN]
theorem aD7 (s:ByteArray) (k:Nat) (h:k<s.size):figN (s.data.toList.take (k+1))=figN (s.data.toList.take k)*10+(s[k].toNat-48):=by
 have hl:s.data.toList.length=s.size:=by rw[Array.length_toList];rfl
 rw[List.take_succ_eq_append_getElem (by omega),bh6]
 rfl
theorem aU_ (s:ByteArray) (hd:∀ j,(h:j<s.size)→48≤s[j].toNat∧s[j].toNat≤57):∀ k,k≤s.size→figN (s.data.toList.take k)<10 ^ k
 | 0,_=>by simp[figN]
 | k+1,h=>by
  have ih:=aU_ s hd k (by omega)
  have:=hd k (by omega)
  rw[aD7 s k (by omega),Nat.pow_succ]
  omega
theorem aA9 (s:ByteArray) (a b:Nat):(s.extract a b).data.toList=(s.data.toList.drop a).take (b-a):=by
 rw[ByteArray.data_extract,Array.toList_extract,List.extract_eq_take_drop]
theorem aR6 (s:ByteArray) (pos:Nat):(s.extract pos s.size).data.toList=rest s pos:=by
 rw[aA9,List.take_of_length_le (by rw[List.length_drop,Array.length_toList];exact nlr _)]
theorem au6 (s:ByteArray) (pos n:Nat):(s.extract pos (pos+n)).data.toList=(rest s pos).take n:=by
 rw[aA9,show pos+n-pos=n from by omega]
theorem bk4 (s:ByteArray) (pos n:Nat) (h:pos+n≤s.size):(s.extract pos (pos+n)).size=n:=by
 rw[ByteArray.size_extract];omega
theorem aw6 {α:Type}{p:α→Bool}:∀ (l:List α) (b:α),b∈l.takeWhile p→p b=true
 | [],b,h=>by simp at h
 | x :: l,b,h=>by
  rw[List.takeWhile_cons]at h
  split at h
  ·rename_i hx
   rcases List.mem_cons.1 h with rfl|h
   ·exact hx
   ·exact aw6 l b h
  ·simp at h
theorem bg2 (q:Nat→Bool) (l:List UInt8):l.take (ai0 q l)=l.takeWhile fun b=>q b.toNat:=by
 rw[ai0]
 exact(List.prefix_iff_eq_take.1 (List.takeWhile_prefix _)).symm
theorem kind_two {l:List UInt8}(h:ag3 l=2):ab0 l=ai0 ad0 l:=by
 cases l with
 | nil=>simp[ag3]at h
 | cons b r =>
  rw[ag3]at h
  rw[ab0]
  split at h
  ·simp at h
  ·rename_i h1
   rw[if_neg h1]
   split at h
   ·simp at h
   ·rename_i h2
    rw[if_neg h2]
    split at h
    ·simp at h
    ·rename_i h3
     rw[if_neg h3]
     split at h
     ·rename_i h4;rw[if_pos h4]
     ·split at h
      ·simp at h
      ·split at h <;> simp at h
theorem aO2 {s u:ByteArray}{pos n:Nat}(hk:ag3 (rest s pos)=2) (hn:n=ab0 (rest s pos)) (hul:u.data.toList=(rest s pos).take n):∀ j,(h:j<u.size)→48≤u[j].toNat∧u[j].toNat≤57:=by
 intro j h
 have hm:u[j]∈u.data.toList:=by
  have:u[j]=u.data.toList[j]'(by simpa using h):=rfl
  rw[this];exact List.getElem_mem _
 rw[hul,hn,kind_two hk,bg2]at hm
 have:=aw6 _ _ hm
 simpa [ad0] using this
theorem aU0 {s:ByteArray}{pos:Nat}(h:pos<s.size) (hl:ad0 s[pos].toNat=true):ag3 (rest s pos)=2∧ab0 (rest s pos)=ai0 ad0 (rest s pos):=by
 have h1:af4 s[pos].toNat=false:=by simp[ad0]at hl;simp[af4];omega
 have h2:¬ s[pos].toNat=35:=by simp[ad0]at hl;omega
 have h3:ab3 s[pos].toNat=false:=by simp[ad0]at hl;simp[ab3];omega
 constructor
 ·rw[ad7 s pos h,ag3,h1,if_neg (by simp),if_neg h2,h3,if_neg (by simp),if_pos hl]
 ·conv=>lhs;rw[ad7 s pos h,ab0,h1,if_neg (by simp),if_neg h2,h3,if_neg (by simp),if_pos hl,←ad7 s pos h]
def NumRel (g xb:Nat) (s:ByteArray) (p pos:Nat) (v:Value) (acc:List Sg) (t:ByteArray) (w:World) (iv:Value) (wr:World):Prop :=
 ∃ k:Nat,k≤t.size∧iv=.int .i64 k∧am9 g xb s p v acc ⟨2,t,(figN (t.data.toList.take k):Int),pos⟩ w wr
theorem be1 (g:Nat) (s:ByteArray) (pos:Nat) (v:Value) (acc:List Sg) (w:World) (hs:s.size≤1500) (hp:pos<s.size) (C:ScAt w g s pos v) (ho:w.ownsRow (g+1) 48 4 v acc.length (ac7 acc)) (hal:acc.length≤500)
  (hl:ad0 s[pos].toNat=true):Calls Tryz.prog 27 #[.pointer (some ⟨g,0,none⟩)] w (aA7 g s pos acc w):=by
 obtain⟨hk,hn⟩:=aU0 hp hl
 have hq:at6 48 57=ad0:=rfl
 have hgl:=C.lt
 have HI:=fun q=>qb (am9.init C ho q ⟨0,⟨#[]⟩,0,pos⟩)
 obtain⟨ao,cap,rfl⟩:=aq_ ho
 obtain⟨c0,c1,c2,f1,f2⟩:=C
 clear ho
 obtain⟨c,hc⟩:∃ c:Nat,c=s[pos].toNat:=⟨_,rfl⟩
 have hix:∀ wx:World,(Instr.index 9 (.string s) (.int .i64 (pos:Int))).run Tryz.prog wx=.ok (.int .u8 (c:Int)) wx:=fun wx=>by
  rw[hc];exact ah4 Tryz.underlying9 s pos hp wx
 rw[←hc]at hl
 simp only[ad0,decide_eq_true_eq]at hl
 obtain⟨hl1,hl2⟩:=hl
 clear hc
 go_enter Tryz.func27,Tryz.ntmps27
 go_wp2
 go_quiet (fail)
 go_wp2_with fail
 have H1:=qb ((HI nq).out.setX 0 (.int .i64 2) ((HI nq).out.x.set0 2))
 have hrun:=bm_ g s pos 48 57 _ _ hs (by omega) (by omega) (by omega) H1.out.sc
 rw[hq]at hrun
 refine hrun.mono ?_
 rintro e w2⟨rfl,hC2,hO2⟩
 have H2:=qb (H1.out.only hO2 hC2)
 obtain⟨n,hnn⟩:∃ n,n=ai0 ad0 (rest s pos):=⟨_,rfl⟩
 have HNN:=qb hnn
 rw[←hnn]at hn H2 ⊢
 clear hrun hC2 hO2 hnn HI c0 c1 c2 f1 f2
 have c1:w2.cell? { block:=w.heap.size,off:=1 }=some (.string ⟨#[]⟩):=H2.out.x.2.1
 have f1:w2.frozen? { block:=w.heap.size,off:=1 }=false:=H2.out.fz 1
 have hpn:pos+n≤s.size:=by
  have:=av7 (rest s pos) (by rw[ad7 s pos hp];simp)
  rw[av5,hn]at this;omega
 obtain⟨t,ht⟩:∃ t,t=s.extract pos (pos+n):=⟨_,rfl⟩
 have hts:t.size=n:=by rw[ht,ByteArray.size_extract];omega
 have H3:=qb (H2.out.setX 1 (.string t) (H2.out.x.set1 t))
 have htl:t.data.toList=(rest s pos).take n:=by rw[ht];exact au6 s pos n
 rw[←ht]
 have hgx:g≠w.heap.size:=by omega
 have hsg:(⟨2,t,(figN t.data.toList:Int),pos⟩:Sg)=sgOf s pos:=by rw[sgOf,hk,hn,←ht,aB6,if_pos rfl,htl]
 by_cases h6:6<n
 ·have HF:Hid (al8 (ag3 (rest s pos)) (ab0 (rest s pos))=false):=by show _=_;rw[hk,hn,al8,if_neg (by decide),if_pos rfl];simp;omega
  have h6':(6:Int)<(t.size:Int):=by omega
  clear ht hn hk
  go_wp2
  go_ret
  exact H3.out.stop (.inl HF.out)
 ·have HF:Hid (al8 (ag3 (rest s pos)) (ab0 (rest s pos))=true):=by show _=_;rw[hk,hn,al8,if_neg (by decide),if_pos rfl];simp;omega
  have h6':¬ (6:Int)<(t.size:Int):=by omega
  have HD:Hid (∀ j,(h:j<t.size)→48≤t[j].toNat∧t[j].toNat≤57):=aO2 hk hn.symm htl
  have HSG0:=qb hsg
  have HN0:=qb hn
  clear ht hk hsg htl hn
  go_wp2
  go_loopw [5] (fun iv wr=>NumRel g w.heap.size s (pos+n) pos (.slice ao acc.length cap) acc t w iv wr) (fun iv _=>t.size-(intOf iv).toNat)
  case atStart=>exact⟨0,Nat.zero_le _,rfl,by have:=H3.out;simpa [figN] using this⟩
  case round =>
   obtain⟨k,hkt,rfl,hst⟩:=hrel
   have H4:=qb hst
   clear hst H3 H2 H1 c1 f1
   have y1:wr.cell? { block:=w.heap.size,off:=1 }=some (.string t):=H4.out.x.2.1
   by_cases hlt:k<t.size
   ·have hft:=qb (aD7 t k hlt)
    have hfl:=aU_ t HD.out k hkt
    have hpw:10 ^ k≤10 ^ 6:=Nat.pow_le_pow_right (by omega) (by omega)
    obtain⟨hd1,hd2⟩:=HD.out k hlt
    obtain⟨c',hc'⟩:∃ c':Nat,c'=t[k].toNat:=⟨_,rfl⟩
    obtain⟨nn,hnn⟩:∃ nn:Nat,nn=figN (t.data.toList.take k):=⟨_,rfl⟩
    have hix2:∀ wx:World,(Instr.index 9 (.string t) (.int .i64 (k:Int))).run Tryz.prog wx=.ok (.int .u8 (c':Int)) wx:=fun wx=>by
     rw[hc'];exact ah4 Tryz.underlying9 t k hlt wx
    rw[←hnn]at hft hfl H4
    rw[←hc']at hft hd1 hd2
    have hn6:nn≤1000000:=by omega
    have e1:IntKind.i64.wrap (10*(nn:Int))=10*(nn:Int):=IntWalk.i64_in _ (by omega)
    have e2:IntKind.i64.wrap (10*(nn:Int)+(c':Int))=10*(nn:Int)+(c':Int):=IntWalk.i64_in _ (by omega)
    have e3:IntKind.i64.wrap (10*(nn:Int)+(c':Int)-48)=10*(nn:Int)+(c':Int)-48:=IntWalk.i64_in _ (by omega)
    have e4:IntKind.i64.wrap (c':Int)=(c':Int):=IntWalk.i64_in _ (by omega)
    have HV:Hid (10*(nn:Int)+(c':Int)-48=((nn*10+(c'-48):Nat):Int)):=by show _=_;omega
    have y2:wr.cell? { block:=w.heap.size,off:=2 }=some (.int .i64 nn):=H4.out.x.2.2.1
    have z2:wr.frozen? { block:=w.heap.size,off:=2 }=false:=H4.out.fz 2
    have hi0:(0:Int)≤(k:Int):=by omega
    have hi1:(k:Int)<(t.size:Int):=by omega
    clear hc' hnn hfl hpw
    have H5:=qb ((H4.out.setX 2 (.int .i64 (10*(nn:Int)+(c':Int)-48)) (H4.out.x.set2 _)).drew1)
    go_wp2
    go_region
    all_goals
     go_wp2
     go_roundw
     case rel =>
      refine⟨k+1,by omega,by go_num,?_⟩
      rw[hft.out,←HV.out]
      exact H5.out
     case measure=>simp[intOf];omega
   ·have hke:t.data.toList.take k=t.data.toList:=List.take_of_length_le (by rw[Array.length_toList];show t.size≤k;omega)
    rw[hke]at H4
    have hn:=HN0.out
    have hsg:=HSG0.out
    obtain⟨nn,hnn⟩:∃ nn:Nat,nn=figN t.data.toList:=⟨_,rfl⟩
    rw[←hnn]at H4 hsg
    have hkn:k=n:=by omega
    have hdd:wr.cell? { block:=g,off:=2 }=some (.slice ao acc.length cap):=H4.out.sc.c2
    have H3:=H4
    clear hke hnn HSG0 H4
    by_cases h500:acc.length<500
    ·have h5':¬ (500:Int)≤(acc.length:Int):=by omega
     have HN1:=qb hn
     have HSG1:=qb hsg
     clear hn hsg HN0
     go_wp2
     have hn:=HN1.out
     have hsg:=HSG1.out
     clear HN1 HSG1 y1 hdd
     rw[hsg]at H3
     have hpp:pos+n=pos+ab0 (rest s pos):=by rw[hn]
     rw[hpp]at H3
     generalize wr=W3 at *
     clear hn hpp
     have x0:W3.cell? { block:=w.heap.size,off:=0 }=some (.int .i64 2):=by have:=H3.out.x.1;rw[←hsg]at this;exact this
     have x1:W3.cell? { block:=w.heap.size,off:=1 }=some (.string t):=by have:=H3.out.x.2.1;rw[←hsg]at this;exact this
     have x2:W3.cell? { block:=w.heap.size,off:=2 }=some (.int .i64 nn):=by have:=H3.out.x.2.2.1;rw[←hsg]at this;exact this
     have x3:W3.cell? { block:=w.heap.size,off:=3 }=some (.int .i64 pos):=by have:=H3.out.x.2.2.2;rw[←hsg]at this;exact this
     have e2:W3.cell? { block:=g,off:=2 }=some (.slice ao acc.length cap):=H3.out.sc.c2
     have ef:W3.frozen? { block:=g,off:=2 }=false:=H3.out.sc.f2
     have hg3:g<W3.heap.size:=H3.out.sc.lt
     have hx3:w.heap.size<W3.heap.size:=H3.out.lt
     have ea:∀ o,(W3.alloc o).cell? { block:=g,off:=2 }=some (.slice ao acc.length cap):=fun o=>by rw[World.cell?_alloc_lt _ _ _ hg3];exact e2
     have fa:∀ o,(W3.alloc o).frozen? { block:=g,off:=2 }=false:=fun o=>by rw[World.frozen?_alloc_past _ _ _ hg3];exact ef
     have HSG:=qb hsg
     clear hsg
     have HOa:Hid (((W3.alloc (.cells #[.int .i64 2,.string t,.int .i64 nn,.int .i64 pos] 48)).drew).ownsRow (g+1) 48 4 (.slice ao acc.length cap) acc.length (ac7 acc)):=H3.out.own.alloc _
     have HNa:Hid (ah3 ((W3.alloc (.cells #[.int .i64 2,.string t,.int .i64 nn,.int .i64 pos] 48)).drew) ⟨W3.heap.size,0,none⟩ ⟨2,t,nn,pos⟩):=ah3.new W3 ⟨2,t,nn,pos⟩ _
     go_region_law (refine au9 rfl (.tmp 144) (.tmp 146) 32 rfl (g+1) 48 _ 40 Tryz.underlying32 av3 rfl (.slice ao acc.length cap) acc.length (ac7 acc) rfl (qa HOa) ⟨W3.heap.size,0,none⟩ ⟨2,t,nn,pos⟩ rfl (qa HNa) (by unfold maxLen;omega) (by omega) (by simp;omega) ?_;intro v' w4 hown4 hb4;have k2:=(hb4.cell (p:=⟨g,2,none⟩) (Nat.lt_succ_self g)).trans (ea _);have k3:=(hb4.frozen (p:=⟨g,2,none⟩) (Nat.lt_succ_self g)).trans (fa _);have ⟨ao4,cap4,hv4⟩:=aq_ hown4;subst hv4)
     all_goals
      rw[HSG.out]at hown4
      have HE:=fun q=>qb (H3.out.put (Below.drew (bal _ _)) HF.out h500 hown4 hb4 q)
      go_wp2
      go_ret
      exact(HE 0).out
    ·have h5':(500:Int)≤(acc.length:Int):=by omega
     clear hn hsg
     go_wp2
     go_ret
     exact H3.out.stop (.inr h500)
theorem aA6 {P:Program}{c:Code}{Q:Exit→Act→World→Prop}{a:Act}{W:World}{S:World→Prop}(hS:S W) (h:∀ W3,S W3→Code.wp P c Q a W3):Code.wp P c Q a W:=h W hS
theorem bk_ {s:ByteArray}{pos:Nat}(h:pos<s.size) (hm:at9 s[pos].toNat=true):ag3 (rest s pos)=3∧ab0 (rest s pos)=1∧s[pos].toNat<97∧(48≤s[pos].toNat→57<s[pos].toNat)∧s[pos].toNat≠58:=by
 have hb:∀ c:Fin 256,at9 c.val=true→af4 c.val=false∧c.val≠35∧ab3 c.val=false∧ad0 c.val=false∧c.val<97∧(48≤c.val→57<c.val)∧c.val≠58:=by decide +kernel
 obtain⟨h1,h2,h3,h4,h5,h6,h7⟩:=hb ⟨s[pos].toNat,s[pos].toNat_lt⟩ hm
 simp only at h1 h2 h3 h4 h5 h6 h7
 refine⟨?_,?_,h5,h6,h7⟩
 ·rw[ad7 s pos h,ag3,h1,if_neg (by simp),if_neg h2,h3,if_neg (by simp),h4,if_neg (by simp),if_neg (fun q=>h7 q.1),if_pos hm]
 ·rw[ad7 s pos h,ab0,h1,if_neg (by simp),if_neg h2,h3,if_neg (by simp),h4,if_neg (by simp),if_neg (fun q=>h7 q.1)]
theorem set_kind {s:ByteArray}{pos:Nat}(h:pos+1<s.size) (h58:s[pos].toNat=58) (h61:s[pos+1].toNat=61):ag3 (rest s pos)=3∧ab0 (rest s pos)=2∧s.extract pos (pos+2)=⟨#[58,61]⟩:=by
 have hp:pos<s.size:=by omega
 have hq:s[pos].toNat=58∧(rest s (pos+1)).head?.map UInt8.toNat=some 61:=⟨h58,by rw[ad7 s _ h];simp[h61]⟩
 have e:rest s pos=s[pos] :: rest s (pos+1):=ad7 s pos hp
 have h1:af4 s[pos].toNat=false:=by rw[h58];rfl
 have h3:ab3 s[pos].toNat=false:=by rw[h58];rfl
 have h4:ad0 s[pos].toNat=false:=by rw[h58];rfl
 refine⟨?_,?_,?_⟩
 ·rw[e,ag3,h1,if_neg (by simp),if_neg (by omega),h3,if_neg (by simp),h4,if_neg (by simp),if_pos hq]
 ·rw[e,ab0,h1,if_neg (by simp),if_neg (by omega),h3,if_neg (by simp),h4,if_neg (by simp),if_pos hq]
 ·apply ByteArray.ext
  apply Array.toList_inj.1
  rw[au6,e,ad7 s _ h]
  have e1:s[pos]=58:=UInt8.toNat.inj h58
  have e2:s[pos+1]=61:=UInt8.toNat.inj h61
  rw[e1,e2]
  rfl
theorem bk2 {s:ByteArray}{pos:Nat}(h:pos<s.size) (h1:af4 s[pos].toNat=false) (h2:s[pos].toNat≠35) (h3:ab3 s[pos].toNat=false) (h4:ad0 s[pos].toNat=false) (h5:¬ (s[pos].toNat=58∧(rest s (pos+1)).head?.map UInt8.toNat=some 61)) (h6:at9 s[pos].toNat=false) :
  al8 (ag3 (rest s pos)) (ab0 (rest s pos))=false:=by
 have hk:ag3 (rest s pos) = -1:=by
  rw[ad7 s pos h,ag3,h1,if_neg (by simp),if_neg h2,h3,if_neg (by simp),h4,if_neg (by simp),if_neg h5,h6,if_neg (by simp)]
 rw[hk];rfl
theorem one_set (g:Nat) (s:ByteArray) (pos:Nat) (v:Value) (acc:List Sg) (w:World) (hs:s.size≤1500) (hp:pos<s.size) (C:ScAt w g s pos v) (ho:w.ownsRow (g+1) 48 4 v acc.length (ac7 acc)) (hal:acc.length≤500)
  (hp1:pos+1<s.size) (h58:s[pos].toNat=58) (h61:s[pos+1].toNat=61):Calls Tryz.prog 27 #[.pointer (some ⟨g,0,none⟩)] w (aA7 g s pos acc w):=by
 obtain⟨hk,hn,ht⟩:=set_kind hp1 h58 h61
 have hgl:=C.lt
 have HI:=fun q=>qb (am9.init C ho q ⟨0,⟨#[]⟩,0,pos⟩)
 obtain⟨ao,cap,rfl⟩:=aq_ ho
 obtain⟨c0,c1,c2,f1,f2⟩:=C
 clear ho
 have hix:∀ wx:World,(Instr.index 9 (.string s) (.int .i64 (pos:Int))).run Tryz.prog wx=.ok (.int .u8 58) wx:=fun wx=>by
  have:=ah4 Tryz.underlying9 s pos hp wx;rw[h58]at this;exact this
 have hix1:∀ wx:World,(Instr.index 9 (.string s) (.int .i64 ((pos:Int)+1))).run Tryz.prog wx=.ok (.int .u8 61) wx:=fun wx=>by
  have:=ah4 Tryz.underlying9 s (pos+1) hp1 wx;rw[h61]at this;exact this
 have hwr:IntKind.i64.wrap ((pos:Int)+1)=(pos:Int)+1:=IntWalk.i64_in _ (by omega)
 have hd1:decide ((pos:Int)+1<(s.size:Int))=true:=by simp;omega
 have hd2:decide (pos+1<s.size)=true:=by simp;omega
 have HK:=qb hk
 have HNN:=qb hn
 have HTT:=qb ht
 clear hk hn ht h58 h61
 have HSG:Hid ((⟨3,⟨#[58,61]⟩,0,pos⟩:Sg)=sgOf s pos):=by show _=_;rw[sgOf,HK.out,HNN.out,HTT.out];rfl
 have HF:Hid (al8 (ag3 (rest s pos)) (ab0 (rest s pos))=true):=by show _=_;rw[HK.out];rfl
 have HX:∀ q,Hid (am9 g w.heap.size s (pos+2) (.slice ao acc.length cap) acc ⟨3,⟨#[58,61]⟩,0,pos⟩ w (((((w.alloc (.cells #[.int .i64 0,.string ⟨#[]⟩,.int .i64 0,.int .i64 pos] 48)).drewN q).setCell ⟨w.heap.size,0,none⟩ (.int .i64 3)).setCell ⟨w.heap.size,1,none⟩ (.string ⟨#[58,61]⟩)).setCell ⟨g,1,none⟩ (.int .i64 ((pos:Int)+2)))):=fun q =>
  (((HI q).out.setX 0 (.int .i64 3) ((HI q).out.x.set0 3)).setX 1 (.string ⟨#[58,61]⟩) (((HI q).out.setX 0 (.int .i64 3) ((HI q).out.x.set0 3)).x.set1 ⟨#[58,61]⟩)).setPos (pos+2)
 by_cases h500:acc.length<500
 ·have h5':¬ (500:Int)≤(acc.length:Int):=by omega
  go_enter Tryz.func27,Tryz.ntmps27
  go_wp2
  go_quiet (fail)
  go_wp2
  go_quiet (fail)
  go_wp2
  refine aA6 (S:=fun W3=>am9 g w.heap.size s (pos+ab0 (rest s pos)) (.slice ao acc.length cap) acc (sgOf s pos) w W3) ?_ ?_
  ·rw[←HSG.out,HNN.out];exact(HX _).out
  intro W3 h3
  have H3:=qb h3
  clear h3 HX HI c0 c1 c2 f1 f2 hix hix1 hd1 hd2 hwr
  have x0:W3.cell? { block:=w.heap.size,off:=0 }=some (.int .i64 3):=by have:=H3.out.x.1;rw[←HSG.out]at this;exact this
  have x1:W3.cell? { block:=w.heap.size,off:=1 }=some (.string ⟨#[58,61]⟩):=by have:=H3.out.x.2.1;rw[←HSG.out]at this;exact this
  have x2:W3.cell? { block:=w.heap.size,off:=2 }=some (.int .i64 0):=by have:=H3.out.x.2.2.1;rw[←HSG.out]at this;exact this
  have x3:W3.cell? { block:=w.heap.size,off:=3 }=some (.int .i64 pos):=by have:=H3.out.x.2.2.2;rw[←HSG.out]at this;exact this
  have e2:W3.cell? { block:=g,off:=2 }=some (.slice ao acc.length cap):=H3.out.sc.c2
  have ef:W3.frozen? { block:=g,off:=2 }=false:=H3.out.sc.f2
  have hg3:g<W3.heap.size:=H3.out.sc.lt
  have hx3:w.heap.size<W3.heap.size:=H3.out.lt
  have ea:∀ o,(W3.alloc o).cell? { block:=g,off:=2 }=some (.slice ao acc.length cap):=fun o=>by rw[World.cell?_alloc_lt _ _ _ hg3];exact e2
  have fa:∀ o,(W3.alloc o).frozen? { block:=g,off:=2 }=false:=fun o=>by rw[World.frozen?_alloc_past _ _ _ hg3];exact ef
  have HOa:Hid (((W3.alloc (.cells #[.int .i64 3,.string ⟨#[58,61]⟩,.int .i64 0,.int .i64 pos] 48)).drew).ownsRow (g+1) 48 4 (.slice ao acc.length cap) acc.length (ac7 acc)):=H3.out.own.alloc _
  have HNa:Hid (ah3 ((W3.alloc (.cells #[.int .i64 3,.string ⟨#[58,61]⟩,.int .i64 0,.int .i64 pos] 48)).drew) ⟨W3.heap.size,0,none⟩ ⟨3,⟨#[58,61]⟩,0,pos⟩):=ah3.new W3 ⟨3,⟨#[58,61]⟩,0,pos⟩ _
  go_region_law (refine au9 rfl (.tmp 144) (.tmp 146) 32 rfl (g+1) 48 _ 40 Tryz.underlying32 av3 rfl (.slice ao acc.length cap) acc.length (ac7 acc) rfl (qa HOa) ⟨W3.heap.size,0,none⟩ ⟨3,⟨#[58,61]⟩,0,pos⟩ rfl (qa HNa) (by unfold maxLen;omega) (by omega) (by simp;omega) ?_;intro v' w4 hown4 hb4;have k2:=(hb4.cell (p:=⟨g,2,none⟩) (Nat.lt_succ_self g)).trans (ea _);have k3:=(hb4.frozen (p:=⟨g,2,none⟩) (Nat.lt_succ_self g)).trans (fa _);have ⟨ao4,cap4,hv4⟩:=aq_ hown4;subst hv4)
  all_goals
   rw[HSG.out]at hown4
   have HE:=fun q=>qb (H3.out.put (Below.drew (bal _ _)) HF.out h500 hown4 hb4 q)
   go_wp2
   go_ret
   exact(HE 0).out
 ·have h5':(500:Int)≤(acc.length:Int):=by omega
  go_enter Tryz.func27,Tryz.ntmps27
  go_wp2
  go_quiet (fail)
  go_wp2
  go_quiet (fail)
  go_wp2
  go_ret
  exact(HX _).out.stop (.inr h500)
end Go.Proofs.YtcpapceeekkacaaGreatDoor
