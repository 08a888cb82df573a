import Derived.Test.YtcpapceeekkacaaGreatDoorReadX
import Derived.Deep.RegionLaw
import Derived.Maps.AppendAt
set_option maxRecDepth 100000
set_option maxHeartbeats 8000000
namespace Go.Proofs.YtcpapceeekkacaaGreatDoor
open Go.RowKit
theorem aI2 (n:Nat) (w:World) (q:Nat):Below n w (w.drewN q):=⟨rfl,rfl,rfl,nlr _,fun _ _=>rfl⟩
theorem RdAt.drewN {L:Nat→Prop}{B g:Nat}{l:List Sg}{lv:Value}{s:Rd}{w:World}(h:RdAt L B g l lv s w) (q:Nat):RdAt L B g l lv s (w.drewN q):=h.below (aI2 _ _ _)
theorem aa8.drewN {L:Nat→Prop}{B g:Nat}{l:List Sg}{lv:Value}{s:Rd}{w:World}(h:RdAt L B g l lv s w) (q:Nat):aa8 L B g l lv s w (w.drewN q):=⟨h.drewN q,ak_.drewN _ _,aI2 _ _ _,fun _ _=>rfl⟩
theorem aa8.below {L:Nat→Prop}{B g:Nat}{l:List Sg}{lv:Value}{s:Rd}{w w':World}(h:RdAt L B g l lv s w) (hb:Below w.heap.size w w') (hB:B≤w.heap.size):aa8 L B g l lv s w w':=⟨h.below hb,ak_.below hb,hb.mono hB,fun b hL=>hb.block b (h.loose b hL)⟩
theorem RdAt.heap {L:Nat→Prop}{B g:Nat}{l:List Sg}{lv:Value}{s:Rd}{w:World}(h:RdAt L B g l lv s w):B≤w.heap.size:=by
 obtain⟨⟨nv,h1,_⟩,_,h4,_,_,_,_⟩:=h
 have:=ag7 (show w.heap[g]? = some _ from h1)
 omega
theorem aa8.on {L:Nat→Prop}{B g:Nat}{l:List Sg}{lv:Value}{s:Rd}{w:World}(h:RdAt L B g l lv s w) (hp:s.pos<l.length):aa8 L B g l lv s.on w (w.setCell ⟨g,1,none⟩ (.int .i64 ((s.pos:Int)+1))):=⟨h.on hp,(h.onKeep _ _).1,(h.onKeep _ _).2.1,(h.onKeep _ _).2.2⟩
theorem aa8.wrong {L:Nat→Prop}{B g:Nat}{l:List Sg}{lv:Value}{s:Rd}{w:World}(h:RdAt L B g l lv s w):aa8 L B g l lv s.wrong w (w.setCell ⟨g,2,none⟩ (.bool true)):=⟨h.wrong,(h.onKeep _ _).1,(h.onKeep _ _).2.1,(h.onKeep _ _).2.2⟩
theorem Rd.isQ_lt {l:List Sg}{s:Rd}{t:ByteArray}(h:s.isQ l t=true):s.pos<l.length:=by
 unfold Rd.isQ Rd.next at h
 cases hb:s.bad <;> simp[hb]at h
 split at h
 ·next x hx=>exact(List.getElem?_eq_some_iff.1 hx).1
 ·cases h
theorem ah0 {L:Nat→Prop}{B g:Nat}{l:List Sg}{lv:Value}{s:Rd}(t:ByteArray) (w:World) (h:RdAt L B g l lv s w) (hl:l.length≤1048576) :
  Calls Tryz.prog 10 #[.pointer (some ⟨g,0,none⟩),.string t] w fun e w'=>e=.returned (.bool (s.isQ l t))∧aa8 L B g l lv (s.may l t) w w':=by
 have C:=fun w h=>qb (rdIs_any (L:=L) (B:=B) (g:=g) (l:=l) (lv:=lv) (s:=s) t w h)
 have hp:=h.pos
 have H:=qb h
 clear h
 cases hq:s.isQ l t with
 | true =>
  have hlt:=Rd.isQ_lt hq
  have HR:Hid (s.may l t=s.on):=by simp[Hid,Rd.may,hq]
  rw[hq]at C
  clear hq
  have hwr:wrap64 ((s.pos:Int)+1)=(s.pos:Int)+1:=IntWalk.wrap64_in _ (by omega)
  go_enter Tryz.func10,Tryz.ntmps10
  go_wp2_with (go_at_call 28;refine(qa (C _ H.out)).mono ?_;rintro e w1⟨rfl,q,rfl⟩;obtain⟨nv,c0,c1,c2,c3,f⟩:=(H.out.drewN q).cells;have f1:=f 1)
  go_ret
  refine⟨rfl,?_⟩
  rw[HR.out]
  exact(aa8.drewN H.out q).then' (aa8.on (H.out.drewN q) hlt)
 | false =>
  have HR:Hid (s.may l t=s):=by simp[Hid,Rd.may,hq]
  rw[hq]at C
  go_enter Tryz.func10,Tryz.ntmps10
  go_wp2_with (go_at_call 28;refine(qa (C _ H.out)).mono ?_;rintro e w1⟨rfl,q,rfl⟩)
  go_ret
  refine⟨rfl,?_⟩
  rw[HR.out]
  exact aa8.drewN H.out q
theorem ag6 {L:Nat→Prop}{B g:Nat}{l:List Sg}{lv:Value}{s:Rd}(t:ByteArray) (w:World) (h:RdAt L B g l lv s w) (hl:l.length≤1048576) :
  Calls Tryz.prog 13 #[.pointer (some ⟨g,0,none⟩),.string t] w fun e w'=>e=.returned (.tuple #[])∧aa8 L B g l lv (s.must l t) w w':=by
 have C:=fun w h=>qb (ah0 (L:=L) (B:=B) (g:=g) (l:=l) (lv:=lv) (s:=s) t w h hl)
 have H:=qb h
 clear h
 cases hq:s.isQ l t with
 | true =>
  have HR:Hid (s.must l t=s.may l t):=by simp[Hid,Rd.must,Rd.may,hq]
  rw[hq]at C
  clear hq
  go_enter Tryz.func13,Tryz.ntmps13
  go_wp2_with (go_at_call 10;refine(qa (C _ H.out)).mono ?_;rintro e w1⟨rfl,he⟩;have HE:=qb he;clear he)
  go_end0
  refine⟨rfl,?_⟩
  rw[HR.out]
  exact HE.out
 | false =>
  have HR:Hid (s.must l t=(s.may l t).wrong):=by simp[Hid,Rd.must,Rd.may,hq]
  rw[hq]at C
  go_enter Tryz.func13,Tryz.ntmps13
  go_wp2_with (go_at_call 10;refine(qa (C _ H.out)).mono ?_;rintro e w1⟨rfl,he⟩;have HE:=qb he;clear he;obtain⟨nv,c0,c1,c2,c3,f⟩:=HE.out.at'.cells;have f2:=f 2)
  go_end0
  refine⟨rfl,?_⟩
  rw[HR.out]
  exact HE.out.then' (aa8.wrong HE.out.at')
theorem RdAt.held {L:Nat→Prop}{B g:Nat}{l:List Sg}{s:Rd}{a p:Addr}{cp:Nat}{x:Sg}{W z:World}(h:RdAt L B g l (.slice (some a) l.length cp) s z) (hb:Below W.heap.size W z) (hlt:s.pos<l.length) (hp:a.add (s.pos*4)=p) (hx:l[s.pos]=x) :
  z.cell? ⟨g,0,none⟩=some (.slice (some a) l.length cp)∧z.cell? ⟨g,1,none⟩=some (.int .i64 (s.pos:Int))∧z.cell? ⟨g,2,none⟩=some (.bool s.bad)∧z.cell? p=some (.int .i64 x.kind)∧z.cell? { block:=p.block,off:=p.off+1 }=some (.string x.text)∧Hid (RdAt L B g l (.slice (some a) l.length cp) s z∧Below W.heap.size W z):=by
 obtain⟨nv,c0,c1,c2,_,_⟩:=h.cells
 obtain⟨a',c',p',e,hp',d0,d1,_,_⟩:=h.sign hlt
 injection e with e1 _ _
 injection e1 with e1
 subst e1
 rw[hp]at hp'
 subst hp' hx
 exact⟨c0,c1,c2,d0,d1,h,hb⟩
theorem ah9 {L:Nat→Prop}{B g:Nat}{l:List Sg}{lv:Value}{s:Rd}(w:World) (h:RdAt L B g l lv s w) (hl:l.length≤1048576) (hx:∀ x∈l,x.text.size≤1048576) :
  Calls Tryz.prog 29 #[.pointer (some ⟨g,0,none⟩)] w fun e w'=>e=.returned (.string (s.name l).2)∧aa8 L B g l lv (s.name l).1 w w':=by
 obtain⟨nv,c0,c1,c2,c3,f⟩:=h.cells
 obtain⟨ao,cp,rfl⟩:=h.slice
 have H:=qb h
 have hp:=h.pos
 have f1:=f 1
 have f2:=f 2
 clear h f
 cases hb:s.bad with
 | true =>
  have HR:Hid (s.name l=(s.wrong,ByteArray.empty)):=by simp[Hid,Rd.name,Rd.nameQ,Rd.next,hb]
  rw[hb]at c2
  go_enter Tryz.func29,Tryz.ntmps29
  go_wp2
  go_quiet (fail)
  go_wp2
  go_ret
  rw[HR.out]
  exact⟨rfl,(aa8.drewN H.out _).then' (aa8.wrong (H.out.drewN _))⟩
 | false =>
  rw[hb]at c2
  by_cases hlt:s.pos<l.length
  ·have hd:decide (l.length≤s.pos)=false:=by simp;omega
   obtain⟨a,c',p,e,ha,d0,d1,d2,d3⟩:=H.out.sign hlt
   injection e with e1 e2 e3
   subst e1 e3
   obtain⟨x,ex⟩:∃ x,x=l[s.pos]:=⟨_,rfl⟩
   rw[←ex]at d0 d1 d2 d3
   have hxs:=hx x (by rw[ex];exact List.getElem_mem _)
   have hi0:(0:Int)≤(s.pos:Int):=by omega
   have hi1:(s.pos:Int)<(l.length:Int):=by omega
   have HX:=qb ex.symm
   have HRn:Hid (s.nameQ l=if x.kind=1∧aa7 x.text=true then some x.text else none):=by simp[Hid,Rd.nameQ,Rd.next,hb,hlt,ex]
   clear ex e2 hx d2 d3
   by_cases hk:x.kind=1
   ·rw[hk]at d0
    have CN:=fun w=>qb (ab1 x.text w hxs)
    have KB:Hid (∀ z z':World,(z.cell? ⟨g,0,none⟩=some (.slice (some a) l.length cp)∧z.cell? ⟨g,1,none⟩=some (.int .i64 (s.pos:Int))∧z.cell? ⟨g,2,none⟩=some (.bool false)∧z.cell? p=some (.int .i64 1)∧z.cell? { block:=p.block,off:=p.off+1 }=some (.string x.text)∧Hid (RdAt L B g l (.slice (some a) l.length cp) s z∧Below w.heap.size w z))→Below z.heap.size z z' →
     (z'.cell? ⟨g,0,none⟩=some (.slice (some a) l.length cp)∧z'.cell? ⟨g,1,none⟩=some (.int .i64 (s.pos:Int))∧z'.cell? ⟨g,2,none⟩=some (.bool false)∧z'.cell? p=some (.int .i64 1)∧z'.cell? { block:=p.block,off:=p.off+1 }=some (.string x.text)∧Hid (RdAt L B g l (.slice (some a) l.length cp) s z'∧Below w.heap.size w z'))):=fun z z' h hbz=>by
      have:=RdAt.held (h.2.2.2.2.2.out.1.below hbz) (h.2.2.2.2.2.out.2.trans (hbz.mono h.2.2.2.2.2.out.2.size)) hlt ha HX.out
      rw[hb,hk]at this
      exact this
    have K0:Hid (w.drew.cell? ⟨g,0,none⟩=some (.slice (some a) l.length cp)∧w.drew.cell? ⟨g,1,none⟩=some (.int .i64 (s.pos:Int))∧w.drew.cell? ⟨g,2,none⟩=some (.bool false)∧w.drew.cell? p=some (.int .i64 1)∧w.drew.cell? { block:=p.block,off:=p.off+1 }=some (.string x.text)∧Hid (RdAt L B g l (.slice (some a) l.length cp) s w.drew∧Below w.heap.size w w.drew)):=by
      have:=RdAt.held (H.out.below (Below.refl _ _).drew) (Below.refl w.heap.size w).drew hlt ha HX.out
      rw[hb,hk]at this
      exact this
    have KD:Hid (∀ z:World,(z.cell? ⟨g,0,none⟩=some (.slice (some a) l.length cp)∧z.cell? ⟨g,1,none⟩=some (.int .i64 (s.pos:Int))∧z.cell? ⟨g,2,none⟩=some (.bool false)∧z.cell? p=some (.int .i64 1)∧z.cell? { block:=p.block,off:=p.off+1 }=some (.string x.text)∧Hid (RdAt L B g l (.slice (some a) l.length cp) s z∧Below w.heap.size w z))→RdAt L B g l (.slice (some a) l.length cp) s z∧Below w.heap.size w z):=fun z h=>h.2.2.2.2.2.out
    cases hn:aa7 x.text with
    | true =>
     rw[hn]at CN
     have HR:Hid (s.name l=(s.on,x.text)):=by simp[Hid,Rd.name,HRn.out,hk,hn]
     have hwr:wrap64 ((s.pos:Int)+1)=(s.pos:Int)+1:=IntWalk.wrap64_in _ (by omega)
     go_enter Tryz.func29,Tryz.ntmps29
     go_wp2
     go_region_held3 (fun z=>z.cell? ⟨g,0,none⟩=some (.slice (some a) l.length cp)∧z.cell? ⟨g,1,none⟩=some (.int .i64 (s.pos:Int))∧z.cell? ⟨g,2,none⟩=some (.bool false)∧z.cell? p=some (.int .i64 1)∧z.cell? { block:=p.block,off:=p.off+1 }=some (.string x.text)∧Hid (RdAt L B g l (.slice (some a) l.length cp) s z∧Below w.heap.size w z)) (first|exact K0.out|exact KB.out _ _ (by assumption) hb4)
      ((go_at_call 60;refine(qa (CN _)).mono ?_;rintro e w4⟨rfl,hb4⟩))
     all_goals
      have D:=qb (KD.out _ (by assumption))
      obtain⟨nv',e0,e1,e2,e3,ff⟩:=D.out.1.cells
      have g1:=ff 1
      have HO:=qb (aa8.on D.out.1 hlt)
      clear ff c0 c1 c2 c3 f1 f2 d0 d1 K0 KB
      go_wp2
      generalize World.setCell _ ⟨g,1,none⟩ _=W2 at HO ⊢
      obtain⟨nv2,b0,b1,b2,b3,bf⟩:=HO.out.at'.cells
      obtain⟨a',c',p',ee,ha',m0,m1,m2,m3⟩:=HO.out.at'.sign hlt
      injection ee with ee1 ee2 ee3
      injection ee1 with ee1
      subst ee1 ee3
      rw[ha]at ha'
      subst ha'
      rw[HX.out]at m0 m1 m2 m3
      have hon:((s.on.pos:Nat):Int)=(s.pos:Int)+1:=by simp[Rd.on]
      rw[hon]at b1
      have hwr2:wrap64 ((s.pos:Int)+1-1)=(s.pos:Int):=by rw[show (s.pos:Int)+1-1=(s.pos:Int) by omega];exact IntWalk.wrap64_in _ (by omega)
      clear hon e0 e1 e2 e3
      go_quiet (fail)
      go_wp2
      go_ret
      rw[HR.out]
      exact⟨rfl,((aa8.below H.out D.out.2 H.out.heap).then' HO.out).then' (aa8.drewN HO.out.at' _)⟩
    | false =>
     rw[hn]at CN
     have HR:Hid (s.name l=(s.wrong,ByteArray.empty)):=by simp[Hid,Rd.name,HRn.out,hn]
     go_enter Tryz.func29,Tryz.ntmps29
     go_wp2
     go_region_held3 (fun z=>z.cell? ⟨g,0,none⟩=some (.slice (some a) l.length cp)∧z.cell? ⟨g,1,none⟩=some (.int .i64 (s.pos:Int))∧z.cell? ⟨g,2,none⟩=some (.bool false)∧z.cell? p=some (.int .i64 1)∧z.cell? { block:=p.block,off:=p.off+1 }=some (.string x.text)∧Hid (RdAt L B g l (.slice (some a) l.length cp) s z∧Below w.heap.size w z)) (first|exact K0.out|exact KB.out _ _ (by assumption) hb4)
      ((go_at_call 60;refine(qa (CN _)).mono ?_;rintro e w4⟨rfl,hb4⟩))
     all_goals
      have D:=qb (KD.out _ (by assumption))
      obtain⟨nv',e0,e1,e2,e3,ff⟩:=D.out.1.cells
      have g2:=ff 2
      clear ff c0 c1 c2 c3 f1 f2 d0 d1 K0 KB
      go_wp2
      go_ret
      rw[HR.out]
      exact⟨rfl,(aa8.below H.out D.out.2 H.out.heap).then' (aa8.wrong D.out.1)⟩
   ·have HR:Hid (s.name l=(s.wrong,ByteArray.empty)):=by simp[Hid,Rd.name,HRn.out,hk]
    have hk2:(x.kind != 1)=true:=by simp[hk]
    go_enter Tryz.func29,Tryz.ntmps29
    go_wp2
    go_quiet (fail)
    go_wp2
    go_ret
    rw[HR.out]
    exact⟨rfl,(aa8.drewN H.out _).then' (aa8.wrong (H.out.drewN _))⟩
  ·have hd:decide (l.length≤s.pos)=true:=by simp;omega
   have HR:Hid (s.name l=(s.wrong,ByteArray.empty)):=by simp[Hid,Rd.name,Rd.nameQ,Rd.next,hb,hlt]
   go_enter Tryz.func29,Tryz.ntmps29
   go_wp2
   go_quiet (fail)
   go_wp2
   go_ret
   rw[HR.out]
   exact⟨rfl,(aa8.drewN H.out _).then' (aa8.wrong (H.out.drewN _))⟩
theorem Tryz.infoNd:(Tryz.prog.info? 74).map (fun i=>(i.zero,i.size,i.bytes))=some (some (.agg #[.int .i64 0,.int .i64 0,.string ⟨#[]⟩,.string ⟨#[]⟩,.string ⟨#[]⟩,.slice none 0 0]),6,88):=by kernel_rfl
structure az5 (w w':World):Prop where
 size:w.heap.size≤w'.heap.size
 blk:∀ (b:Nat) (cs:Array Value) (T:Nat) (fr:Nat×Nat),T≠74→w.heap[b]? = some (Obj.cells cs T fr)→w'.heap[b]? = some (Obj.cells cs T fr)
theorem az5.below {w w':World}(hb:Below w.heap.size w w'):az5 w w':=⟨hb.size,fun b _ _ _ _ h=>(hb.block b (ag7 h)).trans h⟩
theorem az5.trans {a b c:World}(h:az5 a b) (k:az5 b c):az5 a c:=⟨nlt h.size k.size,fun b cs T fr h1 h3=>k.blk b cs T fr h1 (h.blk b cs T fr h1 h3)⟩
theorem az5.t {w w':World}(h:az5 w w'):ak_ w w':=⟨h.size,fun b cs T fr h1 _ h3=>h.blk b cs T fr h1 h3⟩
theorem ai2 {P:Program}{W:World}{ops:Array Oper}{o:Oper}{a:Act}{K:Act→World→Prop}{Q:Exit→Act→World→Prop}{E:Prop}(hgd:o.guard=none) (s x:Operand) (t:TypeId)
  (ho:o.op=.call { callee:=.builtin .append,args:=#[s,x],argTypes:=#[t,t] })
  (base:Nat) (z:Value) (bytes:Nat) (ht:P.underlying t=some (.slice 74)) (hi:(P.info? 74).map (fun i=>(i.zero,i.size,i.bytes))=some (some z,6,bytes)) (hzs:z.cells.size=6)
  (v:Value) (n:Nat) (xs:List Value) (hs:a.eval s=v) (hown:W.ownsRow base 74 6 v n xs)
  (ad:Addr) (us:List Value) (hx:a.eval x=.slice (some ad) 1 1) (hl:us.length=6) (hnews:∀ j u,us[j]? = some u→W.cell? (ad.add j)=some u) (h1:∀ u∈us,u.oneCell'=true)
  (h63:n+1≤maxLen) (hbytes:(n+1)*bytes≤140737488355328) (hbase:base≤W.heap.size)
  (h:∀ v' w',w'.ownsRow base 74 6 v' (n+1) (xs++us)→Below base W w'→az5 W w'→(∀ b,b<W.heap.size→some b≠v.ownBlock→w'.heap[b]? = W.heap[b]?)→(v'.ownBlock=v.ownBlock∨v'.ownBlock=some W.heap.size)→K (a.put o.dst v') w') :
  if Region.wanted o (yielded ops a.tmps)=true then Oper.wp P o a W K Q else E:=by
 obtain⟨i,hi,hz0,hz1,hz2⟩:=info_parts hi
 have hw:Region.wanted o (yielded ops a.tmps)=true:=by simp[Region.wanted,hgd]
 rw[if_pos hw]
 obtain⟨v',w',hr,hown',hgrow,_,hob⟩:=run_append_own_at (P:=P) W base t o.type 74 i z 6 bytes ht hi hz0 hz1 hz2 hzs (by decide) v n xs hown ad 1 1 us (by simpa using hl) hnews h1 h63 hbytes hbase
 unfold Oper.wp execOp
 simp only[ho,resolve,invoke,builtin,Sem.run_bind,Sem.run_pure,Result.andThen_ok,List.map_toArray,List.map_cons,List.map_nil,hs,hx,hr]
 refine h v' w' hown' ((Below.refl base W).grown hgrow hbase (fun j hj=>(hown.lt j hj).1)) ⟨hgrow.size,fun b cs T fr hT hb=>?_⟩ hgrow.block hob
 rw[hgrow.block b (ag7 hb) ?_]
 ·exact hb
 ·intro e
  rcases hown.2 with⟨rfl,_⟩|⟨g,cap,cur,rfl,_,hg,_⟩
  ·simp[Value.ownBlock]at e
  ·simp only[Value.ownBlock,Option.some.injEq]at e
   subst e
   rw[hg]at hb
   injection hb with hb
   injection hb with _ hb _
   exact hT hb.symm
theorem ab_ {w:World}{base:Nat}{e:TypeId}{size:Nat}{v:Value}{n:Nat}{xs:List Value}(h:w.ownsRow base e size v n xs):∃ ao cap,v=.slice ao n cap:=by
 rcases h.2 with⟨rfl,rfl⟩|⟨g,cap,cur,rfl,_⟩
 ·exact⟨_,_,rfl⟩
 ·exact⟨_,_,rfl⟩
theorem RdAt.put {L:Nat→Prop}{B g:Nat}{l:List Sg}{lv nv v':Value}{s:Rd}{x:Nd}{kv:Value}{css:List (List Value)}{w w1 w2:World}(h:RdAt L B g l lv s w) (hb:s.bad=false) (hg:s.Good 1) (hk:ak7 L w kv x.kids)
  (hbox:Box w g #[lv,.int .i64 (s.pos:Int),.bool s.bad,nv] 37) (hl:css.length=s.nodes.length) (h6:∀ c∈css,c.length=6) (hn:∀ (j:Nat) (cs:List Value) (x:Nd),css[j]? = some cs→s.nodes[j]? = some x→NodeT L w cs x)
  (hb1:Below w.heap.size w w1) (hown:w2.ownsRow B 74 6 v' (s.nodes.length+1) (css.flatten++[.int .i64 x.kind,.int .i64 x.num,.string x.name,.string x.more,.string x.into,kv])) (hb2:Below B w1 w2) (k:az5 w1 w2) (hol:∀ b,nv.ownBlock=some b→¬ L b) (hgr:∀ b,b<w1.heap.size→some b≠nv.ownBlock→w2.heap[b]? = w1.heap[b]?) (hob:v'.ownBlock=nv.ownBlock∨v'.ownBlock=some w1.heap.size) (q:Nat) :
  aa8 L B g l lv (s.put x).1 w ((w2.setCell ⟨g,3,none⟩ v').drewN q):=by
 have kn:az5 w w2:=(az5.below hb1).trans k
 have hbx2:Box w2 g #[lv,.int .i64 (s.pos:Int),.bool s.bad,nv] 37:=kn.blk g _ _ _ (by decide) hbox
 have k3:=ak_.set hbx2 3 v'
 have hh:=h.heap
 have e:(s.put x).1 = { s with nodes:=s.nodes++[x] }:=by simp[Rd.put,hb]
 rw[e]
 have key:RdAt L B g l lv { s with nodes:=s.nodes++[x] } (w2.setCell ⟨g,3,none⟩ v'):=by
  refine⟨⟨v',?_,css++[[.int .i64 x.kind,.int .i64 x.num,.string x.name,.string x.more,.string x.into,kv]],?_,fun c hc=>?_,?_,fun j cs y hj hy=>?_,fun b hb2 hb3=>?_⟩,(h.sg.keep kn.t).keep k3,h.base,h.pos,?_,fun b hb2=>nll (h.loose b hb2) (nlt kn.size k3.size),h.gl⟩
  ·have:=hbx2.set 3 v'
   simpa using this
  ·simp[hl]
  ·rcases List.mem_append.1 hc with hc|hc
   ·exact h6 c hc
   ·rw[List.mem_singleton.1 hc];rfl
  ·have:=aA0 hown hbx2 3 v'
   simpa using this
  ·have hlen:=hl
   by_cases hjl:j<css.length
   ·rw[List.getElem?_append_left hjl]at hj
    rw[List.getElem?_append_left (by omega)]at hy
    obtain⟨kv',e1,h2⟩:=hn j cs y hj hy
    exact⟨kv',e1,(h2.keep kn.t).keep k3⟩
   ·rw[List.getElem?_append_right (by omega)]at hj
    rw[List.getElem?_append_right (by omega)]at hy
    have h0:j-css.length=0:=by
     rcases Nat.eq_zero_or_pos (j-css.length) with h0|h0
     ·exact h0
     ·rw[List.getElem?_eq_none (by simp;omega)]at hj;cases hj
    rw[h0]at hj
    rw[show j-s.nodes.length=0 by omega]at hy
    simp at hj hy
    subst hj hy
    exact⟨kv,rfl,(hk.keep kn.t).keep k3⟩
  ·rcases hob with hob|hob
   ·exact hol b (hob.symm.trans hb2) hb3
   ·rw[hob]at hb2
    injection hb2 with hb2
    have h7:=h.loose b hb3
    have h8:=hb1.size
    omega
  ·unfold Rd.Good at *
   simp
   omega
 have hh3:∀ b,L b→(w2.setCell ⟨g,3,none⟩ v').heap[b]? = w.heap[b]? := fun b hL=>by
  have h7:=h.loose b hL
  have h8:=hb1.size
  rw[Below.heap_setCell w2 ⟨g,3,none⟩ v' b (fun e=>by have e:b=g:=e;subst e;exact h.gl hL),hgr b (by omega) (fun e=>hol b e.symm hL),hb1.block b h7]
 exact(aa8.mk key (kn.t.trans k3) ((hb1.mono hh).trans (hb2.setCell h.base _)) hh3).then' (aa8.drewN key q)
theorem aj8 {L:Nat→Prop}{B g:Nat}{l:List Sg}{lv:Value}{s:Rd}(x:Nd) (kv:Value) (w:World) (h:RdAt L B g l lv s w) (hk:ak7 L w kv x.kids) (hg:s.bad=false→s.Good 1) (hl:l.length≤1048576) :
  Calls Tryz.prog 62 #[.pointer (some ⟨g,0,none⟩),.agg #[.int .i64 x.kind,.int .i64 x.num,.string x.name,.string x.more,.string x.into,kv]] w fun e w'=>e=.returned (.int .i64 (s.put x).2)∧aa8 L B g l lv (s.put x).1 w w':=by
 have hA:Below w.heap.size w (w.alloc (.cells #[.int .i64 x.kind,.int .i64 x.num,.string x.name,.string x.more,.string x.into,kv] 74)):=bal _ _
 have HH:=qb h.heap
 cases hb:s.bad with
 | true =>
  have HR:Hid (s.put x=(s,0)):=by simp[Hid,Rd.put,hb]
  obtain⟨nv,c0,c1,c2,c3,f⟩:=(h.below hA).cells
  have HE:=qb (aa8.below h hA h.heap)
  rw[hb]at c2
  clear h hA
  go_enter Tryz.func62,Tryz.ntmps62
  go_wp2
  go_ret
  rw[HR.out]
  exact⟨rfl,HE.out⟩
 | false =>
  have HR:Hid ((s.put x).2=(s.nodes.length:Int)):=by simp[Hid,Rd.put,hb]
  have hn:=(hg hb)
  have hp:=h.pos
  have hnl:s.nodes.length+1≤1048576:=by unfold Rd.Good at hn;omega
  obtain⟨nv,hbox,css,hcl,h6,hown,hnodes,hol⟩:=h.box
  obtain⟨ao,cap,rfl⟩:=ab_ hown
  obtain⟨ko,kc,rfl,hkk⟩:=id hk
  obtain⟨W1,hW1⟩:∃ W1,w.alloc (.cells #[.int .i64 x.kind,.int .i64 x.num,.string x.name,.string x.more,.string x.into,.slice ko x.kids.length kc] 74)=W1:=⟨_,rfl⟩
  have hX:Box W1 w.heap.size #[.int .i64 x.kind,.int .i64 x.num,.string x.name,.string x.more,.string x.into,.slice ko x.kids.length kc] 74:=by rw[←hW1];exact Box.made w _ _
  have hg1:g<W1.heap.size:=by have h1:=hbox.lt;have h2:=hA.size;rw[hW1]at h2;omega
  have hbox1:=hbox.stays hA
  rw[hW1]at hbox1
  have c2:=chp hbox1 2
  have c3:=chp hbox1 3
  have f3:=fhp hbox1 3
  simp[hb]at c2 c3
  have x0:=chp hX 0
  have x1:=chp hX 1
  have x2:=chp hX 2
  have x3:=chp hX 3
  have x4:=chp hX 4
  have x5:=chp hX 5
  simp at x0 x1 x2 x3 x4 x5
  have HA:=qb hA
  clear hA
  go_enter Tryz.func62,Tryz.ntmps62
  go_wp2
  rw[hW1]at HA
  have ea:∀ o,(W1.alloc o).cell? { block:=g,off:=3 }=some (.slice ao s.nodes.length cap):=fun o=>by rw[World.cell?_alloc_lt _ _ _ hg1];exact c3
  have fa:∀ o,(W1.alloc o).frozen? { block:=g,off:=3 }=false:=fun o=>by rw[World.frozen?_alloc_past _ _ _ hg1];exact f3
  have HOa:Hid (((W1.alloc (.cells #[.int .i64 x.kind,.int .i64 x.num,.string x.name,.string x.more,.string x.into,.slice ko x.kids.length kc] 74)).drew).ownsRow B 74 6 (.slice ao s.nodes.length cap) s.nodes.length css.flatten):=(ac8 hown HA.out).alloc _
  have HNa:Hid (∀ (j:Nat) (u:Value),[Value.int .i64 x.kind,.int .i64 x.num,.string x.name,.string x.more,.string x.into,.slice ko x.kids.length kc][j]? = some u→((W1.alloc (.cells #[.int .i64 x.kind,.int .i64 x.num,.string x.name,.string x.more,.string x.into,.slice ko x.kids.length kc] 74)).drew).cell? ((⟨W1.heap.size,0,none⟩:Addr).add j)=some u):=fun j u hj=>by
   rw[aw9]
   show (W1.alloc _).cell? _=_
   rw[World.cell?_alloc_new]
   simpa using hj
  have HBa:Hid (B≤((W1.alloc (.cells #[.int .i64 x.kind,.int .i64 x.num,.string x.name,.string x.more,.string x.into,.slice ko x.kids.length kc] 74)).drew).heap.size):=by
   have h1:=HH.out
   have h2:=HA.out.size
   show B≤(W1.alloc _).heap.size
   simp
   omega
  have HA2:Hid (Below w.heap.size w ((W1.alloc (.cells #[.int .i64 x.kind,.int .i64 x.num,.string x.name,.string x.more,.string x.into,.slice ko x.kids.length kc] 74)).drew)):=(HA.out.trans ((Below.refl _ _).alloc HA.out.size _)).drew
  have HB2:Hid (Box ((W1.alloc (.cells #[.int .i64 x.kind,.int .i64 x.num,.string x.name,.string x.more,.string x.into,.slice ko x.kids.length kc] 74)).drew) g #[lv,.int .i64 (s.pos:Int),.bool s.bad,.slice ao s.nodes.length cap] 37):=hbox.stays HA2.out
  have HP:Hid (∀ v' w4 q,w4.ownsRow B 74 6 v' (s.nodes.length+1) (css.flatten++[.int .i64 x.kind,.int .i64 x.num,.string x.name,.string x.more,.string x.into,.slice ko x.kids.length kc])→Below B ((W1.alloc (.cells #[.int .i64 x.kind,.int .i64 x.num,.string x.name,.string x.more,.string x.into,.slice ko x.kids.length kc] 74)).drew) w4→az5 ((W1.alloc (.cells #[.int .i64 x.kind,.int .i64 x.num,.string x.name,.string x.more,.string x.into,.slice ko x.kids.length kc] 74)).drew) w4→(∀ b,b<((W1.alloc (.cells #[.int .i64 x.kind,.int .i64 x.num,.string x.name,.string x.more,.string x.into,.slice ko x.kids.length kc] 74)).drew).heap.size→some b≠(Value.slice ao s.nodes.length cap).ownBlock→w4.heap[b]? = ((W1.alloc (.cells #[.int .i64 x.kind,.int .i64 x.num,.string x.name,.string x.more,.string x.into,.slice ko x.kids.length kc] 74)).drew).heap[b]?)→(v'.ownBlock=(Value.slice ao s.nodes.length cap).ownBlock∨v'.ownBlock=some ((W1.alloc (.cells #[.int .i64 x.kind,.int .i64 x.num,.string x.name,.string x.more,.string x.into,.slice ko x.kids.length kc] 74)).drew).heap.size)→aa8 L B g l lv (s.put x).1 w ((w4.setCell ⟨g,3,none⟩ v').drewN q)):=fun v' w4 q h1 h2 h3 h4 h5=>h.put hb hn hk hbox hcl h6 hnodes HA2.out h1 h2 h3 hol h4 h5 q
  have hwr:wrap64 (((s.nodes.length+1:Nat):Int)-1)=(s.nodes.length:Int):=by rw[show ((s.nodes.length+1:Nat):Int)-1=(s.nodes.length:Int) by omega];exact IntWalk.wrap64_in _ (by omega)
  clear hX hbox1 hkk h hbox hnodes h6 hcl hk hg hown hol
  go_region_law (refine ai2 rfl (.tmp 13) (.tmp 15) 22 rfl B _ 88 Tryz.underlying22 Tryz.infoNd rfl (.slice ao s.nodes.length cap) s.nodes.length css.flatten rfl (qa HOa) ⟨W1.heap.size,0,none⟩ [.int .i64 x.kind,.int .i64 x.num,.string x.name,.string x.more,.string x.into,.slice ko x.kids.length kc] rfl rfl (qa HNa) (by intro u hu;simp at hu;rcases hu with rfl|rfl|rfl|rfl|rfl|rfl <;> rfl) (by unfold maxLen;omega) (by omega) (qa HBa) ?_;intro v' w4 hown4 hb4 hk4 hgr4 hob4;have ⟨ao4,cap4,hv4⟩:=ab_ hown4;subst hv4;have HX4:=qb (hk4.blk g _ _ _ (by decide) HB2.out);have k3:=(chp HX4.out 3).trans rfl;have kf:=fhp HX4.out 3;have HE:=fun q=>qb (HP.out _ _ q hown4 hb4 hk4 hgr4 hob4);clear hown4 hb4 hk4 hgr4 hob4)
  all_goals
   go_wp2
   go_ret
   refine⟨?_,(HE 0).out⟩
   rw[HR.out]
   rfl
def aB8 (w:World) (v:Value) (xs:List ByteArray):Prop :=
 ∃ ao c,v=.slice ao xs.length c∧(xs=[]∨∃ b o cs fr,ao=some ⟨b,o,none⟩∧w.heap[b]? = some (.cells cs 9 fr)∧∀ j (h:j<xs.length),cs[o+j]? = some (.string xs[j]))
theorem aB8.keep {w w':World}{v:Value}{xs:List ByteArray}(h:aB8 w v xs) (k:ak_ w w'):aB8 w' v xs:=by
 obtain⟨ao,c,rfl,hc⟩:=h
 refine⟨ao,c,rfl,?_⟩
 rcases hc with hc|⟨b,o,cs,fr,e,h1,h2⟩
 ·exact .inl hc
 ·exact .inr ⟨b,o,cs,fr,e,k.blk b cs 9 fr (by decide) (by decide) h1,h2⟩
theorem aB8.at {w:World}{v:Value}{xs:List ByteArray}(h:aB8 w v xs):ai8 w v xs:=by
 obtain⟨ao,c,rfl,hc⟩:=h
 refine⟨ao,c,rfl,fun j hj=>?_⟩
 rcases hc with hc|⟨b,o,cs,fr,rfl,h1,h2⟩
 ·subst hc;simp at hj
 ·refine⟨_,rfl,ag7 h1,?_⟩
  have e:(⟨b,o,none⟩:Addr).add j=⟨b,o+j,none⟩:=by
   simp only[Addr.add]
   split
   ·next h=>subst h;rfl
   ·rfl
  rw[e,chp h1 (o+j)]
  exact h2 j hj
theorem aB8.made {w:World}{g:Nat}(hg:g=w.heap.size) (xs:List ByteArray) (n c:Nat) (hn:n=xs.length):aB8 (w.alloc (.cells (xs.map Value.string).toArray 9)) (.slice (some ⟨g,0,none⟩) n c) xs:=by
 subst hg hn
 refine⟨_,c,rfl,.inr ⟨w.heap.size,0,_,(0,0),rfl,heap_alloc_new w _,fun j hj=>?_⟩⟩
 simp[hj]
theorem av4 {L:Nat→Prop}{B g:Nat}{l:List Sg}{lv:Value}{s:Rd}(o a b:Int) (w:World) (h:RdAt L B g l lv s w) (hg:s.bad=false→s.Good 1) (hl:l.length≤1048576) :
  Calls Tryz.prog 113 #[.pointer (some ⟨g,0,none⟩),.int .i64 o,.int .i64 a,.int .i64 b] w fun e w'=>e=.returned (.int .i64 (s.put (ndK 3 o [a,b])).2)∧aa8 L B g l lv (s.put (ndK 3 o [a,b])).1 w w':=by
 have hA:Below w.heap.size w (w.alloc (.cells #[.int .i64 a,.int .i64 b] 3)):=bal _ _
 have HE:=qb (aa8.below h hA h.heap)
 have C:=qb (aj8 (ndK 3 o [a,b]) (.slice (some ⟨w.heap.size,0,none⟩) 2 2) _ HE.out.at' (ak7.made h.loose rfl [a,b] 2 2 rfl) hg hl)
 clear hA
 go_enter Tryz.func113,Tryz.ntmps113
 go_wp2_with (go_at_call 62;refine(qa C).mono ?_;rintro e w1⟨rfl,he⟩;have HF:=qb he;clear he)
 go_ret
 exact⟨rfl,HE.out.then' HF.out⟩
theorem Rd.op_drop {l:List Sg}{s:Rd}:∀ (ts:List ByteArray) (k:Int) (i:Nat),(∀ j (h:j<ts.length),j<i→s.isQ l ts[j]=false)→i≤ts.length→Rd.op l ts k s=Rd.op l (ts.drop i) (k+i) s
 | _,_,0,_,_=>by simp
 | [],_,_+1,_,h=>by simp at h
 | t :: ts,k,i+1,hq,h=>by
  have h0:=hq 0 (by simp) (by omega)
  simp at h0
  rw[Rd.op,h0]
  simp only[Bool.false_eq_true,if_false,List.drop_succ_cons]
  rw[Rd.op_drop ts (k+1) i (fun j hj hji=>by have:=hq (j+1) (by simpa using hj) (by omega);simpa using this) (by simpa using h)]
  congr 1
  push_cast
  omega
def OpRel (L:Nat→Prop) (B g:Nat) (l:List Sg) (lv:Value) (s:Rd) (ts:List ByteArray) (w:World) (iv:Value) (wr:World):Prop :=
 ∃ k:Nat,k≤ts.length∧iv=.int .i64 (k:Int)∧Hid (∀ j (h:j<ts.length),j<k→s.isQ l ts[j]=false)∧Hid (aa8 L B g l lv s w wr)
theorem aC6 {L:Nat→Prop}{B g:Nat}{l:List Sg}{lv v:Value}{s:Rd}(ts:List ByteArray) (k0:Int) (w:World) (h:RdAt L B g l lv s w) (hv:aB8 w v ts) (hts:ts.length≤16) (h0:0<k0) (h1:k0≤100) (hl:l.length≤1048576) :
  Calls Tryz.prog 112 #[.pointer (some ⟨g,0,none⟩),v,.int .i64 k0] w fun e w'=>e=.returned (.int .i64 (Rd.op l ts k0 s).2)∧aa8 L B g l lv (Rd.op l ts k0 s).1 w w':=by
 have C:=fun t w h=>qb (ah0 (L:=L) (B:=B) (g:=g) (l:=l) (lv:=lv) (s:=s) t w h hl)
 have HV:=qb hv
 obtain⟨ao,c,rfl,_⟩:=hv
 have H:=qb h
 clear h
 go_enter Tryz.func112,Tryz.ntmps112
 go_wp2
 go_loopw [7] (fun iv wr=>OpRel L B g l lv s ts w iv wr) (fun iv _=>ts.length-(intOf iv).toNat)
 case atStart=>exact⟨0,Nat.zero_le _,rfl,fun j _ hj=>by omega,aa8.refl H.out⟩
 case round =>
  obtain⟨k,hk,rfl,HQ,HE⟩:=hrel
  by_cases hlt:k<ts.length
  ·obtain⟨ao',c',ee,hc⟩:=(HV.out.keep HE.out.keep).at
   injection ee with e1 e2 e3
   subst e1 e3
   obtain⟨a,rfl,_,hcell⟩:=hc k hlt
   have hi0:(0:Int)≤(k:Int):=by omega
   have hi1:(k:Int)<(ts.length:Int):=by omega
   obtain⟨t,ht⟩:∃ t,t=ts[k]:=⟨_,rfl⟩
   have HT:=qb ht
   rw[←ht]at hcell
   clear ht hc e2
   cases hq:s.isQ l t with
   | true =>
    have C1:=C t
    rw[hq]at C1
    have HR:Hid (Rd.op l ts k0 s=(s.may l t,k0+k)):=by
     show _=_
     rw[Rd.op_drop ts k0 k HQ.out (by omega),List.drop_eq_getElem_cons hlt,Rd.op,←HT.out,hq]
     simp[Rd.may,hq]
    have hwr:wrap64 (k0+(k:Int))=k0+(k:Int):=IntWalk.wrap64_in _ (by omega)
    go_wp2_with (go_at_call 10;refine(qa (C1 _ HE.out.at')).mono ?_;rintro e w1⟨rfl,he⟩;have HF:=qb he;clear he)
    go_ret
    rw[HR.out]
    exact⟨rfl,HE.out.then' HF.out⟩
   | false =>
    have C1:=C t
    rw[hq]at C1
    have HM:Hid (s.may l t=s):=by simp[Hid,Rd.may,hq]
    have hwr:wrap64 ((k:Int)+1)=(k:Int)+1:=IntWalk.wrap64_in _ (by omega)
    go_wp2_with (go_at_call 10;refine(qa (C1 _ HE.out.at')).mono ?_;rintro e w1⟨rfl,he⟩;rw[HM.out]at he;have HF:=qb he;clear he)
    go_roundw
    case rel =>
     refine⟨k+1,by omega,by go_num,fun j hj hjk=>?_,HE.out.then' HF.out⟩
     by_cases hjk2:j<k
     ·exact HQ.out j hj hjk2
     ·have e:j=k:=by omega
      subst e
      rw[←HT.out];exact hq
    case measure=>simp[intOf];omega
  ·have hi1:¬ (k:Int)<(ts.length:Int):=by omega
   have HR:Hid (Rd.op l ts k0 s=(s,0)):=by
    show _=_
    rw[Rd.op_drop ts k0 k HQ.out (by omega),List.drop_eq_nil_of_le (by omega),Rd.op]
   go_wp2
   go_ret
   rw[HR.out]
   exact⟨rfl,HE.out⟩
end Go.Proofs.YtcpapceeekkacaaGreatDoor
