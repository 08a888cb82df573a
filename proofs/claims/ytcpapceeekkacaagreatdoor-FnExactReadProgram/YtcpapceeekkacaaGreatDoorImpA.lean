import Derived.Test.YtcpapceeekkacaaGreatDoorIrdP
import Derived.Test.YtcpapceeekkacaaGreatDoorMarkM
import Derived.Test.YtcpapceeekkacaaGreatDoorChecked
import Derived.BigQuiet
import Derived.WalkSmall
import Derived.Deep.RegionHeld3
import Derived.Handy
set_option maxRecDepth 100000
set_option maxHeartbeats 8000000
namespace Go.Proofs.YtcpapceeekkacaaGreatDoor
open Go.RowKit
theorem aK5 (s:ByteArray) (a b:Nat):(s.extract a b).data.toList=(s.data.toList.drop a).take (b-a):=by
 rw[ByteArray.data_extract,Array.toList_extract,List.extract_eq_take_drop]
theorem aS_ (s:ByteArray) (pos:Nat) (hp:pos<s.size):∃ r,(sgOf s pos).text.data.toList=s[pos] :: r:=by
 have h1:(sgOf s pos).text.data.toList=(rest s pos).take (ab0 (rest s pos)):=by
  show (s.extract pos (pos+ab0 (rest s pos))).data.toList=_
  rw[aK5,Nat.add_sub_cancel_left]
 have h2:=ao6 (rest s pos)
 rw[h1]
 obtain⟨n,hn⟩:∃ n,ab0 (rest s pos)=n+1:=⟨ab0 (rest s pos)-1,by omega⟩
 rw[hn,ad7 s pos hp,List.take_succ_cons]
 exact⟨_,rfl⟩
theorem aY_ (t:ByteArray):ag8 (ad2 t).1:=by
 refine⟨fun x hx hk=>?_,fun x hx hn=>?_⟩
 ·obtain⟨pos,hp,h1,h2,rfl⟩:=au7 t x hx
  obtain⟨r,hr⟩:=aS_ t pos hp
  have hk2:ag3 (rest t pos)=2:=hk
  rw[ad7 t pos hp,ag3]at hk2
  refine⟨t[pos],r,by rw[ByteArray.toList_eq];exact hr,?_⟩
  split at hk2
  ·cases hk2
  ·split at hk2
   ·cases hk2
   ·split at hk2
    ·cases hk2
    ·split at hk2
     ·assumption
     ·split at hk2
      ·cases hk2
      ·split at hk2
       ·cases hk2
       ·cases hk2
 ·obtain⟨pos,hp,h1,h2,rfl⟩:=au7 t x hx
  obtain⟨r,hr⟩:=aS_ t pos hp
  unfold aa7 ar0 at hn
  rw[Bool.and_eq_true,Bool.and_eq_true,decide_eq_true_eq]at hn
  have hh:=hn.2.1
  have hsz:(sgOf t pos).text.size=(sgOf t pos).text.data.toList.length:=by simp
  rw[hsz,hr]at hh
  have hl:ab3 t[pos].toNat=true:=by
   cases hq:ab3 t[pos].toNat with
   | true=>rfl
   | false=>rw[ay0 hq]at hh;simp at hh
  show ag3 (rest t pos)=1
  have hb:af4 t[pos].toNat=false:=by unfold ab3 at hl;unfold af4;simp at hl ⊢;omega
  have h35:¬ t[pos].toNat=35:=by unfold ab3 at hl;simp at hl;omega
  rw[ad7 t pos hp,ag3,hb,if_neg (by simp),if_neg h35,if_pos hl]
structure aG6 (B:Nat) (w w':World):Prop where
 keep:ar7 w w'
 bel:Below B w w'
theorem IEnd.gone {L:Nat→Prop}{B g:Nat}{sz:Int}{l:List Sg}{lv:Value}{s:Rd}{w w':World}(h:IEnd L B g sz l lv s w w'):aG6 B w w':=⟨h.keep,h.bel⟩
theorem IEnd.lost {L:Nat→Prop}{B g:Nat}{sz:Int}{l:List Sg}{lv:Value}{s:Rd}{w w' w'':World}(h:IEnd L B g sz l lv s w w') (k:aG6 B w' w''):aG6 B w w'':=⟨h.keep.trans k.keep,h.bel.trans k.bel⟩
def IOut (L:Nat→Prop) (B g:Nat) (sz:Int) (l:List Sg) (lv:Value) (s':Rd) (v:Value) (w:World) (e:Ending) (w':World):Prop :=
 (s'.bad=false∧e=.returned v∧IEnd L B g sz l lv s' w w')∨(s'.bad=true∧e=.panicked (aG5 (sgAt sz l s').place)∧aG6 B w w')
theorem ba7 {sz:Int}{l:List Sg}{s s':Rd}(h:s.pos=s'.pos):sgAt sz l s=sgAt sz l s':=by unfold sgAt;rw[h]
theorem IOut.yes {L:Nat→Prop}{B g:Nat}{sz:Int}{l:List Sg}{lv:Value}{s':Rd}{v:Value}{w:World}{f:FuncId}{args:Array Value}(hb:s'.bad=false) (h:Calls Tryz.prog f args w (IOut L B g sz l lv s' v w)):Calls Tryz.prog f args w fun e w'=>e=.returned v∧IEnd L B g sz l lv s' w w' :=
 h.mono fun e w' ho=>by
  rcases ho with ho|ho
  ·exact ho.2
  ·rw[hb]at ho;cases ho.1
theorem IOut.no {L:Nat→Prop}{B g:Nat}{sz:Int}{l:List Sg}{lv:Value}{s':Rd}{v:Value}{w:World}{f:FuncId}{args:Array Value}(hb:s'.bad=true) (h:Calls Tryz.prog f args w (IOut L B g sz l lv s' v w)):Calls Tryz.prog f args w fun e w'=>e=.panicked (aG5 (sgAt sz l s').place)∧aG6 B w w' :=
 h.mono fun e w' ho=>by
  rcases ho with ho|ho
  ·rw[hb]at ho;cases ho.1
  ·exact ho.2
theorem isQ_text {sz:Int}{l:List Sg}{s:Rd}(hw:ag8 l) (hb:s.bad=false) {t:ByteArray}(ht:ae9 t=true):s.isQ l t=((sgAt sz l s).text.toList == t.toList):=by
 unfold Rd.isQ Rd.next sgAt
 rw[hb]
 simp only[Bool.false_eq_true,if_false]
 cases hx:l[s.pos]? with
 | none =>
  simp only
  cases hq:((⟨0,ByteArray.empty,0,sz⟩:Sg).text.toList == t.toList) with
  | false=>rfl
  | true =>
   have e:=beq_iff_eq.1 hq
   unfold ae9 at ht
   have e2:t.toList=[]:=by rw[←e];show ByteArray.empty.toList=[];rw[ByteArray.toList_eq];rfl
   rw[e2]at ht
   cases ht
 | some x =>
  simp only
  cases hq:(x.text.toList == t.toList) with
  | false=>rfl
  | true =>
   have e:=beq_iff_eq.1 hq
   have hne:x.kind≠2:=fun hk=>by
    obtain⟨b,r,e2,hf⟩:=hw.word x (List.mem_of_getElem? hx) hk
    unfold ae9 at ht
    rw[←e,e2]at ht
    simp[hf]at ht
   simp[hne]
theorem ah1 {L:Nat→Prop}{B g:Nat}{sz:Int}{l:List Sg}{lv:Value}{s:Rd}(t:ByteArray) (w:World) (h:IAt L B g sz l lv s w) (hw:ag8 l) (hl:l.length≤1048576) (ht:ae9 t=true) :
  Calls Tryz.prog 74 #[.pointer (some ⟨g,0,none⟩),.string t] w fun e w'=>e=.returned (.bool (s.isQ l t))∧IEnd L B g sz l lv (s.may l t) w w':=by
 have hne:t.toList≠[]:=fun e=>by unfold ae9 at ht;rw[e]at ht;cases ht
 have h1:=bc9 t w h hl hne
 rw[←isQ_text (sz:=sz) hw h.fine ht]at h1
 exact h1
theorem ag5 {L:Nat→Prop}{B g:Nat}{sz:Int}{l:List Sg}{lv:Value}{s:Rd}(t:ByteArray) (w:World) (h:IAt L B g sz l lv s w) (hw:ag8 l) (hl:l.length≤1048576) (ht:ae9 t=true) :
  Calls Tryz.prog 77 #[.pointer (some ⟨g,0,none⟩),.string t] w (IOut L B g sz l lv (s.must l t) (.tuple #[]) w):=by
 have C:=qb (ah1 t w h hw hl ht)
 have CS:=fun w h=>qb (aE_ (L:=L) (B:=B) (g:=g) (sz:=sz) (l:=l) (lv:=lv) (s:=s) w h)
 have hf:=h.fine
 clear h ht
 cases hq:s.isQ l t with
 | true =>
  rw[hq,show s.may l t=s.on from by simp[Rd.may,hq]]at C
  rw[show s.must l t=s.on from by simp[Rd.must,hq]]
  go_enter Tryz.func77,Tryz.ntmps77
  go_wp2_with (go_at_call 74;refine(qa C).mono ?_;rintro e w1⟨rfl,he⟩;have K1:=qb he;clear he)
  go_end0
  exact .inl ⟨hf,rfl,K1.out⟩
 | false =>
  rw[hq,show s.may l t=s from by simp[Rd.may,hq]]at C
  rw[show s.must l t=s.wrong from by simp[Rd.must,hq]]
  obtain⟨x,hx⟩:∃ x,sgAt sz l s=x:=⟨_,rfl⟩
  have hx2:sgAt sz l s.wrong=x:=hx
  rw[hx]at CS
  have HX:=qb hx2
  clear hx hx2
  go_enter Tryz.func77,Tryz.ntmps77
  go_wp2_with (first
   | (go_at_call 74;refine(qa C).mono ?_;rintro e w1⟨rfl,he⟩;have K1:=qb he;clear he)
   | (go_at_call 78;refine(qa (CS _ K1.out.at')).mono ?_;rintro e w2⟨rfl,he⟩;have K2:=qb (K1.out.then' he);clear he))
  exact⟨rfl,.inr ⟨rfl,by rw[HX.out],K2.out.gone⟩⟩
theorem ah7 {L:Nat→Prop}{B g:Nat}{sz:Int}{l:List Sg}{lv:Value}{s:Rd}(w:World) (h:IAt L B g sz l lv s w) (hw:ag8 l) (hl:l.length≤1048576) (hx:∀ x∈l,x.text.size≤1048576) :
  Calls Tryz.prog 97 #[.pointer (some ⟨g,0,none⟩)] w (IOut L B g sz l lv (s.name l).1 (.string (s.name l).2) w):=by
 have C:=qb (ay3 w h)
 have CS:=fun w h=>qb (aE_ (L:=L) (B:=B) (g:=g) (sz:=sz) (l:=l) (lv:=lv) (s:=s) w h)
 have hf:=h.fine
 have hp:=h.pos
 have hsz:(sgAt sz l s).text.size≤1048576:=by
  unfold sgAt
  split
  ·next x e=>exact hx x (List.mem_of_getElem? e)
  ·exact aq9
 have CN:=fun w=>qb (aa9 (sgAt sz l s).text w hsz)
 have hQ:s.nameQ l=if aa7 (sgAt sz l s).text=true then some (sgAt sz l s).text else none:=by
  unfold Rd.nameQ Rd.next sgAt
  rw[hf]
  simp only[Bool.false_eq_true,if_false]
  cases hx:l[s.pos]? with
  | none =>
   simp only
   rw[if_neg (by decide +kernel)]
  | some x =>
   simp only
   by_cases hn:aa7 x.text=true
   ·rw[if_pos ⟨hw.name x (List.mem_of_getElem? hx) hn,hn⟩,if_pos hn]
   ·rw[if_neg (fun e=>hn e.2),if_neg hn]
 have hlt:aa7 (sgAt sz l s).text=true→s.pos<l.length:=fun e=>by
  rcases Nat.lt_or_ge s.pos l.length with h1|h1
  ·exact h1
  ·simp only[sgAt,List.getElem?_eq_none h1]at e
   exact absurd e (by decide +kernel)
 obtain⟨x,ex⟩:∃ x,sgAt sz l s=x:=⟨_,rfl⟩
 have ex2:sgAt sz l s.wrong=x:=ex
 rw[ex]at C CS CN hQ hlt
 have F1:=bh5 x
 have HX:=qb ex2
 clear ex ex2 h hsz hx
 cases hq:aa7 x.text with
 | true =>
  have hlt:=hlt hq
  have hwr:wrap64 ((s.pos:Int)+1)=(s.pos:Int)+1:=IntWalk.wrap64_in _ (by omega)
  rw[if_pos hq]at hQ
  rw[show s.name l=(s.on,x.text) from by unfold Rd.name;rw[hQ]]
  rw[hq]at CN
  clear hQ CS
  go_enter Tryz.func97,Tryz.ntmps97
  go_wp2_with (first
   | (go_at_call 96;refine(qa C).mono ?_;rintro e w1⟨rfl,he⟩;have K1:=qb he;clear he)
   | (go_at_call 81;refine(qa (CN _)).mono ?_;rintro e w2⟨rfl,he⟩;have K2:=qb (K1.out.then' (IEnd.below K1.out.at' he));have K3:=qb (K2.out.then' (IEnd.on K2.out.at' hlt));obtain⟨nv,c0,c1,c2,c3,f⟩:=K2.out.at'.cells;have f1:=f 1;clear he))
  go_ret
  exact .inl ⟨hf,rfl,K3.out⟩
 | false =>
  rw[if_neg (by simp[hq])]at hQ
  rw[show s.name l=(s.wrong,ByteArray.empty) from by unfold Rd.name;rw[hQ]]
  rw[hq]at CN
  clear hQ
  go_enter Tryz.func97,Tryz.ntmps97
  go_wp2_with (first
   | (go_at_call 96;refine(qa C).mono ?_;rintro e w1⟨rfl,he⟩;have K1:=qb he;clear he)
   | (go_at_call 81;refine(qa (CN _)).mono ?_;rintro e w2⟨rfl,he⟩;have K2:=qb (K1.out.then' (IEnd.below K1.out.at' he));clear he)
   | (go_at_call 78;refine(qa (CS _ K2.out.at')).mono ?_;rintro e w3⟨rfl,he⟩;have K3:=qb (K2.out.then' he);clear he))
  exact⟨rfl,.inr ⟨rfl,by rw[HX.out],K3.out.gone⟩⟩
def opTx:List ByteArray:=[tx "", tx "+", tx "-", tx "*", tx "/", tx "%", tx "<", tx "=", tx "and", tx "or"]
def ak5 (w:World):Prop:=∀ (k:Nat) (t:ByteArray),opTx[k]? = some t→w.cell? ⟨3,k,none⟩=some (.string t)
theorem ak5.stays {B:Nat}{w w':World}(h:ak5 w) (hb:Below B w w') (hB:3<B):ak5 w':=fun k t hk=>(hb.cell (p:=⟨3,k,none⟩) hB).trans (h k t hk)
def OprRel (L:Nat→Prop) (B g:Nat) (sz:Int) (l:List Sg) (lv:Value) (s:Rd) (first last:Nat) (w:World) (R:Rd×Int) (kv:Value) (wr:World):Prop :=
 ∃ k:Nat,first≤k∧k≤last+1∧kv=.int .i64 (k:Int)∧Hid (IEnd L B g sz l lv s w wr)∧Hid (Rd.op l ((opTx.take (last+1)).drop k) (k:Int) s=R)
theorem op_words:∀ k t,1≤k→opTx[k]? = some t→ae9 t=true:=by
 intro k t hk h
 match k,hk,h with
 | 1,_,h=>cases h;decide +kernel
 | 2,_,h=>cases h;decide +kernel
 | 3,_,h=>cases h;decide +kernel
 | 4,_,h=>cases h;decide +kernel
 | 5,_,h=>cases h;decide +kernel
 | 6,_,h=>cases h;decide +kernel
 | 7,_,h=>cases h;decide +kernel
 | 8,_,h=>cases h;decide +kernel
 | 9,_,h=>cases h;decide +kernel
 | k+10,_,h=>cases h
theorem aK9 {L:Nat→Prop}{B g:Nat}{sz:Int}{l:List Sg}{lv:Value}{s:Rd}(first last:Nat) (h1:1≤first) (h2:first≤last) (h3:last≤9) (w:World) (h:IAt L B g sz l lv s w) (hw:ag8 l) (hl:l.length≤1048576) (hO:ak5 w) (hB:3<B) :
  Calls Tryz.prog 141 #[.pointer (some ⟨g,0,none⟩),.int .i64 (first:Int),.int .i64 (last:Int)] w fun e w'=>e=.returned (.tuple #[.int .i64 (Rd.op l ((opTx.take (last+1)).drop first) (first:Int) s).2,.bool (decide ((Rd.op l ((opTx.take (last+1)).drop first) (first:Int) s).2≠0))])∧IEnd L B g sz l lv (Rd.op l ((opTx.take (last+1)).drop first) (first:Int) s).1 w w':=by
 have CQ:=fun t (ht:ae9 t=true) w h=>qb (ah1 (L:=L) (B:=B) (g:=g) (sz:=sz) (l:=l) (lv:=lv) (s:=s) t w h hw hl ht)
 have HO:=qb hO
 have K0:=qb (IEnd.refl h)
 obtain⟨R,hR⟩:∃ R,R=Rd.op l ((opTx.take (last+1)).drop first) (first:Int) s:=⟨_,rfl⟩
 have HR:=qb hR.symm
 rw[←hR]
 clear hR h hO
 go_enter Tryz.func141,Tryz.ntmps141
 go_wp2
 go_loopw [8] (fun kv wr=>OprRel L B g sz l lv s first last w R kv wr) (fun kv _=>last+1-(intOf kv).toNat)
 case atStart=>exact⟨first,nlr _,by omega,rfl,K0,HR⟩
 case round =>
  obtain⟨k,hk1,hk2,rfl,HK,HX⟩:=hrel
  by_cases hle:k≤last
  ·have hle':(k:Int)≤(last:Int):=by omega
   have hi0:(0:Int)≤(k:Int):=by omega
   have hi1:(k:Int)<10:=by omega
   obtain⟨t,ht⟩:∃ t,opTx[k]? = some t:=⟨opTx[k]'(by show k<10;omega),List.getElem?_eq_getElem _⟩
   have c0:=(HO.out.stays HK.out.bel hB) k t ht
   have CQ1:=CQ t (op_words k t (by omega) ht) _ HK.out.at'
   have hdrop:(opTx.take (last+1)).drop k=t :: (opTx.take (last+1)).drop (k+1):=by
    have hkl:k<(opTx.take (last+1)).length:=by rw[List.length_take];show k<min (last+1) 10;omega
    rw[List.drop_eq_getElem_cons hkl]
    congr 1
    rw[List.getElem_take]
    exact Option.some.inj ((List.getElem?_eq_getElem _).symm.trans ht)
   have HX2:=HX.out
   rw[hdrop,Rd.op]at HX2
   clear hdrop ht
   cases hq:s.isQ l t with
   | true =>
    rw[hq,if_pos rfl]at HX2
    rw[hq,show s.may l t=s.on from by simp[Rd.may,hq]]at CQ1
    have HX3:=qb HX2
    have hk0:decide ((k:Int)≠0)=true:=by simp;omega
    have HK0:=qb hk0
    clear HX2 hq CQ hk0
    go_wp2_with (go_at_call 74;refine(qa CQ1).mono ?_;rintro e w3⟨rfl,he⟩;have K3:=qb (HK.out.then' he);clear he)
    go_ret2
    rw[←HX3.out]
    exact⟨by rw[HK0.out];rfl,K3.out⟩
   | false =>
    rw[hq,if_neg (by simp)]at HX2
    rw[hq,show s.may l t=s from by simp[Rd.may,hq]]at CQ1
    have HX3:Hid (Rd.op l ((opTx.take (last+1)).drop (k+1)) ((k+1:Nat):Int) s=R):=HX2
    clear HX2 hq CQ
    go_wp2_with (go_at_call 74;refine(qa CQ1).mono ?_;rintro e w3⟨rfl,he⟩;have K3:=qb (HK.out.then' he);clear he)
    go_roundw
    case rel=>exact⟨k+1,by omega,by omega,by go_num,K3,HX3⟩
    case measure=>simp[intOf];omega
  ·have hle':¬ (k:Int)≤(last:Int):=by omega
   have HX3:Hid (R=(s,0)):=by
    have:=HX.out
    rw[List.drop_eq_nil_of_le (by rw[List.length_take];show min (last+1) 10≤k;omega)]at this
    exact this.symm
   go_wp2
   go_ret2
   rw[HX3.out]
   exact⟨rfl,HK.out⟩
theorem ab7 (x lo hi:Int) (w:World):Calls Tryz.prog 35 #[.int .i64 x,.int .i64 lo,.int .i64 hi] w fun e w'=>e=.returned (.bool (inZ lo hi x))∧w'=w:=by
 by_cases h1:lo≤x
 ·have e:inZ lo hi x=decide (x≤hi):=by simp[inZ,h1]
  rw[e]
  go_enter Tryz.func35,Tryz.ntmps35
  go_wp2
  go_ret
  exact⟨rfl,rfl⟩
 ·have e:inZ lo hi x=false:=by simp[inZ,h1]
  rw[e]
  go_enter Tryz.func35,Tryz.ntmps35
  go_wp2
  go_ret
  exact⟨rfl,rfl⟩
theorem aB_ (k:Int) (w:World):Calls Tryz.prog 90 #[.int .i64 k] w fun e w'=>e=.returned (.bool (af8 k))∧w'=w:=by
 have C:=fun w=>qb (ab7 k 1 5 w)
 go_enter Tryz.func90,Tryz.ntmps90
 go_wp2_with (go_at_call 35;refine(qa (C _)).mono ?_;rintro e w1⟨rfl,rfl⟩)
 go_ret
 exact⟨rfl,rfl⟩
theorem at5 (k:Int) (w:World):Calls Tryz.prog 91 #[.int .i64 k] w fun e w'=>e=.returned (.bool (aj4 k))∧w'=w:=by
 have C:=fun w=>qb (ab7 k 11 19 w)
 go_enter Tryz.func91,Tryz.ntmps91
 go_wp2_with (go_at_call 35;refine(qa (C _)).mono ?_;rintro e w1⟨rfl,rfl⟩)
 go_ret
 exact⟨rfl,rfl⟩
theorem az9 (nv mv pv:Value) (ns:List Nd) (k i:Nat) (w:World) (hN:af7 w nv ns) (hk:k<ns.length) (hi:i<ns[k].kids.length) (hl:ns.length≤1048576) :
  Calls Tryz.prog 116 #[.agg #[nv,mv,pv],.int .i64 (k:Int),.int .i64 (i:Int)] w fun e w'=>e=.returned (.int .i64 (ai1 ns k ns[k].kids[i]))∧Below w.heap.size w w':=by
 have hb1:Below w.heap.size w (w.alloc (.cells #[nv,mv,pv] 26)):=bal _ _
 have hN1:=hN.stays hb1
 obtain⟨ao,c,rfl,hc⟩:=hN1
 obtain⟨a,kv,rfl,ha,hx⟩:=hc k hk
 obtain⟨p,hpa⟩:∃ p,a.add (k*6)=p:=⟨_,rfl⟩
 rw[hpa]at hx
 have c5:=hx.c5
 obtain⟨bo,cb,rfl,hkc⟩:=hx.kids
 obtain⟨b,rfl,hbb,hb5⟩:=hkc i hi
 obtain⟨x,hxe⟩:∃ x,x=ns[k].kids[i]:=⟨_,rfl⟩
 rw[←hxe]at hb5 ⊢
 have C:=fun w=>qb (ab7 x 0 ((k:Int)-1) w)
 have hi0:(0:Int)≤(k:Int):=by omega
 have hi1:(k:Int)<(ns.length:Int):=by omega
 have hj0:(0:Int)≤(i:Int):=by omega
 have hj1:(i:Int)<(ns[k].kids.length:Int):=by omega
 obtain⟨n,hn⟩:∃ n,n=ns.length:=⟨_,rfl⟩
 obtain⟨m,hmm⟩:∃ m,m=ns[k].kids.length:=⟨_,rfl⟩
 cases hin:inZ 0 ((k:Int)-1) x with
 | true =>
  obtain⟨hx0,hx1⟩:=ad5.1 hin
  obtain⟨y,hy⟩:∃ y:Nat,x=(y:Int):=⟨x.toNat,by omega⟩
  have hyn:y<ns.length:=by omega
  obtain⟨a2,kv2,e2,ha2,hx2⟩:=hc y hyn
  have e3:a2=a:=(Option.some.inj e2).symm
  subst e3
  obtain⟨p2,hpa2⟩:∃ p2,a2.add (y*6)=p2:=⟨_,rfl⟩
  rw[hpa2]at hx2
  have d0:=hx2.c0
  have hkk:ai1 ns k x=ns[y].kind:=by
   rw[ai1,hin,if_pos rfl,hy]
   simp[List.getD_eq_getElem?_getD,List.getElem?_eq_getElem hyn]
  rw[hkk]
  rw[hin]at C
  subst hy
  have hy0:(0:Int)≤(y:Int):=by omega
  have hy1:(y:Int)<(ns.length:Int):=by omega
  have HB:=qb hb1
  clear hc hkc hx hx2 hin hkk hN hb1 hxe
  go_enter Tryz.func116,Tryz.ntmps116
  go_wp2_with (go_at_call 35;refine(qa (C _)).mono ?_;rintro e w1⟨rfl,rfl⟩)
  go_ret
  exact⟨rfl,HB.out⟩
 | false =>
  have hkk:ai1 ns k x=0:=by rw[ai1,hin];rfl
  rw[hkk]
  rw[hin]at C
  have HB:=qb hb1
  clear hc hkc hx hin hkk hN hb1 hxe
  go_enter Tryz.func116,Tryz.ntmps116
  go_wp2_with (go_at_call 35;refine(qa (C _)).mono ?_;rintro e w1⟨rfl,rfl⟩)
  go_ret
  exact⟨rfl,HB.out⟩
def aj0 (ns:List Nd) (k:Nat):List Int:=(ns.getD k default).kids.map (ai1 ns k)
theorem ar5 {ns:List Nd}{k:Nat}(hk:k<ns.length):ns.getD k default=ns[k]:=by simp[List.getD_eq_getElem?_getD,List.getElem?_eq_getElem hk]
theorem ay5 {ns:List Nd}{k:Nat}(hk:k<ns.length):(aj0 ns k).length=ns[k].kids.length:=by rw[aj0,ar5 hk,List.length_map]
theorem kinds_at {ns:List Nd}{k i:Nat}(hk:k<ns.length) (hi:i<ns[k].kids.length):(aj0 ns k)[i]'(by rw[ay5 hk];exact hi)=ai1 ns k ns[k].kids[i]:=by
 have e:aj0 ns k=ns[k].kids.map (ai1 ns k):=by rw[aj0,ar5 hk]
 simp[e]
theorem ay4 {ns:List Nd}{k i:Nat}(hk:k<ns.length) (hi:i<ns[k].kids.length):(aj0 ns k)[i]? = some (ai1 ns k ns[k].kids[i]):=by
 rw[List.getElem?_eq_getElem (by rw[ay5 hk];exact hi),kinds_at hk hi]
theorem aT4 {α:Type}{q:α→Bool}{l:List α}{n i:Nat}{x:α}(h:l[i]? = some x) (hi:i<n) (hq:q x=false):(l.take n).all q=false:=by
 rw[List.all_eq_false]
 refine⟨x,?_,by simp[hq]⟩
 obtain⟨hl,e⟩:=List.getElem?_eq_some_iff.1 h
 exact List.mem_take_iff_getElem.2 ⟨i,by omega,e⟩
theorem aN2 {α:Type}{q:α→Bool}{l:List α}{n:Nat}(h:∀ j x,j<n→l[j]? = some x→q x=true):(l.take n).all q=true:=by
 rw[List.all_eq_true]
 intro x hx
 obtain⟨i,hi,e⟩:=List.mem_take_iff_getElem.1 hx
 exact h i x (by omega) (by rw[List.getElem?_eq_getElem (by omega),e])
theorem aD0 {α:Type}{q:α→Bool}{l:List α}{n i:Nat}{x:α}(h:l[i]? = some x) (hi:n≤i) (hq:q x=false):(l.drop n).all q=false:=by
 rw[List.all_eq_false]
 refine⟨x,?_,by simp[hq]⟩
 exact List.mem_iff_getElem?.2 ⟨i-n,by rw[List.getElem?_drop,show n+(i-n)=i by omega];exact h⟩
theorem aA8 {α:Type}{q:α→Bool}{l:List α}{n:Nat}(h:∀ j x,n≤j→l[j]? = some x→q x=true):(l.drop n).all q=true:=by
 rw[List.all_eq_true]
 intro x hx
 obtain⟨i,hi⟩:=List.mem_iff_getElem?.1 hx
 rw[List.getElem?_drop]at hi
 exact h (n+i) x (by omega) hi
structure ar3 (B:Nat) (w:World) (nv mv pv:Value):Prop where
 c0:w.cell? ⟨B,0,none⟩=some nv
 c1:w.cell? ⟨B,1,none⟩=some mv
 c2:w.cell? ⟨B,2,none⟩=some pv
 lt:B<w.heap.size
theorem ar3.made (w:World) (nv mv pv:Value) (t:TypeId):ar3 w.heap.size (w.alloc (.cells #[nv,mv,pv] t)) nv mv pv:=by
 refine⟨?_,?_,?_,?_⟩
 ·rw[World.cell?_alloc_new];rfl
 ·rw[World.cell?_alloc_new];rfl
 ·rw[World.cell?_alloc_new];rfl
 ·simp
theorem ar3.stays {B:Nat}{w w':World}{nv mv pv:Value}(h:ar3 B w nv mv pv) (hb:Below w.heap.size w w'):ar3 B w' nv mv pv :=
 ⟨(hb.cell (p:=⟨B,0,none⟩) h.lt).trans h.c0,(hb.cell (p:=⟨B,1,none⟩) h.lt).trans h.c1,(hb.cell (p:=⟨B,2,none⟩) h.lt).trans h.c2,nll h.lt hb.size⟩
def ValuesR (W1:World) (l:List Int) (n:Nat) (iv:Value) (wr:World):Prop :=
 ∃ i:Nat,i≤n∧iv=.int .i64 i∧Hid (Below W1.heap.size W1 wr)∧Hid (∀ j x,j<i→l[j]? = some x→af8 x=true)
theorem aL1 (nv mv pv:Value) (ns:List Nd) (k n:Nat) (w:World) (hN:af7 w nv ns) (hk:k<ns.length) (hn:n≤ns[k].kids.length) (hl:ns.length≤1048576) (hkl:ns[k].kids.length≤1048576) :
  Calls Tryz.prog 114 #[.agg #[nv,mv,pv],.int .i64 (k:Int),.int .i64 (n:Int)] w fun e w'=>e=.returned (.bool (((aj0 ns k).take n).all af8))∧Below w.heap.size w w':=by
 have hb1:Below w.heap.size w (w.alloc (.cells #[nv,mv,pv] 26)):=bal _ _
 have HN:=qb (hN.stays hb1)
 have HX:=qb (ar3.made w nv mv pv 26)
 have HB:=qb hb1
 clear hN hb1
 go_enter Tryz.func114,Tryz.ntmps114
 go_wp2
 obtain⟨W1,hW⟩:∃ W1,w.alloc (.cells #[nv,mv,pv] 26)=W1:=⟨_,rfl⟩
 rw[hW]at HN HX HB ⊢
 clear hW
 go_loopw [7] (ValuesR W1 (aj0 ns k) n) (fun iv _=>n-(intOf iv).toNat)
 case atStart=>exact⟨0,by omega,rfl,Below.refl _ _,fun j x hj=>absurd hj (Nat.not_lt_zero j)⟩
 case round =>
  obtain⟨i,hi,rfl,HB2,HA⟩:=hrel
  obtain⟨c0,c1,c2,_⟩:=HX.out.stays HB2.out
  by_cases hlt:i<n
  ·have hlt':(i:Int)<(n:Int):=by omega
   have C1:=fun w (h:af7 w nv ns)=>qb (az9 nv mv pv ns k i w h hk (by omega) hl)
   have C2:=fun x w=>qb (aB_ x w)
   have hx:=qb (ay4 hk (show i<ns[k].kids.length by omega))
   obtain⟨x,ex⟩:∃ x,x=ai1 ns k ns[k].kids[i]:=⟨_,rfl⟩
   rw[←ex]at hx
   simp only[←ex]at C1
   clear ex
   have HN2:=qb (HN.out.stays HB2.out)
   cases hv:af8 x with
   | true =>
    have C2:=C2 x
    rw[hv]at C2
    go_wp2_with (first|(go_at_call 116;refine(qa (C1 _ HN2.out)).mono ?_;rintro e w2⟨rfl,hb2⟩;have HB3:=qb hb2;clear hb2)|(go_at_call 90;refine(qa (C2 _)).mono ?_;rintro e w3⟨rfl,rfl⟩))
    go_roundw
    case rel=>exact⟨i+1,by omega,by go_num,HB2.out.trans (HB3.out.mono HB2.out.size),fun j y hj hy=>by
     rcases Nat.lt_succ_iff_lt_or_eq.1 hj with hj|hj
     ·exact HA.out j y hj hy
     ·subst hj;rw[hx.out]at hy;cases hy;exact hv⟩
    case measure=>simp[intOf];omega
   | false =>
    have C2:=C2 x
    rw[hv]at C2
    go_wp2_with (first|(go_at_call 116;refine(qa (C1 _ HN2.out)).mono ?_;rintro e w2⟨rfl,hb2⟩;have HB3:=qb hb2;clear hb2)|(go_at_call 90;refine(qa (C2 _)).mono ?_;rintro e w3⟨rfl,rfl⟩))
    go_ret
    exact⟨by rw[aT4 hx.out hlt hv];rfl,HB.out.trans ((HB2.out.trans (HB3.out.mono HB2.out.size)).mono HB.out.size)⟩
  ·have hlt':¬ (i:Int)<(n:Int):=by omega
   go_wp2
   go_ret
   exact⟨by rw[aN2 (fun j x hj hx=>HA.out j x (by omega) hx)];rfl,HB.out.trans (HB2.out.mono HB.out.size)⟩
def an4 (x:Int):Bool:=decide (x=20)
def BlocksR (W1:World) (l:List Int) (n m:Nat) (iv:Value) (wr:World):Prop :=
 ∃ i:Nat,n≤i∧i≤m∧iv=.int .i64 i∧Hid (Below W1.heap.size W1 wr)∧Hid (∀ j x,n≤j→j<i→l[j]? = some x→an4 x=true)
theorem af7.node {w:World}{nv:Value}{ns:List Nd}(h:af7 w nv ns) (k:Nat) (hk:k<ns.length) :
  ∃ a c p kv,nv=.slice (some a) ns.length c∧a.add (k*6)=p∧p.block<w.heap.size∧aN0 w p ns[k] kv:=by
 obtain⟨ao,c,rfl,hc⟩:=h
 obtain⟨a,kv,rfl,ha,hx⟩:=hc k hk
 exact⟨a,c,a.add (k*6),kv,rfl,rfl,by rw[af_];exact ha,hx⟩
theorem aL0 (nv mv pv:Value) (ns:List Nd) (k n:Nat) (w:World) (hN:af7 w nv ns) (hk:k<ns.length) (hn:n≤ns[k].kids.length) (hl:ns.length≤1048576) (hkl:ns[k].kids.length≤1048576) :
  Calls Tryz.prog 115 #[.agg #[nv,mv,pv],.int .i64 (k:Int),.int .i64 (n:Int)] w fun e w'=>e=.returned (.bool (((aj0 ns k).drop n).all an4))∧Below w.heap.size w w':=by
 have hb1:Below w.heap.size w (w.alloc (.cells #[nv,mv,pv] 26)):=bal _ _
 have HN:=qb (hN.stays hb1)
 have HX:=qb (ar3.made w nv mv pv 26)
 have HB:=qb hb1
 clear hN hb1
 go_enter Tryz.func115,Tryz.ntmps115
 go_wp2
 obtain⟨W1,hW⟩:∃ W1,w.alloc (.cells #[nv,mv,pv] 26)=W1:=⟨_,rfl⟩
 rw[hW]at HN HX HB ⊢
 clear hW
 have hi0:(0:Int)≤(k:Int):=by omega
 have hi1:(k:Int)<(ns.length:Int):=by omega
 obtain⟨m,hm⟩:∃ m,ns[k].kids.length=m:=⟨_,rfl⟩
 have HM:=qb hm
 rw[hm]at hn hkl
 go_loopw [7] (BlocksR W1 (aj0 ns k) n m) (fun iv _=>m-(intOf iv).toNat)
 case atStart=>exact⟨n,by omega,by omega,rfl,Below.refl _ _,fun j x h1 h2=>absurd h2 (by omega)⟩
 case round =>
  obtain⟨i,hni,hi,rfl,HB2,HA⟩:=hrel
  obtain⟨c0,c1,c2,_⟩:=HX.out.stays HB2.out
  have HN2:=qb (HN.out.stays HB2.out)
  obtain⟨a,c,p,kv,rfl,hpa,hpb,hcell⟩:=HN2.out.node k hk
  have d5:=hcell.c5
  obtain⟨bo,cb,rfl,_⟩:=hcell.kids
  rw[hm]at d5
  clear hcell hm
  by_cases hlt:i<m
  ·have hlt':(i:Int)<(m:Int):=by omega
   have hik:i<ns[k].kids.length:=by rw[HM.out];exact hlt
   have C1:=fun w (h:af7 w (.slice (some a) ns.length c) ns)=>qb (az9 (.slice (some a) ns.length c) mv pv ns k i w h hk hik hl)
   have hx:=qb (ay4 hk hik)
   obtain⟨x,ex⟩:∃ x,x=ai1 ns k ns[k].kids[i]:=⟨_,rfl⟩
   rw[←ex]at hx
   simp only[←ex]at C1
   clear ex
   by_cases hv:x=20
   ·have HV:Hid (an4 x=true):=by show _=_;simp[an4,hv]
    go_wp2_with (go_at_call 116;refine(qa (C1 _ HN2.out)).mono ?_;rintro e w2⟨rfl,hb2⟩;have HB3:=qb hb2;clear hb2)
    go_roundw
    case rel=>exact⟨i+1,by omega,by omega,by go_num,HB2.out.trans (HB3.out.mono HB2.out.size),fun j y h1 hj hy=>by
     rcases Nat.lt_succ_iff_lt_or_eq.1 hj with hj|hj
     ·exact HA.out j y h1 hj hy
     ·subst hj;rw[hx.out]at hy;cases hy;exact HV.out⟩
    case measure=>simp[intOf];omega
   ·have HV:Hid (an4 x=false):=by show _=_;simp[an4,hv]
    go_wp2_with (go_at_call 116;refine(qa (C1 _ HN2.out)).mono ?_;rintro e w2⟨rfl,hb2⟩;have HB3:=qb hb2;clear hb2)
    go_ret
    exact⟨by rw[aD0 hx.out hni HV.out];rfl,HB.out.trans ((HB2.out.trans (HB3.out.mono HB2.out.size)).mono HB.out.size)⟩
  ·have hlt':¬ (i:Int)<(m:Int):=by omega
   go_wp2
   go_ret
   exact⟨by rw[aA8 (fun j x h1 hx=>HA.out j x h1 (by have:=(List.getElem?_eq_some_iff.1 hx).1;rw[ay5 hk,HM.out]at this;omega) hx)];rfl,HB.out.trans (HB2.out.mono HB.out.size)⟩
def af1 (kd:Int) (l:List Int):Bool :=
 if kd=1∨kd=2∨kd=16∨kd=17∨kd=18∨kd=19 then decide (l.length=0)
 else if kd=3 then decide (l.length=2) && (l.take 2).all af8
 else if kd=4∨kd=5∨kd=11∨kd=14∨kd=15 then decide (l.length=1) && (l.take 1).all af8
 else if kd=12 then decide (l.length=2∨l.length=3) && (l.take 1).all af8 && (l.drop 1).all an4
 else if kd=13 then decide (l.length=2) && (l.take 1).all af8 && (l.drop 1).all an4
 else l.all aj4 && inZ 1 12 l.length
theorem aj5 (nv mv pv:Value) (ns:List Nd) (k:Int) (w:World) (hN:af7 w nv ns) :
  Calls Tryz.prog 102 #[.agg #[nv,mv,pv],.int .i64 k] w fun e w'=>e=.returned (.bool (inZ 0 ((ns.length:Int)-1) k))∧Below w.heap.size w w':=by
 have HB:Hid (Below w.heap.size w (w.alloc (.cells #[nv,mv,pv] 26))):=bal _ _
 obtain⟨ao,c,rfl,_⟩:=hN
 obtain⟨n,hn⟩:∃ n,ns.length=n:=⟨_,rfl⟩
 rw[hn]at HB ⊢
 clear hn
 by_cases h1:(0:Int)≤k
 ·by_cases h2:k<(n:Int)
  ·have e:inZ 0 ((n:Int)-1) k=true:=ad5.2 (by omega)
   rw[e]
   clear e
   go_enter Tryz.func102,Tryz.ntmps102
   go_wp2
   go_ret
   exact⟨rfl,HB.out⟩
  ·have e:inZ 0 ((n:Int)-1) k=false:=at4.2 (by omega)
   rw[e]
   clear e
   go_enter Tryz.func102,Tryz.ntmps102
   go_wp2
   go_ret
   exact⟨rfl,HB.out⟩
 ·have e:inZ 0 ((n:Int)-1) k=false:=at4.2 (by omega)
  rw[e]
  clear e
  go_enter Tryz.func102,Tryz.ntmps102
  go_wp2
  go_ret
  exact⟨rfl,HB.out⟩
theorem kid_any (kd nu:Int) (nm mo it:ByteArray) (kv:Value) (ks:List Int) (i:Nat) (w:World) (hK:aa6 w kv ks) :
  Calls Tryz.prog 123 #[.agg #[.int .i64 kd,.int .i64 nu,.string nm,.string mo,.string it,kv],.int .i64 (i:Int)] w fun e w'=>e=.returned (.int .i64 (ks.getD i (-1)))∧Below w.heap.size w w':=by
 have hb:Below w.heap.size w (w.alloc (.cells #[.int .i64 kd,.int .i64 nu,.string nm,.string mo,.string it,kv] 74)):=bal _ _
 have hK1:=hK.stays hb
 have HB:=qb hb
 clear hK hb
 obtain⟨ao,c,rfl,hc⟩:=hK1
 by_cases h:i<ks.length
 ·obtain⟨a,rfl,ha,hx⟩:=hc i h
  have e:ks.getD i (-1)=ks[i]:=by simp[List.getD_eq_getElem?_getD,List.getElem?_eq_getElem h]
  rw[e]
  obtain⟨x,ex⟩:∃ x,ks[i]=x:=⟨_,rfl⟩
  rw[ex]at hx ⊢
  clear hc e ex
  obtain⟨n,hn⟩:∃ n,ks.length=n:=⟨_,rfl⟩
  rw[hn]at HB hx h ⊢
  have h1:¬ (n:Int)≤(i:Int):=by omega
  have h2:(i:Int)<(n:Int):=by omega
  have h0:(0:Int)≤(i:Int):=by omega
  clear hn
  go_enter Tryz.func123,Tryz.ntmps123
  go_wp2
  go_ret
  exact⟨rfl,HB.out⟩
 ·have e:ks.getD i (-1) = -1:=by simp[List.getD_eq_getElem?_getD,List.getElem?_eq_none (Nat.le_of_not_lt h)]
  rw[e]
  clear hc e
  obtain⟨n,hn⟩:∃ n,ks.length=n:=⟨_,rfl⟩
  rw[hn]at HB h ⊢
  have h1:(n:Int)≤(i:Int):=by omega
  clear hn
  go_enter Tryz.func123,Tryz.ntmps123
  go_wp2
  go_ret
  exact⟨rfl,HB.out⟩
theorem kid_at (kd nu:Int) (nm mo it:ByteArray) (kv:Value) (ks:List Int) (i:Int) (w:World) (hi:0≤i) (hK:aa6 w kv ks) :
  Calls Tryz.prog 123 #[.agg #[.int .i64 kd,.int .i64 nu,.string nm,.string mo,.string it,kv],.int .i64 i] w fun e w'=>e=.returned (.int .i64 (ks.getD i.toNat (-1)))∧Below w.heap.size w w':=by
 obtain⟨j,rfl⟩:∃ j:Nat,i=(j:Int):=⟨i.toNat,by omega⟩
 exact kid_any kd nu nm mo it kv ks j w hK
end Go.Proofs.YtcpapceeekkacaaGreatDoor
