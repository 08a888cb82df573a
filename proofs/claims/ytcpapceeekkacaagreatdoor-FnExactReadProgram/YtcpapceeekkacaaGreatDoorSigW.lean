import Derived.Test.YtcpapceeekkacaaGreatDoorIdxW
import Derived.Lib.QuoteLoop
import Derived.Test.YtcpapceeekkacaaGreatDoorMarkM
import Derived.Test.YtcpapceeekkacaaGreatDoorOneY
set_option maxRecDepth 100000
set_option maxHeartbeats 8000000
namespace Go.Proofs.YtcpapceeekkacaaGreatDoor
open Go.RowKit
def aI0 (t:ByteArray) (w:World) (e:Ending) (w':World):Prop :=
 ∃ n:Nat,e=.returned (.tuple #[.int .i64 (ag3 t.data.toList),.int .i64 (n:Int)])∧1≤n∧n≤t.size∧(ag3 t.data.toList≠-1→n=ab0 t.data.toList)∧Below w.heap.size w w'
theorem as4 (t:ByteArray) (h:0<t.size):t.data.toList=t[0] :: t.data.toList.drop 1:=by
 have hl:t.data.toList.length=t.size:=by rw[Array.length_toList];rfl
 have:=List.drop_eq_getElem_cons (l:=t.data.toList) (i:=0) (by omega)
 rw[List.drop_zero]at this
 exact this
theorem hasSet (b:UInt8) (r:List UInt8):Lib.hasPrefix (b :: r) [58,61]=decide (b.toNat=58∧r.head?.map UInt8.toNat=some 61):=by
 have e:∀ (x:UInt8) (n:Nat) (hn:n<256),(x=n.toUInt8)↔x.toNat=n:=fun x n hn=>by
  constructor
  ·rintro rfl;simp;omega
  ·intro h;apply UInt8.toNat.inj;rw[h];simp;omega
 cases r with
 | nil=>simp[Lib.hasPrefix,List.isPrefixOf]
 | cons c r =>
  have h1:=e b 58 (by omega)
  have h2:=e c 61 (by omega)
  simp only[Lib.hasPrefix,List.isPrefixOf,List.head?_cons,Option.map_some,Option.some.injEq]
  rw[Bool.eq_iff_iff]
  simp
  rw[eq_comm,eq_comm (a:=(61:UInt8))]
  exact and_congr h1 h2
theorem markHas (c:Nat) (h:c<128):decide (0≤Lib.indexByte aj6.data.toList ((c:Int).toNat.toUInt8))=at9 c:=by
 have:∀ c:Fin 128,decide (0≤Lib.indexByte aj6.data.toList (((c.val:Nat):Int).toNat.toUInt8))=at9 c.val:=by decide +kernel
 exact this ⟨c,h⟩
theorem aZ4 {t:ByteArray}{w w':World}{n:Nat}(k:ag3 t.data.toList = -1) (h1:1≤n) (h2:n≤t.size) (hb:Below w.heap.size w w'):aI0 t w (.returned (.tuple #[.int .i64 (-1),.int .i64 (n:Int)])) w' :=
 ⟨n,by rw[k],h1,h2,fun h=>absurd k h,hb⟩
theorem av0 {t:ByteArray}{w w':World}{n:Nat}{k:Int}(hk:ag3 t.data.toList=k) (hn:ab0 t.data.toList=n) (h0:0<t.size) (hb:Below w.heap.size w w'):aI0 t w (.returned (.tuple #[.int .i64 k,.int .i64 (n:Int)])) w':=by
 refine⟨n,by rw[hk],?_,?_,fun _=>hn.symm,hb⟩
 ·rw[←hn];exact ao6 _
 ·rw[←hn]
  have:=av7 t.data.toList (by rw[as4 t h0];simp)
  rwa [show t.data.toList.length=t.size from by rw[Array.length_toList];rfl]at this
def kindC (c:Nat) (pr:Bool):Int:=if af4 c then 0 else if c=35 then 0 else if ab3 c then 1 else if ad0 c then 2 else if pr then 3 else if at9 c then 3 else -1
def sizeC (c:Nat) (pr:Bool) (l:List UInt8):Nat:=if af4 c then ai0 af4 l else if c=35 then ai0 ao_ l else if ab3 c then ai0 ab3 l else if ad0 c then ai0 ad0 l else if pr then 2 else 1
def setQ (t:ByteArray) (c:Nat):Bool:=decide (c=58∧((t.data.toList.drop 1).head?.map UInt8.toNat)=some 61)
theorem bj5 (t:ByteArray) (h0:0<t.size):ag3 t.data.toList=kindC t[0].toNat (setQ t t[0].toNat):=by
 conv=>lhs;rw[as4 t h0,ag3]
 simp only[kindC,setQ,decide_eq_true_eq]
theorem sizeB_C (t:ByteArray) (h0:0<t.size):ab0 t.data.toList=sizeC t[0].toNat (setQ t t[0].toNat) t.data.toList:=by
 conv=>lhs;rw[as4 t h0,ab0,←as4 t h0]
 simp only[sizeC,setQ,decide_eq_true_eq]
theorem aJ9 (t:ByteArray) (w:World) (h0:0<t.size) (ht:t.size≤1048576) (hT:Lib.Utf8Tabs 0 1 w) (hlow:t[0].toNat<128) :
  Calls Tryz.prog 38 #[.string t] w (aI0 t w):=by
 have hd:Lib.decodeGo t=(t[0].toNat,1):=by
  rw[Lib.decodeGo,if_neg (by omega),decode_ascii t 0 h0 hlow]
 have hcons:=as4 t h0
 have CD:=fun w h=>qb (Tryz.utf8_DecodeRuneInString t w h)
 simp only[hd]at CD
 have CP:=fun w=>qb (Tryz.strings_HasPrefix t ⟨#[58,61]⟩ w)
 have hpre:Lib.hasPrefix t.data.toList (⟨#[58,61]⟩:ByteArray).data.toList=setQ t t[0].toNat:=by
  conv=>lhs;rw[hcons]
  exact hasSet _ _
 rw[hpre]at CP
 have CM:=fun w=>qb (Tryz.strings_ContainsRune_ascii aj6 ((t[0].toNat:Nat):Int) w (by omega) (by omega))
 simp only[markHas _ hlow]at CM
 have CSb:=fun w=>qb (aS1 t w ht)
 have CSo:=fun w=>qb (aY0 t w ht)
 have CSl:=fun w=>qb (az1 t w ht)
 have CSf:=fun w=>qb (aM4 t w ht)
 have hk:=bj5 t h0
 have hs:=sizeB_C t h0
 obtain⟨c,hc⟩:∃ c:Nat,c=t[0].toNat:=⟨_,rfl⟩
 rw[←hc]at hk hs hlow
 simp only[←hc]at CD CP CM
 obtain⟨pr,hpr⟩:∃ pr,pr=setQ t c:=⟨_,rfl⟩
 rw[←hpr]at hk hs CP
 have CB:=fun w=>qb (ax_ c w (by omega))
 have CL:=fun w=>qb (au3 c w (by omega))
 have CF:=fun w=>qb (au2 c w (by omega))
 clear hcons hd hpre hpr hc
 unfold kindC at hk
 unfold sizeC at hs
 have HT:=qb hT
 clear hT
 cases hb:af4 c with
 | true =>
  rw[hb]at CB hk hs
  have HF:=fun w w'=>qb (av0 (t:=t) (w:=w) (w':=w') hk hs h0)
  generalize ai0 af4 t.data.toList=n at *
  clear hb hk hs hlow
  go_enter Tryz.func38,Tryz.ntmps38
  go_wp2_with (first|(go_at_call 65;refine(qa (CD _ HT.out)).mono ?_;rintro e w1⟨rfl,hb1⟩)|(go_at_call 66;refine(qa (CB _)).mono ?_;rintro e w2⟨rfl,rfl⟩)|(go_at_call 67;refine(qa (CSb _)).mono ?_;rintro e w3⟨rfl,hb3⟩))
  go_ret2
  exact(HF _ _).out (hb1.trans (hb3.mono hb1.size))
 | false =>
  rw[hb]at CB hk hs
  by_cases h35:c=35
  ·subst h35
   have HF:=fun w w'=>qb (av0 (t:=t) (w:=w) (w':=w') hk hs h0)
   generalize ai0 ao_ t.data.toList=n at *
   clear hb hk hs hlow
   go_enter Tryz.func38,Tryz.ntmps38
   go_wp2_with (first|(go_at_call 65;refine(qa (CD _ HT.out)).mono ?_;rintro e w1⟨rfl,hb1⟩)|(go_at_call 66;refine(qa (CB _)).mono ?_;rintro e w2⟨rfl,rfl⟩)|(go_at_call 67;refine(qa (CSo _)).mono ?_;rintro e w3⟨rfl,hb3⟩))
   go_ret2
   exact(HF _ _).out (hb1.trans (hb3.mono hb1.size))
  ·have h35':((c:Int) == 35)=false:=by simp;omega
   rw[if_neg (by simp),if_neg h35]at hk hs
   cases hl:ab3 c with
   | true =>
    rw[hl]at CL hk hs
    have HF:=fun w w'=>qb (av0 (t:=t) (w:=w) (w':=w') hk hs h0)
    generalize ai0 ab3 t.data.toList=n at *
    clear hb hl h35 hk hs hlow
    go_enter Tryz.func38,Tryz.ntmps38
    go_wp2_with (first|(go_at_call 65;refine(qa (CD _ HT.out)).mono ?_;rintro e w1⟨rfl,hb1⟩)|(go_at_call 66;refine(qa (CB _)).mono ?_;rintro e w2⟨rfl,rfl⟩)|(go_at_call 69;refine(qa (CL _)).mono ?_;rintro e w2⟨rfl,rfl⟩)|(go_at_call 67;refine(qa (CSl _)).mono ?_;rintro e w3⟨rfl,hb3⟩))
    go_ret2
    exact(HF _ _).out (hb1.trans (hb3.mono hb1.size))
   | false =>
    rw[hl]at CL hk hs
    cases hf:ad0 c with
    | true =>
     rw[hf]at CF hk hs
     have HF:=fun w w'=>qb (av0 (t:=t) (w:=w) (w':=w') hk hs h0)
     generalize ai0 ad0 t.data.toList=n at *
     clear hb hl hf h35 hk hs hlow
     go_enter Tryz.func38,Tryz.ntmps38
     go_wp2_with (first|(go_at_call 65;refine(qa (CD _ HT.out)).mono ?_;rintro e w1⟨rfl,hb1⟩)|(go_at_call 66;refine(qa (CB _)).mono ?_;rintro e w2⟨rfl,rfl⟩)|(go_at_call 69;refine(qa (CL _)).mono ?_;rintro e w2⟨rfl,rfl⟩)|(go_at_call 70;refine(qa (CF _)).mono ?_;rintro e w2⟨rfl,rfl⟩)|(go_at_call 67;refine(qa (CSf _)).mono ?_;rintro e w3⟨rfl,hb3⟩))
     go_ret2
     exact(HF _ _).out (hb1.trans (hb3.mono hb1.size))
    | false =>
     rw[hf]at CF hk hs
     cases pr with
     | true =>
      have HF:=fun w w'=>qb (av0 (t:=t) (w:=w) (w':=w') hk hs h0)
      clear hb hl hf h35 hk hs hlow
      go_enter Tryz.func38,Tryz.ntmps38
      go_wp2_with (first|(go_at_call 65;refine(qa (CD _ HT.out)).mono ?_;rintro e w1⟨rfl,hb1⟩)|(go_at_call 66;refine(qa (CB _)).mono ?_;rintro e w2⟨rfl,rfl⟩)|(go_at_call 69;refine(qa (CL _)).mono ?_;rintro e w2⟨rfl,rfl⟩)|(go_at_call 70;refine(qa (CF _)).mono ?_;rintro e w2⟨rfl,rfl⟩)|(go_at_call 71;refine(qa (CP _)).mono ?_;rintro e w2⟨rfl,rfl⟩))
      go_ret2
      exact(HF _ _).out hb1
     | false =>
      cases hm:at9 c with
      | true =>
       rw[hm]at CM hk
       have HF:=fun w w'=>qb (av0 (t:=t) (w:=w) (w':=w') hk hs h0)
       clear hb hl hf h35 hm hk hs hlow
       go_enter Tryz.func38,Tryz.ntmps38
       go_wp2_with (first|(go_at_call 65;refine(qa (CD _ HT.out)).mono ?_;rintro e w1⟨rfl,hb1⟩)|(go_at_call 66;refine(qa (CB _)).mono ?_;rintro e w2⟨rfl,rfl⟩)|(go_at_call 69;refine(qa (CL _)).mono ?_;rintro e w2⟨rfl,rfl⟩)|(go_at_call 70;refine(qa (CF _)).mono ?_;rintro e w2⟨rfl,rfl⟩)|(go_at_call 71;refine(qa (CP _)).mono ?_;rintro e w2⟨rfl,rfl⟩)|(go_at_call 72;refine(qa (CM _)).mono ?_;rintro e w2⟨rfl,rfl⟩))
       go_ret2
       exact(HF _ _).out hb1
      | false =>
       rw[hm]at CM hk
       have HF:=fun w w'=>qb (aZ4 (t:=t) (w:=w) (w':=w') (n:=1) hk (nlr _) h0)
       clear hb hl hf h35 hm hk hs hlow
       go_enter Tryz.func38,Tryz.ntmps38
       go_wp2_with (first|(go_at_call 65;refine(qa (CD _ HT.out)).mono ?_;rintro e w1⟨rfl,hb1⟩)|(go_at_call 66;refine(qa (CB _)).mono ?_;rintro e w2⟨rfl,rfl⟩)|(go_at_call 69;refine(qa (CL _)).mono ?_;rintro e w2⟨rfl,rfl⟩)|(go_at_call 70;refine(qa (CF _)).mono ?_;rintro e w2⟨rfl,rfl⟩)|(go_at_call 71;refine(qa (CP _)).mono ?_;rintro e w2⟨rfl,rfl⟩)|(go_at_call 72;refine(qa (CM _)).mono ?_;rintro e w2⟨rfl,rfl⟩))
       go_ret2
       exact(HF _ _).out hb1
theorem aG7 (t:ByteArray) (w:World) (h0:0<t.size) (hT:Lib.Utf8Tabs 0 1 w) (hhi:128≤t[0].toNat) :
  Calls Tryz.prog 38 #[.string t] w (aI0 t w):=by
 obtain⟨d1,d2⟩:=decode_high t 0 h0 hhi
 have hsp:=(aq2 t 0 h0).1
 have hv:=Lib.rune_valid t
 have hd:Lib.decodeGo t=Utf8.decode t 0:=by rw[Lib.decodeGo,if_neg (by omega)]
 have hcons:=as4 t h0
 have CD:=fun w h=>qb (Tryz.utf8_DecodeRuneInString t w h)
 simp only[hd]at CD
 have hpre:Lib.hasPrefix t.data.toList (⟨#[58,61]⟩:ByteArray).data.toList=false:=by
  rw[hcons]
  refine(hasSet _ _).trans ?_
  simp;omega
 have CP:=fun w=>qb (Tryz.strings_HasPrefix t ⟨#[58,61]⟩ w)
 rw[hpre]at CP
 have h11:(Utf8.decode t 0).1≤1114111:=by
  have:=hv
  simp only[Lib.validRune,decide_eq_true_eq]at this
  omega
 obtain⟨c,hc⟩:∃ c:Nat,c=(Utf8.decode t 0).1:=⟨_,rfl⟩
 obtain⟨n,hn⟩:∃ n:Nat,n=(Utf8.decode t 0).2:=⟨_,rfl⟩
 simp only[←hc,←hn]at CD
 rw[←hc]at d1 hv h11
 rw[←hn]at d2 hsp
 have hk:ag3 t.data.toList = -1:=by
  have hb0:=t[0].toNat_lt
  have hm:at9 t[0].toNat=false:=by simp[at9];omega
  rw[bj5 t h0,kindC,hm]
  simp[af4,ab3,ad0,setQ]
  omega
 have HF:=fun w w'=>qb (aZ4 (t:=t) (w:=w) (w':=w') (n:=n) hk d2 (by omega))
 have CB:=fun w=>qb (ax_ c w (by omega))
 have CL:=fun w=>qb (au3 c w (by omega))
 have CF:=fun w=>qb (au2 c w (by omega))
 have CM:=fun w=>qb (az6 c w d1 h11 hv)
 rw[show af4 c=false from by simp[af4];omega]at CB
 rw[show ab3 c=false from by simp[ab3];omega]at CL
 rw[show ad0 c=false from by simp[ad0];omega]at CF
 have h35':((c:Int) == 35)=false:=by simp;omega
 have HT:=qb hT
 clear hcons hd hpre hc hn hv h11 d1 d2 hsp hT hhi hk
 go_enter Tryz.func38,Tryz.ntmps38
 go_wp2_with (first|(go_at_call 65;refine(qa (CD _ HT.out)).mono ?_;rintro e w1⟨rfl,hb1⟩)|(go_at_call 66;refine(qa (CB _)).mono ?_;rintro e w2⟨rfl,rfl⟩)|(go_at_call 69;refine(qa (CL _)).mono ?_;rintro e w2⟨rfl,rfl⟩)|(go_at_call 70;refine(qa (CF _)).mono ?_;rintro e w2⟨rfl,rfl⟩)|(go_at_call 71;refine(qa (CP _)).mono ?_;rintro e w2⟨rfl,rfl⟩)|(go_at_call 72;refine(qa (CM _)).mono ?_;rintro e w2⟨rfl,hb2⟩))
 go_ret2
 exact(HF _ _).out (hb1.trans (hb2.mono hb1.size))
theorem aJ8 (t:ByteArray) (w:World) (h0:0<t.size) (ht:t.size≤1048576) (hT:Lib.Utf8Tabs 0 1 w) :
  Calls Tryz.prog 38 #[.string t] w (aI0 t w):=by
 by_cases h:t[0].toNat<128
 ·exact aJ9 t w h0 ht hT h
 ·exact aG7 t w h0 hT (by omega)
theorem fits_any (x:Sg) (w:World):Calls Tryz.prog 40 #[x.val] w fun e w'=>e=.returned (.bool (al8 x.kind x.text.size))∧Below w.heap.size w w':=by
 by_cases h1:x.kind=1
 ·have e1:al8 x.kind x.text.size=decide ((x.text.size:Int)≤8):=by rw[al8,if_pos h1];simp only[decide_eq_decide];omega
  rw[e1]
  go_enter Tryz.func40,Tryz.ntmps40
  go_wp2
  go_ret
  exact⟨rfl,bal _ _⟩
 ·have h1':(x.kind == 1)=false:=by simpa using h1
  by_cases h2:x.kind=2
  ·have e1:al8 x.kind x.text.size=decide ((x.text.size:Int)≤6):=by rw[al8,if_neg h1,if_pos h2];simp only[decide_eq_decide];omega
   rw[e1]
   go_enter Tryz.func40,Tryz.ntmps40
   go_wp2
   go_ret
   exact⟨rfl,bal _ _⟩
  ·have h2':(x.kind == 2)=false:=by simpa using h2
   have e1:al8 x.kind x.text.size=decide (x.kind=3):=by rw[al8,if_neg h1,if_neg h2]
   rw[e1]
   go_enter Tryz.func40,Tryz.ntmps40
   go_wp2
   go_ret
   exact⟨by first|rfl|simp,bal _ _⟩
theorem bm3 (x:Sg) (w:World) (hd:x.kind=2→x.text.size≤6∧∀ j,(h:j<x.text.size)→48≤x.text[j].toNat∧x.text[j].toNat≤57) :
  Calls Tryz.prog 41 #[x.val] w fun e w'=>e=.returned (.int .i64 (aB6 x.kind x.text.data.toList))∧Below w.heap.size w w':=by
 by_cases h2:x.kind=2
 ·obtain⟨h6,hdig⟩:=hd h2
  rw[aB6,if_pos h2]
  obtain⟨t,ht⟩:∃ t,t=x.text:=⟨_,rfl⟩
  rw[←ht]at h6 hdig ⊢
  have hx:x.val=.agg #[.int .i64 x.kind,.string t,.int .i64 x.num,.int .i64 x.place]:=by rw[ht]
  rw[hx]
  have HD:=qb hdig
  clear hd hdig ht hx
  go_enter Tryz.func41,Tryz.ntmps41
  go_wp2
  obtain⟨wb,hwb⟩:∃ wb,w.alloc (.cells #[.int .i64 2,.string t,.int .i64 x.num,.int .i64 x.place] 48)=wb:=⟨_,rfl⟩
  have hsz:w.heap.size+1=wb.heap.size:=by rw[←hwb];simp
  have HB:Hid (Below w.heap.size w wb):=by rw[←hwb];exact bal _ _
  simp only[hwb,hsz]
  clear hwb
  go_loopw [3] (fun nv wr=>∃ pos:Nat,wr=wb.iter t pos∧pos≤t.size∧nv=.int .i64 (figN (t.data.toList.take pos))) (fun _ wr=>t.size-wr.iterPos wb.heap.size)
  case atStart=>exact⟨0,rfl,Nat.zero_le _,by simp[figN]⟩
  case round =>
   obtain⟨pos,rfl,hps,rfl⟩:=hrel
   by_cases hp:pos<t.size
   ·obtain⟨hd1,hd2⟩:=HD.out pos hp
    have hst:=qb (aD7 t pos hp)
    have hlt:=aU_ t HD.out pos hps
    have hpw:10 ^ pos≤10 ^ 6:=Nat.pow_le_pow_right (by omega) (by omega)
    obtain⟨c,hc⟩:∃ c:Nat,c=t[pos].toNat:=⟨_,rfl⟩
    obtain⟨n,hn⟩:∃ n:Nat,n=figN (t.data.toList.take pos):=⟨_,rfl⟩
    have hnx:∀ ty,(Instr.next (.pointer (some ⟨wb.heap.size,0,none⟩)) true ty).run Tryz.prog (wb.iter t pos)=.ok (.tuple #[.bool true,.int .i64 pos,.int .i32 c]) (wb.iter t (pos+1)):=fun ty=>by
     rw[hc];exact run_next_ascii wb t pos ty hp (by omega)
    rw[←hn]at hst hlt ⊢
    rw[←hc]at hst hd1 hd2
    have hn6:n≤1000000:=by omega
    have e1:wrap64 ((n:Int)*10)=(n:Int)*10:=IntWalk.wrap64_in _ (by omega)
    have e2:wrap32 ((c:Int)-48)=(c:Int)-48:=IntWalk.wrap32_in _ (by omega)
    have e3:wrap64 ((n:Int)*10+((c:Int)-48))=(n:Int)*10+((c:Int)-48):=IntWalk.wrap64_in _ (by omega)
    have e4:wrap64 ((c:Int)-48)=(c:Int)-48:=IntWalk.wrap64_in _ (by omega)
    have HV:Hid ((n:Int)*10+((c:Int)-48)=((n*10+(c-48):Nat):Int)):=by show _=_;omega
    clear hc hn hlt hpw
    go_wp2
    go_roundw
    case rel=>exact⟨pos+1,rfl,by omega,by rw[hst.out,←HV.out]⟩
    case measure=>simp;omega
   ·have hnx:∀ ty,(Instr.next (.pointer (some ⟨wb.heap.size,0,none⟩)) true ty).run Tryz.prog (wb.iter t pos)=_:=fun ty=>run_next_end wb t pos ty hp
    have HE:Hid (t.data.toList.take pos=t.data.toList):=List.take_of_length_le (by rw[Array.length_toList];show t.size≤pos;omega)
    go_wp2
    go_ret
    exact⟨congrArg (fun l=>Ending.returned (.int .i64 (figN l:Int))) HE.out,HB.out.alloc HB.out.size _⟩
 ·have h2':(x.kind == 2)=false:=by simpa using h2
  rw[aB6,if_neg h2]
  go_enter Tryz.func41,Tryz.ntmps41
  go_wp2
  go_ret
  exact⟨rfl,bal _ _⟩
theorem au5 (w:World) (base:Nat) (e:TypeId) (size:Nat) (hb:base≤w.heap.size):(w.alloc (.cells #[] e)).ownsRow base e size (.slice (some ⟨w.heap.size,0,none⟩) 0 0) 0 []:=by
 have:=World.ownsRow_made (base:=base) (e:=e) (size:=size) w #[] 0 hb (by simp[maxLen]) (by simp)
 simpa using this
def ak8 (s:ByteArray) (w:World) (e:Ending) (w':World):Prop :=
 ∃ v,e=.returned (.tuple #[v,.int .i64 ((ad2 s).2:Int)])∧w'.ownsRow w.heap.size 48 4 v (ad2 s).1.length (ac7 (ad2 s).1)∧Below w.heap.size w w'
theorem ak8.non {s:ByteArray}{w wr:World}{n:Nat}{x:Int}(h:ad2 s=([],n)) (hx:x=(n:Int)) (hb:Below w.heap.size w wr) :
  ak8 s w (.returned (.tuple #[.slice (some ⟨wr.heap.size,0,none⟩) 0 0,.int .i64 x])) (wr.alloc (.cells #[] 48)):=by
 refine⟨.slice (some ⟨wr.heap.size,0,none⟩) 0 0,by rw[h,hx],?_,hb.alloc hb.size _⟩
 rw[h]
 exact au5 wr _ _ _ hb.size
theorem av_ {g4 g5 B:Nat}{w w':World}(h:Lib.Utf8Tabs g4 g5 w) (hb:Below B w w') (hB:w.heap.size≤B):Lib.Utf8Tabs g4 g5 w':=by
 have hc:∀ {p:Addr}{v:Value},w.cell? p=some v→w'.cell? p=some v:=fun {p v} hp=>(hb.cell (nll (World.block_lt_of_cell? _ _ hp) hB)).trans hp
 exact⟨fun c hcc=>hc (h.1 c hcc),fun i hi=>⟨hc (h.2 i hi).1,hc (h.2 i hi).2⟩⟩
theorem bb7 (s:ByteArray) (w:World) (h:s.size≤1048576):Calls Tryz.prog 39 #[.string s] w fun e w'=>e=.returned (.string s)∧Below w.heap.size w w':=by
 go_enter Tryz.func39,Tryz.ntmps39
 go_wp2_with (go_at_call 73;refine(Tryz.stringslite_Clone _ _ (by omega)).mono ?_;rintro e w1⟨rfl,hb⟩)
 go_ret
 exact⟨rfl,by assumption⟩
theorem aY8 {P:Program}{w:World}{ops:Array Oper}{rest:List Oper}{o:Oper}{a:Act}{Q:Exit→Act→World→Prop}(hgd:o.guard=none) (s x:Operand) (t:TypeId)
  (ho:o.op=.call { callee:=.builtin .append,args:=#[s,x],argTypes:=#[t,t] })
  (base:Nat) (e:TypeId) (z:Value) (bytes:Nat) (ht:P.underlying t=some (.slice e)) (hi:(P.info? e).map (fun i=>(i.zero,i.size,i.bytes))=some (some z,4,bytes)) (hzs:z.cells.size=4)
  (v:Value) (n:Nat) (xs:List Value) (y:Sg) (hs:a.eval s=v) (hown:w.ownsRow base e 4 v n xs)
  (hx:a.eval x=.slice (some ⟨w.heap.size,0,none⟩) 1 1)
  (h63:n+1≤maxLen) (hbytes:(n+1)*bytes≤140737488355328) (hbase:base≤w.heap.size)
  (h:∀ v' w',w'.ownsRow base e 4 v' (n+1) (xs++y.cells)→Below base w w'→(∀ k,v'.ownBlock=some k→base≤k)→wpList P ops Q rest (a.put o.dst v') w') :
  wpList P ops Q (o :: rest) a (w.alloc (.cells #[.int .i64 y.kind,.string y.text,.int .i64 y.num,.int .i64 y.place] e)):=by
 obtain⟨i,hi,hz0,hz1,hz2⟩:=info_parts hi
 refine wpList_append_own _ hgd s x t ho base e i z 4 bytes ht hi hz0 hz1 hz2 hzs (by decide) v n xs hs (hown.alloc _) ⟨w.heap.size,0,none⟩ 1 1 y.cells hx rfl ?_ ?_ h63 hbytes ?_ ?_
 ·intro j q hj
  have hc:=ah3.new w y e
  match j,hj with
  | 0,hj=>simp[Sg.cells]at hj;subst hj;simp[Addr.add]
  | 1,hj=>simp[Sg.cells]at hj;subst hj;exact hc.2.1
  | 2,hj=>simp[Sg.cells]at hj;subst hj;exact hc.2.2.1
  | 3,hj=>simp[Sg.cells]at hj;subst hj;exact hc.2.2.2
  | j+4,hj=>simp[Sg.cells]at hj
 ·intro q hq
  simp[Sg.cells]at hq
  rcases hq with rfl|rfl|rfl|rfl <;> rfl
 ·simp;omega
 ·intro v' w' hown' hgrow _
  refine h v' w' hown' ?_ (fun k hk=>(hown'.lt k hk).1)
  exact((Below.refl base w).alloc hbase _).grown hgrow (by simp;omega) (fun j hj=>(hown.lt j hj).1)
theorem infoSi4:(Tryz.prog.info? 48).map (fun i=>(i.zero,i.size,i.bytes))=some (some (.agg #[.int .i64 0,.string ByteArray.empty,.int .i64 0,.int .i64 0]),4,40):=by kernel_rfl
theorem aL9 {w:World}{base:Nat}{e:TypeId}{size:Nat}{v:Value}{n:Nat}{xs:List Value}(h:w.ownsRow base e size v n xs):∃ ao cap,v=.slice ao n cap:=by
 rcases h.2 with⟨rfl,h0⟩|⟨g,cap,cur,rfl,_⟩
 ·exact⟨none,0,by rw[h0]⟩
 ·exact⟨_,_,rfl⟩
def SigRel (s:ByteArray) (w:World) (v iv:Value) (wr:World):Prop :=
 ∃ (pos:Nat) (acc:List Sg),pos≤s.size∧iv=.int .i64 pos∧acc.length≤500∧Hid (scan s pos acc=scan s 0 [])∧Hid (wr.ownsRow w.heap.size 48 4 v acc.length (ac7 acc))∧Below w.heap.size w wr
theorem aH3 (s:ByteArray) (w:World) (hs:s.size≤1500) (hT:Lib.Utf8Tabs 0 1 w):Calls Tryz.prog 15 #[.string s] w (ak8 s w):=by
 have hd:decide ((1500:Int)<(s.size:Int))=false:=by simp;omega
 have HSR:Hid (ad2 s=scan s 0 []):=by show _=_;rw[ad2,if_neg (by omega)]
 have HT:=qb hT
 clear hT
 go_enter Tryz.func15,Tryz.ntmps15
 go_wp2
 go_loopw [4,5] (fun v iv wr=>SigRel s w v iv wr) (fun _ iv _=>s.size-(intOf iv).toNat)
 case atStart=>exact⟨0,[],Nat.zero_le _,rfl,by simp,rfl,au5 w _ _ _ (nlr _),bal _ _⟩
 case round =>
  obtain⟨pos,acc,hps,rfl,hal,HSC,HO,hb⟩:=hrel
  obtain⟨ao,cap,hv⟩:=aL9 HO.out
  subst hv
  by_cases hp:pos<s.size
  ·have hi0:(0:Int)≤(pos:Int):=by omega
   have hi1:(pos:Int)≤(s.size:Int):=by omega
   obtain⟨t,ht⟩:∃ t,t=s.extract pos s.size:=⟨_,rfl⟩
   have hts:t.size=s.size-pos:=by rw[ht,ByteArray.size_extract];omega
   have htl:t.data.toList=rest s pos:=by rw[ht];exact aR6 s pos
   have hsl:∀ wx:World,(Instr.slice 9 (.string s) (some (.int .i64 (pos:Int))) none none).run Tryz.prog wx=.ok (.string t) wx:=fun wx=>by
    rw[run_slice_string_from_if wx 9 s .i64 (pos:Int) Tryz.underlying9,if_pos ⟨hi0,hi1⟩,ht]
    rfl
   have CB:=fun w h=>qb (aJ8 t w (by omega) (by omega) h)
   unfold aI0 at CB
   simp only[htl]at CB
   have HB:=qb hb
   have HT2:=qb (av_ HT.out hb (nlr _))
   clear ht hb
   go_wp2_with fail
   refine(qa (CB _ HT2.out)).mono ?_
   rintro e w1⟨n,rfl,hn1,hn2,hn3,hb1⟩
   have hs1:=hb1.size
   have HN:=qb hn3
   have HB1:=qb hb1
   clear hn3 hb1
   by_cases hk0:ag3 (rest s pos)=0
   ·have hn:n=ab0 (rest s pos):=HN.out (by rw[hk0];decide)
    have HS2:Hid (scan s (pos+n) acc=scan s 0 []):=by show _=_;rw[hn,←az0 hp hk0];exact HSC.out
    have HO2:=qb (an1 HO.out HB1.out)
    have HB2:Hid (Below w.heap.size w w1):=HB.out.trans (HB1.out.mono HB.out.size)
    simp only[hk0]
    clear hn HN
    go_wp2
    go_roundw
    case rel=>exact⟨pos+n,acc,by omega,by go_num,hal,HS2,HO2,HB2.out⟩
    case measure=>simp[intOf];omega
   ·have hk0':(ag3 (rest s pos) == 0)=false:=by simpa using hk0
    have hpn:pos+n≤s.size:=by omega
    obtain⟨u,hu⟩:∃ u,u=s.extract pos (pos+n):=⟨_,rfl⟩
    have hus:u.size=n:=by rw[hu];exact bk4 s pos n hpn
    have hul:u.data.toList=(rest s pos).take n:=by rw[hu];exact au6 s pos n
    have hsl2:∀ wx:World,(Instr.slice 9 (.string s) (some (.int .i64 (pos:Int))) (some (.int .i64 ((pos:Int)+(n:Int)))) none).run Tryz.prog wx=.ok (.string u) wx:=fun wx=>by
     rw[run_slice_string (P:=Tryz.prog) (w:=wx) 9 s .i64 .i64 pos ((pos:Int)+(n:Int)) Tryz.underlying9 (by omega) (by omega) (by omega),hu]
     congr 3
    obtain⟨k,hk⟩:∃ k,k=ag3 (rest s pos):=⟨_,rfl⟩
    rw[←hk]at hk0' ⊢
    have HU:=qb hu
    have HK:=qb hk
    clear hu hk
    go_wp2_with fail
    refine(bb7 u _ (by omega)).mono ?_
    rintro e w2⟨rfl,hb2⟩
    have hs2:=hb2.size
    have HO2:=qb (an1 (an1 HO.out HB1.out) hb2)
    have HB2:Hid (Below w.heap.size w w2):=(HB.out.trans (HB1.out.mono HB.out.size)).trans (hb2.mono (by have:=HB.out.size;omega))
    clear hb2
    go_wp2_with fail
    have hcs:=ah3.new w2 ⟨k,u,0,pos⟩ 48
    have CF:=fun w=>qb (fits_any ⟨k,u,0,pos⟩ w)
    have hfit:al8 k u.size=al8 (ag3 (rest s pos)) (ab0 (rest s pos)):=by
     rw[hus,HK.out]
     by_cases hm1:ag3 (rest s pos) = -1
     ·rw[hm1];rfl
     ·rw[HN.out hm1]
    obtain⟨fb,hfb⟩:∃ fb,fb=al8 k u.size:=⟨_,rfl⟩
    simp only[←hfb]at CF
    rw[←hfb]at hfit
    refine(qa (CF _)).mono ?_
    rintro e w3⟨rfl,hb3⟩
    have hs3:w2.heap.size<w3.heap.size:=by have:=hb3.size;simp at this;omega
    have hcs3:=hcs.stays hb3 (by simp)
    have hfz:∀ o,w3.frozen? ⟨w2.heap.size,o,none⟩=false:=fun o=>by
     rw[hb3.frozen (p:=⟨w2.heap.size,o,none⟩) (by simp)]
     exact fhp (heap_alloc_new w2 _) o
    have hb23:Below w2.heap.size w2 w3:=(bal _ _).trans (hb3.mono (by simp))
    have HO3:=qb (an1 HO2.out hb23)
    have HB3:Hid (Below w.heap.size w w3):=HB2.out.trans (hb23.mono HB2.out.size)
    have HC3:=qb hcs3
    have HFZ:=qb hfz
    have hbs:=HB2.out.size
    clear hcs hcs3 hfz hb3 hb23
    cases fb with
    | false =>
     have HF:Hid (ad2 s=([],pos+1)):=by
      show _=_
      rw[HSR.out,←HSC.out,aF9 hp hk0 (.inl hfit.symm)]
     clear hfit hfb
     go_wp2
     go_ret2
     exact ak8.non HF.out (by simp) HB3.out
    | true =>
     by_cases h500:acc.length=500
     ·have HF:Hid (ad2 s=([],pos+1)):=by
       show _=_
       rw[HSR.out,←HSC.out,aF9 hp hk0 (.inr (by omega))]
      have h500':((acc.length:Int) == 500)=true:=by simp;omega
      clear hfit hfb
      go_wp2
      go_ret2
      exact ak8.non HF.out (by simp) HB3.out
     ·have h500':((acc.length:Int) == 500)=false:=by simp;omega
      have hkm:ag3 (rest s pos)≠-1:=by
       intro hm1
       rw[hm1]at hfit
       simp[al8]at hfit
      have hn:n=ab0 (rest s pos):=HN.out hkm
      have hdig:k=2→u.size≤6∧∀ j,(h:j<u.size)→48≤u[j].toNat∧u[j].toNat≤57:=by
       intro hk2
       refine⟨?_,aO2 (HK.out.symm.trans hk2) hn hul⟩
       rw[hk2]at hfb
       simpa [al8] using hfb
      have hsg:(⟨k,u,aB6 k u.data.toList,pos⟩:Sg)=sgOf s pos:=by
       rw[sgOf,←hn,←HU.out,←HK.out,hul]
      have HS2:Hid (scan s (pos+n) (acc++[⟨k,u,aB6 k u.data.toList,pos⟩])=scan s 0 []):=by
       show _=_
       rw[hsg,hn,←aR8 hp hk0 hfit.symm (by omega)]
       exact HSC.out
      have c0:w3.cell? { block:=w2.heap.size,off:=0 }=some (.int .i64 k):=HC3.out.facts.1
      have c1:w3.cell? { block:=w2.heap.size,off:=1 }=some (.string u):=HC3.out.facts.2.1
      have c2:w3.cell? { block:=w2.heap.size,off:=2 }=some (.int .i64 0):=HC3.out.facts.2.2.1
      have c3:w3.cell? { block:=w2.heap.size,off:=3 }=some (.int .i64 pos):=HC3.out.facts.2.2.2
      have CW:=fun w=>qb (bm3 ⟨k,u,0,pos⟩ w hdig)
      obtain⟨nn,hnn⟩:∃ nn,nn=aB6 k u.data.toList:=⟨_,rfl⟩
      simp only[←hnn]at CW
      rw[←hnn]at HS2
      clear hfit hfb hdig hsg hkm hn hnn
      go_wp2_with fail
      refine(qa (CW _)).mono ?_
      rintro e w4⟨rfl,hb4⟩
      have hs4:=hb4.size
      have HC4:=qb (HC3.out.stays hb4 hs3)
      have d0:w4.cell? { block:=w2.heap.size,off:=0 }=some (.int .i64 k):=HC4.out.facts.1
      have d1:w4.cell? { block:=w2.heap.size,off:=1 }=some (.string u):=HC4.out.facts.2.1
      have d2:w4.cell? { block:=w2.heap.size,off:=2 }=some (.int .i64 0):=HC4.out.facts.2.2.1
      have d3:w4.cell? { block:=w2.heap.size,off:=3 }=some (.int .i64 pos):=HC4.out.facts.2.2.2
      have f2:w4.frozen? { block:=w2.heap.size,off:=2 }=false:=(hb4.frozen (p:=⟨w2.heap.size,2,none⟩) hs3).trans (HFZ.out 2)
      have hb5:Below w2.heap.size w4 (w4.setCell ⟨w2.heap.size,2,none⟩ (.int .i64 nn)):=(Below.refl _ _).setCell (p:=⟨w2.heap.size,2,none⟩) (nlr _) _
      have HO5:=qb (ap8 (an1 HO3.out hb4) hb5 (fun j hj=>(HO2.out.lt j hj).2))
      have HB5:Hid (Below w.heap.size w (w4.setCell ⟨w2.heap.size,2,none⟩ (.int .i64 nn))):=(HB3.out.trans (hb4.mono (by omega))).trans (hb5.mono hbs)
      have hs5:w.heap.size≤(w4.setCell ⟨w2.heap.size,2,none⟩ (.int .i64 nn)).heap.size:=HB5.out.size
      clear hb4 hb5 c0 c1 c2 c3
      go_wp2_with (at_builtin;refine aY8 rfl _ _ 32 rfl w.heap.size 48 _ 40 Tryz.underlying32 infoSi4 rfl (.slice ao acc.length cap) acc.length (ac7 acc) ⟨k,u,nn,pos⟩ rfl HO5.out ?hx ?h63 ?hby hs5 ?_)
      case hx=>simp[Act.eval]
      case h63=>unfold maxLen;omega
      case hby=>omega
      intro v' w6 hown6 hb6 _
      have HO6:Hid (w6.ownsRow w.heap.size 48 4 v' (acc++[(⟨k,u,nn,pos⟩:Sg)]).length (ac7 (acc++[(⟨k,u,nn,pos⟩:Sg)]))):=by
       rw[aw4,List.length_append]
       have e1:ac7 [⟨k,u,nn,pos⟩]=(⟨k,u,nn,pos⟩:Sg).cells:=by simp[ac7]
       rw[e1]
       exact hown6
      have HB6:Hid (Below w.heap.size w w6):=HB5.out.trans hb6
      clear hown6 hb6
      go_wp2
      go_roundw
      case rel=>exact⟨pos+n,_,by omega,by go_num,by simp;omega,HS2,HO6,HB6.out⟩
      case measure=>simp[intOf];omega
  ·have HF:Hid (scan s 0 []=(acc,0)):=by show _=_;rw[←HSC.out,ba6 hp]
   go_wp2
   go_ret2
   refine⟨_,by rw[HSR.out,HF.out];rfl,?_,hb⟩
   rw[HSR.out,HF.out]
   exact HO.out
theorem aC_ (s:ByteArray) (w:World) (hs:1500<s.size) (_h:s.size≤1048576):Calls Tryz.prog 15 #[.string s] w (ak8 s w):=by
 have HF:Hid (ad2 s=([],1)):=by show _=_;rw[ad2,if_pos hs]
 go_enter Tryz.func15,Tryz.ntmps15
 go_wp2
 go_ret2
 exact ak8.non HF.out (by simp) (Below.refl _ _)
theorem au1 (s:ByteArray) (w:World) (hs:s.size≤1048576) (hT:Lib.Utf8Tabs 0 1 w):Calls Tryz.prog 15 #[.string s] w (ak8 s w):=by
 by_cases h:1500<s.size
 ·exact aC_ s w h hs
 ·exact aH3 s w (by omega) hT
end Go.Proofs.YtcpapceeekkacaaGreatDoor
