import Derived.Test.YtcpapceeekkacaaGreatDoorChecked
import Derived.Test.YtcpapceeekkacaaGreatDoorMarkM
import Derived.Maps.OwnSet
import Derived.BigQuiet
import Derived.WalkSmall
import Derived.Lib.DecodeN
import Derived.Laws.RangeAny
import Derived.Deep.RegionHeld3
set_option maxRecDepth 100000
set_option maxHeartbeats 8000000
namespace Go.Proofs.YtcpapceeekkacaaGreatDoor
open Go.RowKit Go.Maps
open Go.WideMaps (keyOf_string_mk)
def keyS:List ByteArray:=[⟨#[109,111,110,105,116,111,114]⟩,⟨#[118,97,114]⟩,⟨#[113,117,101,117,101]⟩,⟨#[101,110,116,114,121]⟩,⟨#[112,114,111,99,101,115,115]⟩,⟨#[117,115,101,115]⟩,⟨#[98,101,103,105,110]⟩,⟨#[101,110,100]⟩,⟨#[105,102]⟩,⟨#[116,104,101,110]⟩,⟨#[101,108,115,101]⟩,⟨#[119,104,105,108,101]⟩,⟨#[100,111]⟩,⟨#[99,97,108,108]⟩,⟨#[116,111]⟩,⟨#[112,114,105,110,116]⟩,⟨#[114,101,97,100]⟩,⟨#[100,101,108,97,121]⟩,⟨#[99,111,110,116,105,110,117,101]⟩,⟨#[115,107,105,112]⟩,⟨#[97,110,100]⟩,⟨#[111,114]⟩,⟨#[110,111,116]⟩]
def keyB (s:ByteArray):Bool:=keyS.any fun x=>decide (x=s)
def aL_:List Lit:=keyS.map fun x=>.string x.data.toList
def bb1 (w0 w:World) (n:Nat) (ks:List Lit):Prop:=w.ownsMap Tryz.prog 9 (unitElem (H:=Unit)) w0.heap.size n (setOf (.agg []) ks)∧Below w0.heap.size w0 w
theorem lawS:Keyed Tryz.prog 9:=string_keyed Tryz.underlying9
theorem zeroU (w:World):(zeroValue 155).run Tryz.prog w=.ok (.agg #[]) w:=by kernel_rfl
theorem bb1.made (w:World):bb1 w (w.alloc (.map #[] 0)) 0 []:=⟨World.ownsMap_made _ _ _ _,bal _ _⟩
theorem aY5 {w0 w:World}{ops:Array Oper}{rest:List Oper}{o:Oper}{a:Act}{Q:Exit→Act→World→Prop}
  (hg:o.guard=none) (m x v:Operand) (hop:o.op=Op.insert 160 m x v) (n:Nat) (ks:List Lit)
  (hm:a.eval m=.map (some w0.heap.size)) (hown:bb1 w0 w n ks) (hn:n<1000) (s:ByteArray) (hs:s.size≤1000) (hx:a.eval x=.string s) (hv:a.eval v=.agg #[])
  (hK:∀ w',bb1 w0 w' (n+1) (ks++[.string s.data.toList])→wpList Tryz.prog ops Q rest (a.put o.dst undef) w') :
  wpList Tryz.prog ops Q (o :: rest) a w:=by
 refine wpList_plain hg fun K' hK'=>?_
 obtain⟨w',hrun,r1,r2⟩:=hown.1.update lawS Tryz.underlying160 (by unfold maxLen;omega) (keyOf_string_mk (s:=s) Tryz.underlying9 (by unfold maxLen;omega)) unitElem_mk
 unfold Oper.wp
 simp[execOp,hop,hm,hx,hv,hrun,Result.andThen]
 refine hK' _ _ (hK w' ⟨?_,hown.2.grown r2 hown.2.size (fun j hj=>by cases hj;exact nlr _)⟩)
 rw[setOf_snoc]
 exact r1
theorem aP2 (w:World):Calls Tryz.prog 128 #[] w fun e w'=>e=.returned (.map (some w.heap.size))∧bb1 w w' 23 aL_:=by
 have hmm:=@run_makeMap Tryz.prog
 have h0:=bb1.made w
 go_enter Tryz.func128,Tryz.ntmps128
 go_wp2_with (refine aY5 (w0:=w) rfl _ _ _ rfl _ _ rfl (by assumption) (by decide) _ (by decide) rfl rfl ?_;clear h0;intro w1 h0)
 go_ret
 exact⟨rfl,h0⟩
theorem aU7:∀ x∈aL_,WideAt.IsKeyLit x:=by
 intro x hx
 obtain⟨y,_,rfl⟩:=List.mem_map.1 hx
 trivial
theorem keyHas (s:ByteArray):Maps.has (setOf (H:=Unit) (.agg []) aL_) (.string s.data.toList)=keyB s:=by
 rw[has_setOf _ _ _ aU7,aL_,List.any_map,keyB]
 congr 1
 funext x
 show Lit.sameKey (.string x.data.toList) (.string s.data.toList)=_
 have e:x=s↔x.data=s.data:=⟨fun h=>by rw[h],fun h=>ByteArray.ext h⟩
 by_cases h:x=s
 ·simp[Lit.sameKey,h]
 ·have h':¬ x.data=s.data:=fun q=>h (e.2 q)
  simp[Lit.sameKey,h,h']
theorem aE0 (s:ByteArray) (w:World) (hs:s.size≤1048576):Calls Tryz.prog 107 #[.string s] w fun e w'=>e=.returned (.bool (keyB s))∧Below w.heap.size w w':=by
 have HS:=qb (keyHas s)
 go_enter Tryz.func107,Tryz.ntmps107
 go_wp2_with (first
  | (go_at_call 128;refine(aP2 _).mono ?_;rintro e w1⟨rfl,h0⟩;have HB:=qb h0.2)
  | (at_lookup;refine wpList_lookup_own_unit _ rfl _ _ 160 rfl 9 155 lawS Tryz.underlying160 (zeroU _) w.heap.size 23 _ rfl h0.1 _ _ rfl (keyOf_string_mk Tryz.underlying9 (by unfold maxLen;omega)) ?_;rw[HS.out]))
 go_ret
 exact⟨rfl,HB.out.alloc HB.out.size _⟩
abbrev keyRow (w:World):World:=w.alloc (.cells (keyS.map Value.string).toArray 9)
theorem aV0 (w:World):Calls Tryz.prog 110 #[] w fun e w'=>e=.returned (.slice (some ⟨w.heap.size,0,none⟩) 23 23)∧w'=keyRow w:=by
 go_enter Tryz.func110,Tryz.ntmps110
 go_wp2
 go_ret
 exact⟨rfl,rfl⟩
theorem aU8 (w:World) (k:Nat) (h:k<23):(keyRow w).cell? ⟨w.heap.size,k,none⟩=some (.string (keyS.getD k ByteArray.empty)):=by
 have:=(World.ownsRow_lit (base:=w.heap.size) (e:=9) (size:=1) w (keyS.map Value.string).toArray 23 (nlr _) (by unfold maxLen;omega) (by simp[keyS])).cellAt k h
 rw[this,List.getD_eq_getElem?_getD]
 simp[List.getElem?_eq_getElem (show k<keyS.length from h)]
theorem keyB_yes {s:ByteArray}{k:Nat}(h:k<23) (e:keyS.getD k ByteArray.empty=s):keyB s=true:=by
 rw[keyB,List.any_eq_true]
 refine⟨keyS.getD k ByteArray.empty,?_,by rw[e];exact decide_eq_true rfl⟩
 rw[List.getD_eq_getElem?_getD,List.getElem?_eq_getElem (show k<keyS.length from h)]
 exact List.getElem_mem _
theorem keyB_no {s:ByteArray}(h:∀ k,k<23→keyS.getD k ByteArray.empty≠s):keyB s=false:=by
 rw[keyB,List.any_eq_false]
 intro x hx
 obtain⟨j,hj,rfl⟩:=List.getElem_of_mem hx
 have:=h j hj
 rw[List.getD_eq_getElem?_getD,List.getElem?_eq_getElem hj]at this
 simpa using this
theorem aG0 (s:ByteArray) (w:World) (hs:s.size≤1048576):Calls Tryz.prog 87 #[.string s] w fun e w'=>e=.returned (.bool (keyB s))∧Below w.heap.size w w':=by
 go_enter Tryz.func87,Tryz.ntmps87
 go_wp2_with (go_at_call 110;refine(aV0 _).mono ?_;rintro e w1⟨rfl,hw1⟩;have HW:=qb hw1;clear hw1)
 have HC:Hid (∀ k,k<23→w1.cell? ⟨w.heap.size,k,none⟩=some (.string (keyS.getD k ByteArray.empty))):=by
  rw[HW.out];exact aU8 w
 have HB:Hid (Below w.heap.size w w1):=by
  rw[HW.out];exact bal _ _
 clear HW
 go_loopw [4] (fun iv wr=>∃ k:Nat,k≤23∧iv=.int .i64 k∧wr=w1∧Hid (∀ j,j<k→keyS.getD j ByteArray.empty≠s)) (fun iv _=>23-(intOf iv).toNat)
 case atStart=>exact⟨0,by omega,rfl,rfl,fun j hj=>absurd hj (Nat.not_lt_zero j)⟩
 case round =>
  obtain⟨k,hk,rfl,rfl,HN⟩:=hrel
  by_cases hlt:k<23
  ·have hc:=HC.out k hlt
   have hi0:(0:Int)≤(k:Int):=by omega
   have hi1:(k:Int)<23:=by omega
   obtain⟨x,ex⟩:∃ x,x=keyS.getD k ByteArray.empty:=⟨_,rfl⟩
   rw[←ex]at hc
   have EX:=qb ex
   clear ex
   by_cases hx:x=s
   ·have HF:=qb (keyB_yes hlt (EX.out.symm.trans hx))
    subst hx
    go_wp2
    go_ret
    exact⟨by rw[HF.out];rfl,HB.out⟩
   ·have hx':(x.toList == s.toList)=false:=by rw[Bool.eq_false_iff];exact fun h=>hx (str_beq.1 h)
    have HN2:Hid (∀ j,j<k+1→keyS.getD j ByteArray.empty≠s):=fun j hj=>by
     rcases Nat.lt_succ_iff_lt_or_eq.1 hj with hj|hj
     ·exact HN.out j hj
     ·subst hj;rw[←EX.out];exact hx
    go_wp2
    go_roundw
    case rel=>exact⟨k+1,by omega,by go_num,trivial,HN2⟩
    case measure=>simp[intOf];omega
  ·have HF:=qb (keyB_no (s:=s) (fun j hj=>HN.out j (by omega)))
   go_wp2
   go_ret
   exact⟨by rw[HF.out];rfl,HB.out⟩
open Go.RowKit
theorem aK6 (s:ByteArray) (j:Nat) (h:j<s.size):s.get! j=s[j]:=by
 simp[ByteArray.get!,getElem!_pos,h]
 rfl
theorem aO1 (n b0 b1 b2 b3:Nat) (hn:0<n):(Lib.decodeN n b0 b1 b2 b3).2≤n∧(1<(Lib.decodeN n b0 b1 b2 b3).2→128≤b1)∧(2<(Lib.decodeN n b0 b1 b2 b3).2→128≤b2)∧(3<(Lib.decodeN n b0 b1 b2 b3).2→128≤b3)∧(Lib.decodeN n b0 b1 b2 b3).2≤4:=by
 unfold Lib.decodeN
 repeat' split
 all_goals (simp only[];omega)
theorem aq2 (s:ByteArray) (pos:Nat) (h:pos<s.size):pos+(Utf8.decode s pos).2≤s.size∧∀ j,0<j→j<(Utf8.decode s pos).2→∀ hj:pos+j<s.size,128≤s[pos+j].toNat:=by
 rw[Lib.decode_at]
 obtain⟨h1,a1,a2,a3,h4⟩:=aO1 (s.size-pos) (s.get! pos).toNat (s.get! (pos+1)).toNat (s.get! (pos+2)).toNat (s.get! (pos+3)).toNat (by omega)
 refine⟨by omega,fun j h0 hj hl=>?_⟩
 have:j=1∨j=2∨j=3:=by omega
 rcases this with rfl|rfl|rfl
 ·rw[←aK6];exact a1 hj
 ·rw[←aK6];exact a2 hj
 ·rw[←aK6];exact a3 hj
def ai0 (q:Nat→Bool) (l:List UInt8):Nat:=(l.takeWhile fun b=>q b.toNat).length
theorem ba1 (q:Nat→Bool) (l:List UInt8):ai0 q l≤l.length:=by
 unfold ai0
 exact(List.takeWhile_prefix _).length_le
theorem aK7 (q:Nat→Bool):∀ (l:List UInt8) (k:Nat),(∀ j,j<k→∃ b,l[j]? = some b∧q b.toNat=true)→(k=l.length∨∃ b,l[k]? = some b∧q b.toNat=false)→ai0 q l=k
 | [],k,_,h=>by
  rcases h with h|⟨b,hb,_⟩
  ·simp at h;subst h;rfl
  ·simp at hb
 | x :: l,0,_,h=>by
  rcases h with h|⟨b,hb,hq⟩
  ·simp at h
  ·simp at hb;subst hb
   simp[ai0,hq]
 | x :: l,k+1,hA,h=>by
  obtain⟨b,hb,hq⟩:=hA 0 (by omega)
  simp at hb;subst hb
  have:=aK7 q l k (fun j hj=>by simpa using hA (j+1) (by omega)) (by
   rcases h with h|h
   ·simp at h;exact .inl h
   ·simpa using .inr h)
  simp[ai0,hq]at this ⊢
  exact this
theorem ap7 (q:Nat→Bool) (s:ByteArray) (k:Nat) (hA:∀ j,j<k→∀ h:j<s.size,q s[j].toNat=true) (hk:k≤s.size) (h:k=s.size∨∃ hk:k<s.size,q s[k].toNat=false):ai0 q s.data.toList=k:=by
 have hl:s.data.toList.length=s.size:=by rw[Array.length_toList];rfl
 have hg:∀ j (hj:j<s.size),s.data.toList[j]? = some s[j]:=fun j hj=>by
  rw[List.getElem?_eq_getElem (by omega)];rfl
 refine aK7 q _ k (fun j hj=>⟨_,hg j (by omega),hA j hj (by omega)⟩) ?_
 rcases h with h|⟨hk,h⟩
 ·exact .inl (by omega)
 ·exact .inr ⟨_,hg k hk,h⟩
theorem ah4 {P:Program}{t:TypeId}(ht:P.underlying t=some .string) (s:ByteArray) (k:Nat) (h:k<s.size) (w:World) :
  (Instr.index t (.string s) (.int .i64 (k:Int))).run P w=.ok (.int .u8 (s[k].toNat:Int)) w:=by
 simp[go_sem,ht,h]
def ab3 (r:Nat):Bool:=decide (97≤r∧r≤122)
def ad0 (r:Nat):Bool:=decide (48≤r∧r≤57)
def af4 (r:Nat):Bool:=decide (r=32∨r=10)
def ao_ (r:Nat):Bool:=decide (r≠10)
theorem au3 (r:Nat) (w:World) (h:r≤2147483647):Calls Tryz.prog 69 #[.int .i32 (r:Int)] w fun e w'=>e=.returned (.bool (ab3 r))∧w'=w:=by
 by_cases h1:97≤r
 ·have e:ab3 r=decide ((r:Int)≤122):=by
   simp only[ab3,decide_eq_decide];omega
  rw[e]
  go_enter Tryz.func69,Tryz.ntmps69
  go_wp2
  go_ret
  exact⟨rfl,rfl⟩
 ·have e:ab3 r=false:=by simp[ab3];omega
  rw[e]
  go_enter Tryz.func69,Tryz.ntmps69
  go_wp2
  go_ret
  exact⟨rfl,rfl⟩
theorem au2 (r:Nat) (w:World) (h:r≤2147483647):Calls Tryz.prog 70 #[.int .i32 (r:Int)] w fun e w'=>e=.returned (.bool (ad0 r))∧w'=w:=by
 by_cases h1:48≤r
 ·have e:ad0 r=decide ((r:Int)≤57):=by
   simp only[ad0,decide_eq_decide];omega
  rw[e]
  go_enter Tryz.func70,Tryz.ntmps70
  go_wp2
  go_ret
  exact⟨rfl,rfl⟩
 ·have e:ad0 r=false:=by simp[ad0];omega
  rw[e]
  go_enter Tryz.func70,Tryz.ntmps70
  go_wp2
  go_ret
  exact⟨rfl,rfl⟩
theorem ax_ (r:Nat) (w:World) (h:r≤2147483647):Calls Tryz.prog 66 #[.int .i32 (r:Int)] w fun e w'=>e=.returned (.bool (af4 r))∧w'=w:=by
 by_cases h1:r=32
 ·subst h1
  go_enter Tryz.func66,Tryz.ntmps66
  go_wp2
  go_ret
  exact⟨rfl,rfl⟩
 ·have e:af4 r=decide ((r:Int)=10):=by
   simp only[af4,decide_eq_decide];omega
  have h2:((r:Int) == 32)=false:=by simp;omega
  rw[e]
  go_enter Tryz.func66,Tryz.ntmps66
  go_wp2
  go_ret
  exact⟨by first|rfl|simp,rfl⟩
theorem aP0 (r:Nat) (w:World) (_h:r≤2147483647):Calls Tryz.prog 68 #[.int .i32 (r:Int)] w fun e w'=>e=.returned (.bool (ao_ r))∧w'=w:=by
 have e:ao_ r = !decide ((r:Int)=10):=by
  rw[ao_,←decide_not];simp only[decide_eq_decide];omega
 rw[e]
 go_enter Tryz.func68,Tryz.ntmps68
 go_wp2
 go_ret
 exact⟨by first|rfl|simp,rfl⟩
theorem az1 (s:ByteArray) (w:World) (_hs:s.size≤1048576):Calls Tryz.prog 67 #[.string s,.func (.func 69) #[] #[]] w fun e w'=>e=.returned (.int .i64 (ai0 ab3 s.data.toList))∧Below w.heap.size w w':=by
 go_enter Tryz.func67,Tryz.ntmps67
 go_wp2
 go_loopw [5] (fun _ wr=>∃ pos:Nat,wr=w.iter s pos∧pos≤s.size∧Hid (∀ j,j<pos→∀ h:j<s.size,ab3 s[j].toNat=true)) (fun _ wr=>s.size-wr.iterPos w.heap.size)
 case atStart=>exact⟨0,rfl,Nat.zero_le _,fun j hj=>absurd hj (Nat.not_lt_zero j)⟩
 case round =>
  obtain⟨pos,rfl,hps,HA⟩:=hrel
  by_cases hp:pos<s.size
  ·have hsp:=aq2 s pos hp
   have hhi:ab3 (Utf8.decode s pos).1=ab3 s[pos].toNat∧(ab3 s[pos].toNat=true→∀ j,pos<j→j<pos+(Utf8.decode s pos).2→∀ h:j<s.size,ab3 s[j].toNat=true)∧1≤(Utf8.decode s pos).2:=by
    by_cases h8:s[pos].toNat<128
    ·rw[decode_ascii s pos hp h8]
     exact⟨rfl,fun _ j h1 h2=>by simp at h2;omega,nlr _⟩
    ·obtain⟨d1,d2⟩:=decode_high s pos hp (by omega)
     refine⟨?_,fun hq j h1 h2 h=>?_,d2⟩
     ·simp only[ab3,decide_eq_decide];omega
     ·have:=hsp.2 (j-pos) (by omega) (by omega) (by omega)
      have e:s[pos+(j-pos)]'(by omega)=s[j]:=by congr 1;omega
      rw[e]at this
      simp only[ab3,decide_eq_true_eq]at hq ⊢;omega
   have hrl:=decode_le s pos
   obtain⟨r,hr⟩:∃ r,r=(Utf8.decode s pos).1:=⟨_,rfl⟩
   obtain⟨wd,hwd⟩:∃ wd,wd=(Utf8.decode s pos).2:=⟨_,rfl⟩
   have hnx:∀ ty,(Instr.next (.pointer (some ⟨w.heap.size,0,none⟩)) true ty).run Tryz.prog (w.iter s pos)=.ok (.tuple #[.bool true,.int .i64 pos,.int .i32 r]) (w.iter s (pos+wd)):=fun ty=>by
    rw[hr,hwd];exact run_next_any w s pos ty hp
   rw[←hr,←hwd]at hhi
   rw[←hr]at hrl
   rw[←hwd]at hsp
   have hw1:=hhi.2.2
   have hw2:=hsp.1
   have HQ:=qb hhi
   have HS:=qb hsp
   clear hhi hsp hr hwd
   have CL:=fun w=>qb (au3 r w hrl)
   cases hq:ab3 r with
   | true =>
    rw[hq]at CL
    have HA2:Hid (∀ j,j<pos+wd→∀ h:j<s.size,ab3 s[j].toNat=true):=fun j hj h=>by
     by_cases h1:j<pos
     ·exact HA.out j h1 h
     ·by_cases h2:j=pos
      ·subst h2;rw[←HQ.out.1];exact hq
      ·exact HQ.out.2.1 (by rw[←HQ.out.1];exact hq) j (by omega) hj h
    clear hq
    go_wp2_with (go_at_call 69;refine(qa (CL _)).mono ?_;rintro e w1⟨rfl,rfl⟩)
    go_roundw
    case rel=>exact⟨pos+wd,rfl,hw2,HA2⟩
    case measure=>simp;omega
   | false =>
    rw[hq]at CL
    have HF:=qb (ap7 ab3 s pos HA.out hps (.inr ⟨hp,by rw[←HQ.out.1];exact hq⟩))
    clear hq
    go_wp2_with (go_at_call 69;refine(qa (CL _)).mono ?_;rintro e w1⟨rfl,rfl⟩)
    go_ret
    exact⟨by rw[HF.out];rfl,bal _ _⟩
  ·have hnx:∀ ty,(Instr.next (.pointer (some ⟨w.heap.size,0,none⟩)) true ty).run Tryz.prog (w.iter s pos)=_:=fun ty=>run_next_end w s pos ty hp
   have HF:=qb (ap7 ab3 s pos HA.out hps (.inl (by omega)))
   have HE:Hid (pos=s.size):=show pos=s.size by omega
   go_wp2
   go_ret
   exact⟨by rw[HF.out,HE.out];rfl,bal _ _⟩
theorem aM4 (s:ByteArray) (w:World) (_hs:s.size≤1048576):Calls Tryz.prog 67 #[.string s,.func (.func 70) #[] #[]] w fun e w'=>e=.returned (.int .i64 (ai0 ad0 s.data.toList))∧Below w.heap.size w w':=by
 go_enter Tryz.func67,Tryz.ntmps67
 go_wp2
 go_loopw [5] (fun _ wr=>∃ pos:Nat,wr=w.iter s pos∧pos≤s.size∧Hid (∀ j,j<pos→∀ h:j<s.size,ad0 s[j].toNat=true)) (fun _ wr=>s.size-wr.iterPos w.heap.size)
 case atStart=>exact⟨0,rfl,Nat.zero_le _,fun j hj=>absurd hj (Nat.not_lt_zero j)⟩
 case round =>
  obtain⟨pos,rfl,hps,HA⟩:=hrel
  by_cases hp:pos<s.size
  ·have hsp:=aq2 s pos hp
   have hhi:ad0 (Utf8.decode s pos).1=ad0 s[pos].toNat∧(ad0 s[pos].toNat=true→∀ j,pos<j→j<pos+(Utf8.decode s pos).2→∀ h:j<s.size,ad0 s[j].toNat=true)∧1≤(Utf8.decode s pos).2:=by
    by_cases h8:s[pos].toNat<128
    ·rw[decode_ascii s pos hp h8]
     exact⟨rfl,fun _ j h1 h2=>by simp at h2;omega,nlr _⟩
    ·obtain⟨d1,d2⟩:=decode_high s pos hp (by omega)
     refine⟨?_,fun hq j h1 h2 h=>?_,d2⟩
     ·simp only[ad0,decide_eq_decide];omega
     ·have:=hsp.2 (j-pos) (by omega) (by omega) (by omega)
      have e:s[pos+(j-pos)]'(by omega)=s[j]:=by congr 1;omega
      rw[e]at this
      simp only[ad0,decide_eq_true_eq]at hq ⊢;omega
   have hrl:=decode_le s pos
   obtain⟨r,hr⟩:∃ r,r=(Utf8.decode s pos).1:=⟨_,rfl⟩
   obtain⟨wd,hwd⟩:∃ wd,wd=(Utf8.decode s pos).2:=⟨_,rfl⟩
   have hnx:∀ ty,(Instr.next (.pointer (some ⟨w.heap.size,0,none⟩)) true ty).run Tryz.prog (w.iter s pos)=.ok (.tuple #[.bool true,.int .i64 pos,.int .i32 r]) (w.iter s (pos+wd)):=fun ty=>by
    rw[hr,hwd];exact run_next_any w s pos ty hp
   rw[←hr,←hwd]at hhi
   rw[←hr]at hrl
   rw[←hwd]at hsp
   have hw1:=hhi.2.2
   have hw2:=hsp.1
   have HQ:=qb hhi
   have HS:=qb hsp
   clear hhi hsp hr hwd
   have CL:=fun w=>qb (au2 r w hrl)
   cases hq:ad0 r with
   | true =>
    rw[hq]at CL
    have HA2:Hid (∀ j,j<pos+wd→∀ h:j<s.size,ad0 s[j].toNat=true):=fun j hj h=>by
     by_cases h1:j<pos
     ·exact HA.out j h1 h
     ·by_cases h2:j=pos
      ·subst h2;rw[←HQ.out.1];exact hq
      ·exact HQ.out.2.1 (by rw[←HQ.out.1];exact hq) j (by omega) hj h
    clear hq
    go_wp2_with (go_at_call 70;refine(qa (CL _)).mono ?_;rintro e w1⟨rfl,rfl⟩)
    go_roundw
    case rel=>exact⟨pos+wd,rfl,hw2,HA2⟩
    case measure=>simp;omega
   | false =>
    rw[hq]at CL
    have HF:=qb (ap7 ad0 s pos HA.out hps (.inr ⟨hp,by rw[←HQ.out.1];exact hq⟩))
    clear hq
    go_wp2_with (go_at_call 70;refine(qa (CL _)).mono ?_;rintro e w1⟨rfl,rfl⟩)
    go_ret
    exact⟨by rw[HF.out];rfl,bal _ _⟩
  ·have hnx:∀ ty,(Instr.next (.pointer (some ⟨w.heap.size,0,none⟩)) true ty).run Tryz.prog (w.iter s pos)=_:=fun ty=>run_next_end w s pos ty hp
   have HF:=qb (ap7 ad0 s pos HA.out hps (.inl (by omega)))
   have HE:Hid (pos=s.size):=show pos=s.size by omega
   go_wp2
   go_ret
   exact⟨by rw[HF.out,HE.out];rfl,bal _ _⟩
theorem aS1 (s:ByteArray) (w:World) (_hs:s.size≤1048576):Calls Tryz.prog 67 #[.string s,.func (.func 66) #[] #[]] w fun e w'=>e=.returned (.int .i64 (ai0 af4 s.data.toList))∧Below w.heap.size w w':=by
 go_enter Tryz.func67,Tryz.ntmps67
 go_wp2
 go_loopw [5] (fun _ wr=>∃ pos:Nat,wr=w.iter s pos∧pos≤s.size∧Hid (∀ j,j<pos→∀ h:j<s.size,af4 s[j].toNat=true)) (fun _ wr=>s.size-wr.iterPos w.heap.size)
 case atStart=>exact⟨0,rfl,Nat.zero_le _,fun j hj=>absurd hj (Nat.not_lt_zero j)⟩
 case round =>
  obtain⟨pos,rfl,hps,HA⟩:=hrel
  by_cases hp:pos<s.size
  ·have hsp:=aq2 s pos hp
   have hhi:af4 (Utf8.decode s pos).1=af4 s[pos].toNat∧(af4 s[pos].toNat=true→∀ j,pos<j→j<pos+(Utf8.decode s pos).2→∀ h:j<s.size,af4 s[j].toNat=true)∧1≤(Utf8.decode s pos).2:=by
    by_cases h8:s[pos].toNat<128
    ·rw[decode_ascii s pos hp h8]
     exact⟨rfl,fun _ j h1 h2=>by simp at h2;omega,nlr _⟩
    ·obtain⟨d1,d2⟩:=decode_high s pos hp (by omega)
     refine⟨?_,fun hq j h1 h2 h=>?_,d2⟩
     ·simp only[af4,decide_eq_decide];omega
     ·have:=hsp.2 (j-pos) (by omega) (by omega) (by omega)
      have e:s[pos+(j-pos)]'(by omega)=s[j]:=by congr 1;omega
      rw[e]at this
      simp only[af4,decide_eq_true_eq]at hq ⊢;omega
   have hrl:=decode_le s pos
   obtain⟨r,hr⟩:∃ r,r=(Utf8.decode s pos).1:=⟨_,rfl⟩
   obtain⟨wd,hwd⟩:∃ wd,wd=(Utf8.decode s pos).2:=⟨_,rfl⟩
   have hnx:∀ ty,(Instr.next (.pointer (some ⟨w.heap.size,0,none⟩)) true ty).run Tryz.prog (w.iter s pos)=.ok (.tuple #[.bool true,.int .i64 pos,.int .i32 r]) (w.iter s (pos+wd)):=fun ty=>by
    rw[hr,hwd];exact run_next_any w s pos ty hp
   rw[←hr,←hwd]at hhi
   rw[←hr]at hrl
   rw[←hwd]at hsp
   have hw1:=hhi.2.2
   have hw2:=hsp.1
   have HQ:=qb hhi
   have HS:=qb hsp
   clear hhi hsp hr hwd
   have CL:=fun w=>qb (ax_ r w hrl)
   cases hq:af4 r with
   | true =>
    rw[hq]at CL
    have HA2:Hid (∀ j,j<pos+wd→∀ h:j<s.size,af4 s[j].toNat=true):=fun j hj h=>by
     by_cases h1:j<pos
     ·exact HA.out j h1 h
     ·by_cases h2:j=pos
      ·subst h2;rw[←HQ.out.1];exact hq
      ·exact HQ.out.2.1 (by rw[←HQ.out.1];exact hq) j (by omega) hj h
    clear hq
    go_wp2_with (go_at_call 66;refine(qa (CL _)).mono ?_;rintro e w1⟨rfl,rfl⟩)
    go_roundw
    case rel=>exact⟨pos+wd,rfl,hw2,HA2⟩
    case measure=>simp;omega
   | false =>
    rw[hq]at CL
    have HF:=qb (ap7 af4 s pos HA.out hps (.inr ⟨hp,by rw[←HQ.out.1];exact hq⟩))
    clear hq
    go_wp2_with (go_at_call 66;refine(qa (CL _)).mono ?_;rintro e w1⟨rfl,rfl⟩)
    go_ret
    exact⟨by rw[HF.out];rfl,bal _ _⟩
  ·have hnx:∀ ty,(Instr.next (.pointer (some ⟨w.heap.size,0,none⟩)) true ty).run Tryz.prog (w.iter s pos)=_:=fun ty=>run_next_end w s pos ty hp
   have HF:=qb (ap7 af4 s pos HA.out hps (.inl (by omega)))
   have HE:Hid (pos=s.size):=show pos=s.size by omega
   go_wp2
   go_ret
   exact⟨by rw[HF.out,HE.out];rfl,bal _ _⟩
theorem aY0 (s:ByteArray) (w:World) (_hs:s.size≤1048576):Calls Tryz.prog 67 #[.string s,.func (.func 68) #[] #[]] w fun e w'=>e=.returned (.int .i64 (ai0 ao_ s.data.toList))∧Below w.heap.size w w':=by
 go_enter Tryz.func67,Tryz.ntmps67
 go_wp2
 go_loopw [5] (fun _ wr=>∃ pos:Nat,wr=w.iter s pos∧pos≤s.size∧Hid (∀ j,j<pos→∀ h:j<s.size,ao_ s[j].toNat=true)) (fun _ wr=>s.size-wr.iterPos w.heap.size)
 case atStart=>exact⟨0,rfl,Nat.zero_le _,fun j hj=>absurd hj (Nat.not_lt_zero j)⟩
 case round =>
  obtain⟨pos,rfl,hps,HA⟩:=hrel
  by_cases hp:pos<s.size
  ·have hsp:=aq2 s pos hp
   have hhi:ao_ (Utf8.decode s pos).1=ao_ s[pos].toNat∧(ao_ s[pos].toNat=true→∀ j,pos<j→j<pos+(Utf8.decode s pos).2→∀ h:j<s.size,ao_ s[j].toNat=true)∧1≤(Utf8.decode s pos).2:=by
    by_cases h8:s[pos].toNat<128
    ·rw[decode_ascii s pos hp h8]
     exact⟨rfl,fun _ j h1 h2=>by simp at h2;omega,nlr _⟩
    ·obtain⟨d1,d2⟩:=decode_high s pos hp (by omega)
     refine⟨?_,fun hq j h1 h2 h=>?_,d2⟩
     ·simp only[ao_,decide_eq_decide];omega
     ·have:=hsp.2 (j-pos) (by omega) (by omega) (by omega)
      have e:s[pos+(j-pos)]'(by omega)=s[j]:=by congr 1;omega
      rw[e]at this
      simp only[ao_,decide_eq_true_eq]at hq ⊢;omega
   have hrl:=decode_le s pos
   obtain⟨r,hr⟩:∃ r,r=(Utf8.decode s pos).1:=⟨_,rfl⟩
   obtain⟨wd,hwd⟩:∃ wd,wd=(Utf8.decode s pos).2:=⟨_,rfl⟩
   have hnx:∀ ty,(Instr.next (.pointer (some ⟨w.heap.size,0,none⟩)) true ty).run Tryz.prog (w.iter s pos)=.ok (.tuple #[.bool true,.int .i64 pos,.int .i32 r]) (w.iter s (pos+wd)):=fun ty=>by
    rw[hr,hwd];exact run_next_any w s pos ty hp
   rw[←hr,←hwd]at hhi
   rw[←hr]at hrl
   rw[←hwd]at hsp
   have hw1:=hhi.2.2
   have hw2:=hsp.1
   have HQ:=qb hhi
   have HS:=qb hsp
   clear hhi hsp hr hwd
   have CL:=fun w=>qb (aP0 r w hrl)
   cases hq:ao_ r with
   | true =>
    rw[hq]at CL
    have HA2:Hid (∀ j,j<pos+wd→∀ h:j<s.size,ao_ s[j].toNat=true):=fun j hj h=>by
     by_cases h1:j<pos
     ·exact HA.out j h1 h
     ·by_cases h2:j=pos
      ·subst h2;rw[←HQ.out.1];exact hq
      ·exact HQ.out.2.1 (by rw[←HQ.out.1];exact hq) j (by omega) hj h
    clear hq
    go_wp2_with (go_at_call 68;refine(qa (CL _)).mono ?_;rintro e w1⟨rfl,rfl⟩)
    go_roundw
    case rel=>exact⟨pos+wd,rfl,hw2,HA2⟩
    case measure=>simp;omega
   | false =>
    rw[hq]at CL
    have HF:=qb (ap7 ao_ s pos HA.out hps (.inr ⟨hp,by rw[←HQ.out.1];exact hq⟩))
    clear hq
    go_wp2_with (go_at_call 68;refine(qa (CL _)).mono ?_;rintro e w1⟨rfl,rfl⟩)
    go_ret
    exact⟨by rw[HF.out];rfl,bal _ _⟩
  ·have hnx:∀ ty,(Instr.next (.pointer (some ⟨w.heap.size,0,none⟩)) true ty).run Tryz.prog (w.iter s pos)=_:=fun ty=>run_next_end w s pos ty hp
   have HF:=qb (ap7 ao_ s pos HA.out hps (.inl (by omega)))
   have HE:Hid (pos=s.size):=show pos=s.size by omega
   go_wp2
   go_ret
   exact⟨by rw[HF.out,HE.out];rfl,bal _ _⟩
def bf9 (s:ByteArray):Bool:=decide (1≤s.size∧s.size≤8)
def ar0 (s:ByteArray):Bool:=decide (ai0 ab3 s.data.toList=s.size)
def aa7 (s:ByteArray):Bool:=bf9 s && (ar0 s && !keyB s)
theorem bd2 (n:Nat) (w:World) (h:n≤1048576):Calls Tryz.prog 35 #[.int .i64 (n:Int),.int .i64 1,.int .i64 8] w fun e w'=>e=.returned (.bool (decide (1≤n∧n≤8)))∧w'=w:=by
 by_cases h1:1≤n
 ·have e:decide (1≤n∧n≤8)=decide ((n:Int)≤8):=by simp only[decide_eq_decide];omega
  rw[e]
  go_enter Tryz.func35,Tryz.ntmps35
  go_wp2
  go_ret
  exact⟨rfl,rfl⟩
 ·have e:decide (1≤n∧n≤8)=false:=by simp;omega
  rw[e]
  go_enter Tryz.func35,Tryz.ntmps35
  go_wp2
  go_ret
  exact⟨rfl,rfl⟩
theorem aa9 (s:ByteArray) (w:World) (hs:s.size≤1048576):Calls Tryz.prog 81 #[.string s] w fun e w'=>e=.returned (.bool (aa7 s))∧Below w.heap.size w w':=by
 have CK:=fun w=>qb (aE0 s w hs)
 have CL:=fun w=>qb (az1 s w hs)
 by_cases h0:s.size=0
 ·have e0:s=ByteArray.empty:=by
   apply ByteArray.ext;apply Array.ext';apply List.length_eq_zero_iff.1;rw[Array.length_toList];exact h0
  have HF:Hid (aa7 s=false):=by show _=_;simp[aa7,bf9,h0]
  have hq:s.toList.isEmpty=true:=by rw[e0,ByteArray.toList_eq];rfl
  clear e0
  go_enter Tryz.func81,Tryz.ntmps81
  go_wp2_with fail
  go_ret
  exact⟨by rw[HF.out];rfl,Below.refl _ _⟩
 ·have hq:s.toList.isEmpty=false:=by
   rw[List.isEmpty_eq_false_iff,ByteArray.toList_eq];intro h;apply h0;have:=congrArg List.length h;rw[Array.length_toList]at this;exact this
  by_cases h8:8<s.size
  ·have HF:Hid (aa7 s=false):=by show _=_;simp[aa7,bf9];omega
   go_enter Tryz.func81,Tryz.ntmps81
   go_wp2_with fail
   go_ret
   exact⟨by rw[HF.out];rfl,Below.refl _ _⟩
  ·obtain⟨n,hn⟩:∃ n,n=ai0 ab3 s.data.toList:=⟨_,rfl⟩
   obtain⟨b,hb⟩:∃ b,b=keyB s:=⟨_,rfl⟩
   rw[←hn]at CL
   rw[←hb]at CK
   by_cases hl:n=s.size
   ·have HF:Hid (aa7 s = !b):=by show _=_;rw[aa7,ar0,←hn,←hb];simp[bf9,hl];omega
    have HL:=qb hl
    clear hn hb
    subst hl
    clear HL
    go_enter Tryz.func81,Tryz.ntmps81
    go_wp2_with (first|(go_at_call 67;refine(qa (CL _)).mono ?_;rintro e w1⟨rfl,hb1⟩)|(go_at_call 107;refine(qa (CK _)).mono ?_;rintro e w2⟨rfl,hb2⟩))
    go_ret
    exact⟨by rw[HF.out];rfl,hb1.trans (hb2.mono hb1.size)⟩
   ·have HF:Hid (aa7 s=false):=by show _=_;rw[aa7,ar0,←hn];simp[hl]
    clear hn hb
    have hne:((n:Int) == (s.size:Int))=false:=by simp;omega
    go_enter Tryz.func81,Tryz.ntmps81
    go_wp2_with (first|(go_at_call 67;refine(qa (CL _)).mono ?_;rintro e w1⟨rfl,hb1⟩))
    go_ret
    exact⟨by rw[HF.out];rfl,hb1⟩
theorem az3 {α:Type}{p:α→Bool}:∀ (l:List α) (b:α),b∈l.takeWhile p→p b=true
 | [],b,h=>by simp at h
 | x :: l,b,h=>by
  rw[List.takeWhile_cons]at h
  split at h
  ·rename_i hx
   rcases List.mem_cons.1 h with rfl|h
   ·exact hx
   ·exact az3 l b h
  ·simp at h
theorem aE4 {s:ByteArray}{k:Nat}(h:k<s.size) (hq:ab3 s[k].toNat=false):ar0 s=false:=by
 rw[ar0,decide_eq_false_iff_not]
 intro e
 have:∀ b∈s.data.toList,ab3 b.toNat=true:=by
  have hl:s.data.toList.length=s.size:=by rw[Array.length_toList];rfl
  rw[←hl,ai0]at e
  have h2:=(List.takeWhile_prefix (fun b:UInt8=>ab3 b.toNat) (l:=s.data.toList)).eq_of_length e
  intro b hb
  rw[←h2]at hb
  exact az3 _ b hb
 have:=this s[k] (by
  have:s[k]=s.data.toList[k]'(by simpa using h):=rfl
  rw[this];exact List.getElem_mem _)
 rw[hq]at this;cases this
theorem ab1 (s:ByteArray) (w:World) (hs:s.size≤1048576):Calls Tryz.prog 60 #[.string s] w fun e w'=>e=.returned (.bool (aa7 s))∧Below w.heap.size w w':=by
 have CK:=fun w=>qb (aG0 s w hs)
 have CI:=fun w=>qb (bd2 s.size w hs)
 go_enter Tryz.func60,Tryz.ntmps60
 go_wp2
 go_loop [3] (fun iv=>∃ k:Nat,k≤s.size∧iv=.int .i64 k∧Hid (∀ j,j<k→∀ h:j<s.size,ab3 s[j].toNat=true)) (fun i=>s.size-(intOf i).toNat)
 case atStart=>exact⟨0,Nat.zero_le _,rfl,fun j hj=>absurd hj (Nat.not_lt_zero j)⟩
 case round =>
  obtain⟨k,hk,rfl,HA⟩:=hrel
  by_cases hlt:k<s.size
  ·obtain⟨c,hc⟩:∃ c:Nat,c=s[k].toNat:=⟨_,rfl⟩
   have hb8:c<256:=by rw[hc];exact s[k].toNat_lt
   have hix:∀ wx:World,(Instr.index 9 (.string s) (.int .i64 (k:Int))).run Tryz.prog wx=.ok (.int .u8 (c:Int)) wx:=fun wx=>by
    rw[hc];exact ah4 Tryz.underlying9 s k hlt wx
   have HC:=qb hc
   clear hc
   by_cases h97:c<97
   ·have HF:Hid (aa7 s=false):=by
     show _=_
     rw[aa7,aE4 hlt (by rw[←HC.out,ab3];simp;omega)];simp
    go_wp2
    go_ret
    exact⟨by rw[HF.out];rfl,Below.refl _ _⟩
   ·by_cases h122:122<c
    ·have HF:Hid (aa7 s=false):=by
      show _=_
      rw[aa7,aE4 hlt (by rw[←HC.out,ab3];simp;omega)];simp
     go_wp2
     go_ret
     exact⟨by rw[HF.out];rfl,Below.refl _ _⟩
    ·have HA2:Hid (∀ j,j<k+1→∀ h:j<s.size,ab3 s[j].toNat=true):=fun j hj h=>by
      rcases Nat.lt_succ_iff_lt_or_eq.1 hj with hj|hj
      ·exact HA.out j hj h
      ·subst hj;rw[←HC.out,ab3];simp;omega
     go_wp2
     go_round
     case rel=>exact⟨k+1,by omega,by go_num,HA2⟩
     case measure=>simp[intOf];omega
  ·have HE:Hid (ar0 s=true):=by
    show _=_
    rw[ar0,ap7 ab3 s k HA.out hk (.inl (by omega))]
    simp;omega
   obtain⟨b,hb⟩:∃ b,b=keyB s:=⟨_,rfl⟩
   rw[←hb]at CK
   have HB:=qb hb
   clear hb
   by_cases hz:1≤s.size∧s.size≤8
   ·have HF:Hid (aa7 s = !b):=by show _=_;rw[aa7,HE.out,←HB.out];simp[bf9,hz]
    have e1:decide (1≤s.size∧s.size≤8)=true:=by simp[hz]
    rw[e1]at CI
    clear e1
    go_wp2_with (first|(go_at_call 35;refine(qa (CI _)).mono ?_;rintro e w1⟨rfl,rfl⟩)|(go_at_call 87;refine(qa (CK _)).mono ?_;rintro e w2⟨rfl,hb2⟩))
    go_ret
    exact⟨by rw[HF.out];rfl,hb2⟩
   ·have HF:Hid (aa7 s=false):=by show _=_;rw[aa7];simp[bf9];omega
    have e1:decide (1≤s.size∧s.size≤8)=false:=by simp;omega
    rw[e1]at CI
    clear e1
    go_wp2_with (first|(go_at_call 35;refine(qa (CI _)).mono ?_;rintro e w1⟨rfl,rfl⟩)|(go_at_call 87;refine(qa (CK _)).mono ?_;rintro e w2⟨rfl,hb2⟩))
    go_ret
    exact⟨by rw[HF.out];rfl,Below.refl _ _⟩
end Go.Proofs.YtcpapceeekkacaaGreatDoor
