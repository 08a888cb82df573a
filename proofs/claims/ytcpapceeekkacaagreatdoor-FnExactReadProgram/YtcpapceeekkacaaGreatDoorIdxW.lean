import Derived.Test.YtcpapceeekkacaaGreatDoorOneY
import Derived.Shelf.Small.Utf8
import Derived.Shelf.Small.Strs
import Derived.Shelf.LaysM
import Derived.Shelf.Strconv.Clone
import Derived.Shelf.Strings.Search1
import Derived.Shelf.Strings.Prefix
import Derived.Shelf.Unicode.Decode
import Derived.Shelf.Strings.Runes
import Derived.Shelf.Unicode.DecodeSlow
import Derived.Shelf.Unicode.DecodeAny
import Derived.Test.YtcpapceeekkacaaGreatDoorChecked
import Derived.Test.YtcpapceeekkacaaGreatDoorSignP
import Derived.Test.YtcpapceeekkacaaGreatDoorNameW
import Derived.Deep.RegionHeld3
import Derived.BigQuiet
set_option maxRecDepth 100000
set_option maxHeartbeats 8000000
namespace Go.Proofs.YtcpapceeekkacaaGreatDoor
open Go.RowKit
theorem one_mark (g:Nat) (s:ByteArray) (pos:Nat) (v:Value) (acc:List Sg) (w:World) (hs:s.size≤1500) (hp:pos<s.size) (C:ScAt w g s pos v) (ho:w.ownsRow (g+1) 48 4 v acc.length (ac7 acc)) (hal:acc.length≤500)
  (hm:at9 s[pos].toNat=true):Calls Tryz.prog 27 #[.pointer (some ⟨g,0,none⟩)] w (aA7 g s pos acc w):=by
 obtain⟨hk,hn,h97,h48,h58⟩:=bk_ hp hm
 have hgl:=C.lt
 have HI:=fun q=>qb (am9.init C ho q ⟨0,⟨#[]⟩,0,pos⟩)
 obtain⟨ao,cap,rfl⟩:=aq_ ho
 obtain⟨c0,c1,c2,f1,f2⟩:=C
 clear ho
 obtain⟨t,ht⟩:∃ t,t=s.extract pos (pos+1):=⟨_,rfl⟩
 obtain⟨c,hc⟩:∃ c:Nat,c=s[pos].toNat:=⟨_,rfl⟩
 have hb8:c<256:=by rw[hc];exact s[pos].toNat_lt
 have hix:∀ wx:World,(Instr.index 9 (.string s) (.int .i64 (pos:Int))).run Tryz.prog wx=.ok (.int .u8 (c:Int)) wx:=fun wx=>by
  rw[hc];exact ah4 Tryz.underlying9 s pos hp wx
 have hsl:∀ wx:World,(Instr.slice 9 (.string s) (some (.int .i64 (pos:Int))) (some (.int .i64 ((pos:Int)+1))) none).run Tryz.prog wx=.ok (.string t) wx:=fun wx=>by
  rw[run_slice_string (P:=Tryz.prog) (w:=wx) 9 s .i64 .i64 pos ((pos:Int)+1) Tryz.underlying9 (by omega) (by omega) (by omega),ht]
  congr 3
 rw[←hc]at hm h97 h48 h58
 have CM:=fun w=>qb (aE3 c w hb8)
 rw[hm]at CM
 have hwr:IntKind.i64.wrap ((pos:Int)+1)=(pos:Int)+1:=IntWalk.i64_in _ (by omega)
 have h97':¬ (97:Int)≤(c:Int):=by omega
 have h58':((c:Int) == 58)=false:=by simp;omega
 have h58d:decide (c=58)=false:=by simp;omega
 have HSG:Hid ((⟨3,t,0,pos⟩:Sg)=sgOf s pos):=by show _=_;rw[sgOf,hk,hn,←ht];rfl
 have HF:Hid (al8 (ag3 (rest s pos)) (ab0 (rest s pos))=true):=by show _=_;rw[hk];rfl
 have HNN:=qb hn
 have HX:∀ q,Hid (am9 g w.heap.size s (pos+1) (.slice ao acc.length cap) acc ⟨3,t,0,pos⟩ w (((((w.alloc (.cells #[.int .i64 0,.string ⟨#[]⟩,.int .i64 0,.int .i64 pos] 48)).drewN q).setCell ⟨w.heap.size,0,none⟩ (.int .i64 3)).setCell ⟨w.heap.size,1,none⟩ (.string t)).drew.setCell ⟨g,1,none⟩ (.int .i64 ((pos:Int)+1)))):=fun q =>
  ((((HI q).out.setX 0 (.int .i64 3) ((HI q).out.x.set0 3)).setX 1 (.string t) (((HI q).out.setX 0 (.int .i64 3) ((HI q).out.x.set0 3)).x.set1 t)).drew1).setPos (pos+1)
 clear hk hn ht hc hm
 have main:(c<48∨57<c):=by omega
 clear h48 h97 h58 hb8
 rcases main with h48|h57
 ·have h48':¬ (48:Int)≤(c:Int):=by omega
  by_cases h500:acc.length<500
  ·have h5':¬ (500:Int)≤(acc.length:Int):=by omega
   go_enter Tryz.func27,Tryz.ntmps27
   go_wp2
   go_quiet (fail)
   go_wp2
   go_quiet (fail)
   go_wp2_with (go_at_call 59;refine(qa (CM _)).mono ?_;rintro e w1⟨rfl,rfl⟩)
   go_region
   go_wp2
   refine aA6 (S:=fun W3=>am9 g w.heap.size s (pos+ab0 (rest s pos)) (.slice ao acc.length cap) acc (sgOf s pos) w W3) ?_ ?_
   ·rw[←HSG.out,HNN.out];exact(HX _).out
   intro W3 h3
   have H3:=qb h3
   clear h3 HX HI c0 c1 c2 f1 f2 hix hsl CM hwr
   have x0:W3.cell? { block:=w.heap.size,off:=0 }=some (.int .i64 3):=by have:=H3.out.x.1;rw[←HSG.out]at this;exact this
   have x1:W3.cell? { block:=w.heap.size,off:=1 }=some (.string t):=by have:=H3.out.x.2.1;rw[←HSG.out]at this;exact this
   have x2:W3.cell? { block:=w.heap.size,off:=2 }=some (.int .i64 0):=by have:=H3.out.x.2.2.1;rw[←HSG.out]at this;exact this
   have x3:W3.cell? { block:=w.heap.size,off:=3 }=some (.int .i64 pos):=by have:=H3.out.x.2.2.2;rw[←HSG.out]at this;exact this
   have e2:W3.cell? { block:=g,off:=2 }=some (.slice ao acc.length cap):=H3.out.sc.c2
   have ef:W3.frozen? { block:=g,off:=2 }=false:=H3.out.sc.f2
   have hg3:g<W3.heap.size:=H3.out.sc.lt
   have hx3:w.heap.size<W3.heap.size:=H3.out.lt
   have ea:∀ o,(W3.alloc o).cell? { block:=g,off:=2 }=some (.slice ao acc.length cap):=fun o=>by rw[World.cell?_alloc_lt _ _ _ hg3];exact e2
   have fa:∀ o,(W3.alloc o).frozen? { block:=g,off:=2 }=false:=fun o=>by rw[World.frozen?_alloc_past _ _ _ hg3];exact ef
   have HOa:Hid (((W3.alloc (.cells #[.int .i64 3,.string t,.int .i64 0,.int .i64 pos] 48)).drew).ownsRow (g+1) 48 4 (.slice ao acc.length cap) acc.length (ac7 acc)):=H3.out.own.alloc _
   have HNa:Hid (ah3 ((W3.alloc (.cells #[.int .i64 3,.string t,.int .i64 0,.int .i64 pos] 48)).drew) ⟨W3.heap.size,0,none⟩ ⟨3,t,0,pos⟩):=ah3.new W3 ⟨3,t,0,pos⟩ _
   go_region_law (refine au9 rfl (.tmp 144) (.tmp 146) 32 rfl (g+1) 48 _ 40 Tryz.underlying32 av3 rfl (.slice ao acc.length cap) acc.length (ac7 acc) rfl (qa HOa) ⟨W3.heap.size,0,none⟩ ⟨3,t,0,pos⟩ rfl (qa HNa) (by unfold maxLen;omega) (by omega) (by simp;omega) ?_;intro v' w4 hown4 hb4;have k2:=(hb4.cell (p:=⟨g,2,none⟩) (Nat.lt_succ_self g)).trans (ea _);have k3:=(hb4.frozen (p:=⟨g,2,none⟩) (Nat.lt_succ_self g)).trans (fa _);have ⟨ao4,cap4,hv4⟩:=aq_ hown4;subst hv4)
   all_goals
    rw[HSG.out]at hown4
    have HE:=fun q=>qb (H3.out.put (Below.drew (bal _ _)) HF.out h500 hown4 hb4 q)
    go_wp2
    go_ret
    exact(HE 0).out
  ·have h5':(500:Int)≤(acc.length:Int):=by omega
   go_enter Tryz.func27,Tryz.ntmps27
   go_wp2
   go_quiet (fail)
   go_wp2
   go_quiet (fail)
   go_wp2_with (go_at_call 59;refine(qa (CM _)).mono ?_;rintro e w1⟨rfl,rfl⟩)
   go_region
   go_wp2
   go_ret
   exact(HX _).out.stop (.inr h500)
 ·have h57':¬ (c:Int)≤57:=by omega
  have h48':(48:Int)≤(c:Int):=by omega
  by_cases h500:acc.length<500
  ·have h5':¬ (500:Int)≤(acc.length:Int):=by omega
   go_enter Tryz.func27,Tryz.ntmps27
   go_wp2
   go_quiet (fail)
   go_wp2
   go_quiet (fail)
   go_wp2_with (go_at_call 59;refine(qa (CM _)).mono ?_;rintro e w1⟨rfl,rfl⟩)
   go_region
   go_wp2
   refine aA6 (S:=fun W3=>am9 g w.heap.size s (pos+ab0 (rest s pos)) (.slice ao acc.length cap) acc (sgOf s pos) w W3) ?_ ?_
   ·rw[←HSG.out,HNN.out];exact(HX _).out
   intro W3 h3
   have H3:=qb h3
   clear h3 HX HI c0 c1 c2 f1 f2 hix hsl CM hwr
   have x0:W3.cell? { block:=w.heap.size,off:=0 }=some (.int .i64 3):=by have:=H3.out.x.1;rw[←HSG.out]at this;exact this
   have x1:W3.cell? { block:=w.heap.size,off:=1 }=some (.string t):=by have:=H3.out.x.2.1;rw[←HSG.out]at this;exact this
   have x2:W3.cell? { block:=w.heap.size,off:=2 }=some (.int .i64 0):=by have:=H3.out.x.2.2.1;rw[←HSG.out]at this;exact this
   have x3:W3.cell? { block:=w.heap.size,off:=3 }=some (.int .i64 pos):=by have:=H3.out.x.2.2.2;rw[←HSG.out]at this;exact this
   have e2:W3.cell? { block:=g,off:=2 }=some (.slice ao acc.length cap):=H3.out.sc.c2
   have ef:W3.frozen? { block:=g,off:=2 }=false:=H3.out.sc.f2
   have hg3:g<W3.heap.size:=H3.out.sc.lt
   have hx3:w.heap.size<W3.heap.size:=H3.out.lt
   have ea:∀ o,(W3.alloc o).cell? { block:=g,off:=2 }=some (.slice ao acc.length cap):=fun o=>by rw[World.cell?_alloc_lt _ _ _ hg3];exact e2
   have fa:∀ o,(W3.alloc o).frozen? { block:=g,off:=2 }=false:=fun o=>by rw[World.frozen?_alloc_past _ _ _ hg3];exact ef
   have HOa:Hid (((W3.alloc (.cells #[.int .i64 3,.string t,.int .i64 0,.int .i64 pos] 48)).drew).ownsRow (g+1) 48 4 (.slice ao acc.length cap) acc.length (ac7 acc)):=H3.out.own.alloc _
   have HNa:Hid (ah3 ((W3.alloc (.cells #[.int .i64 3,.string t,.int .i64 0,.int .i64 pos] 48)).drew) ⟨W3.heap.size,0,none⟩ ⟨3,t,0,pos⟩):=ah3.new W3 ⟨3,t,0,pos⟩ _
   go_region_law (refine au9 rfl (.tmp 144) (.tmp 146) 32 rfl (g+1) 48 _ 40 Tryz.underlying32 av3 rfl (.slice ao acc.length cap) acc.length (ac7 acc) rfl (qa HOa) ⟨W3.heap.size,0,none⟩ ⟨3,t,0,pos⟩ rfl (qa HNa) (by unfold maxLen;omega) (by omega) (by simp;omega) ?_;intro v' w4 hown4 hb4;have k2:=(hb4.cell (p:=⟨g,2,none⟩) (Nat.lt_succ_self g)).trans (ea _);have k3:=(hb4.frozen (p:=⟨g,2,none⟩) (Nat.lt_succ_self g)).trans (fa _);have ⟨ao4,cap4,hv4⟩:=aq_ hown4;subst hv4)
   all_goals
    rw[HSG.out]at hown4
    have HE:=fun q=>qb (H3.out.put (Below.drew (bal _ _)) HF.out h500 hown4 hb4 q)
    go_wp2
    go_ret
    exact(HE 0).out
  ·have h5':(500:Int)≤(acc.length:Int):=by omega
   go_enter Tryz.func27,Tryz.ntmps27
   go_wp2
   go_quiet (fail)
   go_wp2
   go_quiet (fail)
   go_wp2_with (go_at_call 59;refine(qa (CM _)).mono ?_;rintro e w1⟨rfl,rfl⟩)
   go_region
   go_wp2
   go_ret
   exact(HX _).out.stop (.inr h500)
theorem one_none (g:Nat) (s:ByteArray) (pos:Nat) (v:Value) (acc:List Sg) (w:World) (hs:s.size≤1500) (hp:pos<s.size) (C:ScAt w g s pos v) (ho:w.ownsRow (g+1) 48 4 v acc.length (ac7 acc))
  (h1:af4 s[pos].toNat=false) (h2:s[pos].toNat≠35) (h3:ab3 s[pos].toNat=false) (h4:ad0 s[pos].toNat=false) (h5:¬ (s[pos].toNat=58∧(rest s (pos+1)).head?.map UInt8.toNat=some 61)) (h6:at9 s[pos].toNat=false):Calls Tryz.prog 27 #[.pointer (some ⟨g,0,none⟩)] w (aA7 g s pos acc w):=by
 have HF:=qb (bk2 hp h1 h2 h3 h4 h5 h6)
 have hgl:=C.lt
 have HI:=fun q=>qb (am9.init C ho q ⟨0,⟨#[]⟩,0,pos⟩)
 obtain⟨c0,c1,c2,f1,f2⟩:=C
 clear ho h1 h2
 obtain⟨c,hc⟩:∃ c:Nat,c=s[pos].toNat:=⟨_,rfl⟩
 have hb8:c<256:=by rw[hc];exact s[pos].toNat_lt
 have hix:∀ wx:World,(Instr.index 9 (.string s) (.int .i64 (pos:Int))).run Tryz.prog wx=.ok (.int .u8 (c:Int)) wx:=fun wx=>by
  rw[hc];exact ah4 Tryz.underlying9 s pos hp wx
 rw[←hc]at h3 h4 h5 h6
 have CM:=fun w=>qb (aE3 c w hb8)
 rw[h6]at CM
 have hwr:IntKind.i64.wrap ((pos:Int)+1)=(pos:Int)+1:=IntWalk.i64_in _ (by omega)
 clear hc h6
 by_cases h58:c=58
 ·subst h58
  clear h3 h4 hb8
  by_cases hp1:pos+1<s.size
  ·obtain⟨c',hc'⟩:∃ c':Nat,c'=s[pos+1].toNat:=⟨_,rfl⟩
   have h61:c'≠61:=fun e=>h5 ⟨rfl,by rw[ad7 s _ hp1];simp[←hc',e]⟩
   have hix1:∀ wx:World,(Instr.index 9 (.string s) (.int .i64 ((pos:Int)+1))).run Tryz.prog wx=.ok (.int .u8 (c':Int)) wx:=fun wx=>by
    rw[hc'];exact ah4 Tryz.underlying9 s (pos+1) hp1 wx
   have hd1:decide ((pos:Int)+1<(s.size:Int))=true:=by simp;omega
   have hd2:decide (pos+1<s.size)=true:=by simp;omega
   have h61':((c':Int) == 61)=false:=by simp;omega
   have h61d:decide (c'=61)=false:=by simp;omega
   clear hc' h5 h61
   go_enter Tryz.func27,Tryz.ntmps27
   go_wp2
   go_quiet (fail)
   go_wp2
   go_quiet (fail)
   go_wp2_with (go_at_call 59;refine(qa (CM _)).mono ?_;rintro e w1⟨rfl,rfl⟩)
   go_ret
   exact(HI _).out.stop (.inl HF.out)
  ·have hd1:decide ((pos:Int)+1<(s.size:Int))=false:=by simp;omega
   have hd2:decide (pos+1<s.size)=false:=by simp;omega
   clear h5 hp1
   go_enter Tryz.func27,Tryz.ntmps27
   go_wp2
   go_quiet (fail)
   go_wp2
   go_quiet (fail)
   go_wp2_with (go_at_call 59;refine(qa (CM _)).mono ?_;rintro e w1⟨rfl,rfl⟩)
   go_ret
   exact(HI _).out.stop (.inl HF.out)
 ·have h58':((c:Int) == 58)=false:=by simp;omega
  have h58d:decide (c=58)=false:=by simp;omega
  clear h5
  simp only[ab3,ad0,decide_eq_false_iff_not]at h3 h4
  have main:(c<48∨57<c∧c<97∨122<c):=by omega
  clear h3 h4 h58 hb8
  rcases main with h48|⟨h57,h97⟩|h122
  ·have h48':¬ (48:Int)≤(c:Int):=by omega
   have h97':¬ (97:Int)≤(c:Int):=by omega
   go_enter Tryz.func27,Tryz.ntmps27
   go_wp2
   go_quiet (fail)
   go_wp2
   go_quiet (fail)
   go_wp2_with (go_at_call 59;refine(qa (CM _)).mono ?_;rintro e w1⟨rfl,rfl⟩)
   go_ret
   exact(HI _).out.stop (.inl HF.out)
  ·have h48':(48:Int)≤(c:Int):=by omega
   have h57':¬ (c:Int)≤57:=by omega
   have h97':¬ (97:Int)≤(c:Int):=by omega
   go_enter Tryz.func27,Tryz.ntmps27
   go_wp2
   go_quiet (fail)
   go_wp2
   go_quiet (fail)
   go_wp2_with (go_at_call 59;refine(qa (CM _)).mono ?_;rintro e w1⟨rfl,rfl⟩)
   go_ret
   exact(HI _).out.stop (.inl HF.out)
  ·have h48':(48:Int)≤(c:Int):=by omega
   have h57':¬ (c:Int)≤57:=by omega
   have h97':(97:Int)≤(c:Int):=by omega
   have h122':¬ (c:Int)≤122:=by omega
   go_enter Tryz.func27,Tryz.ntmps27
   go_wp2
   go_quiet (fail)
   go_wp2
   go_quiet (fail)
   go_wp2_with (go_at_call 59;refine(qa (CM _)).mono ?_;rintro e w1⟨rfl,rfl⟩)
   go_ret
   exact(HI _).out.stop (.inl HF.out)
theorem one_any (g:Nat) (s:ByteArray) (pos:Nat) (v:Value) (acc:List Sg) (w:World) (hs:s.size≤1500) (hp:pos<s.size) (C:ScAt w g s pos v) (ho:w.ownsRow (g+1) 48 4 v acc.length (ac7 acc)) (hal:acc.length≤500)
  (h1:af4 s[pos].toNat=false) (h2:s[pos].toNat≠35):Calls Tryz.prog 27 #[.pointer (some ⟨g,0,none⟩)] w (aA7 g s pos acc w):=by
 cases h3:ab3 s[pos].toNat with
 | true=>exact be2 g s pos v acc w hs hp C ho hal h3
 | false =>
  cases h4:ad0 s[pos].toNat with
  | true=>exact be1 g s pos v acc w hs hp C ho hal h4
  | false =>
   by_cases h5:s[pos].toNat=58∧(rest s (pos+1)).head?.map UInt8.toNat=some 61
   ·obtain⟨h58,h61⟩:=h5
    by_cases hp1:pos+1<s.size
    ·rw[ad7 s _ hp1]at h61
     exact one_set g s pos v acc w hs hp C ho hal hp1 h58 (by simpa using h61)
    ·rw[ba4 s _ hp1]at h61
     simp at h61
   ·cases h6:at9 s[pos].toNat with
    | true=>exact one_mark g s pos v acc w hs hp C ho hal h6
    | false=>exact one_none g s pos v acc w hs hp C ho h1 h2 h3 h4 h5 h6
open Go.Shelf Go.RowKit
def Tryz.lays119_ren:Go.Shelf.Ren:=⟨fun|119=>118|n=>n,fun|21=>21|4=>4|n=>n,fun|n=>n⟩
theorem Tryz.lays119:Go.Proofs.Lays.n119 Tryz.prog Tryz.lays119_ren:={
 mixed:=by kernel_rfl
 f119:=Tryz.func118.trans (congrArg some (by kernel_rfl))
 t4:=Tryz.underlying4
 a4:=Tryz.isAgg4
 z4:=Tryz.sizeOf4
 v4:=Tryz.zeroValue4
 t21:=Tryz.underlying21
 a21:=Tryz.isAgg21
 z21:=Tryz.sizeOf21
 v21:=Tryz.zeroValue21 }
theorem Tryz.utf8_ValidRune (r:Int) (w:World) :
  Calls Tryz.prog 118 #[.int .i32 r] w fun e w'=>e=.returned (.bool (Lib.validRune r))∧w'=w:=Any.utf8_ValidRune Tryz.lays119 r w
def Tryz.lays137_ren:Go.Shelf.Ren:=⟨fun|137=>117|217=>130|266=>137|n=>n,fun|9=>9|5=>5|3=>3|n=>n,fun|n=>n⟩
theorem Tryz.lays137:Go.Proofs.Lays.n137 Tryz.prog Tryz.lays137_ren:={
 mixed:=by kernel_rfl
 f137:=Tryz.func117.trans (congrArg some (by kernel_rfl))
 f217:=Tryz.func130.trans (congrArg some (by kernel_rfl))
 f266:=Tryz.func137.trans (congrArg some (by kernel_rfl))
 t3:=Tryz.underlying3
 a3:=Tryz.isAgg3
 z3:=Tryz.sizeOf3
 v3:=Tryz.zeroValue3
 t5:=Tryz.underlying5
 a5:=Tryz.isAgg5
 z5:=Tryz.sizeOf5
 v5:=Tryz.zeroValue5
 t9:=Tryz.underlying9
 a9:=Tryz.isAgg9
 z9:=Tryz.sizeOf9
 v9:=Tryz.zeroValue9 }
open Go.RowKit in
theorem Tryz.strings_IndexByte (s:ByteArray) (c:Int) (w:World) :
  Calls Tryz.prog 117 #[.string s,.int .u8 c] w fun e w'=>e=.returned (.int .i64 (Lib.indexByte s.data.toList c.toNat.toUInt8))∧w'=w:=Any.strings_IndexByte Tryz.lays137 s c w
def Tryz.laysM316_ren:Go.Shelf.Ren:=⟨fun|316=>73|n=>n,fun|9=>9|3=>3|4=>4|37=>105|0=>0|127=>108|5=>5|n=>n,fun|n=>n⟩
theorem Tryz.laysM316:Go.Proofs.LaysM.n316 Tryz.prog Tryz.laysM316_ren:={
 mixed:=by kernel_rfl
 f316:=Tryz.func73.trans (congrArg some (by kernel_rfl))
 t0:=Tryz.underlying0
 a0:=Tryz.isAgg0
 z0:=Tryz.sizeOf0
 v0:=Tryz.zeroValue0
 t3:=Tryz.underlying3
 a3:=Tryz.isAgg3
 z3:=Tryz.sizeOf3
 v3:=Tryz.zeroValue3
 t4:=Tryz.underlying4
 a4:=Tryz.isAgg4
 z4:=Tryz.sizeOf4
 v4:=Tryz.zeroValue4
 t9:=Tryz.underlying9
 a9:=Tryz.isAgg9
 z9:=Tryz.sizeOf9
 v9:=Tryz.zeroValue9
 t37:=Tryz.underlying105
 a37:=Tryz.isAgg105
 z37:=Tryz.sizeOf105
 v37:=Tryz.zeroValue105
 t127:=Tryz.underlying108
 a127:=Tryz.isAgg108
 z127:=Tryz.sizeOf108
 v127:=Tryz.zeroValue108
 t5:=Tryz.underlying5
 a5:=Tryz.isAgg5
 z5:=Tryz.sizeOf5
 v5:=Tryz.zeroValue5
 i0:=by kernel_rfl
 i3:=by kernel_rfl
 i4:=by kernel_rfl
 i5:=by kernel_rfl
 i9:=by kernel_rfl
 i37:=by kernel_rfl
 i127:=by kernel_rfl }
open Go.RowKit in
theorem Tryz.stringslite_Clone (s:ByteArray) (w:World) (hlim:s.size≤281474976710656) :
  Calls Tryz.prog 73 #[.string s] w fun e w'=>e=.returned (.string s)∧Below w.heap.size w w':=Any.stringslite_Clone Tryz.laysM316 s w hlim
def Tryz.lays99_ren:Go.Shelf.Ren:=⟨fun|99=>71|206=>94|n=>n,fun|9=>9|4=>4|3=>3|n=>n,fun|n=>n⟩
theorem Tryz.lays99:Go.Proofs.Lays.n99 Tryz.prog Tryz.lays99_ren:={
 mixed:=by kernel_rfl
 f99:=Tryz.func71.trans (congrArg some (by kernel_rfl))
 f206:=Tryz.func94.trans (congrArg some (by kernel_rfl))
 t3:=Tryz.underlying3
 a3:=Tryz.isAgg3
 z3:=Tryz.sizeOf3
 v3:=Tryz.zeroValue3
 t4:=Tryz.underlying4
 a4:=Tryz.isAgg4
 z4:=Tryz.sizeOf4
 v4:=Tryz.zeroValue4
 t9:=Tryz.underlying9
 a9:=Tryz.isAgg9
 z9:=Tryz.sizeOf9
 v9:=Tryz.zeroValue9 }
open Go.RowKit Go.Lib in
theorem Tryz.strings_HasPrefix (s p:ByteArray) (w:World) :
  Calls Tryz.prog 71 #[.string s,.string p] w fun e w'=>e=.returned (.bool (Lib.hasPrefix s.data.toList p.data.toList))∧w'=w:=Any.strings_HasPrefix Tryz.lays99 s p w
def Tryz.lays197_ren:Go.Shelf.Ren:=⟨fun|197=>65|260=>93|n=>n,fun|9=>9|21=>21|3=>3|4=>4|5=>5|105=>93|119=>122|0=>0|46=>123|139=>126|138=>125|n=>n,fun|3=>0|4=>1|n=>n⟩
theorem Tryz.lays197:Go.Proofs.Lays.n197 Tryz.prog Tryz.lays197_ren:={
 mixed:=by kernel_rfl
 f197:=Tryz.func65.trans (congrArg some (by kernel_rfl))
 f260:=Tryz.func93.trans (congrArg some (by kernel_rfl))
 t0:=Tryz.underlying0
 a0:=Tryz.isAgg0
 z0:=Tryz.sizeOf0
 v0:=Tryz.zeroValue0
 t3:=Tryz.underlying3
 a3:=Tryz.isAgg3
 z3:=Tryz.sizeOf3
 v3:=Tryz.zeroValue3
 t4:=Tryz.underlying4
 a4:=Tryz.isAgg4
 z4:=Tryz.sizeOf4
 v4:=Tryz.zeroValue4
 t5:=Tryz.underlying5
 a5:=Tryz.isAgg5
 z5:=Tryz.sizeOf5
 v5:=Tryz.zeroValue5
 t9:=Tryz.underlying9
 a9:=Tryz.isAgg9
 z9:=Tryz.sizeOf9
 v9:=Tryz.zeroValue9
 t21:=Tryz.underlying21
 a21:=Tryz.isAgg21
 z21:=Tryz.sizeOf21
 v21:=Tryz.zeroValue21
 t46:=Tryz.underlying123
 a46:=Tryz.isAgg123
 z46:=Tryz.sizeOf123
 v46:=Tryz.zeroValue123
 t105:=Tryz.underlying93
 a105:=Tryz.isAgg93
 z105:=Tryz.sizeOf93
 v105:=Tryz.zeroValue93
 t119:=Tryz.underlying122
 a119:=Tryz.isAgg122
 z119:=Tryz.sizeOf122
 t138:=Tryz.underlying125
 a138:=Tryz.isAgg125
 z138:=Tryz.sizeOf125
 v138:=Tryz.zeroValue125
 t139:=Tryz.underlying126
 a139:=Tryz.isAgg126
 z139:=Tryz.sizeOf126
 v139:=Tryz.zeroValue126
 g3:=by kernel_rfl
 g4:=by kernel_rfl }
def Tryz.lays151_ren:Go.Shelf.Ren:=⟨fun|151=>72|152=>95|137=>117|119=>118|224=>119|225=>120|217=>130|266=>137|n=>n,fun|9=>9|21=>21|4=>4|3=>3|5=>5|0=>0|46=>123|n=>n,fun|n=>n⟩
theorem Tryz.lays151:Go.Proofs.Lays.n151 Tryz.prog Tryz.lays151_ren:={
 mixed:=by kernel_rfl
 f119:=Tryz.func118.trans (congrArg some (by kernel_rfl))
 f137:=Tryz.func117.trans (congrArg some (by kernel_rfl))
 f151:=Tryz.func72.trans (congrArg some (by kernel_rfl))
 f152:=Tryz.func95.trans (congrArg some (by kernel_rfl))
 f217:=Tryz.func130.trans (congrArg some (by kernel_rfl))
 f224:=Tryz.func119.trans (congrArg some (by kernel_rfl))
 f225:=Tryz.func120.trans (congrArg some (by kernel_rfl))
 f266:=Tryz.func137.trans (congrArg some (by kernel_rfl))
 t0:=Tryz.underlying0
 a0:=Tryz.isAgg0
 z0:=Tryz.sizeOf0
 v0:=Tryz.zeroValue0
 t3:=Tryz.underlying3
 a3:=Tryz.isAgg3
 z3:=Tryz.sizeOf3
 v3:=Tryz.zeroValue3
 t4:=Tryz.underlying4
 a4:=Tryz.isAgg4
 z4:=Tryz.sizeOf4
 v4:=Tryz.zeroValue4
 t5:=Tryz.underlying5
 a5:=Tryz.isAgg5
 z5:=Tryz.sizeOf5
 v5:=Tryz.zeroValue5
 t9:=Tryz.underlying9
 a9:=Tryz.isAgg9
 z9:=Tryz.sizeOf9
 v9:=Tryz.zeroValue9
 t21:=Tryz.underlying21
 a21:=Tryz.isAgg21
 z21:=Tryz.sizeOf21
 v21:=Tryz.zeroValue21
 t46:=Tryz.underlying123
 a46:=Tryz.isAgg123
 z46:=Tryz.sizeOf123
 v46:=Tryz.zeroValue123 }
open Go.RowKit Go.Lib in
theorem Tryz.strings_ContainsRune_ascii (s:ByteArray) (r:Int) (w:World) (h0:0≤r) (h1:r<128) :
  Calls Tryz.prog 72 #[.string s,.int .i32 r] w fun e w'=>e=.returned (.bool (decide (0≤Lib.indexByte s.data.toList r.toNat.toUInt8)))∧w'=w:=Any.strings_ContainsRune_ascii Tryz.lays151 s r w h0 h1
open Go.RowKit Go.Lib in
theorem Tryz.utf8_DecodeRuneInString (s:ByteArray) (w:World) (hT:Lib.Utf8Tabs 0 1 w) :
  Calls Tryz.prog 65 #[.string s] w fun e w'=>e=.returned (.tuple #[.int .i32 (Lib.decodeGo s).1,.int .i64 (Lib.decodeGo s).2])∧Below w.heap.size w w':=Any.utf8_DecodeRuneInString Tryz.lays197 s w hT
abbrev aj6:ByteArray:=⟨#[59,44,46,40,41,43,45,42,47,37,60,61]⟩
theorem aw3 (c:UInt8):∀ (l:List UInt8),(∀ b∈l,b≠c)→Lib.indexByte l c = -1
 | [],_=>rfl
 | b :: l,h=>by
  have hb:(b == c)=false:=by simpa using h b (by simp)
  rw[Lib.indexByte,hb,aw3 c l (fun x hx=>h x (by simp[hx]))]
  rfl
theorem aI6:∀ b∈aj6.data.toList,b.toNat<128:=by decide
theorem aP7 (k:Nat) (h:k<12):∃ c:Nat,c<128∧aj6[k]'h=(c.toUInt8)∧(aj6[k]'h).toNat=c:=by
 have hm:aj6[k]'h∈aj6.data.toList:=by
  have:aj6[k]'h=aj6.data.toList[k]'(by simpa using h):=rfl
  rw[this];exact List.getElem_mem _
 exact⟨(aj6[k]'h).toNat,aI6 _ hm,by simp,rfl⟩
theorem aH4 (r:Nat) (w:World) (h:128≤r) (h2:r≤1114111) (hv:Lib.validRune (r:Int)=true) (hne:r≠65533) :
  Calls Tryz.prog 95 #[.string aj6,.int .i32 (r:Int)] w fun e w'=>e=.returned (.int .i64 (-1))∧Below w.heap.size w w':=by
 have h1:¬ ((r:Int)<128):=by omega
 have h3:((r:Int) == 65533)=false:=by simp;omega
 have CV:=fun w=>qb (Tryz.utf8_ValidRune (r:Int) w)
 rw[hv]at CV
 have hv2:Utf8.valid (r:Int)=true:=by rw[validRune_eq];exact hv
 obtain⟨e1,e2,e3⟩:=encode_facts (r:Int) hv2 (by omega)
 obtain⟨rs,hrs⟩:∃ rs,Utf8.encode (r:Int)=rs:=⟨_,rfl⟩
 rw[hrs]at e1 e2
 simp only[hrs]at e3
 obtain⟨m,hm⟩:∃ m,m=rs.size-1:=⟨_,rfl⟩
 have hms:(rs.size:Int)-1=(m:Int):=by omega
 have hm3:m<12:=by omega
 have hml:m<rs.size:=by omega
 have hc2:128≤rs[m].toNat:=by
  have:=e3 (by omega)
  simpa only[hm] using this
 obtain⟨c1,hc1,hc1u,hc1e⟩:=aP7 m hm3
 obtain⟨c2,hc2e⟩:∃ c2:Nat,c2=rs[m].toNat:=⟨_,rfl⟩
 have hix1:∀ wx:World,(Instr.index 9 (.string aj6) (.int .i64 (m:Int))).run Tryz.prog wx=.ok (.int .u8 (c1:Int)) wx:=fun wx=>by
  rw[←hc1e];exact ah4 Tryz.underlying9 aj6 m hm3 wx
 have hix2:∀ wx:World,(Instr.index 9 (.string rs) (.int .i64 (m:Int))).run Tryz.prog wx=.ok (.int .u8 (c2:Int)) wx:=fun wx=>by
  rw[hc2e];exact ah4 Tryz.underlying9 rs m hml wx
 have hb8:c2<256:=by rw[hc2e];exact rs[m].toNat_lt
 have hlt:((m:Int)<12):=by omega
 have hneq:((c1:Int) == (c2:Int))=false:=by simp;omega
 have hsl:∀ wx:World,(Instr.slice 9 (.string aj6) (some (.int .i64 ((m:Int)+1))) none none).run Tryz.prog wx=.ok (.string (aj6.extract (m+1) 12)) wx:=fun wx=>by
  rw[run_slice_string_from_if wx 9 aj6 .i64 ((m:Int)+1) Tryz.underlying9,if_pos ⟨by omega,by show _≤((12:Nat):Int);omega⟩]
  rfl
 have hwr:IntKind.i64.wrap ((m:Int)+1)=(m:Int)+1:=IntWalk.i64_in _ (by omega)
 have hwr2:wrap64 ((m:Int)+1)=(m:Int)+1:=IntWalk.wrap64_in _ (by omega)
 have CB:=fun w=>qb (Tryz.strings_IndexByte (aj6.extract (m+1) 12) (c2:Int) w)
 rw[aw3 _ _ (fun b hb hbc=>by
  have:=aI6 b (mem_extract hb)
  rw[hbc]at this
  have e4:((c2:Int).toNat.toUInt8).toNat=c2:=by simp;omega
  omega)]at CB
 clear e1 e2 e3 hv hv2 hc2 hm hc2e hc1e h2 hne h hc1u
 go_enter Tryz.func95,Tryz.ntmps95
 go_wp2_with (go_at_call 118;refine(qa (CV _)).mono ?_;rintro e w1⟨rfl,rfl⟩)
 clear h1 h3 CV
 go_step3
 go_wp2
 refine wp_loop_rounds 1 ?_
 rw[rounds_succ]
 go_wp2
 go_step3
 go_wp2
 go_quiet (fail)
 clear hrs hms hm3 hml hc1 hb8
 go_wp2
 go_region_held3 (fun _=>True) (trivial) ((go_at_call 117;refine(qa (CB _)).mono ?_;rintro e w2⟨rfl,rfl⟩))
 all_goals
  go_wp2
  simp only[Exit.noGoto_ret,Exit.inBlock,Exit.then]
  go_ret
  exact⟨rfl,by first|exact below_drewN (below_drewN (Below.refl _ _) _) _|exact Below.drew (below_drewN (Below.refl _ _) _)⟩
theorem aE1 (w:World):Calls Tryz.prog 95 #[.string aj6,.int .i32 65533] w fun e w'=>e=.returned (.int .i64 (-1))∧Below w.heap.size w w':=by
 go_enter Tryz.func95,Tryz.ntmps95
 go_wp2
 go_loopw [5] (fun _ wr=>∃ pos:Nat,wr=w.iter aj6 pos∧pos≤12) (fun _ wr=>12-wr.iterPos w.heap.size)
 case atStart=>exact⟨0,rfl,by omega⟩
 case round =>
  obtain⟨pos,rfl,hps⟩:=hrel
  by_cases hp:pos<12
  ·obtain⟨c,hc,_,hce⟩:=aP7 pos hp
   have hnx:∀ ty,(Instr.next (.pointer (some ⟨w.heap.size,0,none⟩)) true ty).run Tryz.prog (w.iter aj6 pos)=.ok (.tuple #[.bool true,.int .i64 pos,.int .i32 c]) (w.iter aj6 (pos+1)):=fun ty=>by
    rw[←hce];exact run_next_ascii w aj6 pos ty hp (by rw[hce];exact hc)
   have hne:((c:Int) == 65533)=false:=by simp;omega
   clear hce
   go_wp2
   go_roundw
   case rel=>exact⟨pos+1,rfl,by omega⟩
   case measure=>simp;omega
  ·have hnx:∀ ty,(Instr.next (.pointer (some ⟨w.heap.size,0,none⟩)) true ty).run Tryz.prog (w.iter aj6 pos)=_:=fun ty=>run_next_end w aj6 pos ty (by show ¬ pos<12;exact hp)
   go_wp2
   go_ret
   exact⟨rfl,bal _ _⟩
theorem az6 (r:Nat) (w:World) (h:128≤r) (h2:r≤1114111) (hv:Lib.validRune (r:Int)=true) :
  Calls Tryz.prog 72 #[.string aj6,.int .i32 (r:Int)] w fun e w'=>e=.returned (.bool false)∧Below w.heap.size w w':=by
 have CI:∀ w,Hid (Calls Tryz.prog 95 #[.string aj6,.int .i32 (r:Int)] w fun e w'=>e=.returned (.int .i64 (-1))∧Below w.heap.size w w'):=fun w=>by
  by_cases hr:r=65533
  ·subst hr;exact aE1 w
  ·exact aH4 r w h h2 hv hr
 clear h h2 hv
 go_enter Tryz.func72,Tryz.ntmps72
 go_wp2_with (go_at_call 95;refine(qa (CI _)).mono ?_;rintro e w1⟨rfl,hb1⟩)
 go_ret
 exact⟨rfl,hb1⟩
end Go.Proofs.YtcpapceeekkacaaGreatDoor
