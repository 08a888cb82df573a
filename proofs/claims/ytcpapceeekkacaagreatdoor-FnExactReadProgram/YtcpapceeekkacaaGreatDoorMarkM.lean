import Derived.OpenVars
import Derived.ChangeVars
import Derived.WalkKit
import Derived.Laws.BytesArg
import Derived.Laws.BytesString
import Derived.DataElems
import Derived.Laws.Cells
import Derived.Deep.MidRow
import Derived.Test.YtcpapceeekkacaaGreatDoorRows
import Derived.BigQuiet
import Derived.WalkSmall
import Derived.Deep.RegionHeld3
import Derived.Test.YtcpapceeekkacaaGreatDoorChecked
set_option maxRecDepth 100000
set_option maxHeartbeats 8000000
namespace Go.Proofs.YtcpapceeekkacaaGreatDoor
open Go.RowKit
theorem bal (w:World)(o:Obj):Below w.heap.size w (w.alloc o):=(Below.refl _ _).alloc (Nat.le_refl _) o
theorem chp {w:World}{b:Nat}{cs:Array Value}{T:TypeId}{fr:Nat×Nat}(hb:w.heap[b]?=some (.cells cs T fr))(j:Nat):w.cell? ⟨b,j,none⟩=cs[j]?:=Lib.cell_of_heap hb j
theorem fhp {w:World}{b:Nat}{cs:Array Value}{T:TypeId}(hb:w.heap[b]?=some (.cells cs T (0,0)))(j:Nat):w.frozen? ⟨b,j,none⟩=false:=Lib.frozen_of_heap hb j
theorem nlr (n:Nat):n≤n:=Nat.le_refl n
theorem nlt {a b c:Nat}(h:a≤b)(k:b≤c):a≤c:=Nat.le_trans h k
theorem nll {a b c:Nat}(h:a<b)(k:b≤c):a<c:=Nat.lt_of_lt_of_le h k
theorem aM7 {H:Type}{enc:TypeId×Value→H}{P:Program}{w:World}{sp:Nat→Bool}{n:String}{ns:List String}{gs:List (DataW H)}{ps:List MemPlace}(h:DataW.TrodVars enc P w sp (n :: ns) gs ps) :
  ∃ d ds q,gs=d :: ds∧DataW.TrodVars enc P w sp ns ds q:=by
 cases gs with
 | nil=>exact h.elim
 | cons d ds =>
  obtain⟨g,t,cs,fuel,p,q,h1,h2,h3,h4,hs,e⟩:=h
  exact⟨d,ds,q,rfl,hs⟩
open Go.RowKit
theorem qb {p:Prop}(h:p):Hid p:=h
theorem qa {p:Prop}(h:Hid p):p:=h
theorem ai4 {P:Program}{w:World}{ops:Array Oper}{rest:List Oper}{o:Oper}{a:Act}{Q:Exit→Act→World→Prop}(hgd:o.guard=none) (s x:Operand) (t:TypeId)
  (ho:o.op=.call { callee:=.builtin .append,args:=#[s,x],argTypes:=#[t,t] })
  (base:Nat) (e:TypeId) (z:Value) (bytes:Nat) (ht:P.underlying t=some (.slice e)) (hi:(P.info? e).map (fun i=>(i.zero,i.size,i.bytes))=some (some z,1,bytes)) (hzs:z.cells.size=1)
  (v:Value) (n:Nat) (xs:List Value) (u:Value) (hs:a.eval s=v) (hown:w.ownsRow base e 1 v n xs)
  (hx:a.eval x=.slice (some ⟨w.heap.size,0,none⟩) 1 1) (h1:u.oneCell'=true)
  (h63:n+1≤maxLen) (hbytes:(n+1)*bytes≤140737488355328) (hbase:base≤w.heap.size)
  (h:∀ v' w',w'.ownsRow base e 1 v' (n+1) (xs++[u])→Below base w w'→wpList P ops Q rest (a.put o.dst v') w'):wpList P ops Q (o :: rest) a (w.alloc (.cells #[u] e)):=by
 obtain⟨i,hi,hz0,hz1,hz2⟩:=info_parts hi
 refine wpList_append_own _ hgd s x t ho base e i z 1 bytes ht hi hz0 hz1 hz2 hzs (by decide) v n xs hs (hown.alloc _) ⟨w.heap.size,0,none⟩ 1 1 [u] hx rfl ?_ ?_ h63 hbytes ?_ ?_
 ·intro j q hj
  match j,hj with
  | 0,hj=>simp at hj;subst hj;simp[Addr.add]
  | j+1,hj=>simp at hj
 ·intro q hq;simp at hq;subst hq;exact h1
 ·simp;omega
 ·intro v' w' hown' hgrow _
  refine h v' w' hown' ?_
  exact((Below.refl base w).alloc hbase _).grown hgrow (by simp;omega) (fun j hj=>(hown.lt j hj).1)
theorem conv_own {P:Program}{w:World}{base:Nat}{v:Value}{n:Nat}{xs:List Int}(src dst e:TypeId) (hs:P.underlying src=some (.slice e)) (he:P.underlying e=some (.int .u8)) (hd:P.underlying dst=some .string)
  (hown:w.ownsRow base e 1 v n (xs.map (Value.int .u8))):(convert src dst v).run P w=.ok (.string (strOfNums xs)) w:=by
 have hl:xs.length=n:=by simpa using hown.1
 rcases hown.2 with⟨rfl,rfl⟩|⟨g,cap,cur,rfl,_,_,_,_,_,_⟩
 ·have:xs=[]:=List.length_eq_zero_iff.1 hl
  subst this
  rw[run_convert_bytes_nil w src e hs he 0 0 dst hd]
  rfl
 ·refine run_convert_bytes_arg w src e hs he g 0 n cap xs hl ?_ dst hd
  intro i hi
  have:=hown.cellAt i (by omega)
  rw[Nat.zero_add,this,List.getElem?_map,List.getD_eq_getElem?_getD,List.getElem?_eq_getElem (by omega)]
  rfl
theorem ak2 (w:World) (base:Nat) (e:TypeId) (hb:base≤w.heap.size):(w.alloc (.cells #[] e)).ownsRow base e 1 (.slice (some ⟨w.heap.size,0,none⟩) 0 0) 0 []:=by
 have:=World.ownsRow_made (base:=base) (e:=e) (size:=1) w #[] 0 hb (by simp[maxLen]) (by simp)
 simpa using this
theorem str_inj {x y:ByteArray}(h:x.toList=y.toList):x=y:=by
 rw[ByteArray.toList_eq,ByteArray.toList_eq]at h
 exact ByteArray.ext (Array.toList_inj.1 h)
theorem str_beq {x y:ByteArray}:(x.toList == y.toList)=true↔x=y:=by
 rw[beq_iff_eq]
 exact⟨str_inj,fun h=>by rw[h]⟩
structure Sg where
 kind:Int
 text:ByteArray
 num:Int
 place:Int
def Sg.cells (x:Sg):List Value:=[.int .i64 x.kind,.string x.text,.int .i64 x.num,.int .i64 x.place]
abbrev Sg.val (x:Sg):Value:=.agg #[.int .i64 x.kind,.string x.text,.int .i64 x.num,.int .i64 x.place]
def ac7 (xs:List Sg):List Value:=xs.flatMap Sg.cells
theorem aG_ (xs:List Sg):(ac7 xs).length=xs.length*4:=by
 induction xs with
 | nil=>rfl
 | cons x xs ih=>simp only[ac7,List.flatMap_cons,List.length_append,List.length_cons]at ih ⊢;rw[ih];simp[Sg.cells];omega
theorem aw4 (xs ys:List Sg):ac7 (xs++ys)=ac7 xs++ac7 ys:=by simp[ac7]
theorem aJ4:∀ (xs:List Sg) (j f:Nat) (h:j<xs.length),f<4→(ac7 xs)[j*4+f]? = xs[j].cells[f]?
 | x :: xs,0,f,h,hf=>by
  simp only[ac7,List.flatMap_cons]
  rw[List.getElem?_append_left (by simp[Sg.cells];omega)]
  simp
 | x :: xs,j+1,f,h,hf=>by
  simp only[ac7,List.flatMap_cons]
  rw[List.getElem?_append_right (by simp[Sg.cells];omega)]
  have:=aJ4 xs j f (by simpa using h) hf
  simp only[ac7]at this
  rw[show (j+1)*4+f-x.cells.length=j*4+f from by simp[Sg.cells];omega,this]
  rfl
def ah3 (w:World) (a:Addr) (x:Sg):Prop:=w.cell? a=some (.int .i64 x.kind)∧w.cell? (a.add 1)=some (.string x.text)∧w.cell? (a.add 2)=some (.int .i64 x.num)∧w.cell? (a.add 3)=some (.int .i64 x.place)
def SgAt (w:World) (v:Value) (xs:List Sg):Prop :=
 ∃ ao c,v=.slice ao xs.length c∧∀ j (h:j<xs.length),∃ a,ao=some a∧a.block<w.heap.size∧ah3 w (a.add (j*4)) xs[j]
theorem ah3.stays {B:Nat}{w w':World}{a:Addr}{x:Sg}(h:ah3 w a x) (hb:Below B w w') (ha:a.block<B):ah3 w' a x:=by
 have e:∀ n,(a.add n).block=a.block:=fun n=>by simp only[Addr.add];split <;> rfl
 obtain⟨h0,h1,h2,h3⟩:=h
 exact⟨(hb.cell ha).trans h0,(hb.cell (by rw[e];exact ha)).trans h1,(hb.cell (by rw[e];exact ha)).trans h2,(hb.cell (by rw[e];exact ha)).trans h3⟩
theorem SgAt.own {w:World}{base:Nat}{e:TypeId}{v:Value}{n:Nat}{xs:List Sg}(h:w.ownsRow base e 4 v n (ac7 xs)):SgAt w v xs∧xs.length=n:=by
 have hl:xs.length=n:=by
  have:=h.1;rw[aG_]at this;omega
 refine⟨?_,hl⟩
 rcases h.2 with⟨rfl,h0⟩|⟨g,cap,cur,rfl,_⟩
 ·exact⟨none,0,by rw[hl,h0],fun j hj=>by omega⟩
 ·refine⟨some ⟨g,0,none⟩,cap,by rw[hl],fun j hj=>⟨_,rfl,(h.lt g rfl).2,?_⟩⟩
  have hc:∀ f u,f<4→xs[j].cells[f]? = some u→w.cell? (((⟨g,0,none⟩:Addr).add (j*4)).add f)=some u:=fun f u hf hu=>by
   rw[Addr.add_add]
   exact h.cells rfl (j*4+f) u (by rw[aJ4 xs j f hj hf];exact hu)
  refine⟨?_,hc 1 _ (by omega) rfl,hc 2 _ (by omega) rfl,hc 3 _ (by omega) rfl⟩
  have:=hc 0 _ (by omega) rfl
  rwa [show (((⟨g,0,none⟩:Addr).add (j*4)).add 0)=(⟨g,0,none⟩:Addr).add (j*4) from by simp[Addr.add]]at this
theorem aD_ (a:Addr) (n:Nat):(a.add n).block=a.block:=by simp only[Addr.add];split <;> rfl
theorem ah3.facts {w:World}{a:Addr}{x:Sg}(h:ah3 w a x):w.cell? a=some (.int .i64 x.kind)∧w.cell? { block:=a.block,off:=a.off+1 }=some (.string x.text)∧w.cell? { block:=a.block,off:=a.off+2 }=some (.int .i64 x.num)∧w.cell? { block:=a.block,off:=a.off+3 }=some (.int .i64 x.place):=h
theorem ah3.new (w:World) (x:Sg) (e:TypeId):ah3 (w.alloc (.cells #[.int .i64 x.kind,.string x.text,.int .i64 x.num,.int .i64 x.place] e)) ⟨w.heap.size,0,none⟩ x:=by
 simp[ah3,Addr.add]
def decR (n:Nat):List Int:=if n=0 then [] else decR (n / 10)++[((48+n % 10:Nat):Int)]
theorem aD2:decR 0=[]:=by rw[decR,if_pos rfl]
theorem aZ8 {n:Nat}(h:0<n):decR n=decR (n / 10)++[((48+n % 10:Nat):Int)]:=by rw[decR,if_neg (by omega)]
theorem aZ7:∀ (k n:Nat),n<10 ^ k→(decR n).length≤k
 | 0,n,h=>by
  have:n=0:=by simp at h;exact h
  rw[this,aD2];simp
 | k+1,n,h=>by
  rcases Nat.eq_zero_or_pos n with h0|h0
  ·rw[h0,aD2];simp
  ·rw[aZ8 h0]
   have:=aZ7 k (n / 10) (by
    rw[Nat.div_lt_iff_lt_mul (by omega)]
    have e:10 ^ (k+1)=10 ^ k*10:=Nat.pow_succ ..
    omega)
   simp;omega
theorem ap8 {w w':World}{base B:Nat}{e:TypeId}{size:Nat}{v:Value}{n:Nat}{xs:List Value}(h:w.ownsRow base e size v n xs) (hb:Below B w w') (hlt:∀ k,v.ownBlock=some k→k<B):w'.ownsRow base e size v n xs:=by
 obtain⟨h1,h2⟩:=h
 refine⟨h1,?_⟩
 rcases h2 with h2|⟨g,cap,cur,rfl,hb1,hg,r⟩
 ·exact .inl h2
 ·exact .inr ⟨g,cap,cur,rfl,hb1,by rw[hb.block g (hlt g rfl)];exact hg,r⟩
theorem an1 {w w':World}{base:Nat}{e:TypeId}{size:Nat}{v:Value}{n:Nat}{xs:List Value}(h:w.ownsRow base e size v n xs) (hb:Below w.heap.size w w'):w'.ownsRow base e size v n xs :=
 ap8 h hb (fun k hk=>(h.lt k hk).2)
abbrev S (x:ByteArray):Value:=.string x
def am7 (k:Nat):ByteArray:=strOfNums (109 :: decR k)
theorem aw5 (x:Int) (t:List Int):strOfNums [x]++strOfNums t=strOfNums (x :: t):=by
 apply ByteArray.ext
 rw[ByteArray.data_append]
 apply Array.toList_inj.1
 rw[Array.toList_append,strOfNums_data,strOfNums_data,strOfNums_data]
 rfl
theorem conv_one (x:Int) (w:World):(convert 105 9 (.slice (some ⟨w.heap.size,0,none⟩) 1 1)).run Tryz.prog (w.alloc (.cells #[.int .u8 x] 5))=.ok (.string (strOfNums [x])) (w.alloc (.cells #[.int .u8 x] 5)):=by
 refine conv_own (base:=w.heap.size) (n:=1) 105 9 5 Tryz.underlying105 Tryz.underlying5 Tryz.underlying9 ?_
 exact World.ownsRow_lit w #[.int .u8 x] 1 (nlr _) (by unfold maxLen;omega) rfl
def aM9 (N:Nat) (of:Nat→Int) (w:World) (sv nv:Value) (wr:World):Prop :=
 ∃ (m:Nat) (tail:List Int),m≤N∧nv=.int .i64 (of m)∧sv=.string (strOfNums tail)∧Hid (decR m++tail=decR N)∧Below w.heap.size w wr
theorem aM9.step {N m:Nat}{tail:List Int}(hm:0<m) (h:decR m++tail=decR N):decR (m / 10)++(((48+m % 10:Nat):Int) :: tail)=decR N:=by
 rw[←h,aZ8 hm];simp
theorem aM9.short {N m:Nat}{tail:List Int}(hN:N≤9223372036854775808) (h:decR m++tail=decR N):(strOfNums tail).size≤20:=by
 rw[strOfNums_size]
 have h1:=aZ7 20 N (by omega)
 rw[←h,List.length_append]at h1
 omega
theorem aB0 (n:Nat) (w:World) (h0:0<n) (h1:n≤9223372036854775807) :
  Calls Tryz.prog 51 #[.int .i64 n] w fun e w'=>e=.returned (.string (am7 n))∧Below w.heap.size w w':=by
 have hb1:decide ((n:Int)≤0)=false:=by simp;omega
 go_enter Tryz.func51,Tryz.ntmps51
 go_wp2
 go_loopw [3,0] (fun sv nv wr=>aM9 n (fun m=>(m:Int)) w sv nv wr) (fun _ nv _=>(intOf nv).toNat)
 case atStart=>exact⟨n,[],nlr _,by simp,rfl,by simp[Hid],Below.refl _ _⟩
 case round =>
  obtain⟨m,tail,hm,rfl,rfl,HD,hb⟩:=hrel
  have hts:=aM9.short (by omega) HD.out
  obtain⟨t,ht⟩:∃ t,t=strOfNums tail:=⟨_,rfl⟩
  rw[←ht]at hts ⊢
  have HT:=qb ht
  clear ht
  have hsz:=hb.size
  rcases Nat.eq_zero_or_pos m with hm0|hm0
  ·have HF:Hid ((⟨#[109]⟩:ByteArray)++t=am7 n):=by
    show _=_
    rw[am7,←aw5,HT.out,←HD.out,hm0,aD2,List.nil_append]
    rfl
   have hm1:(m:Int)≤0:=by omega
   clear hm0
   go_wp2
   go_ret
   exact⟨by rw[←HF.out];rfl,hb⟩
  ·have hcv:=conv_one (48+(m:Int) % 10) wr
   have hx1:(strOfNums [48+(m:Int) % 10]).size≤1:=by rw[strOfNums_size];simp
   have HE:=qb (aw5 (48+(m:Int) % 10) tail)
   obtain⟨x,hx⟩:∃ x,x=strOfNums [48+(m:Int) % 10]:=⟨_,rfl⟩
   rw[←hx]at hcv hx1 HE
   have HX:=qb hx
   clear hx
   have hm1:(0:Int)<(m:Int):=by omega
   go_wp2
   go_roundw
   case rel =>
    refine⟨m / 10,((48+m % 10:Nat):Int) :: tail,by omega,by go_num,?_,aM9.step hm0 HD.out,hb.alloc hsz _⟩
    rw[HT.out,HE.out]
    simp
   case measure=>simp[intOf];omega
def aa6 (w:World) (v:Value) (xs:List Int):Prop :=
 ∃ ao c,v=.slice ao xs.length c∧∀ j (h:j<xs.length),∃ a,ao=some a∧a.block<w.heap.size∧w.cell? (a.add j)=some (.int .i64 xs[j])
structure Nd where
 kind:Int
 num:Int
 name:ByteArray
 more:ByteArray
 into:ByteArray
 kids:List Int
instance : Inhabited Nd:=⟨⟨0,0,ByteArray.empty,ByteArray.empty,ByteArray.empty,[]⟩⟩
structure aN0 (w:World) (a:Addr) (x:Nd) (kv:Value):Prop where
 c0:w.cell? a=some (.int .i64 x.kind)
 c1:w.cell? { block:=a.block,off:=a.off+1 }=some (.int .i64 x.num)
 c2:w.cell? { block:=a.block,off:=a.off+2 }=some (.string x.name)
 c3:w.cell? { block:=a.block,off:=a.off+3 }=some (.string x.more)
 c4:w.cell? { block:=a.block,off:=a.off+4 }=some (.string x.into)
 c5:w.cell? { block:=a.block,off:=a.off+5 }=some kv
 kids:aa6 w kv x.kids
def af7 (w:World) (v:Value) (xs:List Nd):Prop :=
 ∃ ao c,v=.slice ao xs.length c∧∀ j (h:j<xs.length),∃ a kv,ao=some a∧a.block<w.heap.size∧aN0 w (a.add (j*6)) xs[j] kv
theorem af_ (a:Addr) (n:Nat):(a.add n).block=a.block:=by simp only[Addr.add];split <;> rfl
theorem aa6.stays {w w':World}{v:Value}{xs:List Int}(h:aa6 w v xs) (hb:Below w.heap.size w w'):aa6 w' v xs:=by
 obtain⟨ao,c,rfl,hc⟩:=h
 refine⟨ao,c,rfl,fun j hj=>?_⟩
 obtain⟨a,rfl,ha,hx⟩:=hc j hj
 exact⟨a,rfl,nll ha hb.size,(hb.cell (by rw[af_];exact ha)).trans hx⟩
theorem aN0.stays {w w':World}{a:Addr}{x:Nd}{kv:Value}(h:aN0 w a x kv) (hb:Below w.heap.size w w') (ha:a.block<w.heap.size):aN0 w' a x kv :=
 ⟨(hb.cell ha).trans h.c0,(hb.cell (p:={ block:=a.block,off:=a.off+1 }) ha).trans h.c1,(hb.cell (p:={ block:=a.block,off:=a.off+2 }) ha).trans h.c2,(hb.cell (p:={ block:=a.block,off:=a.off+3 }) ha).trans h.c3,
  (hb.cell (p:={ block:=a.block,off:=a.off+4 }) ha).trans h.c4,(hb.cell (p:={ block:=a.block,off:=a.off+5 }) ha).trans h.c5,h.kids.stays hb⟩
theorem af7.stays {w w':World}{v:Value}{xs:List Nd}(h:af7 w v xs) (hb:Below w.heap.size w w'):af7 w' v xs:=by
 obtain⟨ao,c,rfl,hc⟩:=h
 refine⟨ao,c,rfl,fun j hj=>?_⟩
 obtain⟨a,kv,rfl,ha,hx⟩:=hc j hj
 exact⟨a,kv,rfl,nll ha hb.size,hx.stays hb (by rw[af_];exact ha)⟩
def inZ (lo hi x:Int):Bool:=decide (lo≤x∧x≤hi)
theorem ad5 {lo hi x:Int}:inZ lo hi x=true↔lo≤x∧x≤hi:=by simp[inZ]
theorem at4 {lo hi x:Int}:inZ lo hi x=false↔¬ (lo≤x∧x≤hi):=by rw[inZ,decide_eq_false_iff_not]
def ai1 (ns:List Nd) (k:Nat) (x:Int):Int:=if inZ 0 ((k:Int)-1) x then (ns.getD x.toNat default).kind else 0
def af8 (k:Int):Bool:=inZ 1 5 k
def aj4 (k:Int):Bool:=inZ 11 19 k
abbrev I64 (x:Int):Value:=.int .i64 x
theorem Tryz.infoInt:(Tryz.prog.info? 3).map (fun i=>(i.zero,i.size,i.bytes))=some (some (.int .i64 0),1,8):=by kernel_rfl
theorem ac8 {w w':World}{base:Nat}{e:TypeId}{size:Nat}{v:Value}{n:Nat}{xs:List Value}(h:w.ownsRow base e size v n xs) (hb:Below w.heap.size w w'):w'.ownsRow base e size v n xs:=by
 have hlt:=fun k hk=>(h.lt k hk).2
 obtain⟨h1,h2⟩:=h
 refine⟨h1,?_⟩
 rcases h2 with h2|⟨g,cap,cur,rfl,hb1,hg,r⟩
 ·exact .inl h2
 ·exact .inr ⟨g,cap,cur,rfl,hb1,by rw[hb.block g (hlt g rfl)];exact hg,r⟩
theorem al5 {w:World}{base:Nat}{e:TypeId}{v:Value}{n:Nat}{xs:List Int}(h:w.ownsRow base e 1 v n (xs.map I64)) (hn:0<n) :
  ∃ g cap,v=.slice (some ⟨g,0,none⟩) n cap∧base≤g∧g<w.heap.size∧∀ j,j<n→w.cell? ⟨g,j,none⟩=some (.int .i64 (xs.getD j 0)):=by
 have hl:xs.length=n:=by simpa using h.1
 rcases h.2 with h2|⟨g,cap,cur,rfl,hb1,hg,_⟩
 ·omega
 ·refine⟨g,cap,rfl,hb1,(h.lt g rfl).2,fun j hj=>?_⟩
  rw[h.cellAt j (by omega),List.getElem?_map,List.getD_eq_getElem?_getD,List.getElem?_eq_getElem (by omega)]
  rfl
abbrev Pl:=Nat×Nat×Bool
def aq5 (p:Pl):Nat×Nat:=(p.1,p.2.1)
def mkV (t:Bool) (k:Nat):Value:=if t then .string (am7 k) else .int .i64 (k:Int)
def plr (f:Nat→List Pl) (j n:Nat):List Pl:=(List.range' j (n-j)).flatMap f
def pls (f:Nat→List Pl) (n:Nat):List Pl:=(List.range n).flatMap f
theorem ae2 (f:Nat→List Pl) (n:Nat):pls f (n+1)=pls f n++f n:=by simp[pls,List.range_succ]
theorem ai9 (f:Nat→List Pl):pls f 0=[]:=rfl
theorem ar2 (f:Nat→List Pl) (j n:Nat) (h:j<n):plr f j n=f j++plr f (j+1) n:=by
 have e:n-j=(n-(j+1))+1:=by omega
 rw[plr,e,List.range'_succ,List.flatMap_cons]
 rfl
theorem aA1 (f:Nat→List Pl) (n:Nat):plr f n n=[]:=by simp[plr]
theorem bk6 (f:Nat→List Pl) (n:Nat):plr f 0 n=pls f n:=by simp[plr,pls,List.range_eq_range']
theorem ax1 {f:Nat→List Pl}{n:Nat}{p:Pl}:p∈pls f n↔∃ j,j<n∧p∈f j:=by simp[pls,List.mem_flatMap]
theorem al3 (f:Nat→List Pl) (j n:Nat) (h:j≤n):pls f n=pls f j++plr f j n:=by
 induction j with
 | zero=>rw[ai9,bk6];rfl
 | succ j ih=>rw[ih (by omega),ar2 f j n (by omega),ae2,List.append_assoc]
theorem aA2 {f:Nat→List Pl}{n m:Nat}(h:∀ j,j<n→(f j).length≤m):(pls f n).length≤n*m:=by
 induction n with
 | zero=>simp[ai9]
 | succ n ih =>
  rw[ae2,List.length_append,Nat.succ_mul]
  have h1:=ih (fun j hj=>h j (by omega))
  have h2:=h n (by omega)
  omega
structure Free (base:Nat) (w:World) (P:List Pl):Prop where
 blk:∀ b j t,(b,j,t)∈P→base≤b∧b<w.heap.size
 cell:∀ b j t,(b,j,t)∈P→∃ y,w.cell? ⟨b,j,none⟩=some y
 froz:∀ b j t,(b,j,t)∈P→w.frozen? ⟨b,j,none⟩=false
 nd:(P.map aq5).Nodup
structure Mks (base:Nat) (w0 w:World) (A P R:List Pl) (k:Nat):Prop where
 bel:Below base w0 w
 held:∀ i b j t,P[i]? = some (b,j,t)→w.cell? ⟨b,j,none⟩=some (mkV t (k+i))
 rest:∀ b j,b<w0.heap.size→(∀ t,(b,j,t)∉P)→w.cell? ⟨b,j,none⟩=w0.cell? ⟨b,j,none⟩
 froz:∀ b j,b<w0.heap.size→w.frozen? ⟨b,j,none⟩=w0.frozen? ⟨b,j,none⟩
 todo:Free base w0 A
 all:P++R=A
theorem Mks.start {base:Nat}{w:World}{R:List Pl}(k:Nat) (h:Free base w R):Mks base w w R [] R k :=
 ⟨Below.refl _ _,fun i b j t hi=>absurd hi (by simp),fun _ _ _ _=>rfl,fun _ _ _=>rfl,h,rfl⟩
theorem aL2 {P Q:List Pl}(h:((P++Q).map aq5).Nodup) {b j:Nat}{t:Bool}(hq:(b,j,t)∈Q) (t':Bool):(b,j,t')∉P:=fun hp=>by
 rw[List.map_append]at h
 exact(List.nodup_append.1 h).2.2 (b,j) (List.mem_map.2 ⟨_,hp,rfl⟩) (b,j) (List.mem_map.2 ⟨_,hq,rfl⟩) rfl
theorem Mks.here {base:Nat}{w0 w:World}{A P R:List Pl}{k:Nat}(h:Mks base w0 w A P R k) {b j:Nat}{t:Bool}(hr:(b,j,t)∈R):(∃ y,w.cell? ⟨b,j,none⟩=some y)∧w.frozen? ⟨b,j,none⟩=false∧base≤b∧b<w0.heap.size:=by
 have hm:(b,j,t)∈A:=h.all▸List.mem_append_right _ hr
 have hb:=h.todo.blk b j t hm
 obtain⟨y,hy⟩:=h.todo.cell b j t hm
 have hnd:=h.todo.nd
 rw[←h.all]at hnd
 exact⟨⟨y,(h.rest b j hb.2 (aL2 hnd hr)).trans hy⟩,(h.froz b j hb.2).trans (h.todo.froz b j t hm),hb⟩
theorem Mks.other {base:Nat}{w0 w:World}{A P R:List Pl}{k:Nat}(h:Mks base w0 w A P R k) {b j:Nat}(hb:b<w0.heap.size) (hn:∀ t,(b,j,t)∉A):w.cell? ⟨b,j,none⟩=w0.cell? ⟨b,j,none⟩ :=
 h.rest b j hb fun t ht=>hn t (h.all▸List.mem_append_left _ ht)
theorem Mks.step {base:Nat}{w0 w:World}{A P R:List Pl}{k b j:Nat}{t:Bool}(h:Mks base w0 w A P ((b,j,t) :: R) k) (u:Value) (hu:u=mkV t (k+P.length)):Mks base w0 (w.setCell ⟨b,j,none⟩ u) A (P++[(b,j,t)]) R k:=by
 obtain⟨⟨y,hy⟩,hf,hb1,hb2⟩:=h.here (List.mem_cons_self (a:=(b,j,t)) (l:=R))
 have hnd:=h.todo.nd
 rw[←h.all]at hnd
 refine⟨h.bel.setCell (p:=⟨b,j,none⟩) hb1 u,fun i b' j' t' hi=>?_,fun b' j' hb' hn=>?_,fun b' j' hb'=>?_,h.todo,?_⟩
 ·by_cases hlt:i<P.length
  ·rw[List.getElem?_append_left hlt]at hi
   have hm:(b',j',t')∈P:=List.mem_of_getElem? hi
   have hne:(⟨b,j,none⟩:Addr)≠⟨b',j',none⟩:=fun e=>by
    injection e with e1 e2 _
    subst e1 e2
    exact aL2 hnd (List.mem_cons_self) t' hm
   rw[World.cell?_setCell_other _ _ _ _ hne]
   exact h.held i b' j' t' hi
  ·have h2:=(List.getElem?_eq_some_iff.1 hi).1
   have e:i=P.length:=by simp at h2;omega
   subst e
   rw[List.getElem?_append_right (nlr _)]at hi
   simp at hi
   obtain⟨rfl,rfl,rfl⟩:=hi
   rw[World.cell?_setCell_same _ _ _ hy,hu]
 ·have hne:(⟨b,j,none⟩:Addr)≠⟨b',j',none⟩:=fun e=>by
   injection e with e1 e2 _
   subst e1 e2
   exact hn t (List.mem_append_right _ (List.mem_singleton.2 rfl))
  rw[World.cell?_setCell_other _ _ _ _ hne]
  exact h.rest b' j' hb' (fun t' ht'=>hn t' (List.mem_append_left _ ht'))
 ·rw[World.frozen?_setCell]
  exact h.froz b' j' hb'
 ·rw[List.append_assoc]
  exact h.all
theorem Mks.stays {base:Nat}{w0 w w':World}{A P R:List Pl}{k:Nat}(h:Mks base w0 w A P R k) (hb:Below w.heap.size w w') (hbase:base≤w0.heap.size):Mks base w0 w' A P R k:=by
 have hs:=h.bel.size
 refine⟨h.bel.trans (hb.mono (by omega)),fun i b j t hi=>?_,fun b j hb' hn=>?_,fun b j hb'=>?_,h.todo,h.all⟩
 ·have hm:=(h.todo.blk b j t (h.all▸List.mem_append_left _ (List.mem_of_getElem? hi))).2
  rw[hb.cell (p:=⟨b,j,none⟩) (by show b<_;omega)]
  exact h.held i b j t hi
 ·rw[hb.cell (p:=⟨b,j,none⟩) (by show b<_;omega)]
  exact h.rest b j hb' hn
 ·rw[hb.frozen (p:=⟨b,j,none⟩) (by show b<_;omega)]
  exact h.froz b j hb'
theorem Mks.sub {base:Nat}{w0 w:World}{A P Q R:List Pl}{k:Nat}(h:Mks base w0 w A P (Q++R) k):Free base w Q:=by
 have hq:∀ b j t,(b,j,t)∈Q→(b,j,t)∈Q++R:=fun b j t h=>List.mem_append_left _ h
 have hs:=h.bel.size
 refine⟨fun b j t hm=>?_,fun b j t hm=>(h.here (hq b j t hm)).1,fun b j t hm=>(h.here (hq b j t hm)).2.1,?_⟩
 ·have:=(h.here (hq b j t hm)).2.2
  omega
 ·have:=h.todo.nd
  rw[←h.all,List.map_append,List.map_append]at this
  exact(List.nodup_append.1 (List.nodup_append.1 this).2.1).1
theorem Mks.call {base:Nat}{w0 w w':World}{A P Q R:List Pl}{k k':Nat}(h:Mks base w0 w A P (Q++R) k) (hc:Mks base w w' Q Q [] k') (hk:k'=k+P.length):Mks base w0 w' A (P++Q) R k:=by
 subst hk
 have hs:=h.bel.size
 have hnd:=h.todo.nd
 rw[←h.all,←List.append_assoc]at hnd
 have hnd2:((P++Q).map aq5).Nodup:=by rw[List.map_append]at hnd;exact(List.nodup_append.1 hnd).1
 refine⟨h.bel.trans hc.bel,fun i b j t hi=>?_,fun b j hb hn=>?_,fun b j hb=>?_,h.todo,?_⟩
 ·by_cases hlt:i<P.length
  ·rw[List.getElem?_append_left hlt]at hi
   have hm:(b,j,t)∈P:=List.mem_of_getElem? hi
   have hbk:=(h.todo.blk b j t (h.all▸List.mem_append_left _ hm)).2
   rw[hc.rest b j (by omega) (fun t' ht'=>aL2 hnd2 ht' t hm)]
   exact h.held i b j t hi
  ·rw[List.getElem?_append_right (by omega)]at hi
   rw[hc.held _ b j t hi]
   congr 2
   omega
 ·rw[hc.rest b j (by omega) (fun t' ht'=>hn t' (List.mem_append_right _ ht'))]
  exact h.rest b j hb (fun t' ht'=>hn t' (List.mem_append_left _ ht'))
 ·rw[hc.froz b j (by omega)]
  exact h.froz b j hb
 ·rw[List.append_assoc]
  exact h.all
def ah6 (v:Value) (n g:Nat):Prop:=(n=0∧∃ a c,v=.slice a 0 c)∨(0<n∧∃ cap,v=.slice (some ⟨g,0,none⟩) n cap)
def ae1 (w:World) (P:List Pl) (k:Nat):Prop:=∀ i b j t,P[i]? = some (b,j,t)→b<w.heap.size∧w.cell? ⟨b,j,none⟩=some (mkV t (k+i))
theorem Mks.marked {base:Nat}{w0 w:World}{A P R:List Pl}{k:Nat}(h:Mks base w0 w A P R k):ae1 w P k:=fun i b j t hi =>
 ⟨by have:=(h.todo.blk b j t (h.all▸List.mem_append_left _ (List.mem_of_getElem? hi))).2;have:=h.bel.size;omega,h.held i b j t hi⟩
theorem ae1.stays {w w':World}{P:List Pl}{k:Nat}(h:ae1 w P k) (hb:Below w.heap.size w w'):ae1 w' P k:=fun i b j t hi=>by
 obtain⟨h1,h2⟩:=h i b j t hi
 exact⟨by have:=hb.size;omega,(hb.cell (p:=⟨b,j,none⟩) h1).trans h2⟩
theorem ae1.left {w:World}{P Q:List Pl}{k:Nat}(h:ae1 w (P++Q) k):ae1 w P k:=fun i b j t hi =>
 h i b j t (by rw[List.getElem?_append_left (List.getElem?_eq_some_iff.1 hi).1];exact hi)
theorem ae1.right {w:World}{P Q:List Pl}{k:Nat}(h:ae1 w (P++Q) k):ae1 w Q (k+P.length):=fun i b j t hi=>by
 have:=h (P.length+i) b j t (by rw[List.getElem?_append_right (by omega)];simpa using hi)
 refine⟨this.1,this.2.trans ?_⟩
 rw[Nat.add_assoc]
theorem ae1.head {w:World}{P:List Pl}{b j:Nat}{t:Bool}{k:Nat}(h:ae1 w ((b,j,t) :: P) k):b<w.heap.size∧w.cell? ⟨b,j,none⟩=some (mkV t k):=h 0 b j t rfl
theorem ae1.tail {w:World}{P:List Pl}{p:Pl}{k:Nat}(h:ae1 w (p :: P) k):ae1 w P (k+1):=fun i b j t hi=>by
 have:=h (i+1) b j t (by simpa using hi)
 refine⟨this.1,this.2.trans ?_⟩
 congr 2
 omega
theorem ae1.round {w:World}{f:Nat→List Pl}{j n k:Nat}(h:ae1 w (pls f n) k) (hj:j<n):ae1 w (f j) (k+(pls f j).length):=by
 rw[al3 f j n (by omega),ar2 f j n hj]at h
 exact h.right.left
theorem av9 {q k:Nat}(h:k=q):Value.string (am7 q)=mkV true k:=by subst h;rfl
theorem aH5 {i:Int}{k:Nat}(h:i=(k:Int)):Value.int .i64 i=mkV false k:=by subst h;rfl
theorem aX0 {f:Nat→List Pl}{m:Nat}(h:∀ j,(f j).length=m) (n:Nat):(pls f n).length=n*m:=by
 induction n with
 | zero=>simp[ai9]
 | succ n ih=>rw[ae2,List.length_append,ih,h,Nat.succ_mul]
def plI (g j:Nat):List Pl:=[(g,j,false)]
def plT (g j:Nat):List Pl:=[(g,j,true)]
def plE (g j:Nat):List Pl:=[(g,j*3,true),(g,j*3+1,true),(g,j*3+2,false)]
theorem bk5 (g n:Nat):(pls (plI g) n).length=n:=by rw[aX0 (m:=1) (fun _=>rfl),Nat.mul_one]
theorem aX_ (g n:Nat):(pls (plT g) n).length=n:=by rw[aX0 (m:=1) (fun _=>rfl),Nat.mul_one]
theorem plE_len (g n:Nat):(pls (plE g) n).length=3*n:=by rw[aX0 (m:=3) (fun _=>rfl),Nat.mul_comm]
def aq6 (base:Nat) (f:Nat→List Pl) (n k0:Nat) (w:World) (iv kv:Value) (wr:World):Prop :=
 ∃ j:Nat,j≤n∧iv=.int .i64 j∧kv=.int .i64 ((k0+(pls f j).length:Nat):Int)∧Mks base w wr (pls f n) (pls f j) (plr f j n) k0
theorem Mks.none {base:Nat}{w:World}(f:Nat→List Pl) (k:Nat) (h:Free base w (pls f 0)):Mks base w w (pls f 0) (pls f 0) [] k:=Mks.start (R:=[]) k h
theorem ah5 (a:Int) (k:Nat) (w:World) (ha:a=(k:Int)) (h0:0<k) (h1:k≤9223372036854775807) :
  Calls Tryz.prog 51 #[.int .i64 a] w fun e w'=>e=.returned (.string (am7 k))∧Below w.heap.size w w':=by subst ha;exact aB0 k w h0 h1
theorem aq6.start {base:Nat}{f:Nat→List Pl}{n k0:Nat}{w:World}(h:Free base w (pls f n)) (kv:Value) (hk:kv=.int .i64 (k0:Int)):aq6 base f n k0 w (.int .i64 0) kv w :=
 ⟨0,Nat.zero_le _,rfl,by rw[hk,ai9];rfl,by rw[bk6];exact Mks.start k0 h⟩
theorem aV4 {base g n k0:Nat}{v:Value}(w:World) (hv:ah6 v n g) (hF:Free base w (pls (plI g) n)) (hk:k0+(pls (plI g) n).length≤1000000000000000) (hn:n≤1048576) (i:Int) (hi:i=(k0:Int)) :
  Calls Tryz.prog 52 #[v,.int .i64 i] w fun e w'=>e=.returned (.int .i64 (i+((pls (plI g) n).length:Nat)))∧Mks base w w' (pls (plI g) n) (pls (plI g) n) [] k0:=by
 subst hi
 rcases hv with⟨rfl,aa,ca,rfl⟩|⟨h0,cap,rfl⟩
 ·have HF:=qb hF
  clear hF
  go_enter Tryz.func52,Tryz.ntmps52
  go_wp2
  refine wp_loop_rounds 1 ?_
  rw[rounds_succ]
  go_wp2
  go_ret
  exact⟨by rw[ai9];simp,Mks.none _ k0 HF.out⟩
 ·have HF:=qb hF
  have HK:=qb hk
  clear hF hk
  go_enter Tryz.func52,Tryz.ntmps52
  go_wp2
  go_loopw [5,1] (fun iv kv wr=>aq6 base (plI g) n k0 w iv kv wr) (fun iv _ _=>n-(intOf iv).toNat)
  case atStart=>exact aq6.start HF.out _ rfl
  case round =>
   obtain⟨j,hj,rfl,rfl,hm⟩:=hrel
   by_cases hlt:j<n
   ·have hi0:(0:Int)≤(j:Int):=by omega
    have hi1:(j:Int)<(n:Int):=by omega
    have M1:Hid (Mks base w wr (pls (plI g) n) (pls (plI g) j) ((g,j,false) :: plr (plI g) (j+1) n) k0):=by rw[ar2 _ _ _ hlt]at hm;exact hm
    obtain⟨⟨y,hcell⟩,hfz,_⟩:=M1.out.here List.mem_cons_self
    have hql:k0+(pls (plI g) j).length≤1000000000000000:=by
     have:=HK.out
     rw[bk5]at this ⊢
     omega
    obtain⟨q,hq⟩:∃ q:Nat,q=k0+(pls (plI g) j).length:=⟨_,rfl⟩
    have hq2:((k0+(pls (plI g) j).length:Nat):Int)=(q:Int):=by rw[hq]
    rw[←hq]at hql
    have HQ:=qb hq
    rw[hq2]
    clear hm hq hq2
    go_wp2
    go_roundw
    case rel =>
     refine⟨j+1,by omega,by go_num,?_,?_⟩
     ·rw[ae2,List.length_append,←Nat.add_assoc,←HQ.out];simp[plI]
     ·rw[ae2]
      exact M1.out.step _ (aH5 (by rw[HQ.out]))
    case measure=>simp[intOf];omega
   ·have e:j=n:=by omega
    subst e
    have HM:=qb hm
    clear hm
    have hql:k0+(pls (plI g) j).length≤1000000000000000:=HK.out
    obtain⟨q,hq⟩:∃ q:Nat,q=k0+(pls (plI g) j).length:=⟨_,rfl⟩
    have hq2:((k0+(pls (plI g) j).length:Nat):Int)=(q:Int):=by rw[hq]
    rw[←hq]at hql
    have HQ:=qb hq
    rw[hq2]
    clear hq hq2
    go_wp2
    go_ret
    refine⟨by rw[HQ.out];simp,?_⟩
    have:=HM.out
    rw[aA1]at this
    exact this
theorem ar1 {base g n k0:Nat}{v:Value}(w:World) (hv:ah6 v n g) (hF:Free base w (pls (plT g) n)) (hk:k0+(pls (plT g) n).length≤1000000000000000) (hk0:0<k0) (hb:base≤w.heap.size) (hn:n≤1048576) (i:Int) (hi:i=(k0:Int)) :
  Calls Tryz.prog 53 #[v,.int .i64 i] w fun e w'=>e=.returned (.int .i64 (i+((pls (plT g) n).length:Nat)))∧Mks base w w' (pls (plT g) n) (pls (plT g) n) [] k0:=by
 subst hi
 rcases hv with⟨rfl,aa,ca,rfl⟩|⟨h0,cap,rfl⟩
 ·have HF:=qb hF
  clear hF
  go_enter Tryz.func53,Tryz.ntmps53
  go_wp2
  refine wp_loop_rounds 1 ?_
  rw[rounds_succ]
  go_wp2
  go_ret
  exact⟨by rw[ai9];simp,Mks.none _ k0 HF.out⟩
 ·have HF:=qb hF
  have HK:=qb hk
  clear hF hk
  go_enter Tryz.func53,Tryz.ntmps53
  go_wp2
  go_loopw [5,1] (fun iv kv wr=>aq6 base (plT g) n k0 w iv kv wr) (fun iv _ _=>n-(intOf iv).toNat)
  case atStart=>exact aq6.start HF.out _ rfl
  case round =>
   obtain⟨j,hj,rfl,rfl,hm⟩:=hrel
   by_cases hlt:j<n
   ·have hi0:(0:Int)≤(j:Int):=by omega
    have hi1:(j:Int)<(n:Int):=by omega
    have M1:Hid (Mks base w wr (pls (plT g) n) (pls (plT g) j) ((g,j,true) :: plr (plT g) (j+1) n) k0):=by rw[ar2 _ _ _ hlt]at hm;exact hm
    have hql:k0+(pls (plT g) j).length≤1000000000000000:=by
     have:=HK.out
     rw[aX_]at this ⊢
     omega
    obtain⟨q,hq⟩:∃ q:Nat,q=k0+(pls (plT g) j).length:=⟨_,rfl⟩
    have hq2:((k0+(pls (plT g) j).length:Nat):Int)=(q:Int):=by rw[hq]
    rw[←hq]at hql
    have HQ:=qb hq
    rw[hq2]
    have MT:=fun w=>qb (aB0 q w (by omega) (by omega))
    clear hm hq hq2
    go_wp2_with fail
    refine(qa (MT _)).mono ?_
    rintro e w1⟨rfl,hb1⟩
    have M2:=qb (M1.out.stays hb1 hb)
    obtain⟨⟨y,hcell⟩,hfz,_⟩:=M2.out.here List.mem_cons_self
    obtain⟨m,em⟩:∃ m,m=am7 q:=⟨_,rfl⟩
    rw[←em]
    have EM:=qb em
    clear hb1 MT em
    go_wp2
    go_roundw
    case rel =>
     refine⟨j+1,by omega,by go_num,?_,?_⟩
     ·rw[ae2,List.length_append,←Nat.add_assoc,←HQ.out];simp[plT]
     ·rw[ae2]
      exact M2.out.step _ (by rw[EM.out];exact av9 (by rw[HQ.out]))
    case measure=>simp[intOf];omega
   ·have e:j=n:=by omega
    subst e
    have HM:=qb hm
    clear hm
    have hql:k0+(pls (plT g) j).length≤1000000000000000:=HK.out
    obtain⟨q,hq⟩:∃ q:Nat,q=k0+(pls (plT g) j).length:=⟨_,rfl⟩
    have hq2:((k0+(pls (plT g) j).length:Nat):Int)=(q:Int):=by rw[hq]
    rw[←hq]at hql
    have HQ:=qb hq
    rw[hq2]
    clear hq hq2
    go_wp2
    go_ret
    refine⟨by rw[HQ.out];simp,?_⟩
    have:=HM.out
    rw[aA1]at this
    exact this
end Go.Proofs.YtcpapceeekkacaaGreatDoor
