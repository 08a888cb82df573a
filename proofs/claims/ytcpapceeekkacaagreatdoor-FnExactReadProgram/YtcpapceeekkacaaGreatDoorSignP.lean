import Derived.Test.YtcpapceeekkacaaGreatDoorTreeQ
import Derived.Test.YtcpapceeekkacaaGreatDoorMarkM
import Derived.Test.YtcpapceeekkacaaGreatDoorNameW
set_option maxRecDepth 100000
set_option maxHeartbeats 8000000
namespace Go.Proofs.YtcpapceeekkacaaGreatDoor
structure Rd where
 pos:Nat
 bad:Bool
 nodes:List Nd
def ndK (kd nu:Int) (ks:List Int):Nd:=⟨kd,nu,ByteArray.empty,ByteArray.empty,ByteArray.empty,ks⟩
def ndN (kd:Int) (nm:ByteArray) (ks:List Int):Nd:=⟨kd,0,nm,ByteArray.empty,ByteArray.empty,ks⟩
section
variable (l:List Sg)
def Rd.next (s:Rd):Option Sg:=if s.bad then none else l[s.pos]?
def Rd.isQ (t:ByteArray) (s:Rd):Bool:=match s.next l with
 | some x=>(x.text.toList == t.toList) && decide (x.kind≠2)
 | none=>false
def Rd.on (s:Rd):Rd:={ s with pos:=s.pos+1 }
def Rd.wrong (s:Rd):Rd:={ s with bad:=true }
def Rd.may (t:ByteArray) (s:Rd):Rd:=if s.isQ l t then s.on else s
def Rd.must (t:ByteArray) (s:Rd):Rd:=if s.isQ l t then s.on else s.wrong
def Rd.nameQ (s:Rd):Option ByteArray:=match s.next l with
 | some x=>if x.kind=1∧aa7 x.text=true then some x.text else none
 | none=>none
def Rd.name (s:Rd):Rd×ByteArray:=match s.nameQ l with
 | some t=>(s.on,t)
 | none=>(s.wrong,ByteArray.empty)
def Rd.put (x:Nd) (s:Rd):Rd×Int:=if s.bad then (s,0) else ({ s with nodes:=s.nodes++[x] },(s.nodes.length:Int))
def Rd.op:List ByteArray→Int→Rd→Rd×Int
 | [],_,s=>(s,0)
 | t :: ts,k,s=>if s.isQ l t then (s.on,k) else Rd.op ts (k+1) s
def Rd.many (ops:List ByteArray) (k0:Int) (sub:Rd→Rd×Int):Nat→Rd→Int→Rd×Int
 | 0,s,k=>(s,k)
 | n+1,s,k =>
  if s.bad then (s,k)
  else if (Rd.op l ops k0 s).2=0 then ((Rd.op l ops k0 s).1,k)
  else
   let b:=sub (Rd.op l ops k0 s).1
   let c:=b.1.put (ndK 3 (Rd.op l ops k0 s).2 [k,b.2])
   Rd.many ops k0 sub n c.1 c.2
def tx (s:String):ByteArray:=s.toUTF8
def Rd.factorW (val fac:Rd→Rd×Int) (s:Rd):Rd×Int:=match s.next l with
 | none=>(s.wrong,0)
 | some x =>
  if x.kind=2 then s.on.put (ndK 1 x.num [])
  else if s.isQ l (tx "(") then ((val s.on).1.must l (tx ")"),(val s.on).2)
  else if s.isQ l (tx "not") then (fac s.on).1.put (ndK 4 0 [(fac s.on).2])
  else if s.isQ l (tx "-") then (fac s.on).1.put (ndK 5 0 [(fac s.on).2])
  else (s.name l).1.put (ndN 2 (s.name l).2 [])
def Rd.termW (fac:Rd→Rd×Int) (s:Rd):Rd×Int:=Rd.many l [tx "*", tx "/", tx "%"] 3 fac (l.length+1) (fac s).1 (fac s).2
def Rd.sumW (fac:Rd→Rd×Int) (s:Rd):Rd×Int:=Rd.many l [tx "+", tx "-"] 1 (Rd.termW l fac) (l.length+1) (Rd.termW l fac s).1 (Rd.termW l fac s).2
def Rd.partW (fac:Rd→Rd×Int) (s:Rd):Rd×Int :=
 let a:=Rd.sumW l fac s
 let o:=Rd.op l [tx "<", tx "="] 6 a.1
 if o.2=0 then (o.1,a.2) else
  let b:=Rd.sumW l fac o.1
  b.1.put (ndK 3 o.2 [a.2,b.2])
def Rd.valueW (fac:Rd→Rd×Int) (s:Rd):Rd×Int:=Rd.many l [tx "and", tx "or"] 8 (Rd.partW l fac) (l.length+1) (Rd.partW l fac s).1 (Rd.partW l fac s).2
def Rd.deepV:Nat→(Rd→Rd×Int)×(Rd→Rd×Int)
 | 0=>(fun s=>(s,0),fun s=>(s,0))
 | n+1=>(Rd.valueW l (Rd.factorW l (Rd.deepV n).1 (Rd.deepV n).2),Rd.factorW l (Rd.deepV n).1 (Rd.deepV n).2)
def Rd.value (s:Rd):Rd×Int:=(Rd.deepV l (l.length+1)).1 s
def Rd.callW (s:Rd):Rd×Int :=
 let a:=s.name l
 let b:=(a.1.must l (tx ".")).name l
 let v:=(b.1.must l (tx "(")).value l
 let c:=v.1.must l (tx ")")
 if c.isQ l (tx "to") then
  let d:=c.on.name l
  d.1.put ⟨14,0,a.2,b.2,d.2,[v.2]⟩
 else c.put ⟨14,0,a.2,b.2,ByteArray.empty,[v.2]⟩
def Rd.stmtW (blk:Rd→Rd×Int) (s:Rd):Rd×Int :=
 if s.isQ l (tx "if") then
  let v:=s.on.value l
  let b:=blk (v.1.must l (tx "then"))
  if b.1.isQ l (tx "else") then
   let c:=blk b.1.on
   c.1.put (ndK 12 0 [v.2,b.2,c.2])
  else b.1.put (ndK 12 0 [v.2,b.2])
 else if s.isQ l (tx "while") then
  let v:=s.on.value l
  let b:=blk (v.1.must l (tx "do"))
  b.1.put (ndK 13 0 [v.2,b.2])
 else if s.isQ l (tx "call") then s.on.callW l
 else if s.isQ l (tx "print") then (s.on.value l).1.put (ndK 15 0 [(s.on.value l).2])
 else if s.isQ l (tx "read") then (s.on.name l).1.put (ndN 16 (s.on.name l).2 [])
 else if s.isQ l (tx "delay") then (s.on.name l).1.put (ndN 17 (s.on.name l).2 [])
 else if s.isQ l (tx "continue") then (s.on.name l).1.put (ndN 18 (s.on.name l).2 [])
 else if s.isQ l (tx "skip") then s.on.put (ndK 19 0 [])
 else
  let a:=s.name l
  let v:=(a.1.must l (tx ":=")).value l
  v.1.put (ndN 11 a.2 [v.2])
def Rd.more (stmt:Rd→Rd×Int):Nat→Rd→List Int→Rd×List Int
 | 0,s,ks=>(s,ks)
 | n+1,s,ks=>if s.isQ l (tx ";") then Rd.more stmt n (stmt s.on).1 (ks++[(stmt s.on).2]) else (s,ks)
def Rd.blockW (stmt:Rd→Rd×Int) (s:Rd):Rd×Int :=
 let a:=stmt (s.must l (tx "begin"))
 let m:=Rd.more l stmt (l.length+1) a.1 [a.2]
 (m.1.must l (tx "end")).put (ndK 20 0 m.2)
def Rd.deepB:Nat→(Rd→Rd×Int)×(Rd→Rd×Int)
 | 0=>(fun s=>(s,0),fun s=>(s,0))
 | n+1=>(Rd.blockW l (Rd.stmtW l (Rd.deepB n).1),Rd.stmtW l (Rd.deepB n).1)
def Rd.block (s:Rd):Rd×Int:=(Rd.deepB l (l.length+1)).1 s
def Rd.comma:Nat→Rd→List ByteArray→Rd×List ByteArray
 | 0,s,ns=>(s,ns)
 | n+1,s,ns=>if s.isQ l (tx ",") then Rd.comma n (s.on.name l).1 (ns++[(s.on.name l).2]) else (s,ns)
def Rd.names (s:Rd):Rd×List ByteArray:=Rd.comma l (l.length+1) (s.name l).1 [(s.name l).2]
def Rd.listed (t:ByteArray) (s:Rd):Rd×List ByteArray :=
 if s.isQ l t then ((s.on.names l).1.must l (tx ";"),(s.on.names l).2) else (s,[])
def Rd.entry (s:Rd):Rd×En :=
 let a:=s.name l
 let b:=(a.1.must l (tx "(")).name l
 let c:=(b.1.must l (tx ")")).block l
 (c.1.must l (tx ";"),⟨a.2,b.2,c.2⟩)
def Rd.entries:Nat→Rd→List En→Rd×List En
 | 0,s,es=>(s,es)
 | n+1,s,es=>if s.isQ l (tx "entry") then Rd.entries n (s.on.entry l).1 (es++[(s.on.entry l).2]) else (s,es)
def Rd.monitor (s:Rd):Rd×Mo :=
 let a:=s.name l
 let b:=(a.1.must l (tx ";")).listed l (tx "var")
 let c:=b.1.listed l (tx "queue")
 let d:=Rd.entries l (l.length+1) c.1 []
 ((d.1.must l (tx "end")).must l (tx ";"),⟨a.2,b.2,c.2,d.2⟩)
def Rd.process (s:Rd):Rd×Pr :=
 let a:=s.name l
 let u:=if a.1.isQ l (tx "uses") then a.1.on.names l else (a.1,[])
 let b:=(u.1.must l (tx ";")).listed l (tx "var")
 let c:=b.1.block l
 (c.1.must l (tx ";"),⟨a.2,u.2,b.2,c.2⟩)
def Rd.monitors:Nat→Rd→List Mo→Rd×List Mo
 | 0,s,ms=>(s,ms)
 | n+1,s,ms=>if s.isQ l (tx "monitor") then Rd.monitors n (s.on.monitor l).1 (ms++[(s.on.monitor l).2]) else (s,ms)
def Rd.processes:Nat→Rd→List Pr→Rd×List Pr
 | 0,s,ps=>(s,ps)
 | n+1,s,ps=>if s.isQ l (tx "process") then Rd.processes n (s.on.process l).1 (ps++[(s.on.process l).2]) else (s,ps)
theorem Rd.put_pos (x:Nd) (s:Rd):(s.put x).1.pos=s.pos:=by unfold Rd.put;split <;> rfl
theorem Rd.must_pos (t:ByteArray) (s:Rd):s.pos≤(s.must l t).pos:=by unfold Rd.must;split <;> simp[Rd.on,Rd.wrong]
theorem Rd.name_pos (s:Rd):s.pos≤(s.name l).1.pos:=by unfold Rd.name;split <;> simp[Rd.on,Rd.wrong]
theorem Rd.op_pos:∀ (ops:List ByteArray) (k:Int) (s:Rd),s.pos≤(Rd.op l ops k s).1.pos
 | [],_,s=>nlr _
 | t :: ts,k,s=>by
  unfold Rd.op
  split
  ·simp[Rd.on]
  ·exact Rd.op_pos ts (k+1) s
theorem Rd.many_pos {ops:List ByteArray}{k0:Int}{sub:Rd→Rd×Int}(hs:∀ s,s.pos≤(sub s).1.pos):∀ (n:Nat) (s:Rd) (k:Int),s.pos≤(Rd.many l ops k0 sub n s k).1.pos
 | 0,s,k=>nlr _
 | n+1,s,k=>by
  unfold Rd.many
  split
  ·exact nlr _
  ·split
   ·exact Rd.op_pos l ops k0 s
   ·refine nlt (Rd.op_pos l ops k0 s) (nlt (hs _) (nlt ?_ (Rd.many_pos hs n _ _)))
    rw[Rd.put_pos]
    exact nlr _
theorem Rd.factorW_pos {val fac:Rd→Rd×Int}(hv:∀ s,s.pos≤(val s).1.pos) (hf:∀ s,s.pos≤(fac s).1.pos) (s:Rd):s.pos≤(Rd.factorW l val fac s).1.pos:=by
 unfold Rd.factorW
 split
 ·simp[Rd.wrong]
 ·split
  ·rw[Rd.put_pos];simp[Rd.on]
  ·split
   ·have h1:=hv s.on
    have h2:=Rd.must_pos l (tx ")") (val s.on).1
    have h3:s.on.pos=s.pos+1:=rfl
    show s.pos≤((val s.on).1.must l (tx ")")).pos
    omega
   ·split
    ·rw[Rd.put_pos]
     have h1:=hf s.on
     have h3:s.on.pos=s.pos+1:=rfl
     omega
    ·split
     ·rw[Rd.put_pos]
      have h1:=hf s.on
      have h3:s.on.pos=s.pos+1:=rfl
      omega
     ·rw[Rd.put_pos]
      exact Rd.name_pos l s
theorem Rd.termW_pos {fac:Rd→Rd×Int}(hf:∀ s,s.pos≤(fac s).1.pos) (s:Rd):s.pos≤(Rd.termW l fac s).1.pos:=nlt (hf s) (Rd.many_pos l hf _ _ _)
theorem Rd.sumW_pos {fac:Rd→Rd×Int}(hf:∀ s,s.pos≤(fac s).1.pos) (s:Rd):s.pos≤(Rd.sumW l fac s).1.pos:=nlt (Rd.termW_pos l hf s) (Rd.many_pos l (Rd.termW_pos l hf) _ _ _)
theorem Rd.partW_pos {fac:Rd→Rd×Int}(hf:∀ s,s.pos≤(fac s).1.pos) (s:Rd):s.pos≤(Rd.partW l fac s).1.pos:=by
 unfold Rd.partW
 have h1:=Rd.sumW_pos l hf s
 have h2:=Rd.op_pos l [tx "<", tx "="] 6 (Rd.sumW l fac s).1
 dsimp only
 split
 ·exact nlt h1 h2
 ·rw[Rd.put_pos]
  exact nlt h1 (nlt h2 (Rd.sumW_pos l hf _))
theorem Rd.valueW_pos {fac:Rd→Rd×Int}(hf:∀ s,s.pos≤(fac s).1.pos) (s:Rd):s.pos≤(Rd.valueW l fac s).1.pos:=nlt (Rd.partW_pos l hf s) (Rd.many_pos l (Rd.partW_pos l hf) _ _ _)
theorem Rd.deepV_pos:∀ n,(∀ s,s.pos≤((Rd.deepV l n).1 s).1.pos)∧∀ s,s.pos≤((Rd.deepV l n).2 s).1.pos
 | 0=>⟨fun _=>nlr _,fun _=>nlr _⟩
 | n+1=>by
  have h:=Rd.deepV_pos n
  exact⟨Rd.valueW_pos l (Rd.factorW_pos l h.1 h.2),Rd.factorW_pos l h.1 h.2⟩
theorem Rd.value_pos (s:Rd):s.pos≤(s.value l).1.pos:=(Rd.deepV_pos l _).1 s
end
section
variable (l:List Sg)
def Rd.Good (c:Nat) (s:Rd):Prop:=s.nodes.length+c≤s.pos
theorem Rd.Good.on {c:Nat}{s:Rd}(h:s.Good c):s.on.Good (c+1):=by unfold Rd.Good Rd.on at *;dsimp only;omega
theorem Rd.Good.less {c:Nat}{s:Rd}(h:s.Good (c+1)):s.Good c:=by unfold Rd.Good at *;omega
theorem Rd.Good.put {c:Nat}{s:Rd}(h:s.bad=false→s.Good (c+1)) (h0:s.Good c) (x:Nd):(s.put x).1.Good c:=by
 unfold Rd.put
 cases hb:s.bad with
 | true=>simpa [hb] using h0
 | false =>
  have:=h hb
  unfold Rd.Good at *
  simp
  omega
theorem Rd.Good.must {c:Nat}{s:Rd}(h:s.Good c) (t:ByteArray):(s.must l t).Good c:=by
 unfold Rd.must
 split
 ·exact h.on.less
 ·exact h
theorem Rd.Good.must1 {c:Nat}{s:Rd}(h:s.Good c) (t:ByteArray):(s.must l t).bad=false→(s.must l t).Good (c+1):=by
 unfold Rd.must
 split
 ·exact fun _=>h.on
 ·intro hb;simp[Rd.wrong]at hb
theorem Rd.Good.name {c:Nat}{s:Rd}(h:s.Good c):(s.name l).1.Good c:=by
 unfold Rd.name
 split
 ·exact h.on.less
 ·exact h
theorem Rd.Good.name1 {c:Nat}{s:Rd}(h:s.Good c):(s.name l).1.bad=false→(s.name l).1.Good (c+1):=by
 unfold Rd.name
 split
 ·exact fun _=>h.on
 ·intro hb;simp[Rd.wrong]at hb
theorem Rd.Good.op {c:Nat}:∀ (ops:List ByteArray) (k:Int) (s:Rd),s.Good c→(Rd.op l ops k s).1.Good c
 | [],_,_,h=>h
 | t :: ts,k,s,h=>by
  unfold Rd.op
  split
  ·exact h.on.less
  ·exact Rd.Good.op ts (k+1) s h
theorem Rd.Good.op1 {c:Nat}:∀ (ops:List ByteArray) (k:Int) (s:Rd),s.Good c→(Rd.op l ops k s).2≠0→(Rd.op l ops k s).1.Good (c+1)
 | [],_,_,_=>fun h=>absurd rfl h
 | t :: ts,k,s,h=>by
  unfold Rd.op
  split
  ·exact fun _=>h.on
  ·exact Rd.Good.op1 ts (k+1) s h
def Rd.Keeps (f:Rd→Rd×Int):Prop:=∀ (c:Nat) (s:Rd),s.Good c→(f s).1.Good c
theorem Rd.Keeps.many {ops:List ByteArray}{k0:Int}{sub:Rd→Rd×Int}(hs:Rd.Keeps sub):∀ (n:Nat) (k:Int) (c:Nat) (s:Rd),s.Good c→(Rd.many l ops k0 sub n s k).1.Good c
 | 0,_,_,_,h=>h
 | n+1,k,c,s,h=>by
  unfold Rd.many
  split
  ·exact h
  ·split
   ·exact Rd.Good.op l ops k0 s h
   ·next h2 =>
    have h3:=hs (c+1) _ (Rd.Good.op1 l ops k0 s h h2)
    exact Rd.Keeps.many hs n _ c _ (Rd.Good.put (fun _=>h3) h3.less _)
theorem Rd.Keeps.factorW {val fac:Rd→Rd×Int}(hv:Rd.Keeps val) (hf:Rd.Keeps fac):Rd.Keeps (Rd.factorW l val fac):=by
 intro c s h
 unfold Rd.factorW
 split
 ·exact h
 ·split
  ·exact Rd.Good.put (fun _=>h.on) h.on.less _
  ·split
   ·exact Rd.Good.must l (hv c _ h.on.less) _
   ·split
    ·have h3:=hf (c+1) _ h.on
     exact Rd.Good.put (fun _=>h3) h3.less _
    ·split
     ·have h3:=hf (c+1) _ h.on
      exact Rd.Good.put (fun _=>h3) h3.less _
     ·exact Rd.Good.put (h.name1 l) (h.name l) _
theorem Rd.Keeps.termW {fac:Rd→Rd×Int}(hf:Rd.Keeps fac):Rd.Keeps (Rd.termW l fac):=fun c s h=>Rd.Keeps.many l hf _ _ c _ (hf c s h)
theorem Rd.Keeps.sumW {fac:Rd→Rd×Int}(hf:Rd.Keeps fac):Rd.Keeps (Rd.sumW l fac):=fun c s h=>Rd.Keeps.many l (Rd.Keeps.termW l hf) _ _ c _ (Rd.Keeps.termW l hf c s h)
theorem Rd.Keeps.partW {fac:Rd→Rd×Int}(hf:Rd.Keeps fac):Rd.Keeps (Rd.partW l fac):=by
 intro c s h
 have h1:=Rd.Keeps.sumW l hf c s h
 unfold Rd.partW
 dsimp only
 split
 ·exact Rd.Good.op l _ _ _ h1
 ·next h2 =>
  have h3:=Rd.Keeps.sumW l hf (c+1) _ (Rd.Good.op1 l _ _ _ h1 h2)
  exact Rd.Good.put (fun _=>h3) h3.less _
theorem Rd.Keeps.valueW {fac:Rd→Rd×Int}(hf:Rd.Keeps fac):Rd.Keeps (Rd.valueW l fac):=fun c s h=>Rd.Keeps.many l (Rd.Keeps.partW l hf) _ _ c _ (Rd.Keeps.partW l hf c s h)
theorem Rd.Keeps.deepV:∀ n,Rd.Keeps (Rd.deepV l n).1∧Rd.Keeps (Rd.deepV l n).2
 | 0=>⟨fun _ _ h=>h,fun _ _ h=>h⟩
 | n+1=>by
  have h:=Rd.Keeps.deepV n
  exact⟨Rd.Keeps.valueW l (Rd.Keeps.factorW l h.1 h.2),Rd.Keeps.factorW l h.1 h.2⟩
theorem Rd.Keeps.value:Rd.Keeps (Rd.value l):=(Rd.Keeps.deepV l _).1
theorem Rd.next_in {s:Rd}{x:Sg}(h:s.next l=some x):s.bad=false∧∃ hp:s.pos<l.length,l[s.pos]=x:=by
 unfold Rd.next at h
 cases hb:s.bad with
 | true=>simp[hb]at h
 | false =>
  rw[hb]at h
  obtain⟨hp,e⟩:=List.getElem?_eq_some_iff.1 h
  exact⟨rfl,hp,e⟩
end
section
variable (l:List Sg)
theorem Rd.isQ_bad {s:Rd}(h:s.bad=true) (t:ByteArray):s.isQ l t=false:=by simp[Rd.isQ,Rd.next,h]
theorem Rd.op_bad {s:Rd}(h:s.bad=true):∀ (ops:List ByteArray) (k:Int),Rd.op l ops k s=(s,0)
 | [],_=>rfl
 | t :: ts,k=>by rw[Rd.op,Rd.isQ_bad l h];exact Rd.op_bad h ts (k+1)
def Rd.Stuck (f:Rd→Rd×Int):Prop:=∀ s:Rd,s.bad=true→(f s).1.bad=true
theorem Rd.many_bad {ops:List ByteArray}{k0:Int}{sub:Rd→Rd×Int}{s:Rd}(h:s.bad=true) (n:Nat) (k:Int):(Rd.many l ops k0 sub n s k).1.bad=true:=by
 cases n with
 | zero=>exact h
 | succ n=>rw[Rd.many,h];exact h
theorem Rd.Stuck.factorW (val fac:Rd→Rd×Int):Rd.Stuck (Rd.factorW l val fac):=fun s h=>by simp[Rd.factorW,Rd.next,h,Rd.wrong]
theorem Rd.Stuck.termW {fac:Rd→Rd×Int}(hf:Rd.Stuck fac):Rd.Stuck (Rd.termW l fac):=fun s h=>Rd.many_bad l (hf s h) _ _
theorem Rd.Stuck.sumW {fac:Rd→Rd×Int}(hf:Rd.Stuck fac):Rd.Stuck (Rd.sumW l fac):=fun s h=>Rd.many_bad l (Rd.Stuck.termW l hf s h) _ _
theorem Rd.Stuck.partW {fac:Rd→Rd×Int}(hf:Rd.Stuck fac):Rd.Stuck (Rd.partW l fac):=fun s h=>by
 have h1:=Rd.Stuck.sumW l hf s h
 unfold Rd.partW
 dsimp only
 rw[Rd.op_bad l h1]
 simpa using h1
theorem Rd.Stuck.valueW {fac:Rd→Rd×Int}(hf:Rd.Stuck fac):Rd.Stuck (Rd.valueW l fac):=fun s h=>Rd.many_bad l (Rd.Stuck.partW l hf s h) _ _
theorem Rd.value_bad {s:Rd}(h:s.bad=true):(s.value l).1.bad=true:=Rd.Stuck.valueW l (Rd.Stuck.factorW l _ _) s h
theorem Rd.value_good {s:Rd}(h:(s.value l).1.bad=false):s.bad=false:=by
 cases hb:s.bad with
 | false=>rfl
 | true=>rw[Rd.value_bad l hb]at h;cases h
theorem Rd.callW_pos (s:Rd):s.pos≤(s.callW l).1.pos:=by
 have h1:=Rd.name_pos l s
 have h2:=Rd.must_pos l (tx ".") (s.name l).1
 have h3:=Rd.name_pos l ((s.name l).1.must l (tx "."))
 have h4:=Rd.must_pos l (tx "(") (((s.name l).1.must l (tx ".")).name l).1
 have h5:=Rd.value_pos l ((((s.name l).1.must l (tx ".")).name l).1.must l (tx "("))
 have h6:=Rd.must_pos l (tx ")") (((((s.name l).1.must l (tx ".")).name l).1.must l (tx "(")).value l).1
 unfold Rd.callW
 dsimp only
 split
 ·rw[Rd.put_pos]
  have h7:=Rd.name_pos l ((((((s.name l).1.must l (tx ".")).name l).1.must l (tx "(")).value l).1.must l (tx ")")).on
  have h8:((((((s.name l).1.must l (tx ".")).name l).1.must l (tx "(")).value l).1.must l (tx ")")).on.pos=((((((s.name l).1.must l (tx ".")).name l).1.must l (tx "(")).value l).1.must l (tx ")")).pos+1:=rfl
  omega
 ·rw[Rd.put_pos]
  omega
theorem Rd.Keeps.callW:Rd.Keeps (Rd.callW l):=by
 intro c s h
 have h5:=Rd.Keeps.value l c _ (Rd.Good.must l (Rd.Good.name l (Rd.Good.must l (Rd.Good.name l h) (tx "."))) (tx "("))
 have h6:=h5.must l (tx ")")
 unfold Rd.callW
 dsimp only
 split
 ·exact Rd.Good.put (fun _=>h6.on.name l) (h6.on.name l).less _
 ·exact Rd.Good.put (h5.must1 l (tx ")")) h6 _
theorem Rd.stmtW_pos {blk:Rd→Rd×Int}(hb:∀ s,s.pos≤(blk s).1.pos) (s:Rd):s.pos≤(Rd.stmtW l blk s).1.pos:=by
 have ho:s.on.pos=s.pos+1:=rfl
 have hv:=Rd.value_pos l s.on
 have hn:=Rd.name_pos l s.on
 unfold Rd.stmtW
 dsimp only
 split
 ·have h1:=Rd.must_pos l (tx "then") (s.on.value l).1
  have h2:=hb ((s.on.value l).1.must l (tx "then"))
  split
  ·have h3:=hb (blk ((s.on.value l).1.must l (tx "then"))).1.on
   have h4:(blk ((s.on.value l).1.must l (tx "then"))).1.on.pos=(blk ((s.on.value l).1.must l (tx "then"))).1.pos+1:=rfl
   rw[Rd.put_pos];omega
  ·rw[Rd.put_pos];omega
 ·split
  ·have h1:=Rd.must_pos l (tx "do") (s.on.value l).1
   have h2:=hb ((s.on.value l).1.must l (tx "do"))
   rw[Rd.put_pos];omega
  ·split
   ·have:=Rd.callW_pos l s.on;omega
   ·split
    ·rw[Rd.put_pos];omega
    ·split
     ·rw[Rd.put_pos];omega
     ·split
      ·rw[Rd.put_pos];omega
      ·split
       ·rw[Rd.put_pos];omega
       ·split
        ·rw[Rd.put_pos];omega
        ·have h1:=Rd.name_pos l s
         have h2:=Rd.must_pos l (tx ":=") (s.name l).1
         have h3:=Rd.value_pos l ((s.name l).1.must l (tx ":="))
         rw[Rd.put_pos];omega
theorem Rd.Keeps.stmtW {blk:Rd→Rd×Int}(hb:Rd.Keeps blk):Rd.Keeps (Rd.stmtW l blk):=by
 intro c s h
 have hv:=Rd.Keeps.value l (c+1) _ h.on
 have hn:=h.on.name l
 unfold Rd.stmtW
 dsimp only
 split
 ·have h2:=hb (c+1) _ (hv.must l (tx "then"))
  split
  ·have h3:=hb (c+2) _ h2.on
   exact Rd.Good.put (fun _=>h3.less) h3.less.less _
  ·exact Rd.Good.put (fun _=>h2) h2.less _
 ·split
  ·have h2:=hb (c+1) _ (hv.must l (tx "do"))
   exact Rd.Good.put (fun _=>h2) h2.less _
  ·split
   ·exact Rd.Keeps.callW l c _ h.on.less
   ·split
    ·exact Rd.Good.put (fun _=>hv) hv.less _
    ·split
     ·exact Rd.Good.put (fun _=>hn) hn.less _
     ·split
      ·exact Rd.Good.put (fun _=>hn) hn.less _
      ·split
       ·exact Rd.Good.put (fun _=>hn) hn.less _
       ·split
        ·exact Rd.Good.put (fun _=>h.on) h.on.less _
        ·have h1:=h.name l
         have h3:=Rd.Keeps.value l c _ (h1.must l (tx ":="))
         exact Rd.Good.put (fun hbad=>Rd.Keeps.value l (c+1) _ (h1.must1 l (tx ":=") (Rd.value_good l hbad))) h3 _
theorem Rd.more_pos {stmt:Rd→Rd×Int}(hs:∀ s,s.pos≤(stmt s).1.pos):∀ (n:Nat) (s:Rd) (ks:List Int),s.pos≤(Rd.more l stmt n s ks).1.pos
 | 0,s,_=>nlr _
 | n+1,s,ks=>by
  unfold Rd.more
  split
  ·have h1:=hs s.on
   have h2:s.on.pos=s.pos+1:=rfl
   have h3:=Rd.more_pos hs n (stmt s.on).1 (ks++[(stmt s.on).2])
   omega
  ·exact nlr _
theorem Rd.Keeps.more {stmt:Rd→Rd×Int}(hs:Rd.Keeps stmt):∀ (n:Nat) (ks:List Int) (c:Nat) (s:Rd),s.Good c→(Rd.more l stmt n s ks).1.Good c
 | 0,_,_,_,h=>h
 | n+1,ks,c,s,h=>by
  unfold Rd.more
  split
  ·exact Rd.Keeps.more hs n _ c _ (hs c _ h.on.less)
  ·exact h
theorem Rd.blockW_pos {stmt:Rd→Rd×Int}(hs:∀ s,s.pos≤(stmt s).1.pos) (s:Rd):s.pos≤(Rd.blockW l stmt s).1.pos:=by
 unfold Rd.blockW
 dsimp only
 rw[Rd.put_pos]
 have h1:=Rd.must_pos l (tx "begin") s
 have h2:=hs (s.must l (tx "begin"))
 have h3:=Rd.more_pos l hs (l.length+1) (stmt (s.must l (tx "begin"))).1 [(stmt (s.must l (tx "begin"))).2]
 exact nlt h1 (nlt h2 (nlt h3 (Rd.must_pos l _ _)))
theorem Rd.Keeps.blockW {stmt:Rd→Rd×Int}(hs:Rd.Keeps stmt):Rd.Keeps (Rd.blockW l stmt):=by
 intro c s h
 unfold Rd.blockW
 dsimp only
 have h3:=Rd.Keeps.more l hs (l.length+1) [(stmt (s.must l (tx "begin"))).2] c _ (hs c _ (h.must l (tx "begin")))
 exact Rd.Good.put (h3.must1 l (tx "end")) (h3.must l (tx "end")) _
theorem Rd.deepB_pos:∀ n,(∀ s,s.pos≤((Rd.deepB l n).1 s).1.pos)∧∀ s,s.pos≤((Rd.deepB l n).2 s).1.pos
 | 0=>⟨fun _=>nlr _,fun _=>nlr _⟩
 | n+1=>by
  have h:=Rd.deepB_pos n
  exact⟨Rd.blockW_pos l (Rd.stmtW_pos l h.1),Rd.stmtW_pos l h.1⟩
theorem Rd.Keeps.deepB:∀ n,Rd.Keeps (Rd.deepB l n).1∧Rd.Keeps (Rd.deepB l n).2
 | 0=>⟨fun _ _ h=>h,fun _ _ h=>h⟩
 | n+1=>by
  have h:=Rd.Keeps.deepB n
  exact⟨Rd.Keeps.blockW l (Rd.Keeps.stmtW l h.1),Rd.Keeps.stmtW l h.1⟩
end
open Go.RowKit
theorem al9 {q:Nat→Bool}{b:UInt8}{l:List UInt8}(h:q b.toNat=true):ai0 q (b :: l)=ai0 q l+1:=by simp[ai0,h]
theorem ay0 {q:Nat→Bool}{b:UInt8}{l:List UInt8}(h:q b.toNat=false):ai0 q (b :: l)=0:=by simp[ai0,h]
def at9 (b:Nat):Bool:=[59,44,46,40,41,43,45,42,47,37,60,61].contains b
def ag3:List UInt8→Int
 | []=>-1
 | b :: r=>if af4 b.toNat then 0 else if b.toNat=35 then 0 else if ab3 b.toNat then 1 else if ad0 b.toNat then 2 else if b.toNat=58∧(r.head?.map UInt8.toNat)=some 61 then 3 else if at9 b.toNat then 3 else -1
def ab0:List UInt8→Nat
 | []=>1
 | b :: r=>if af4 b.toNat then ai0 af4 (b :: r) else if b.toNat=35 then ai0 ao_ (b :: r) else if ab3 b.toNat then ai0 ab3 (b :: r) else if ad0 b.toNat then ai0 ad0 (b :: r) else if b.toNat=58∧(r.head?.map UInt8.toNat)=some 61 then 2 else 1
theorem ao6 (l:List UInt8):1≤ab0 l:=by
 cases l with
 | nil=>exact nlr _
 | cons b r =>
  rw[ab0]
  split
  ·rename_i h;rw[al9 h];omega
  ·split
   ·rename_i h;rw[al9 (by simp[ao_,h])];omega
   ·split
    ·rename_i h;rw[al9 h];omega
    ·split
     ·rename_i h;rw[al9 h];omega
     ·split <;> omega
theorem av7 (l:List UInt8) (h:l≠[]):ab0 l≤l.length:=by
 cases l with
 | nil=>exact absurd rfl h
 | cons b r =>
  rw[ab0]
  repeat' split
  all_goals first|exact ba1 _ _|(simp;done)|skip
  rename_i h2
  cases r with
  | nil=>simp at h2
  | cons c r=>simp
def al8 (k:Int) (n:Nat):Bool:=if k=1 then decide (n≤8) else if k=2 then decide (n≤6) else decide (k=3)
def figN (l:List UInt8):Nat:=l.foldl (fun n b=>n*10+(b.toNat-48)) 0
def aB6 (k:Int) (l:List UInt8):Int:=if k=2 then (figN l:Int) else 0
abbrev rest (s:ByteArray) (pos:Nat):List UInt8:=s.data.toList.drop pos
theorem av5 (s:ByteArray) (pos:Nat):(rest s pos).length=s.size-pos:=by
 rw[List.length_drop,Array.length_toList];rfl
theorem ad7 (s:ByteArray) (pos:Nat) (h:pos<s.size):rest s pos=s[pos] :: rest s (pos+1):=by
 have hl:s.data.toList.length=s.size:=by rw[Array.length_toList];rfl
 rw[rest,List.drop_eq_getElem_cons (by omega)]
 rfl
theorem ba4 (s:ByteArray) (pos:Nat) (h:¬ pos<s.size):rest s pos=[]:=by
 apply List.length_eq_zero_iff.1;rw[av5];omega
def sgOf (s:ByteArray) (pos:Nat):Sg:=⟨ag3 (rest s pos),s.extract pos (pos+ab0 (rest s pos)),aB6 (ag3 (rest s pos)) ((rest s pos).take (ab0 (rest s pos))),pos⟩
def aw1 (s:ByteArray):Nat→Nat→List Sg→List Sg×Nat
 | 0,_,acc=>(acc,0)
 | f+1,pos,acc =>
  if pos<s.size then
   if ag3 (rest s pos)=0 then aw1 s f (pos+ab0 (rest s pos)) acc
   else if al8 (ag3 (rest s pos)) (ab0 (rest s pos))=true∧acc.length<500 then aw1 s f (pos+ab0 (rest s pos)) (acc++[sgOf s pos])
   else ([],pos+1)
  else (acc,0)
theorem av6 (s:ByteArray):∀ (f g pos:Nat) (acc:List Sg),s.size-pos≤f→s.size-pos≤g→aw1 s f pos acc=aw1 s g pos acc
 | 0,0,_,_,_,_=>rfl
 | 0,g+1,pos,acc,h,_=>by rw[aw1,aw1,if_neg (by omega)]
 | f+1,0,pos,acc,_,h=>by rw[aw1,aw1,if_neg (by omega)]
 | f+1,g+1,pos,acc,h1,h2=>by
  have hp:=ao6 (rest s pos)
  rw[aw1,aw1]
  split
  ·split
   ·exact av6 s f g _ _ (by omega) (by omega)
   ·split
    ·exact av6 s f g _ _ (by omega) (by omega)
    ·rfl
  ·rfl
def scan (s:ByteArray) (pos:Nat) (acc:List Sg):List Sg×Nat:=aw1 s (s.size-pos) pos acc
theorem ba6 {s:ByteArray}{pos:Nat}(h:¬ pos<s.size) (acc:List Sg):scan s pos acc=(acc,0):=by
 rw[scan,show s.size-pos=0 from by omega];rfl
theorem aX7 {s:ByteArray}{pos:Nat}(h:pos<s.size) (acc:List Sg):scan s pos acc =
  if ag3 (rest s pos)=0 then scan s (pos+ab0 (rest s pos)) acc
  else if al8 (ag3 (rest s pos)) (ab0 (rest s pos))=true∧acc.length<500 then scan s (pos+ab0 (rest s pos)) (acc++[sgOf s pos])
  else ([],pos+1):=by
 have hp:=ao6 (rest s pos)
 rw[scan,show s.size-pos=(s.size-pos-1)+1 from by omega,aw1,if_pos h]
 split
 ·exact av6 s _ _ _ _ (by omega) (by omega)
 ·split
  ·exact av6 s _ _ _ _ (by omega) (by omega)
  ·rfl
theorem az0 {s:ByteArray}{pos:Nat}(h:pos<s.size) (hk:ag3 (rest s pos)=0) (acc:List Sg):scan s pos acc=scan s (pos+ab0 (rest s pos)) acc:=by
 rw[aX7 h,if_pos hk]
theorem aR8 {s:ByteArray}{pos:Nat}(h:pos<s.size) (hk:ag3 (rest s pos)≠0) (hf:al8 (ag3 (rest s pos)) (ab0 (rest s pos))=true) {acc:List Sg}(ha:acc.length<500) :
  scan s pos acc=scan s (pos+ab0 (rest s pos)) (acc++[sgOf s pos]):=by
 rw[aX7 h,if_neg hk,if_pos ⟨hf,ha⟩]
theorem aF9 {s:ByteArray}{pos:Nat}(h:pos<s.size) (hk:ag3 (rest s pos)≠0) {acc:List Sg}(hf:al8 (ag3 (rest s pos)) (ab0 (rest s pos))=false∨¬ acc.length<500) :
  scan s pos acc=([],pos+1):=by
 rw[aX7 h,if_neg hk,if_neg (fun ⟨a,b⟩=>by rcases hf with hf|hf;rw[hf]at a;cases a;exact hf b)]
theorem bf8 {s:ByteArray}{pos:Nat}(h:pos<s.size) (hb:af4 s[pos].toNat=true) (acc:List Sg):scan s pos acc=scan s (pos+1) acc:=by
 have hk:ag3 (rest s pos)=0:=by rw[ad7 s pos h,ag3,if_pos hb]
 have hs:ab0 (rest s pos)=ai0 af4 (rest s (pos+1))+1:=by rw[ad7 s pos h,ab0,if_pos hb,al9 hb]
 rw[az0 h hk,hs]
 by_cases h1:pos+1<s.size
 ·by_cases hb1:af4 s[pos+1].toNat=true
  ·have hk1:ag3 (rest s (pos+1))=0:=by rw[ad7 s _ h1,ag3,if_pos hb1]
   have hs1:ab0 (rest s (pos+1))=ai0 af4 (rest s (pos+1)):=by rw[ad7 s _ h1,ab0,if_pos hb1]
   rw[az0 h1 hk1,hs1]
   congr 1;omega
  ·have:ai0 af4 (rest s (pos+1))=0:=by rw[ad7 s _ h1];exact ay0 (by simpa using hb1)
   rw[this,Nat.zero_add]
 ·have:ai0 af4 (rest s (pos+1))=0:=by rw[ba4 s _ h1];rfl
  rw[this,Nat.zero_add]
def ad2 (s:ByteArray):List Sg×Nat:=if 1500<s.size then ([],1) else scan s 0 []
theorem aF8 (s:ByteArray):∀ (f pos:Nat) (acc:List Sg),acc.length≤500→(aw1 s f pos acc).1.length≤500
 | 0,_,_,h=>h
 | f+1,pos,acc,h=>by
  rw[aw1]
  split
  ·split
   ·exact aF8 s f _ _ h
   ·split
    ·rename_i hq;exact aF8 s f _ _ (by simp;omega)
    ·simp
  ·exact h
theorem aA4 (s:ByteArray):(ad2 s).1.length≤500:=by
 unfold ad2
 split
 ·simp
 ·exact aF8 s _ _ _ (by simp)
end Go.Proofs.YtcpapceeekkacaaGreatDoor
