import Derived.Test.YtcpapceeekkacaaGreatDoorChecked
import Derived.WalkKit
import Derived.Test.YtcpapceeekkacaaGreatDoorIrdQ
import Derived.Defers
import Derived.Recover
import Derived.Test.YtcpapceeekkacaaGreatDoorSignP
import Derived.Test.YtcpapceeekkacaaGreatDoorNameW
import Derived.Test.YtcpapceeekkacaaGreatDoorMarkM
import Derived.BigQuiet
import Derived.WalkSmall
import Derived.Deep.RegionHeld3
set_option maxRecDepth 100000
set_option maxHeartbeats 8000000
namespace Go.Proofs.YtcpapceeekkacaaGreatDoor
open Go.RowKit
def aA_:TypeDesc→Bool
 | .interface _=>false
 | _=>true
theorem ae0 {P:Program}(w:World) (t xT:TypeId) (v:Value) (d:TypeDesc) (hu:P.underlying t=some d) (hd:aA_ d=true):(Instr.typeAssert (.iface t v) xT t true).run P w=.ok (.tuple #[v,.bool true]) w:=by
 unfold Instr.typeAssert
 simp only[Sem.run_bind,run_underlying hu]
 cases d <;> simp_all [aA_]
theorem ba5 {P:Program}(w:World) (t:TypeId) (z:Value) (hz:(P.info? t).map (·.zero)=some (some z)):(zeroValue t).run P w=.ok z w:=by
 cases hq:P.info? t with
 | none=>simp[hq]at hz
 | some i =>
  have hs:i.zero=some z:=by simpa [hq] using hz
  simp[zeroValue,typeInfo,hq,hs]
theorem ad9 {P:Program}(w:World) (t a xT:TypeId) (v z:Value) (d:TypeDesc) (ht:t≠a) (hu:P.underlying a=some d) (hd:aA_ d=true) (hz:(P.info? a).map (·.zero)=some (some z)):(Instr.typeAssert (.iface t v) xT a true).run P w=.ok (.tuple #[z,.bool false]) w:=by
 unfold Instr.typeAssert
 simp only[Sem.run_bind,run_underlying hu]
 have:=ba5 (P:=P) w a z hz
 cases d <;> simp_all [aA_]
theorem ad8 {P:Program}(w:World) (a xT:TypeId) (z:Value) (d:TypeDesc) (hu:P.underlying a=some d) (hd:aA_ d=true) (hz:(P.info? a).map (·.zero)=some (some z)):(Instr.typeAssert .nilIface xT a true).run P w=.ok (.tuple #[z,.bool false]) w:=by
 unfold Instr.typeAssert
 simp only[Sem.run_bind,run_underlying hu]
 have:=ba5 (P:=P) w a z hz
 cases d <;> simp_all [aA_]
theorem aI9 (v:Value) (w:World):(Instr.typeAssert (.iface 134 v) 112 134 true).run Tryz.prog w=.ok (.tuple #[v,.bool true]) w:=ae0 w _ _ v _ Tryz.underlying134 rfl
theorem ab4 (t:TypeId) (v:Value) (w:World) (ht:t≠134):(Instr.typeAssert (.iface t v) 112 134 true).run Tryz.prog w=.ok (.tuple #[.agg #[.int .i64 0],.bool false]) w:=ad9 w _ _ _ v _ _ ht Tryz.underlying134 rfl (by kernel_rfl)
theorem aV9 (w:World):(Instr.typeAssert .nilIface 112 134 true).run Tryz.prog w=.ok (.tuple #[.agg #[.int .i64 0],.bool false]) w:=ad8 w _ _ _ _ Tryz.underlying134 rfl (by kernel_rfl)
theorem aJ0 (v:Value) (w:World):(Instr.typeAssert (.iface 136 v) 112 136 true).run Tryz.prog w=.ok (.tuple #[v,.bool true]) w:=ae0 w _ _ v _ Tryz.underlying136 rfl
theorem ab6 (t:TypeId) (v:Value) (w:World) (ht:t≠136):(Instr.typeAssert (.iface t v) 112 136 true).run Tryz.prog w=.ok (.tuple #[.agg #[.string ⟨#[]⟩],.bool false]) w:=ad9 w _ _ _ v _ _ ht Tryz.underlying136 rfl (by kernel_rfl)
theorem aW0 (w:World):(Instr.typeAssert .nilIface 112 136 true).run Tryz.prog w=.ok (.tuple #[.agg #[.string ⟨#[]⟩],.bool false]) w:=ad8 w _ _ _ _ Tryz.underlying136 rfl (by kernel_rfl)
theorem aE7 (v:Value) (w:World):(Instr.typeAssert (.iface 138 v) 112 138 true).run Tryz.prog w=.ok (.tuple #[v,.bool true]) w:=ae0 w _ _ v _ Tryz.underlying138 rfl
theorem ab2 (t:TypeId) (v:Value) (w:World) (ht:t≠138):(Instr.typeAssert (.iface t v) 112 138 true).run Tryz.prog w=.ok (.tuple #[.agg #[.int .i64 0,.int .i64 0,.int .i64 0],.bool false]) w:=ad9 w _ _ _ v _ _ ht Tryz.underlying138 rfl (by kernel_rfl)
theorem aP9 (w:World):(Instr.typeAssert .nilIface 112 138 true).run Tryz.prog w=.ok (.tuple #[.agg #[.int .i64 0,.int .i64 0,.int .i64 0],.bool false]) w:=ad8 w _ _ _ _ Tryz.underlying138 rfl (by kernel_rfl)
theorem aI8 (v:Value) (w:World):(Instr.typeAssert (.iface 140 v) 112 140 true).run Tryz.prog w=.ok (.tuple #[v,.bool true]) w:=ae0 w _ _ v _ Tryz.underlying140 rfl
theorem ac_ (t:TypeId) (v:Value) (w:World) (ht:t≠140):(Instr.typeAssert (.iface t v) 112 140 true).run Tryz.prog w=.ok (.tuple #[.agg #[.int .i64 0],.bool false]) w:=ad9 w _ _ _ v _ _ ht Tryz.underlying140 rfl (by kernel_rfl)
theorem aV8 (w:World):(Instr.typeAssert .nilIface 112 140 true).run Tryz.prog w=.ok (.tuple #[.agg #[.int .i64 0],.bool false]) w:=ad8 w _ _ _ _ Tryz.underlying140 rfl (by kernel_rfl)
theorem aI7 (v:Value) (w:World):(Instr.typeAssert (.iface 141 v) 112 141 true).run Tryz.prog w=.ok (.tuple #[v,.bool true]) w:=ae0 w _ _ v _ Tryz.underlying141 rfl
theorem ac4 (t:TypeId) (v:Value) (w:World) (ht:t≠141):(Instr.typeAssert (.iface t v) 112 141 true).run Tryz.prog w=.ok (.tuple #[.agg #[.int .i64 0],.bool false]) w:=ad9 w _ _ _ v _ _ ht Tryz.underlying141 rfl (by kernel_rfl)
theorem aV7 (w:World):(Instr.typeAssert .nilIface 112 141 true).run Tryz.prog w=.ok (.tuple #[.agg #[.int .i64 0],.bool false]) w:=ad8 w _ _ _ _ Tryz.underlying141 rfl (by kernel_rfl)
theorem aJ_ (v:Value) (w:World):(Instr.typeAssert (.iface 143 v) 112 143 true).run Tryz.prog w=.ok (.tuple #[v,.bool true]) w:=ae0 w _ _ v _ Tryz.underlying143 rfl
theorem ac9 (t:TypeId) (v:Value) (w:World) (ht:t≠143):(Instr.typeAssert (.iface t v) 112 143 true).run Tryz.prog w=.ok (.tuple #[.agg #[.string ⟨#[]⟩,.int .i64 0],.bool false]) w:=ad9 w _ _ _ v _ _ ht Tryz.underlying143 rfl (by kernel_rfl)
theorem aW_ (w:World):(Instr.typeAssert .nilIface 112 143 true).run Tryz.prog w=.ok (.tuple #[.agg #[.string ⟨#[]⟩,.int .i64 0],.bool false]) w:=ad8 w _ _ _ _ Tryz.underlying143 rfl (by kernel_rfl)
theorem aR_ (v:Value) (w:World):(Instr.typeAssert (.iface 145 v) 112 145 true).run Tryz.prog w=.ok (.tuple #[v,.bool true]) w:=ae0 w _ _ v _ Tryz.underlying145 rfl
theorem ae4 (t:TypeId) (v:Value) (w:World) (ht:t≠145):(Instr.typeAssert (.iface t v) 112 145 true).run Tryz.prog w=.ok (.tuple #[.agg #[.int .i64 0,.int .i64 0,.int .i64 0],.bool false]) w:=ad9 w _ _ _ v _ _ ht Tryz.underlying145 rfl (by kernel_rfl)
theorem bd5 (w:World):(Instr.typeAssert .nilIface 112 145 true).run Tryz.prog w=.ok (.tuple #[.agg #[.int .i64 0,.int .i64 0,.int .i64 0],.bool false]) w:=ad8 w _ _ _ _ Tryz.underlying145 rfl (by kernel_rfl)
theorem aB4 (v:Value) (w:World):(Instr.typeAssert (.iface 147 v) 112 147 true).run Tryz.prog w=.ok (.tuple #[v,.bool true]) w:=ae0 w _ _ v _ Tryz.underlying147 rfl
theorem ab8 (t:TypeId) (v:Value) (w:World) (ht:t≠147):(Instr.typeAssert (.iface t v) 112 147 true).run Tryz.prog w=.ok (.tuple #[.agg #[.int .i64 0,.int .i64 0],.bool false]) w:=ad9 w _ _ _ v _ _ ht Tryz.underlying147 rfl (by kernel_rfl)
theorem aL6 (w:World):(Instr.typeAssert .nilIface 112 147 true).run Tryz.prog w=.ok (.tuple #[.agg #[.int .i64 0,.int .i64 0],.bool false]) w:=ad8 w _ _ _ _ Tryz.underlying147 rfl (by kernel_rfl)
theorem aE8 (v:Value) (w:World):(Instr.typeAssert (.iface 149 v) 112 149 true).run Tryz.prog w=.ok (.tuple #[v,.bool true]) w:=ae0 w _ _ v _ Tryz.underlying149 rfl
theorem ad_ (t:TypeId) (v:Value) (w:World) (ht:t≠149):(Instr.typeAssert (.iface t v) 112 149 true).run Tryz.prog w=.ok (.tuple #[.agg #[.string ⟨#[]⟩,.string ⟨#[]⟩,.string ⟨#[]⟩,.int .i64 0],.bool false]) w:=ad9 w _ _ _ v _ _ ht Tryz.underlying149 rfl (by kernel_rfl)
theorem aQ_ (w:World):(Instr.typeAssert .nilIface 112 149 true).run Tryz.prog w=.ok (.tuple #[.agg #[.string ⟨#[]⟩,.string ⟨#[]⟩,.string ⟨#[]⟩,.int .i64 0],.bool false]) w:=ad8 w _ _ _ _ Tryz.underlying149 rfl (by kernel_rfl)
theorem aB3 (v:Value) (w:World):(Instr.typeAssert (.iface 151 v) 112 151 true).run Tryz.prog w=.ok (.tuple #[v,.bool true]) w:=ae0 w _ _ v _ Tryz.underlying151 rfl
theorem ac6 (t:TypeId) (v:Value) (w:World) (ht:t≠151):(Instr.typeAssert (.iface t v) 112 151 true).run Tryz.prog w=.ok (.tuple #[.agg #[.int .i64 0],.bool false]) w:=ad9 w _ _ _ v _ _ ht Tryz.underlying151 rfl (by kernel_rfl)
theorem aL5 (w:World):(Instr.typeAssert .nilIface 112 151 true).run Tryz.prog w=.ok (.tuple #[.agg #[.int .i64 0],.bool false]) w:=ad8 w _ _ _ _ Tryz.underlying151 rfl (by kernel_rfl)
theorem aF_ (v:Value) (w:World):(Instr.typeAssert (.iface 152 v) 112 152 true).run Tryz.prog w=.ok (.tuple #[v,.bool true]) w:=ae0 w _ _ v _ Tryz.underlying152 rfl
theorem ae_ (t:TypeId) (v:Value) (w:World) (ht:t≠152):(Instr.typeAssert (.iface t v) 112 152 true).run Tryz.prog w=.ok (.tuple #[.agg #[.string ⟨#[]⟩],.bool false]) w:=ad9 w _ _ _ v _ _ ht Tryz.underlying152 rfl (by kernel_rfl)
theorem aQ1 (w:World):(Instr.typeAssert .nilIface 112 152 true).run Tryz.prog w=.ok (.tuple #[.agg #[.string ⟨#[]⟩],.bool false]) w:=ad8 w _ _ _ _ Tryz.underlying152 rfl (by kernel_rfl)
theorem aB2 (v:Value) (w:World):(Instr.typeAssert (.iface 153 v) 112 153 true).run Tryz.prog w=.ok (.tuple #[v,.bool true]) w:=ae0 w _ _ v _ Tryz.underlying153 rfl
theorem ad6 (t:TypeId) (v:Value) (w:World) (ht:t≠153):(Instr.typeAssert (.iface t v) 112 153 true).run Tryz.prog w=.ok (.tuple #[.agg #[.string ⟨#[]⟩],.bool false]) w:=ad9 w _ _ _ v _ _ ht Tryz.underlying153 rfl (by kernel_rfl)
theorem aL4 (w:World):(Instr.typeAssert .nilIface 112 153 true).run Tryz.prog w=.ok (.tuple #[.agg #[.string ⟨#[]⟩],.bool false]) w:=ad8 w _ _ _ _ Tryz.underlying153 rfl (by kernel_rfl)
theorem aE9 (v:Value) (w:World):(Instr.typeAssert (.iface 154 v) 112 154 true).run Tryz.prog w=.ok (.tuple #[v,.bool true]) w:=ae0 w _ _ v _ Tryz.underlying154 rfl
theorem af2 (t:TypeId) (v:Value) (w:World) (ht:t≠154):(Instr.typeAssert (.iface t v) 112 154 true).run Tryz.prog w=.ok (.tuple #[.agg #[.string ⟨#[]⟩],.bool false]) w:=ad9 w _ _ _ v _ _ ht Tryz.underlying154 rfl (by kernel_rfl)
theorem aQ0 (w:World):(Instr.typeAssert .nilIface 112 154 true).run Tryz.prog w=.ok (.tuple #[.agg #[.string ⟨#[]⟩],.bool false]) w:=ad8 w _ _ _ _ Tryz.underlying154 rfl (by kernel_rfl)
theorem aW9 (v:Value) (w:World):(Instr.typeAssert (.iface 156 v) 112 156 true).run Tryz.prog w=.ok (.tuple #[v,.bool true]) w:=ae0 w _ _ v _ Tryz.underlying156 rfl
theorem ag_ (t:TypeId) (v:Value) (w:World) (ht:t≠156):(Instr.typeAssert (.iface t v) 112 156 true).run Tryz.prog w=.ok (.tuple #[.agg #[],.bool false]) w:=ad9 w _ _ _ v _ _ ht Tryz.underlying156 rfl (by kernel_rfl)
theorem aQ2 (w:World):(Instr.typeAssert .nilIface 112 156 true).run Tryz.prog w=.ok (.tuple #[.agg #[],.bool false]) w:=ad8 w _ _ _ _ Tryz.underlying156 rfl (by kernel_rfl)
theorem aB1 (v:Value) (w:World):(Instr.typeAssert (.iface 132 v) 112 132 true).run Tryz.prog w=.ok (.tuple #[v,.bool true]) w:=ae0 w _ _ v _ Tryz.underlying132 rfl
theorem ae6 (t:TypeId) (v:Value) (w:World) (ht:t≠132):(Instr.typeAssert (.iface t v) 112 132 true).run Tryz.prog w=.ok (.tuple #[.agg #[.slice none 0 0],.bool false]) w:=ad9 w _ _ _ v _ _ ht Tryz.underlying132 rfl (by kernel_rfl)
theorem aL3 (w:World):(Instr.typeAssert .nilIface 112 132 true).run Tryz.prog w=.ok (.tuple #[.agg #[.slice none 0 0],.bool false]) w:=ad8 w _ _ _ _ Tryz.underlying132 rfl (by kernel_rfl)
theorem aF7 {P:Program}(w:World) (d:Nat) (t:TypeId) (m:Array (String×TypeId)) (ht:P.underlying t=some (.interface m)):(Op.equalIn (d+1) t .nilIface .nilIface).run P w=.ok true w:=by
 simp only[Op.equalIn,Sem.run_bind,run_underlying ht,Result.andThen_ok]
 rfl
theorem aC0 {P:Program}(w:World) (d:Nat) (t:TypeId) (m:Array (String×TypeId)) (ht:P.underlying t=some (.interface m)) (u:TypeId) (v:Value):(Op.equalIn (d+1) t (.iface u v) .nilIface).run P w=.ok false w:=by
 simp only[Op.equalIn,Sem.run_bind,run_underlying ht,Result.andThen_ok]
 rfl
theorem eql_nil (w:World):(binOp .eql 20 .nilIface .nilIface).run Tryz.prog w=.ok (.bool true) w:=by
 simp only[binOp]
 simp[Op.equal,Op.maxDepth,aF7 w 9999 20 #[] (P:=Tryz.prog) (by kernel_rfl)]
theorem eql_some (t:TypeId) (v:Value) (w:World):(binOp .eql 20 (.iface t v) .nilIface).run Tryz.prog w=.ok (.bool false) w:=by
 simp only[binOp]
 simp[Op.equal,Op.maxDepth,aC0 w 9999 20 #[] (P:=Tryz.prog) (by kernel_rfl)]
theorem on_wrong (v:Value) (w:World):(Instr.typeAssert (.iface 79 v) 20 79 true).run Tryz.prog w=.ok (.tuple #[v,.bool true]) w:=ae0 w _ _ v _ Tryz.underlying79 rfl
theorem aI3 (p:Addr) (w:World) :
  CallsD Tryz.prog 42 #[.pointer (some p)] .returning w fun e u' w'=>e=.returned (.tuple #[])∧u'=.returning∧w'=w:=by
 refine callsD_of_wpS Tryz.func42 rfl fun c₀ cs hu=>?_
 have E1:=eql_nil
 apply wpS_seq
 apply wpS_region
 simp[wpOpsS,go_sem,recoverD,hu,Tryz.ntmps42,Exit.thenS]
 refine wpS_of_wp ?_
 go_wp2
 cases c₀
 simp_all [bodyPostS,results,Tryz.results42]
theorem aD1 (p:Addr) (x pl:Int) (older:List PanicEntry) (w:World) (hc:w.cell? p=some (.int .i64 x)) (hz:w.frozen? p=false) (hp:p.block<w.heap.size) (hl:0≤pl) (hm:pl≤2000000000) :
  CallsD Tryz.prog 42 #[.pointer (some p)] (.panicking ({ v:=.iface 79 (.agg #[.int .i64 pl]),recovered:=false } :: older)) w fun e u' w' =>
   e=.returned (.tuple #[])∧u'=.panicking ({ v:=.iface 79 (.agg #[.int .i64 pl]),recovered:=true } :: older)∧w'=(w.alloc (.cells #[.int .i64 pl] 79)).setCell p (.int .i64 (pl+1)):=by
 refine callsD_of_wpS Tryz.func42 rfl fun c₀ cs hu=>?_
 have E1:=eql_some 79 (.agg #[.int .i64 pl])
 have E2:=on_wrong (.agg #[.int .i64 pl])
 obtain⟨pb,po,pf⟩:=p
 have F1:(w.alloc (.cells #[.int .i64 pl] 79)).frozen? ⟨pb,po,pf⟩=false:=by rw[frozen?_alloc_cells];exact hz
 apply wpS_seq
 apply wpS_region
 simp[wpOpsS,go_sem,recoverD,hu,Tryz.ntmps42,Exit.thenS]
 refine wpS_of_wp ?_
 go_wp2
 simp_all [bodyPostS,results,Tryz.results42]
theorem ao8.chgL {L:Nat→Prop}{B:Nat}{z:World}{v:Value}{ns:List Nd}{b:Nat}(h:ao8 L B z v ns) (hb:L b) (i:Nat) (u:Value):ao8 L B (z.setCell ⟨b,i,none⟩ u) v ns:=by
 obtain⟨css,n1,n2,n3,n4,n5,n6⟩:=h
 refine⟨css,n1,n2,aC5 n3 (fun c _ hne=>Below.heap_setCell z ⟨b,i,none⟩ u c hne) (fun e=>n5 b e hb),fun j cs x hj hx2=>?_,n5,n6⟩
 obtain⟨kv,e,a1,a2⟩:=n4 j cs x hj hx2
 exact⟨kv,e,aC5 a1 (fun c _ hne=>Below.heap_setCell z ⟨b,i,none⟩ u c hne) (fun e=>a2 b e hb),a2⟩
theorem ao8.free {L:Nat→Prop}{B:Nat}{z:World}{v:Value}{ns:List Nd}(h:ao8 L B z v ns):ao8 (fun _=>False) B z v ns:=by
 obtain⟨css,n1,n2,n3,n4,n5,n6⟩:=h
 refine⟨css,n1,n2,n3,fun j cs x hj hx2=>?_,fun _ _ h=>h,n6⟩
 obtain⟨kv,e,a1,a2⟩:=n4 j cs x hj hx2
 exact⟨kv,e,a1,fun _ _ h=>h⟩
theorem TyM.not3:¬ TyM 3:=by unfold TyM;decide
theorem TyP.not3:¬ TyP 3:=by unfold TyP;decide
theorem ar7.pokeG {z0 z:World}{b:Nat}(h:ar7 z0 z) (hb:z0.heap.size≤b) (i:Nat) (u:Value):ar7 z0 (z.setCell ⟨b,i,none⟩ u) :=
 ⟨by simpa using h.size,fun c ds T' fr h1 h2 e=>by
  rw[Below.heap_setCell z ⟨b,i,none⟩ u c (fun e2=>by have:=ag7 e;simp at e2;omega)]
  exact h.blk c ds T' fr h1 h2 e⟩
theorem aG2 {P:Program}{fn:Func}{p q:Tmp}{ty:TypeId}(h:fn.results=#[.cell p ty,.cell q 3]) (tmps:Array Value) (w:World) {a b:Addr}(hp:tmps.getD p undef=.pointer (some a)) (hq:tmps.getD q undef=.pointer (some b)) {v u:Value}(hl:(loadVar ty a).run P w=.ok v w) (hm:(loadVar 3 b).run P w=.ok u w) :
  (results fn tmps).run P w=.ok (.tuple #[v,u]) w:=by
 have hp':tmps[p]?.getD undef=.pointer (some a):=by simpa using hp
 have hq':tmps[q]?.getD undef=.pointer (some b):=by simpa using hq
 simp only[results,h]
 simp[hp',hq',asAddr,hl,hm]
theorem ba2 {w:World}{b:Nat}{x:Int}(h:Box w b #[.int .i64 x] 3):(loadVar 3 ⟨b,0,none⟩).run Tryz.prog w=.ok (.int .i64 x) w:=by
 have hc:w.cell? ⟨b,0,none⟩=some (.int .i64 x):=(chp h 0).trans rfl
 simp[go_sem,hc]
theorem bd3 (l:List Sg) (c:Rd):(c.last l).nodes=c.nodes:=by
 unfold Rd.last
 split <;> rfl
def ICaught (B base:Nat) (sz:Int) (l:List Sg) (w:World) (e:Ending) (w':World):Prop :=
 aG6 B w w'∧((((ae7 l).1.last l).bad=false∧(ae7 l).1.nodes.length≤l.length∧∃ v,e=.returned (.tuple #[v,.int .i64 0])∧PgV (fun _=>False) B base (ae7 l).1.nodes (ae7 l).2.1 (ae7 l).2.2 v w')
  ∨ (((ae7 l).1.last l).bad=true∧e=.returned (.tuple #[.agg #[.slice none 0 0,.slice none 0 0,.slice none 0 0],.int .i64 ((sgAt sz l ((ae7 l).1.last l)).place+1)])))
theorem aU2 {B g:Nat}{sz:Int}{l:List Sg}{lv:Value}(hw:ag8 l) (h500:l.length≤500) (hx:∀ x∈l,x.text.size≤1048576) (hB:3<B) (hp:∀ s,0≤(sgAt sz l s).place∧(sgAt sz l s).place≤2000000000)
  (w:World) (h:IAt (fun _=>False) B g sz l lv ⟨0,false,[]⟩ w) (hO:ak5 w) :
  Calls Tryz.prog 16 #[.pointer (some ⟨g,0,none⟩)] w (ICaught B (w.heap.size+2) sz l w):=by
 have hmf:∀ (fn:Fn) (first cap:Array Value) (w:World),(Instr.makeFunc fn first cap).run Tryz.prog w=.ok (.func fn first cap) w:=fun _ _ _ _=>rfl
 have HBL:=qb h.heap
 obtain⟨W,hW⟩:∃ W,W=(w.alloc (.cells #[.slice none 0 0,.slice none 0 0,.slice none 0 0] 26)).alloc (.cells #[.int .i64 0] 3):=⟨_,rfl⟩
 have hbel:Below w.heap.size w W:=by rw[hW];exact(bal _ _).alloc (by simp) _
 have hsz:W.heap.size=w.heap.size+2:=by rw[hW];simp
 have X1:Hid (Box W w.heap.size #[.slice none 0 0,.slice none 0 0,.slice none 0 0] 26):=by
  rw[hW];exact(Box.made _ _ _).stays (bal _ _)
 have X2:Hid (Box W (w.heap.size+1) #[.int .i64 0] 3):=by
  rw[hW];exact Box.madeAt (by simp) _ _
 have h0:IAt (fun b=>b=w.heap.size+1) B g sz l lv ⟨0,false,[]⟩ W:=h.change (fun b hb=>.inr (by omega)) (fun b hb=>by omega) (fun c hc=>.inl (hbel.block c hc))
 have CP:=qb (aO7 hw h500 hx hB W h0 (hO.stays (hbel.mono HBL.out) hB))
 have KW:=qb (ar7.below hbel)
 have BW:=qb (hbel.mono HBL.out)
 have HSZ:=qb hsz
 clear h0 h hO hbel hsz
 go_enter_defers Tryz.func16,Tryz.ntmps16
 go_wp2_with (rw[←hW];fail)
 rw[←hW]
 clear hW
 have CK0:=aI3
 have CK1:=aD1
 cases hb:((ae7 l).1.last l).bad
 ·refine(ag0.yes hb CP.out).mono ?_
  rintro e z⟨v,rfl,hE,no,nc,mo,f,po,pf,mid,top,rfl,hN,hM,hP⟩
  have B1:=qb (X1.out.keepI hE.keep aa0.g)
  have B2:Hid (Box z (w.heap.size+1) #[.int .i64 0] 3):=(hE.held _ rfl).trans X2.out
  have KZ:=qb (KW.out.trans hE.keep)
  have BZ:=qb (BW.out.trans hE.bel)
  have HLE:Hid ((ae7 l).1.nodes.length≤l.length):=by
   have h1:=hE.at'.good
   have h2:=hE.at'.pos
   unfold Rd.Good at h1
   rw[bd3]at h1
   show _≤_
   omega
  have HN:=qb hN
  have HM:=qb hM
  have HP:=qb hP
  have r0:=chp B1.out 0
  have r1:=chp B1.out 1
  have r2:=chp B1.out 2
  have g0:=fhp B1.out 0
  have g1:=fhp B1.out 1
  have g2:=fhp B1.out 2
  have f0:=chp B2.out 0
  have f1:=fhp B2.out 0
  simp at r0 r1 r2 f0
  clear hE hN hM hP CP X1 X2 KW BW hmf hw h500 hx hB
  go_wp2
  have D1:=qb (B1.out.set 0 (.slice no (ae7 l).1.nodes.length nc))
  have D2:=qb (D1.out.set 1 (.slice mo (ae7 l).2.1.length f))
  have D3:=qb (D2.out.set 2 (.slice po (ae7 l).2.2.length pf))
  have F1:=qb (B2.out.other ⟨w.heap.size,0,none⟩ (.slice no (ae7 l).1.nodes.length nc) (by simp))
  have F2:=qb (F1.out.other ⟨w.heap.size,1,none⟩ (.slice mo (ae7 l).2.1.length f) (by simp))
  have F3:=qb (F2.out.other ⟨w.heap.size,2,none⟩ (.slice po (ae7 l).2.2.length pf) (by simp))
  have F4:=qb (F3.out.set 0 (.int .i64 0))
  have D4:=qb (D3.out.other ⟨w.heap.size+1,0,none⟩ (.int .i64 0) (by simp))
  have NF:=qb ((((HN.out.chg B1.out aa0.g 0 (.slice no (ae7 l).1.nodes.length nc)).chg D1.out aa0.g 1 (.slice mo (ae7 l).2.1.length f)).chg D2.out aa0.g 2 (.slice po (ae7 l).2.2.length pf)).chgL rfl 0 (.int .i64 0)).free
  have MF:=qb ((((HM.out.monOf (aa5.poke B1.out TyM.notG 0 (.slice no (ae7 l).1.nodes.length nc)) (nlr _)).monOf (aa5.poke D1.out TyM.notG 1 (.slice mo (ae7 l).2.1.length f)) (nlr _)).monOf (aa5.poke D2.out TyM.notG 2 (.slice po (ae7 l).2.2.length pf)) (nlr _)).monOf (aa5.poke F3.out TyM.not3 0 (.int .i64 0)) (nlr _))
  have PF:=qb ((((HP.out.proOf (aa5.poke B1.out TyP.notG 0 (.slice no (ae7 l).1.nodes.length nc)) (nlr _)).proOf (aa5.poke D1.out TyP.notG 1 (.slice mo (ae7 l).2.1.length f)) (nlr _)).proOf (aa5.poke D2.out TyP.notG 2 (.slice po (ae7 l).2.2.length pf)) (nlr _)).proOf (aa5.poke F3.out TyP.not3 0 (.int .i64 0)) (nlr _))
  rw[HSZ.out]at MF PF
  refine leaves_cons (f:=42) (args:=#[.pointer (some ⟨w.heap.size+1,0,none⟩)]) (by simp) (by simp[go_sem]) ?_
  refine(aI3 ⟨w.heap.size+1,0,none⟩ _).mono ?_
  rintro e u' w'' ⟨rfl,rfl,rfl⟩
  refine⟨_,aG2 (p:=2) (q:=3) (ty:=26) rfl _ _ rfl rfl (D4.out.read _ _ Tryz.underlying26 rfl (by kernel_rfl)) (ba2 F4.out),?_,.inl ⟨hb,HLE.out,_,rfl,no,nc,mo,f,po,pf,mid,top,rfl,NF,MF.out,PF.out⟩⟩
  exact⟨(((KZ.out.pokeG (nlr _) 0 _).pokeG (nlr _) 1 _).pokeG (nlr _) 2 _).pokeG (Nat.le_succ _) 0 _,(((BZ.out.setCell HBL.out _).setCell HBL.out _).setCell HBL.out _).setCell (Nat.le_succ_of_le HBL.out) _⟩
 ·refine(ag0.no hb CP.out).mono ?_
  rintro e z⟨rfl,hG⟩
  have B1:=qb (X1.out.keepI hG.keep aa0.g)
  have B2:Hid (Box z (w.heap.size+1) #[.int .i64 0] 3):=hG.keep.blk _ _ _ _ (by decide) (by decide) X2.out
  have KZ:=qb (KW.out.trans hG.keep)
  have BZ:=qb (BW.out.trans hG.bel)
  refine leaves_cons (f:=42) (args:=#[.pointer (some ⟨w.heap.size+1,0,none⟩)]) (by simp) (by simp[go_sem]) ?_
  refine(aD1 ⟨w.heap.size+1,0,none⟩ 0 _ [] z ?_ ?_ B2.out.lt (hp _).1 (hp _).2).mono ?_
  ·exact(chp B2.out 0).trans rfl
  ·exact(fhp B2.out 0)
  rintro e u' w'' ⟨rfl,rfl,rfl⟩
  have hbz:=(Below.refl z.heap.size z).alloc (nlr _) (.cells #[.int .i64 (sgAt sz l ((ae7 l).1.last l)).place] 79)
  have D1:=(B1.out.stays hbz).other ⟨w.heap.size+1,0,none⟩ (.int .i64 ((sgAt sz l ((ae7 l).1.last l)).place+1)) (by simp)
  have F1:=(B2.out.stays hbz).set 0 (.int .i64 ((sgAt sz l ((ae7 l).1.last l)).place+1))
  refine⟨_,aG2 (p:=2) (q:=3) (ty:=26) rfl _ _ rfl rfl (D1.read _ _ Tryz.underlying26 rfl (by kernel_rfl)) (ba2 F1),?_,.inr ⟨hb,rfl⟩⟩
  have hzw:w.heap.size≤z.heap.size:=KZ.out.size
  have hBL:B≤w.heap.size:=HBL.out
  exact⟨(KZ.out.trans (ar7.below hbz)).pokeG (Nat.le_succ _) 0 _,(BZ.out.trans (hbz.mono (by omega))).setCell (Nat.le_succ_of_le HBL.out) _⟩
structure ScAt (w:World) (g:Nat) (s:ByteArray) (pos:Nat) (v:Value):Prop where
 c0:w.cell? ⟨g,0,none⟩=some (.string s)
 c1:w.cell? ⟨g,1,none⟩=some (.int .i64 (pos:Int))
 c2:w.cell? ⟨g,2,none⟩=some v
 f1:w.frozen? ⟨g,1,none⟩=false
 f2:w.frozen? ⟨g,2,none⟩=false
structure an3 (g:Nat) (w w':World):Prop where
 bel:Below g w w'
 size:w'.heap.size=w.heap.size
 far:∀ b,b≠g→w'.heap[b]? = w.heap[b]?
theorem aQ9 {g a b:Nat}(h:a≠b):(⟨g,a,none⟩:Addr)≠⟨g,b,none⟩:=fun e=>h (by injection e)
theorem ScAt.setPos {w:World}{g:Nat}{s:ByteArray}{pos:Nat}{v:Value}(C:ScAt w g s pos v) (pos':Nat):ScAt (w.setCell ⟨g,1,none⟩ (.int .i64 (pos':Int))) g s pos' v :=
 ⟨by rw[World.cell?_setCell_other (h:=aQ9 (by decide))];exact C.c0,World.cell?_setCell_same _ _ _ C.c1,by rw[World.cell?_setCell_other (h:=aQ9 (by decide))];exact C.c2,
  by rw[World.frozen?_setCell];exact C.f1,by rw[World.frozen?_setCell];exact C.f2⟩
theorem ScAt.setList {w:World}{g:Nat}{s:ByteArray}{pos:Nat}{v:Value}(C:ScAt w g s pos v) (v':Value):ScAt (w.setCell ⟨g,2,none⟩ v') g s pos v' :=
 ⟨by rw[World.cell?_setCell_other (h:=aQ9 (by decide))];exact C.c0,by rw[World.cell?_setCell_other (h:=aQ9 (by decide))];exact C.c1,World.cell?_setCell_same _ _ _ C.c2,
  by rw[World.frozen?_setCell];exact C.f1,by rw[World.frozen?_setCell];exact C.f2⟩
theorem ScAt.drewN {w:World}{g:Nat}{s:ByteArray}{pos:Nat}{v:Value}(C:ScAt w g s pos v) (q:Nat):ScAt (w.drewN q) g s pos v:=⟨C.c0,C.c1,C.c2,C.f1,C.f2⟩
theorem ScAt.stays {w w':World}{g B:Nat}{s:ByteArray}{pos:Nat}{v:Value}(C:ScAt w g s pos v) (hb:Below B w w') (hg:g<B):ScAt w' g s pos v :=
 ⟨(hb.cell (p:=⟨g,0,none⟩) hg).trans C.c0,(hb.cell (p:=⟨g,1,none⟩) hg).trans C.c1,(hb.cell (p:=⟨g,2,none⟩) hg).trans C.c2,(hb.frozen (p:=⟨g,1,none⟩) hg).trans C.f1,(hb.frozen (p:=⟨g,2,none⟩) hg).trans C.f2⟩
theorem ScAt.lt {w:World}{g:Nat}{s:ByteArray}{pos:Nat}{v:Value}(C:ScAt w g s pos v):g<w.heap.size:=World.block_lt_of_cell? _ _ C.c0
theorem an3.refl (g:Nat) (w:World):an3 g w w:=⟨Below.refl _ _,rfl,fun _ _=>rfl⟩
theorem an3.trans {g:Nat}{a b c:World}(h:an3 g a b) (k:an3 g b c):an3 g a c :=
 ⟨h.bel.trans k.bel,k.size.trans h.size,fun b hb=>(k.far b hb).trans (h.far b hb)⟩
theorem an3.setCell {g o:Nat}(w:World) (v:Value):an3 g w (w.setCell ⟨g,o,none⟩ v) :=
 ⟨Below.setCell (p:=⟨g,o,none⟩) (Below.refl g w) (nlr g) v,by simp[World.setCell],fun b hb=>Below.heap_setCell w _ _ b hb⟩
theorem an3.drewN {g:Nat}(w:World) (n:Nat):an3 g w (w.drewN n):=⟨⟨rfl,rfl,rfl,nlr _,fun _ _=>rfl⟩,rfl,fun _ _=>rfl⟩
def RunRel (g:Nat) (s:ByteArray) (q:Nat→Bool) (pos:Nat) (v:Value) (w wr:World):Prop :=
 ∃ k:Nat,pos+k≤s.size∧Hid (∀ j,pos≤j→j<pos+k→∀ h:j<s.size,q s[j].toNat=true)∧ScAt wr g s (pos+k) v∧Hid (an3 g w wr)
theorem as2 {q:Nat→Bool}{s:ByteArray}{pos k:Nat}(hk:pos+k≤s.size) (hA:∀ j,pos≤j→j<pos+k→∀ h:j<s.size,q s[j].toNat=true) (h:pos+k=s.size∨∃ hk:pos+k<s.size,q s[pos+k].toNat=false):ai0 q (rest s pos)=k:=by
 have hl:s.data.toList.length=s.size:=by rw[Array.length_toList];rfl
 have hg:∀ j (hj:pos+j<s.size),(rest s pos)[j]? = some s[pos+j]:=fun j hj=>by
  rw[rest,List.getElem?_drop,List.getElem?_eq_getElem (by omega)];rfl
 refine aK7 q _ k (fun j hj=>⟨_,hg j (by omega),hA (pos+j) (by omega) (by omega) (by omega)⟩) ?_
 rcases h with h|⟨hk,h⟩
 ·exact .inl (by rw[av5];omega)
 ·exact .inr ⟨_,hg k hk,h⟩
def at6 (lo hi:Nat) (r:Nat):Bool:=decide (lo≤r∧r≤hi)
theorem bm_ (g:Nat) (s:ByteArray) (pos lo hi:Nat) (v:Value) (w:World) (hs:s.size≤1500) (hp:pos≤s.size) (_hlo:lo<256) (_hhi:hi<256) (C:ScAt w g s pos v) :
  Calls Tryz.prog 58 #[.pointer (some ⟨g,0,none⟩),.int .u8 (lo:Int),.int .u8 (hi:Int)] w fun e w' =>
   e=.returned (.string (s.extract pos (pos+ai0 (at6 lo hi) (rest s pos))))∧ScAt w' g s (pos+ai0 (at6 lo hi) (rest s pos)) v∧an3 g w w':=by
 have HC:=qb C
 obtain⟨c0,c1,c2,f1,f2⟩:=C
 go_enter Tryz.func58,Tryz.ntmps58
 go_wp2
 go_loopw [48] (fun _ wr=>RunRel g s (at6 lo hi) pos v w wr) (fun _ wr=>s.size-(intOf ((wr.cell? ⟨g,1,none⟩).getD undef)).toNat)
 case atStart=>exact⟨0,by omega,fun j h1 h2=>by omega,HC.out,an3.refl _ _⟩
 case round =>
  obtain⟨k,hk,HA,HS,HO⟩:=hrel
  have HS1:=qb HS
  obtain⟨d0,d1,d2,g1,g2⟩:=HS
  by_cases hlt:pos+k<s.size
  ·obtain⟨c,hc⟩:∃ c:Nat,c=s[pos+k].toNat:=⟨_,rfl⟩
   have hb8:c<256:=by rw[hc];exact s[pos+k].toNat_lt
   have hix:∀ wx:World,(Instr.index 9 (.string s) (.int .i64 ((pos+k:Nat):Int))).run Tryz.prog wx=.ok (.int .u8 (c:Int)) wx:=fun wx=>by
    rw[hc];exact ah4 Tryz.underlying9 s (pos+k) hlt wx
   obtain⟨p,hpk⟩:∃ p,pos+k=p:=⟨_,rfl⟩
   rw[hpk]at hix d1
   have hd:decide (p<s.size)=true:=by simp;omega
   have HK:=qb hpk
   have HV:Hid (∃ h:pos+k<s.size,s[pos+k].toNat=c):=⟨hlt,hc.symm⟩
   have hp1:p+1≤s.size:=by omega
   clear hc hpk hlt
   by_cases h1:lo≤c
   ·have hd1:decide (lo≤c)=true:=by simp;omega
    by_cases h2:c≤hi
    ·have hd2:decide (c≤hi)=true:=by simp;omega
     have hwr:IntKind.i64.wrap ((p:Int)+1)=(p:Int)+1:=IntWalk.i64_in _ (by omega)
     have HA2:Hid (∀ j,pos≤j→j<pos+(k+1)→∀ h:j<s.size,at6 lo hi s[j].toNat=true):=fun j h3 h4 h=>by
      by_cases h5:j<pos+k
      ·exact HA.out j h3 h5 h
      ·have e:j=pos+k:=by omega
       subst e
       rw[HV.out.2,at6];simp;omega
     have HW:∀ q,Hid (ScAt ((wr.drewN q).setCell ⟨g,1,none⟩ (.int .i64 ((p:Int)+1))) g s (pos+(k+1)) v):=fun q=>by
      have e:(p:Int)+1=((pos+(k+1):Nat):Int):=by have:=HK.out;omega
      rw[e]
      exact(HS1.out.drewN q).setPos _
     have hp2:pos+(k+1)≤s.size:=by have:=HK.out;omega
     go_wp2
     go_quiet (fail)
     go_wp2
     go_roundw
     case rel=>exact⟨k+1,hp2,HA2,(HW _).out,(HO.out.trans (an3.drewN _ _)).trans (an3.setCell _ _)⟩
     case measure =>
      rw[World.cell?_setCell_same _ _ _ (show (wr.drewN _).cell? ⟨g,1,none⟩=some _ from d1),d1]
      simp[intOf];omega
    ·have hd2:decide (c≤hi)=false:=by simp;omega
     have HF:Hid (ai0 (at6 lo hi) (rest s pos)=k):=as2 hk HA.out (.inr ⟨HV.out.1,by rw[HV.out.2,at6];simp;omega⟩)
     have hsl:∀ wx:World,(Instr.slice 9 (.string s) (some (.int .i64 (pos:Int))) (some (.int .i64 (p:Int))) none).run Tryz.prog wx=.ok (.string (s.extract pos p)) wx:=fun wx=>by
      rw[run_slice_string (P:=Tryz.prog) (w:=wx) 9 s .i64 .i64 pos p Tryz.underlying9 (by omega) (by have:=HK.out;omega) (by omega)]
      rfl
     go_wp2
     go_quiet (fail)
     go_wp2
     go_quiet (fail)
     go_wp2
     go_ret
     refine⟨?_,?_,(HO.out.trans (an3.drewN _ _)).trans (an3.drewN _ _)⟩
     ·rw[HF.out,HK.out];rfl
     ·rw[HF.out];exact(HS1.out.drewN _).drewN _
   ·have hd1:decide (lo≤c)=false:=by simp;omega
    have HF:Hid (ai0 (at6 lo hi) (rest s pos)=k):=as2 hk HA.out (.inr ⟨HV.out.1,by rw[HV.out.2,at6];simp;omega⟩)
    have hsl:∀ wx:World,(Instr.slice 9 (.string s) (some (.int .i64 (pos:Int))) (some (.int .i64 (p:Int))) none).run Tryz.prog wx=.ok (.string (s.extract pos p)) wx:=fun wx=>by
     rw[run_slice_string (P:=Tryz.prog) (w:=wx) 9 s .i64 .i64 pos p Tryz.underlying9 (by omega) (by have:=HK.out;omega) (by omega)]
     rfl
    go_wp2
    go_quiet (fail)
    go_wp2
    go_quiet (fail)
    go_wp2
    go_ret
    refine⟨?_,?_,(HO.out.trans (an3.drewN _ _)).trans (an3.drewN _ _)⟩
    ·rw[HF.out,HK.out];rfl
    ·rw[HF.out];exact(HS1.out.drewN _).drewN _
  ·have hd:decide (pos+k<s.size)=false:=by simp;omega
   have HF:Hid (ai0 (at6 lo hi) (rest s pos)=k):=as2 hk HA.out (.inl (by omega))
   obtain⟨p,hpk⟩:∃ p,pos+k=p:=⟨_,rfl⟩
   rw[hpk]at hd d1 hk
   have HK:=qb hpk
   have hpp:pos≤p:=by omega
   have hsl:∀ wx:World,(Instr.slice 9 (.string s) (some (.int .i64 (pos:Int))) (some (.int .i64 (p:Int))) none).run Tryz.prog wx=.ok (.string (s.extract pos p)) wx:=fun wx=>by
    rw[run_slice_string (P:=Tryz.prog) (w:=wx) 9 s .i64 .i64 pos p Tryz.underlying9 (by omega) (by omega) (by omega)]
    rfl
   clear hpk hlt
   go_wp2
   go_quiet (fail)
   go_wp2
   go_quiet (fail)
   go_wp2
   go_ret
   refine⟨?_,?_,(HO.out.trans (an3.drewN _ _)).trans (an3.drewN _ _)⟩
   ·rw[HF.out,HK.out];rfl
   ·rw[HF.out];exact(HS1.out.drewN _).drewN _
theorem aE3 (c:Nat) (w:World) (hc:c<256):Calls Tryz.prog 59 #[.int .u8 (c:Int)] w fun e w'=>e=.returned (.bool (at9 c))∧w'=w:=by
 go_enter Tryz.func59,Tryz.ntmps59
 go_wp2
 go_loop [4] (fun iv=>∃ k:Nat,k≤12∧iv=.int .i64 k∧Hid (∀ j,j<k→[59,44,46,40,41,43,45,42,47,37,60,61].getD j 0≠c)) (fun i=>12-(intOf i).toNat)
 case atStart=>exact⟨0,by omega,rfl,fun j hj=>absurd hj (Nat.not_lt_zero j)⟩
 case round =>
  obtain⟨k,hk,rfl,HA⟩:=hrel
  by_cases hlt:k<12
  ·obtain⟨m,hm⟩:∃ m,m=[59,44,46,40,41,43,45,42,47,37,60,61].getD k 0:=⟨_,rfl⟩
   have hix:∀ wx:World,(Instr.index 9 (.string ⟨#[59,44,46,40,41,43,45,42,47,37,60,61]⟩) (.int .i64 (k:Int))).run Tryz.prog wx=.ok (.int .u8 (m:Int)) wx:=fun wx=>by
    rw[ah4 Tryz.underlying9 ⟨#[59,44,46,40,41,43,45,42,47,37,60,61]⟩ k hlt wx]
    have:∀ k:Fin 12,((⟨#[59,44,46,40,41,43,45,42,47,37,60,61]⟩:ByteArray)[k.val]'k.isLt).toNat=[59,44,46,40,41,43,45,42,47,37,60,61].getD k.val 0:=by decide
    rw[this ⟨k,hlt⟩,hm]
   have HM:=qb hm
   clear hm
   by_cases he:m=c
   ·have HF:Hid (at9 c=true):=by
     show _=_
     rw[at9,List.contains_iff_mem,←he,HM.out,List.getD_eq_getElem?_getD,List.getElem?_eq_getElem (show k < [59,44,46,40,41,43,45,42,47,37,60,61].length from hlt)]
     exact List.getElem_mem _
    subst he
    go_wp2
    go_ret
    exact⟨by rw[HF.out];rfl,rfl⟩
   ·have he':((m:Int) == (c:Int))=false:=by simp;omega
    have HA2:Hid (∀ j,j<k+1→[59,44,46,40,41,43,45,42,47,37,60,61].getD j 0≠c):=fun j hj=>by
     rcases Nat.lt_succ_iff_lt_or_eq.1 hj with hj|hj
     ·exact HA.out j hj
     ·subst hj;rw[←HM.out];exact he
    go_wp2
    go_round
    case rel=>exact⟨k+1,by omega,by go_num,HA2⟩
    case measure=>simp[intOf];omega
  ·have HF:Hid (at9 c=false):=by
    show _=_
    rw[at9,Bool.eq_false_iff]
    intro h
    rw[List.contains_iff_mem]at h
    obtain⟨j,hj,e⟩:=List.getElem_of_mem h
    have:=HA.out j (by have:j<12:=hj;omega)
    rw[List.getD_eq_getElem?_getD,List.getElem?_eq_getElem hj]at this
    exact this e
   go_wp2
   go_ret
   exact⟨by rw[HF.out];rfl,rfl⟩
end Go.Proofs.YtcpapceeekkacaaGreatDoor
