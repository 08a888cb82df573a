import Derived.Test.YtcpapceeekkacaaGreatDoorCards
import Derived.Test.YtcpapceeekkacaaGreatDoorIdxW
import Derived.Test.YtcpapceeekkacaaGreatDoorImpA
import Derived.Lib.LaidU8T
import Derived.PinnedBridge
import Derived.Deep.DeepHandedRow
import Derived.Stop.LaidErr
set_option maxRecDepth 100000
set_option maxHeartbeats 8000000
namespace Go.Proofs.YtcpapceeekkacaaGreatDoor
theorem aS8:(Rows.laid_unicode_utf8_acceptRanges:DataW Unit)=Lib.acceptData:=by kernel_rfl
theorem aY6:Rows.laid_unicode_utf8_first=Lib.firstData:=Go.Pinned.utf8First_eq
theorem bg3 {W:World}(h:laidMet Tryz.prog [("unicode/utf8.acceptRanges", Rows.laid_unicode_utf8_acceptRanges),("loop.example/g00290/impl.operationTexts", Rows.laid_loop_example_g00290_impl_operationTexts),("unicode/utf8.first", Rows.laid_unicode_utf8_first)] W):Lib.Utf8Tabs 0 1 W :=
 utf8Tabs_of_readsT (ρ:=Tryz.lays197_ren) ⟨Tryz.lays197.t5,Tryz.lays197.t119,Tryz.lays197.t138,Tryz.lays197.t139⟩ ⟨by kernel_rfl,by kernel_rfl,by kernel_rfl,by kernel_rfl,by kernel_rfl,by kernel_rfl,by kernel_rfl⟩
  (by rw[←aY6];exact Lib.laidMet.reads h (.tail _ (.tail _ (.head _)))) (by rw[←aS8];exact Lib.laidMet.reads h (.head _))
theorem aG9 {H:Type}{enc:TypeId×Value→H}{P:Program}{w:World}{base:Nat}{sp:Nat→Bool}{held:Bool}{fuel:Nat}{t e:TypeId}{n:Nat}{cs:List Value}{zs:List ByteArray}{p:List MemPlace}
  (ht:P.underlying t=some (.array n e)) (he:P.underlying e=some .string) (hce:P.cellsOf e=1) (hct:P.cellsOf t=n)
  (h:DataW.trod enc P w base sp held fuel t cs=some (.agg (zs.map fun z=>.lit (.string z.data.toList)),p)):cs=zs.map Value.string:=by
 cases fuel with
 | zero=>simp[DataW.trod]at h
 | succ fuel =>
  simp only[DataW.trod,ht,hce,hct,Nat.mul_one]at h
  split at h
  ·rename_i hl
   obtain⟨xs,hm,hx⟩:=Option.map_eq_some_iff.1 h
   have hxs:xs.map (·.1)=zs.map fun z=>(DataW.lit (.string z.data.toList):DataW H):=by
    have:=congrArg Prod.fst hx
    simpa using this
   have hxl:xs.length=n:=by simpa using Lib.mapM_length hm
   have hzl:zs.length=n:=by
    have:=congrArg List.length hxs
    simp at this
    omega
   apply List.ext_getElem?
   intro i
   by_cases hi:i<n
   ·obtain⟨b,hb,hf⟩:=Lib.mapM_at hm i i (by simp[hi])
    obtain⟨z,hc,rfl,_⟩:=DataW.trod_string he hf
    have h1:cs[i]? = some (.string z):=by
     have:=congrArg (·[0]?) hc
     simpa [List.getElem?_take,List.getElem?_drop] using this
    have h2:(xs.map (·.1))[i]? = some (DataW.lit (.string z.data.toList):DataW H):=by simp[hb]
    rw[hxs]at h2
    simp only[List.getElem?_map,Option.map_eq_some_iff,DataW.lit.injEq,Lit.string.injEq]at h2
    obtain⟨z',hz',e⟩:=h2
    have e2:z'=z:=by
     cases z with|mk a=>cases z' with|mk b =>
     congr 1
     exact Array.toList_inj.1 e
    subst e2
    simp[h1,hz']
   ·rw[List.getElem?_eq_none (by omega),List.getElem?_eq_none (by simp;omega)]
  ·cases h
theorem ops_laid:(Rows.laid_loop_example_g00290_impl_operationTexts:DataW Unit)=.agg (opTx.map fun z=>.lit (.string z.data.toList)):=by kernel_rfl
theorem gOps:Tryz.prog.globalNamed "loop.example/g00290/impl.operationTexts" = some 3:=by kernel_rfl
theorem gOpsType:(Tryz.prog.globals[3]?).map (·.type)=some 166:=by kernel_rfl
theorem cellsOps:Tryz.prog.cellsOf 166=10:=by kernel_rfl
theorem cellsStr:Tryz.prog.cellsOf 9=1:=by kernel_rfl
theorem ops_of {W:World}{l:List (String×DataW Unit)}(h:laidMet Tryz.prog l W) (hm:("loop.example/g00290/impl.operationTexts", Rows.laid_loop_example_g00290_impl_operationTexts)∈l):ak5 W∧3<W.heap.size:=by
 obtain⟨g',t',cs,fuel,p,hg',ht',hvar,hd⟩:=Lib.laidMet.reads h hm
 obtain rfl:=Option.some.inj (gOps.symm.trans hg')
 obtain rfl:=Option.some.inj (gOpsType.symm.trans ht')
 rw[ops_laid]at hd
 have e:=aG9 Tryz.underlying166 Tryz.underlying9 cellsStr cellsOps hd
 have hO:ak5 W:=fun k t hk=>by
  have:=World.var?_cell gOps hvar k
  rw[this,←Array.getElem?_toList,e,List.getElem?_map,hk]
  rfl
 exact⟨hO,World.block_lt_of_cell? _ _ (hO 0 _ rfl)⟩
end Go.Proofs.YtcpapceeekkacaaGreatDoor
