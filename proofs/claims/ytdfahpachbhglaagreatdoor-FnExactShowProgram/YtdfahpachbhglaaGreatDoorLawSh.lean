/-
  The law of showing a program, out of its pieces.
-/
import Derived.Test.YtdfahpachbhglaaGreatDoorImpU
import Derived.Test.YtdfahpachbhglaaGreatDoorShowG
import Derived.Test.YtdfahpachbhglaaGreatDoorShwG
import Derived.Deep.RegionHeld3
import Derived.Test.YtdfahpachbhglaaGreatDoorCards
import Derived.Test.YtdfahpachbhglaaGreatDoorShwA
import Derived.Lib.LaidU8T
import Derived.PinnedBridge
import Derived.Deep.DeepHandedRow
import Derived.Stop.LaidErr
import Derived.Test.YtdfahpachbhglaaGreatDoorMatP
import Derived.Lib.LaidTab
namespace Go.Proofs.YtdfahpachbhglaaGreatDoor
open Go.RowKit

set_option maxRecDepth 100000 in
set_option maxHeartbeats 4000000 in
theorem lawShow (nv mv pv : Value) (x : Pg) (w : World) (h : PgAt w nv mv pv x) (hm : PgMax x) (hO : OpsAt w) (hol : 0 < w.heap.size) (ht : Lib.TabIs Tryz.prog w "internal/strconv.uint64pow10" .u64 Lib.pow10Tab) (htl : 1 < w.heap.size) :
    Calls Tryz.prog 3 #[.agg #[nv, mv, pv]] w fun e w' => e = .returned (.bool true) ∧ Below w.heap.size w w' := by
  have HM := hide hm
  have HTB : Hid (∀ z, Below w.heap.size w z → OpsAt z ∧ 0 < z.heap.size ∧ Lib.TabIs Tryz.prog z "internal/strconv.uint64pow10" .u64 Lib.pow10Tab ∧ 1 < z.heap.size) := fun z hz => ⟨hO.stays hz hol, Nat.lt_of_lt_of_le hol hz.size, var?_below hz gPow htl ht, Nat.lt_of_lt_of_le htl hz.size⟩
  clear hO hol ht htl
  have BA := hide (Box.made w #[nv, mv, pv] 26)
  have BB : Hid (Below w.heap.size w (w.alloc (.cells #[nv, mv, pv] 26))) := (Below.refl _ _).alloc (Nat.le_refl _) _
  have HA := hide (h.stays BB.out)
  obtain ⟨⟨a0, b0, rfl, _⟩, ⟨a1, b1, rfl, _⟩, ⟨a2, b2, rfl, _⟩⟩ := h
  clear hm
  go_enter Tryz.func3, Tryz.ntmps3
  go_wp2_with fail
  refine (szProgram_any x _ _ _ _ _ (by omega) (by omega) HA.out.nodes HA.out.mons HA.out.pros HM.out).mono ?_
  rintro e z1 ⟨r, rfl, hr, hb1⟩
  have BA1 := hide (BA.out.stays hb1)
  have BB1 := hide (BB.out.trans (hb1.mono BB.out.size))
  have HA1 := hide (HA.out.stays hb1)
  have p0 := Lib.cell_of_heap BA1.out 0
  have p1 := Lib.cell_of_heap BA1.out 1
  have p2 := Lib.cell_of_heap BA1.out 2
  simp at p0 p1 p2
  clear hb1 BA BB HA
  by_cases hr0 : r < 0
  · clear hr
    go_wp2
    go_ret
    exact ⟨rfl, BB1.out⟩
  have hsz : szPg x ≤ 1048576 := by have := (hr.resolve_left hr0).2; omega
  have hI : Hid (PgIn x) := szPg_in hsz
  have hKL : Hid ((allKids x.nodes).length ≤ 1048576) := (szPg_kids hsz)
  have hBL : Hid ((bodiesL x.mons x.pros).length ≤ 1048576) := (szPg_bodies hsz)
  clear hsz
  clear hr
  go_wp2_with fail
  refine (toProgram_at HA1.out hI.out.len).mono ?_
  rintro e z2 ⟨o0, n0, c0, o1, n1, c1, o2, n2, c2, rfl, hc2, hb2⟩
  have BA2 := hide (BA1.out.stays hb2)
  have BB2 := hide (BB1.out.trans (hb2.mono BB1.out.size))
  have HA2 := hide (HA1.out.stays hb2)
  have P2 := hide hc2.at
  clear p0 p1 p2
  have p0 := Lib.cell_of_heap BA2.out 0
  have p1 := Lib.cell_of_heap BA2.out 1
  have p2 := Lib.cell_of_heap BA2.out 2
  simp at p0 p1 p2
  clear hb2 hc2 BA1 BB1 HA1
  go_wp2_with fail
  refine (specShow_any _ _ _ x _ P2.out.1.nodes P2.out.1.mons P2.out.1.pros hI.out.len hI.out.nodes hI.out.mons hI.out.pros hKL.out hBL.out).mono ?_
  rintro e z3 ⟨rfl, hb3⟩
  have BA3 := hide (BA2.out.stays hb3)
  have BB3 := hide (BB2.out.trans (hb3.mono BB2.out.size))
  have HA3 := hide (HA2.out.stays hb3)
  clear p0 p1 p2
  have p0 := Lib.cell_of_heap BA3.out 0
  have p1 := Lib.cell_of_heap BA3.out 1
  have p2 := Lib.cell_of_heap BA3.out 2
  simp at p0 p1 p2
  clear hb3 BA2 BB2 HA2 P2
  go_wp2_with fail
  refine (toProgram_at HA3.out hI.out.len).mono ?_
  rintro e z4 ⟨o3, n3, c3, o4, n4, c4, o5, n5, c5, rfl, hc4, hb4⟩
  have L4 : Hid (LawB w (.slice a0 x.nodes.length b0) (.slice a1 x.mons.length b1) (.slice a2 x.pros.length b2) x z4.heap.size (.slice o3 n3 c3) (.slice o4 n4 c4) (.slice o5 n5 c5) (z4.alloc (.cells #[.slice o3 n3 c3, .slice o4 n4 c4, .slice o5 n5 c5] 34))) := by
    have hb : Below z4.heap.size z4 (z4.alloc (.cells #[.slice o3 n3 c3, .slice o4 n4 c4, .slice o5 n5 c5] 34)) := (Below.refl _ _).alloc (Nat.le_refl _) _
    have hb5 := BB3.out.trans (hb4.mono BB3.out.size)
    exact ⟨(BA3.out.stays hb4).stays hb, Box.made _ _ _, hb5.trans (hb.mono hb5.size), (HA3.out.stays hb4).stays hb, hc4.at.1.stays hb⟩
  have R4 : Hid (NdsRoom (z4.alloc (.cells #[.slice o3 n3 c3, .slice o4 n4 c4, .slice o5 n5 c5] 34)) (.slice o3 n3 c3) x.nodes.length) := hc4.at.2.stays ((Below.refl _ _).alloc (Nat.le_refl _) _)
  clear p0 p1 p2 hb4 hc4 BA3 BB3 HA3
  go_wp2_with fail
  refine (implShow_any _ _ _ x _ L4.out.own.nodes L4.out.own.mons L4.out.own.pros R4.out hI.out.len hI.out.nodes hI.out.mons hI.out.pros hKL.out hBL.out (HTB.out _ L4.out.bel).1 (HTB.out _ L4.out.bel).2.1 (HTB.out _ L4.out.bel).2.2.1 (HTB.out _ L4.out.bel).2.2.2).mono ?_
  rintro e z5 ⟨rfl, hb5⟩
  have L5 := hide (L4.out.stays hb5)
  clear hb5 L4 R4
  obtain ⟨g0, g1, g2, g3, g4, g5, hh⟩ := L5.out.spread
  go_wp2_with fail
  have KP : Hid (∀ z z' : World, (z.cell? ⟨w.heap.size, 0, none⟩ = some (.slice a0 x.nodes.length b0) ∧ z.cell? ⟨w.heap.size, 1, none⟩ = some (.slice a1 x.mons.length b1) ∧ z.cell? ⟨w.heap.size, 2, none⟩ = some (.slice a2 x.pros.length b2) ∧ z.cell? ⟨z4.heap.size, 0, none⟩ = some (.slice o3 n3 c3) ∧ z.cell? ⟨z4.heap.size, 1, none⟩ = some (.slice o4 n4 c4) ∧ z.cell? ⟨z4.heap.size, 2, none⟩ = some (.slice o5 n5 c5) ∧ Hid (LawB w (.slice a0 x.nodes.length b0) (.slice a1 x.mons.length b1) (.slice a2 x.pros.length b2) x z4.heap.size (.slice o3 n3 c3) (.slice o4 n4 c4) (.slice o5 n5 c5) z)) → Below z.heap.size z z' → (z'.cell? ⟨w.heap.size, 0, none⟩ = some (.slice a0 x.nodes.length b0) ∧ z'.cell? ⟨w.heap.size, 1, none⟩ = some (.slice a1 x.mons.length b1) ∧ z'.cell? ⟨w.heap.size, 2, none⟩ = some (.slice a2 x.pros.length b2) ∧ z'.cell? ⟨z4.heap.size, 0, none⟩ = some (.slice o3 n3 c3) ∧ z'.cell? ⟨z4.heap.size, 1, none⟩ = some (.slice o4 n4 c4) ∧ z'.cell? ⟨z4.heap.size, 2, none⟩ = some (.slice o5 n5 c5) ∧ Hid (LawB w (.slice a0 x.nodes.length b0) (.slice a1 x.mons.length b1) (.slice a2 x.pros.length b2) x z4.heap.size (.slice o3 n3 c3) (.slice o4 n4 c4) (.slice o5 n5 c5) z'))) := fun z z' hz hb => (hz.2.2.2.2.2.2.out.stays hb).spread
  have KD : Hid (∀ z : World, (z.cell? ⟨w.heap.size, 0, none⟩ = some (.slice a0 x.nodes.length b0) ∧ z.cell? ⟨w.heap.size, 1, none⟩ = some (.slice a1 x.mons.length b1) ∧ z.cell? ⟨w.heap.size, 2, none⟩ = some (.slice a2 x.pros.length b2) ∧ z.cell? ⟨z4.heap.size, 0, none⟩ = some (.slice o3 n3 c3) ∧ z.cell? ⟨z4.heap.size, 1, none⟩ = some (.slice o4 n4 c4) ∧ z.cell? ⟨z4.heap.size, 2, none⟩ = some (.slice o5 n5 c5) ∧ Hid (LawB w (.slice a0 x.nodes.length b0) (.slice a1 x.mons.length b1) (.slice a2 x.pros.length b2) x z4.heap.size (.slice o3 n3 c3) (.slice o4 n4 c4) (.slice o5 n5 c5) z)) → LawB w (.slice a0 x.nodes.length b0) (.slice a1 x.mons.length b1) (.slice a2 x.pros.length b2) x z4.heap.size (.slice o3 n3 c3) (.slice o4 n4 c4) (.slice o5 n5 c5) z) := fun z hz => hz.2.2.2.2.2.2.out
  have K0 := hide (L5.out.stays (Below.refl _ _).drew).spread
  go_region_held3 (fun z => z.cell? ⟨w.heap.size, 0, none⟩ = some (.slice a0 x.nodes.length b0) ∧ z.cell? ⟨w.heap.size, 1, none⟩ = some (.slice a1 x.mons.length b1) ∧ z.cell? ⟨w.heap.size, 2, none⟩ = some (.slice a2 x.pros.length b2) ∧ z.cell? ⟨z4.heap.size, 0, none⟩ = some (.slice o3 n3 c3) ∧ z.cell? ⟨z4.heap.size, 1, none⟩ = some (.slice o4 n4 c4) ∧ z.cell? ⟨z4.heap.size, 2, none⟩ = some (.slice o5 n5 c5) ∧ Hid (LawB w (.slice a0 x.nodes.length b0) (.slice a1 x.mons.length b1) (.slice a2 x.pros.length b2) x z4.heap.size (.slice o3 n3 c3) (.slice o4 n4 c4) (.slice o5 n5 c5) z)) (first | exact K0.out | exact KP.out _ _ (by assumption) hb7)
    ((first
      | (go_at_call 6; refine (toProgram_at (KD.out _ (by assumption)).arg hI.out.len).mono ?_; rintro e w7 ⟨o6, n6, c6, o7, n7, c7, o8, n8, c8, rfl, hc7, hb7⟩; have P7 := hide hc7.at; clear hc7)
      | (go_at_call 8; refine (eqProgram_at (KD.out _ (by assumption)).own P7.out.1 hI.out.len).mono ?_; rintro e w7 ⟨rfl, hb7⟩)))
  all_goals (have D := hide (KD.out _ (by assumption)))
  all_goals go_wp2
  all_goals go_ret
  all_goals exact ⟨rfl, D.out.bel⟩
end Go.Proofs.YtdfahpachbhglaaGreatDoor

namespace Go.Proofs.YtdfahpachbhglaaGreatDoor

/-- An array of texts that reads so holds these texts, cell for cell. -/
theorem cells_of_texts {H : Type} {enc : TypeId × Value → H} {P : Program} {w : World} {base : Nat} {sp : Nat → Bool} {held : Bool} {fuel : Nat} {t e : TypeId} {n : Nat} {cs : List Value} {zs : List ByteArray} {p : List MemPlace}
    (ht : P.underlying t = some (.array n e)) (he : P.underlying e = some .string) (hce : P.cellsOf e = 1) (hct : P.cellsOf t = n)
    (h : DataW.trod enc P w base sp held fuel t cs = some (.agg (zs.map fun z => .lit (.string z.data.toList)), p)) : cs = zs.map Value.string := by
  cases fuel with
  | zero => simp [DataW.trod] at h
  | succ fuel =>
    simp only [DataW.trod, ht, hce, hct, Nat.mul_one] at h
    split at h
    · rename_i hl
      obtain ⟨xs, hm, hx⟩ := Option.map_eq_some_iff.1 h
      have hxs : xs.map (·.1) = zs.map fun z => (DataW.lit (.string z.data.toList) : DataW H) := by
        have := congrArg Prod.fst hx
        simpa using this
      have hxl : xs.length = n := by simpa using Lib.mapM_length hm
      have hzl : zs.length = n := by
        have := congrArg List.length hxs
        simp at this
        omega
      apply List.ext_getElem?
      intro i
      by_cases hi : i < n
      · obtain ⟨b, hb, hf⟩ := Lib.mapM_at hm i i (by simp [hi])
        obtain ⟨z, hc, rfl, _⟩ := DataW.trod_string he hf
        have h1 : cs[i]? = some (.string z) := by
          have := congrArg (·[0]?) hc
          simpa [List.getElem?_take, List.getElem?_drop] using this
        have h2 : (xs.map (·.1))[i]? = some (DataW.lit (.string z.data.toList) : DataW H) := by simp [hb]
        rw [hxs] at h2
        simp only [List.getElem?_map, Option.map_eq_some_iff, DataW.lit.injEq, Lit.string.injEq] at h2
        obtain ⟨z', hz', e⟩ := h2
        have e2 : z' = z := by
          cases z with | mk a => cases z' with | mk b =>
          congr 1
          exact Array.toList_inj.1 e
        subst e2
        simp [h1, hz']
      · rw [List.getElem?_eq_none (by omega), List.getElem?_eq_none (by simp; omega)]
    · cases h
theorem ops_laid : (Rows.laid_loop_example_g00290_impl_operationTexts : DataW Unit) = .agg (opTx.map fun z => .lit (.string z.data.toList)) := by kernel_rfl
theorem gOps : Tryz.prog.globalNamed "loop.example/g00290/impl.operationTexts" = some 0 := by kernel_rfl
theorem gOpsType : (Tryz.prog.globals[0]?).map (·.type) = some 172 := by kernel_rfl
theorem cellsOps : Tryz.prog.cellsOf 172 = 10 := by kernel_rfl
theorem cellsStr : Tryz.prog.cellsOf 9 = 1 := by kernel_rfl
theorem ops_of {W : World} {l : List (String × DataW Unit)} (h : laidMet Tryz.prog l W) (hm : ("loop.example/g00290/impl.operationTexts", Rows.laid_loop_example_g00290_impl_operationTexts) ∈ l) : OpsAt W ∧ 0 < W.heap.size := by
  obtain ⟨g', t', cs, fuel, p, hg', ht', hvar, hd⟩ := Lib.laidMet.reads h hm
  obtain rfl := Option.some.inj (gOps.symm.trans hg')
  obtain rfl := Option.some.inj (gOpsType.symm.trans ht')
  rw [ops_laid] at hd
  have e := cells_of_texts Tryz.underlying172 Tryz.underlying9 cellsStr cellsOps hd
  have hO : OpsAt W := fun k t hk => by
    have := World.var?_cell gOps hvar k
    rw [this, ← Array.getElem?_toList, e, List.getElem?_map, hk]
    rfl
  exact ⟨hO, World.block_lt_of_cell? _ _ (hO 0 _ rfl)⟩
end Go.Proofs.YtdfahpachbhglaaGreatDoor

namespace Go.Proofs.YtdfahpachbhglaaGreatDoor
open Go.RowKit

theorem gPowTypeS : (Tryz.prog.globals[1]?).map (·.type) = some 181 := by kernel_rfl
theorem cells20S : Tryz.prog.cellsOf 181 = 20 := by kernel_rfl
theorem cellsU64S : Tryz.prog.cellsOf 175 = 1 := by kernel_rfl
theorem show_tabs {W : World} (h : laidMetH Tryz.prog Rows.fnExactShowProgramRow.laid W) : (OpsAt W ∧ 0 < W.heap.size) ∧ Lib.TabIs Tryz.prog W "internal/strconv.uint64pow10" .u64 Lib.pow10Tab ∧ 1 < W.heap.size := by
  have ht : Lib.TabIs Tryz.prog W "internal/strconv.uint64pow10" .u64 Lib.pow10Tab :=
    Lib.tabIs_of_head (rest := [("loop.example/g00290/impl.operationTexts", Rows.laid_loop_example_g00290_impl_operationTexts)]) gPow gPowTypeS Tryz.underlying181 Tryz.underlying175 cellsU64S cells20S (laidMet.tail (laidMet.tail h))
  exact ⟨ops_of h (.tail _ (.tail _ (.tail _ (.head _)))), ht, World.block_lt_of_cell? _ _ (Lib.TabIs.cell ht gPow 0 (by decide))⟩
end Go.Proofs.YtdfahpachbhglaaGreatDoor
